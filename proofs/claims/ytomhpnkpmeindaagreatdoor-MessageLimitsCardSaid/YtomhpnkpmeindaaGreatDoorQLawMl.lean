/- The law MessageLimits: its walk. -/
import Derived.Test.YtomhpnkpmeindaaGreatDoorQJ
import Derived.Test.YtomhpnkpmeindaaGreatDoorQRefF
import Derived.Test.YtomhpnkpmeindaaGreatDoorQArgL
import Derived.BigQuiet
import Derived.Deep.QuietTactic
namespace Go.Proofs.YtomhpnkpmeindaaGreatDoor
open Go.RowKit
namespace Tk

theorem gtr_no (a b : Int) (h : a ≤ b) : ¬ b < a := by omega
set_option maxRecDepth 100000 in
set_option maxHeartbeats 8000000 in
theorem limits_any (L H C M : Int) (t : ByteArray) (w : World) (hv : ErrV w.heap.size w) (hL : L ≤ 9223372036854775807) (hX : H ≤ 9223372036854775807) (hC : C ≤ 9223372036854775807) (hM : M ≤ 9223372036854775807) :
    Calls Tryz.prog 4 #[.agg #[.int .i64 L, .int .i64 H, .int .i64 C, .int .i64 M], .string t] w (Yes2 w) := by
  have h0 : Below w.heap.size w (w.alloc (.cells #[.int .i64 L, .int .i64 H, .int .i64 C, .int .i64 M] 23)) := (Below.refl _ _).alloc (Nat.le_refl _) _
  have hbx : (w.alloc (.cells #[.int .i64 L, .int .i64 H, .int .i64 C, .int .i64 M] 23)).heap[w.heap.size]? = some (.cells #[.int .i64 L, .int .i64 H, .int .i64 C, .int .i64 M] 23 (0, 0)) := heap_alloc_last w _
  have HBx := Lib.hid hbx
  have HV := Lib.hid (hv.later h0).top
  have HL := Lib.hid (lives06_any _ HV.out)
  have HB0 := Lib.hid h0
  have m0 : max L 0 = ((L.toNat : Nat) : Int) := by omega
  have m1 : max H 0 = ((H.toNat : Nat) : Int) := by omega
  have m2 : max C 0 = ((C.toNat : Nat) : Int) := by omega
  have m3 : max M 0 = ((M.toNat : Nat) : Int) := by omega
  have n0 : max 0 L = ((L.toNat : Nat) : Int) := by omega
  have n2 : max 0 C = ((C.toNat : Nat) : Int) := by omega
  have n3 : max 0 M = ((M.toNat : Nat) : Int) := by omega
  have HLim := Lib.hid (show LimP (newP L.toNat H.toNat C.toNat M.toNat false) from ⟨by show L.toNat ≤ _; omega, by show H.toNat ≤ _; omega, by show C.toNat ≤ _; omega, by show M.toNat ≤ _; omega⟩)
  have HN := Lib.hid (fun (W : World) (hz : t.size ≤ 100000) (hv : ErrV W.heap.size W) => pall_any L H C M _ _ _ _ t W m0 m1 m2 m3 HLim.out hz hv)
  have hok := new_ok _ _ _ _ false HLim.out
  have HSt := Lib.hid (all_status (bs t) hok)
  have HGd := Lib.hid (go_good (bs t) _ 0 hok (new_pg _ _ _ _) (by simp [newP]))
  have HMs := Lib.hid (go_msgs (bs t) _ 0 hok)
  have HLn := Lib.hid (length_bs t)
  unfold AllPost at HN
  change Hid (∀ m ∈ allM _ _, Good L.toNat C.toNat M.toNat m) at HGd
  change Hid (∀ m ∈ allM _ _, m.Fit (0 + (bs t).length)) at HMs
  generalize newP L.toNat H.toNat C.toNat M.toNat false = s0 at *
  generalize L.toNat = nL at *
  generalize C.toNat = nC at *
  generalize M.toNat = nM at *
  clear hv h0 hbx m0 m1 m2 m3 hL hX hC hM hok HLim
  unfold Yes2 at HL ⊢
  go_enter Tryz.func4, Tryz.ntmps4
  go_wp2_with fail
  generalize w.alloc (.cells #[.int .i64 L, .int .i64 H, .int .i64 C, .int .i64 M] 23) = w0 at *
  have HGl := Lib.hid (show w.heap.size < w0.heap.size from (Array.getElem?_eq_some_iff.1 HBx.out).1)
  generalize w.heap.size = g at HBx HGl ⊢
  refine HL.out.mono ?_
  rintro e w1 ⟨rfl, hb⟩
  have HB1 := Lib.hid hb
  have hbx1 := (hb.block g HGl.out).trans HBx.out
  have k0 := lim_cell hbx1 0 _ rfl
  have k1 := lim_cell hbx1 1 _ rfl
  have k2 := lim_cell hbx1 2 _ rfl
  have k3 := lim_cell hbx1 3 _ rfl
  clear hb hbx1
  by_cases hbig : t.size ≤ 250
  · have i0 : ¬ (250 : Int) < (t.size : Int) := by omega
    go_wp2_with fail
    refine (HN.out _ (by omega) (HV.out.later HB1.out).top).mono ?_
    rintro e w2 ⟨v, Vs, rfl, hmap, hms, hbe⟩
    have HB2 := Lib.hid (HB1.out.trans (hbe.mono HB1.out.size))
    have HMsv := Lib.hid hms
    have HMap := Lib.hid hmap
    obtain ⟨av, cv, hvv⟩ := hms.val
    have hfew := go_few (bs t) s0
    change (allM s0 (bs t)).length ≤ _ at hfew
    rw [← hmap, List.length_map, HLn.out] at hfew
    have HFew := Lib.hid hfew
    generalize allS s0 (bs t) = st at *
    subst hvv
    clear hmap hms hbe k0 k1 k2 k3 hfew HL HB1
    have hstI : ((st : Int) == 0) = true ∨ (((st : Int) == 0) = false ∧ (((st : Int) == 400) = true ∨ (((st : Int) == 400) = false ∧ (((st : Int) == 413) = true ∨ (((st : Int) == 413) = false ∧ (((st : Int) == 431) = true ∨ (((st : Int) == 431) = false ∧ (((st : Int) == 501) = true ∨ (((st : Int) == 501) = false ∧ ((st : Int) == 505) = true))))))))) := by
      have := HSt.out
      simp only [beq_iff_eq, beq_eq_false_iff_ne, ne_eq]
      omega
    have HStI := Lib.hid hstI
    clear hstI HSt
    go_wp2_with fail
    go_loopw [7] (fun v7 wr => ∃ i : Nat, i ≤ Vs.length ∧ v7 = .int .i64 i ∧ Hid (Below w0.heap.size w0 wr) ∧ Hid (Msgs w1.heap.size wr (.slice av Vs.length cv) Vs)) (fun v7 _ => Vs.length - (RowKit.intOf v7).toNat)
    case atStart => exact ⟨0, Nat.zero_le _, rfl, HB2, HMsv⟩
    case round =>
      obtain ⟨i, hi, rfl, HB, HM⟩ := hrel
      rename World => W
      by_cases hlt : i < Vs.length
      · obtain ⟨x, hx⟩ : ∃ x, Vs[i]? = some x := ⟨_, List.getElem?_eq_getElem hlt⟩
        have hxm : x.1 ∈ allM s0 (bs t) := by rw [← HMap.out]; exact List.mem_map_of_mem (List.mem_of_getElem? hx)
        have hgd := HGd.out _ hxm
        have hfit := HMs.out _ hxm
        rw [HLn.out] at hfit
        obtain ⟨gv, cap, hv1, hcap, hc, hf, hft⟩ := HM.out.get i x hx
        injection hv1 with e1 _ e2
        subst e1 e2
        have c2 := hc 2 _ rfl
        have c1 := hc 1 _ rfl
        have c4 := hc 4 _ rfl
        have c5 := hc 5 _ rfl
        have c6 := hc 6 _ rfl
        have c7 := hc 7 _ rfl
        have hsum := hfit.sum
        have hsg := sumF_ge x.1.f
        have hz : ∀ f ∈ x.1.f, f.1.length ≤ 1099511627776 ∧ f.2.length ≤ 1099511627776 := fun f hf => by have := sumF_mem x.1.f f hf; omega
        have HA := Lib.hid (rall_any x.2.1 x.1.f nmHost W hf hz (by decide) (by omega))
        have HF := Lib.hid hf
        obtain ⟨a1, d1, hvf⟩ : ∃ a c, x.2.1 = .slice a x.1.f.length c := by obtain ⟨a, c, h, -⟩ := hf; exact ⟨a, c, h⟩
        obtain ⟨a2, d2, hvt⟩ : ∃ a c, x.2.2 = .slice a x.1.tr.length c := by obtain ⟨a, c, h, -⟩ := hft; exact ⟨a, c, h⟩
        rw [hvf] at c5
        rw [hvt] at c7
        rw [hvf] at HA
        have b1 : decide (nC < x.1.f.length) = false := decide_eq_false <| by have := hgd.f; omega
        have b2 : decide (nC < x.1.tr.length) = false := decide_eq_false <| by have := hgd.tr; omega
        have b3 : decide (nM < (mkS x.1.body).size) = false := decide_eq_false <| by have := hgd.body; rw [size_mkS]; omega
        have b4 : decide (nL < (mkS x.1.t).size) = false := decide_eq_false <| by have := hgd.t; rw [size_mkS]; omega
        have b5 : ((x.1.st : Int) != 0) = false := by simp [hgd.st]
        have b6 : decide ((x.1.mi : Int) < 0) = false := decide_eq_false <| by omega
        have b7 : decide ((1 : Int) < (x.1.mi : Int)) = false := decide_eq_false <| by have := hgd.mi; omega
        obtain ⟨hh1, hh2⟩ := hgd.host
        have HKc := Lib.hid hc
        have HLt := Lib.hid hlt
        have hvb : (Vs.length : Int) ≤ 250 := by have := HFew.out; omega
        have q0 : (0 : Int) ≤ (i : Int) := by omega
        have q1 : (i : Int) < (Vs.length : Int) := by omega
        have r2 := lim_cell ((HB.out.block g HGl.out).trans HBx.out) 2 _ rfl
        have r3 := lim_cell ((HB.out.block g HGl.out).trans HBx.out) 3 _ rfl
        have r0 := lim_cell ((HB.out.block g HGl.out).trans HBx.out) 0 _ rfl
        clear hx hxm hgd hfit hc hf hft hsum hsg hz hvf hvt hi
        unfold ListPost at HA
        generalize x.1.f.length = n1 at *
        generalize x.1.tr.length = n2 at *
        generalize mkS x.1.t = st1 at *
        generalize mkS x.1.body = st2 at *
        generalize x.1.st = y1 at *
        generalize hmi : x.1.mi = y2 at *
        generalize (allF x.1.f nmHost).length = nh at *
        go_wp2_with fail
        refine HA.out.mono ?_
        rintro e w5 ⟨vl, rfl, ho, hb5⟩
        obtain ⟨al, cl, rfl⟩ : ∃ a c, vl = .slice a nh c := by
          rcases ho.2 with ⟨hv, h0⟩ | ⟨g, cap, cur, hv, _⟩
          · exact ⟨none, 0, by rw [hv, h0]⟩
          · exact ⟨_, _, hv⟩
        have HB5 := Lib.hid (HB.out.trans (hb5.mono HB.out.size))
        have HM5 := Lib.hid (HM.out.below hb5)
        have j1 := (hb5.cell (cell_lt c1)).trans c1
        have j2 := (hb5.cell (cell_lt c2)).trans c2
        have j4 := (hb5.cell (cell_lt c4)).trans c4
        have j5 := (hb5.cell (cell_lt c5)).trans c5
        have j6 := (hb5.cell (cell_lt c6)).trans c6
        have j7 := (hb5.cell (cell_lt c7)).trans c7
        have s2 := (hb5.cell (cell_lt r2)).trans r2
        have s3 := (hb5.cell (cell_lt r3)).trans r3
        have s0' := (hb5.cell (cell_lt r0)).trans r0
        have b8 : decide ((1 : Int) < (nh : Int)) = false := decide_eq_false <| by omega
        clear ho hb5 c1 c2 c4 c5 c6 c7 r0 r2 r3 HB HM HA
        by_cases hz0 : nh = 0
        · have b9 : ((nh : Int) == 0) = true := by simp [hz0]
          have b10 : ((y2 : Int) == 1) = false := by rw [hh2 hz0]; rfl
          clear hh1 hh2 hz0
          go_wp2_with fail
          go_quiet (fail)
          go_wp2_with fail
          exact ⟨⟨i + 1, by have := HLt.out; omega, by go_num, Lib.hid (HB5.out.trans ⟨rfl, rfl, rfl, Nat.le_refl _, fun _ _ => rfl⟩), Lib.hid (HM5.out.draws _)⟩, by have := HLt.out; simp [RowKit.intOf]; omega⟩
        · have b9 : ((nh : Int) == 0) = false := by simp [hz0]
          clear hh1 hh2 hz0
          go_wp2_with fail
          go_quiet (fail)
          go_wp2_with fail
          exact ⟨⟨i + 1, by have := HLt.out; omega, by go_num, Lib.hid (HB5.out.trans ⟨rfl, rfl, rfl, Nat.le_refl _, fun _ _ => rfl⟩), Lib.hid (HM5.out.draws _)⟩, by have := HLt.out; simp [RowKit.intOf]; omega⟩
      · have q1 : ¬ (i : Int) < (Vs.length : Int) := by omega
        have HBw := Lib.hid (HB0.out.trans (HB.out.mono HB0.out.size))
        rcases HStI.out with s1 | ⟨s1, s2 | ⟨s2, s3 | ⟨s3, s4 | ⟨s4, s5 | ⟨s5, s6⟩⟩⟩⟩⟩
        all_goals
          go_wp2_with fail
          go_ret
          exact ⟨rfl, HBw.out⟩
  · have i0 : (250 : Int) < (t.size : Int) := by omega
    have HBw := Lib.hid (HB0.out.trans (HB1.out.mono HB0.out.size))
    go_wp2_with fail
    go_ret
    exact ⟨rfl, HBw.out⟩
end Tk
end Go.Proofs.YtomhpnkpmeindaaGreatDoor
