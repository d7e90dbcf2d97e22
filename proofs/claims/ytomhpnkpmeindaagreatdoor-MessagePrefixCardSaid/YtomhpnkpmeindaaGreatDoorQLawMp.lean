/- The law MessagePrefix: its walk. -/
import Derived.Test.YtomhpnkpmeindaaGreatDoorQMsgY
import Derived.Test.YtomhpnkpmeindaaGreatDoorQPkT
import Derived.Test.YtomhpnkpmeindaaGreatDoorQArgL
import Derived.StillTailTactics
import Derived.Deep.RegionHeld3
namespace Go.Proofs.YtomhpnkpmeindaaGreatDoor
open Go.RowKit
namespace Tk

set_option maxRecDepth 100000 in
set_option maxHeartbeats 16000000 in
theorem prefix_main (L H C M : Int) (t : ByteArray) (cut : Int) (u : ByteArray) (w : World) (hv : ErrV w.heap.size w) (ht : t.size ≤ 250) (hu : u.size ≤ 250 - t.size) (hL : L ≤ 9223372036854775807) (hX : H ≤ 9223372036854775807) (hC : C ≤ 9223372036854775807) (hM : M ≤ 9223372036854775807) :
    Calls Tryz.prog 6 #[.agg #[.int .i64 L, .int .i64 H, .int .i64 C, .int .i64 M], .string t, .int .i64 cut, .string u] w (Yes2 w) := by
  have h0 : Below w.heap.size w (w.alloc (.cells #[.int .i64 L, .int .i64 H, .int .i64 C, .int .i64 M] 23)) := (Below.refl _ _).alloc (Nat.le_refl _) _
  have hbx : (w.alloc (.cells #[.int .i64 L, .int .i64 H, .int .i64 C, .int .i64 M] 23)).heap[w.heap.size]? = some (.cells #[.int .i64 L, .int .i64 H, .int .i64 C, .int .i64 M] 23 (0, 0)) := heap_alloc_last w _
  have HBx := Lib.hid hbx
  have HV := Lib.hid (hv.later h0).top
  have HL := Lib.hid (lives06_any _ HV.out)
  have HB0 := Lib.hid h0
  have m0 : max L 0 = ((L.toNat : Nat) : Int) := by omega
  have m1 : max H 0 = ((H.toNat : Nat) : Int) := by omega
  have m2 : max C 0 = ((C.toNat : Nat) : Int) := by omega
  have m3 : max M 0 = ((M.toNat : Nat) : Int) := by omega
  have HLim := Lib.hid (show LimP (newP L.toNat H.toNat C.toNat M.toNat false) from ⟨by show L.toNat ≤ _; omega, by show H.toNat ≤ _; omega, by show C.toNat ≤ _; omega, by show M.toNat ≤ _; omega⟩)
  have HN := Lib.hid (fun (W : World) (t : ByteArray) (hz : t.size ≤ 100000) (hv : ErrV W.heap.size W) => pall_any L H C M _ _ _ _ t W m0 m1 m2 m3 HLim.out hz hv)
  have HRq := Lib.hid (fun (B : Nat) (W : World) (hB : B ≤ W.heap.size) => prequests_any L H C M _ _ _ _ B W hB m0 m1 m2 m3)
  have HOk0 := Lib.hid (new_ok _ _ _ _ false HLim.out)
  have HR0 := Lib.hid (new_rq L.toNat H.toNat C.toNat M.toNat)
  have HRun0 := Lib.hid (run_new L.toNat H.toNat C.toNat M.toNat false)
  have HLn := Lib.hid (length_bs t)
  unfold AllPost at HN
  generalize newP L.toNat H.toNat C.toNat M.toNat false = s0 at *
  have HTu := Lib.hid (⟨ht, hu⟩ : t.size ≤ 250 ∧ u.size ≤ 250 - t.size)
  have i0 : ¬ (250 : Int) < (t.size : Int) := by omega
  have i1 : ¬ (250 : Int) - (t.size : Int) < (u.size : Int) := by omega
  have iw : IntKind.i64.wrap ((250 : Int) - (t.size : Int)) = (250 : Int) - (t.size : Int) := IntWalk.i64_in _ (by omega)
  have e1 : (t.size : Int) + 1 = ((t.size + 1 : Nat) : Int) := by omega
  have p1 : 1 ≤ t.size + 1 := by omega
  have p2 : t.size + 1 ≤ 1099511627776 := by omega
  have i2 : (t.size : Int) ≤ 250 := by omega
  have i3 : (0 : Int) ≤ (t.size : Int) := by omega
  obtain ⟨n1, hn1⟩ : ∃ n1, n1 = t.size + 1 := ⟨_, rfl⟩
  rw [← hn1] at e1 p1 p2
  have HN1 := Lib.hid hn1
  clear hv h0 hbx m0 m1 m2 m3 hL hX hC hM HLim ht hu hn1
  unfold Yes2 at HL ⊢
  go_enter Tryz.func6, Tryz.ntmps6
  go_wp2_with fail
  generalize w.alloc (.cells #[.int .i64 L, .int .i64 H, .int .i64 C, .int .i64 M] 23) = w0 at *
  have HGl := Lib.hid (show w.heap.size < w0.heap.size from (Array.getElem?_eq_some_iff.1 HBx.out).1)
  generalize w.heap.size = g at HBx HGl ⊢
  have HLc := Lib.hid (fun (W : World) (hb : Below w0.heap.size w0 W) (i : Nat) (v : Value) (hv : (#[.int .i64 L, .int .i64 H, .int .i64 C, .int .i64 M] : Array Value)[i]? = some v) => lim_cell ((hb.block g HGl.out).trans HBx.out) i v hv)
  refine HL.out.mono ?_
  rintro e w1 ⟨rfl, hb⟩
  have HB1 := Lib.hid hb
  have k0 := HLc.out w1 hb 0 _ rfl
  have k1 := HLc.out w1 hb 1 _ rfl
  have k2 := HLc.out w1 hb 2 _ rfl
  have k3 := HLc.out w1 hb 3 _ rfl
  clear hb HL
  go_wp2_with fail
  refine (pick_any _ n1 _ p1 p2).mono ?_
  rintro e w2 ⟨k, hk, rfl, rfl⟩
  have hk := HN1.out ▸ hk
  clear e1 p1 p2 i0 i1 iw i2 i3
  go_wp2_with fail
  refine (HN.out _ t (by have := HTu.out; omega) (HV.out.later HB1.out).top).mono ?_
  rintro e w3 ⟨v, Vs, rfl, hmap, hms, hbe⟩
  have HB3 := Lib.hid (HB1.out.trans (hbe.mono HB1.out.size))
  have HMap := Lib.hid hmap
  obtain ⟨av, cv, rfl⟩ := hms.val
  have HMs := Lib.hid hms
  have k0 := HLc.out w3 HB3.out 0 _ rfl
  have k1 := HLc.out w3 HB3.out 1 _ rfl
  have k2 := HLc.out w3 HB3.out 2 _ rfl
  have k3 := HLc.out w3 HB3.out 3 _ rfl
  have r0 : (0 : Int) ≤ (k : Int) := by omega
  have r1 : (k : Int) ≤ (t.size : Int) := by omega
  clear hmap hms hbe
  go_wp2_with fail
  have HB4 := Lib.hid (show Below w0.heap.size w0 w3.drew from HB3.out.trans ⟨rfl, rfl, rfl, Nat.le_refl _, fun _ _ => rfl⟩)
  have HMs4 := Lib.hid (show Msgs _ w3.drew (.slice av Vs.length cv) Vs from HMs.out.draws 1)
  have hex : (t.extract 0 k).size ≤ 100000 := by rw [ByteArray.size_extract]; have := HTu.out; omega
  have hN4 := HN.out w3.drew (t.extract 0 k) hex (HV.out.later HB4.out).top
  rw [bs_extract, List.drop_zero, Nat.sub_zero] at hN4
  have HN4 : Hid (Calls Tryz.prog 10 #[.agg #[.int .i64 L, .int .i64 H, .int .i64 C, .int .i64 M], .string (t.extract 0 k)] w3.drew fun e w' => ∃ v Vs, e = .returned (.tuple #[v, .int .i64 (allS s0 ((bs t).take k))]) ∧ (Vs.map (·.1) = allM s0 ((bs t).take k) ∧ Msgs w3.drew.heap.size w' v Vs ∧ Below w3.drew.heap.size w3.drew w') ∧
      w'.cell? ⟨g, 0, none⟩ = some (.int .i64 L) ∧ w'.cell? ⟨g, 1, none⟩ = some (.int .i64 H) ∧ w'.cell? ⟨g, 2, none⟩ = some (.int .i64 C) ∧ w'.cell? ⟨g, 3, none⟩ = some (.int .i64 M)) := by
    refine Lib.hid (hN4.mono ?_)
    rintro e w' ⟨v, Vs, rfl, h1, h2, h3⟩
    have hB := HB4.out.trans (h3.mono HB4.out.size)
    exact ⟨v, Vs, rfl, ⟨h1, h2, h3⟩, HLc.out w' hB 0 _ rfl, HLc.out w' hB 1 _ rfl, HLc.out w' hB 2 _ rfl, HLc.out w' hB 3 _ rfl⟩
  have d0 : w3.drew.cell? ⟨g, 0, none⟩ = some (.int .i64 L) := k0
  have d1 : w3.drew.cell? ⟨g, 1, none⟩ = some (.int .i64 H) := k1
  have d2 : w3.drew.cell? ⟨g, 2, none⟩ = some (.int .i64 C) := k2
  have d3 : w3.drew.cell? ⟨g, 3, none⟩ = some (.int .i64 M) := k3
  clear hex hN4
  (go_region_held3 (fun w' => w'.cell? ⟨g, 0, none⟩ = some (.int .i64 L) ∧ w'.cell? ⟨g, 1, none⟩ = some (.int .i64 H) ∧ w'.cell? ⟨g, 2, none⟩ = some (.int .i64 C) ∧ w'.cell? ⟨g, 3, none⟩ = some (.int .i64 M)) (first | (refine ⟨?_, ?_, ?_, ?_⟩ <;> assumption)) (first
      | (go_at_call 10; refine HN4.out.mono ?_; rintro e w5 ⟨v5, Vs5, rfl, hpost5, t0, t1, t2, t3⟩)))
  obtain ⟨hmap, hms, hbe⟩ := hpost5
  have HB5 := Lib.hid (HB4.out.trans (hbe.mono HB4.out.size))
  have HMap5 := Lib.hid hmap
  obtain ⟨av5, cv5, rfl⟩ := hms.val
  have HMs5 := Lib.hid hms
  have HMw5 := Lib.hid (HMs4.out.below hbe)
  obtain ⟨⟨mr, hmr⟩, hst⟩ := all_part s0 ((bs t).take k) ((bs t).drop k)
  rw [List.take_append_drop, ← hmap, ← HMap.out] at hmr
  rw [List.take_append_drop] at hst
  have HPre := Lib.hid hmr
  have hlen := congrArg List.length hmr
  rw [List.length_append, List.length_map, List.length_map] at hlen
  have l0 : ¬ Vs.length < Vs5.length := by omega
  have l1 : decide (Vs.length < Vs5.length) = false := decide_eq_false l0
  have HLe := Lib.hid (show Vs5.length ≤ Vs.length by omega)
  have hfew := go_few (bs t) s0
  change (allM s0 (bs t)).length ≤ _ at hfew
  rw [← HMap.out, List.length_map, HLn.out] at hfew
  have HFw := Lib.hid (show Vs5.length ≤ 250 by have := HTu.out; omega)
  clear hfew
  generalize hsa : allS s0 (bs t) = sa at *
  have HSa := Lib.hid hsa
  generalize allS s0 ((bs t).take k) = sb at *
  have hst3 : ((sb : Int) != 0) = false ∨ (((sb : Int) != 0) = true ∧ ((sb : Int) != 400) = false) ∨ (((sb : Int) != 0) = true ∧ ((sb : Int) != 400) = true ∧ ((sb : Int) != (sa : Int)) = false) := by
    simp only [bne_iff_ne, bne_eq_false_iff_eq, ne_eq]
    omega
  clear hsa hst hlen hmr l0
  clear hmap hms hbe k0 k1 k2 k3 r0 r1 t0 t1 t2 t3 d0 d1 d2 d3 HB3 HB4 HMs HMs4 HN4
  rcases hst3 with t1 | ⟨t1, t2⟩ | ⟨t1, t2, t3⟩
  all_goals
    go_wp2_with fail
    go_loopw [13] (fun v13 wr => ∃ i : Nat, i ≤ Vs5.length ∧ v13 = .int .i64 i ∧ Hid (Below w0.heap.size w0 wr) ∧ Hid (Below w5.heap.size w5 wr)) (fun v13 _ => Vs5.length - (RowKit.intOf v13).toNat)
    case atStart => exact ⟨0, Nat.zero_le _, rfl, HB5, Lib.hid (Below.refl _ _)⟩
    case round =>
      obtain ⟨i, hi, rfl, HB, HBw⟩ := hrel
      rename World => W
      by_cases hlt : i < Vs5.length
      · have hlt2 : i < Vs.length := by have := HLe.out; omega
        obtain ⟨x, hx⟩ : ∃ x, Vs5[i]? = some x := ⟨_, List.getElem?_eq_getElem hlt⟩
        obtain ⟨y, hy⟩ : ∃ y, Vs[i]? = some y := ⟨_, List.getElem?_eq_getElem hlt2⟩
        have hxy : y.1 = x.1 := by
          have h1 : (Vs.map (·.1))[i]? = (Vs5.map (·.1) ++ mr)[i]? := by rw [HPre.out]
          rw [List.getElem?_append_left (by simpa using hlt), List.getElem?_map, List.getElem?_map, hx, hy] at h1
          simpa using h1
        obtain ⟨gx, cx, hvx, hcx, hcellx, hfx, htx⟩ := (HMs5.out.below HBw.out).get i x hx
        obtain ⟨gy, cy, hvy, hcy, hcelly, hfy, hty⟩ := (HMw5.out.below HBw.out).get i y hy
        injection hvx with e1 _ e2
        subst e1 e2
        injection hvy with e1 _ e2
        subst e1 e2
        have hfit : x.1.Fit t.size := by
          have hm : x.1 ∈ allM s0 (bs t) := by rw [← HMap.out, ← hxy]; exact List.mem_map_of_mem (List.mem_of_getElem? hy)
          have := go_msgs (bs t) s0 0 HOk0.out x.1 hm
          rw [HLn.out] at this
          exact this.mono (by omega)
        have hsum := hfit.sum
        have hsg := sumF_ge x.1.f
        have htz := HTu.out.1
        have hz : ∀ f ∈ x.1.f, f.1.length ≤ 1099511627776 := fun f hf => by have := sumF_mem x.1.f f hf; omega
        have hz2 : ∀ f ∈ x.1.tr, f.1.length ≤ 1099511627776 := fun f hf => by have := hfit.trl.2 f hf; omega
        rw [hxy] at hcelly hfy hty
        have hdr : Below W.heap.size W W.drew := ⟨rfl, rfl, rfl, Nat.le_refl _, fun _ _ => rfl⟩
        have HSm := Lib.hid (msame_self x.1 x.2.1 x.2.2 y.2.1 y.2.2 W.drew (isFlds_below hfx hdr) (isFlds_below hfy hdr) (isFlds_below htx hdr) (isFlds_below hty hdr) hz (by omega) hz2 (by have := hfit.trl.1; omega))
        have HBd := Lib.hid (show Below w0.heap.size w0 W.drew from HB.out.trans ⟨rfl, rfl, rfl, Nat.le_refl _, fun _ _ => rfl⟩)
        have HBwd := Lib.hid (show Below w5.heap.size w5 W.drew from HBw.out.trans ⟨rfl, rfl, rfl, Nat.le_refl _, fun _ _ => rfl⟩)
        have a0 : W.cell? ⟨gx, i * 8, none⟩ = _ := hcellx 0 _ rfl
        have a1 := hcellx 1 _ rfl
        have a2 := hcellx 2 _ rfl
        have a3 := hcellx 3 _ rfl
        have a4 := hcellx 4 _ rfl
        have a5 := hcellx 5 _ rfl
        have a6 := hcellx 6 _ rfl
        have a7 := hcellx 7 _ rfl
        have b0 : W.cell? ⟨gy, i * 8, none⟩ = _ := hcelly 0 _ rfl
        have b1 := hcelly 1 _ rfl
        have b2 := hcelly 2 _ rfl
        have b3 := hcelly 3 _ rfl
        have b4 := hcelly 4 _ rfl
        have b5 := hcelly 5 _ rfl
        have b6 := hcelly 6 _ rfl
        have b7 := hcelly 7 _ rfl
        obtain ⟨av1, ac1, hva, -⟩ := hfx
        obtain ⟨av2, ac2, hvb, -⟩ := htx
        obtain ⟨av3, ac3, hvc, -⟩ := hfy
        obtain ⟨av4, ac4, hvd, -⟩ := hty
        rw [hva] at a5
        rw [hvb] at a7
        rw [hvc] at b5
        rw [hvd] at b7
        rw [hva, hvb, hvc, hvd] at HSm
        have q0 : (0 : Int) ≤ (i : Int) := by omega
        have q1 : (i : Int) < (Vs5.length : Int) := by omega
        have q2 : (i : Int) < (Vs.length : Int) := by omega
        have HLt := Lib.hid hlt
        have hvbnd : (Vs5.length : Int) ≤ 250 := by have := HFw.out; omega
        clear hi hlt hlt2 hx hy hxy hcx hcellx hcy hcelly hfit hsum hsg htz hz hz2 hdr hva hvb hvc hvd HB HBw
        unfold msgL at HSm
        generalize x.1.f.length = n1 at *
        generalize x.1.tr.length = n2 at *
        generalize mkS x.1.m = x1 at *
        generalize mkS x.1.t = x2 at *
        generalize mkS x.1.r = x3 at *
        generalize mkS x.1.body = x4 at *
        generalize (x.1.st : Int) = y1 at *
        generalize (x.1.mi : Int) = y2 at *
        go_wp2_with fail
        go_still_tail 8, (by kernel_rfl)
        change wpList _ _ _ _ _ W.drew
        generalize W.drew = W2 at *
        go_wp2_with fail
        refine HSm.out.mono ?_
        rintro e W3 ⟨rfl, hb3⟩
        have HB3 := Lib.hid (HBd.out.trans (hb3.mono HBd.out.size))
        have HBw3 := Lib.hid (HBwd.out.trans (hb3.mono HBwd.out.size))
        clear hb3
        go_wp2_with fail
        exact ⟨⟨i + 1, by have := HLt.out; omega, by go_num, HB3, HBw3⟩, by have := HLt.out; simp [RowKit.intOf]; omega⟩
      · have q1 : ¬ (i : Int) < (Vs5.length : Int) := by omega
        have k0 := HLc.out W HB.out 0 _ rfl
        have k1 := HLc.out W HB.out 1 _ rfl
        have k2 := HLc.out W HB.out 2 _ rfl
        have k3 := HLc.out W HB.out 3 _ rfl
        clear hlt hi HMs5 HMw5 HPre HLe
        go_wp2_with fail
        refine (HRq.out w0.heap.size W HB.out.size).mono ?_
        rintro e W1 ⟨b, V, rfl, hbb, hsy, hbe⟩
        have HSy := Lib.hid hsy
        have HB1' := Lib.hid (HB.out.trans (hbe.mono HB.out.size))
        clear hbb hsy hbe HB HBw k0 k1 k2 k3 q1
        unfold ptr
        go_wp2_with fail
        go_loopw [15] (fun v15 wr => ∃ (at_ : Nat) (ms : List Msg) (sp : Pr) (Vp : PV), v15 = .int .i64 at_ ∧ Hid (Fed s0 (bs t) at_ ms sp) ∧ Hid (Sync w0.heap.size b sp Vp wr) ∧ Hid (Below w0.heap.size w0 wr)) (fun v15 _ => t.size - (RowKit.intOf v15).toNat)
        case atStart => exact ⟨0, [], s0, V, rfl, Lib.hid (Fed.start (bs t) HOk0.out HR0.out HRun0.out), HSy, HB1'⟩
        case round =>
          obtain ⟨at_, ms, sp, Vp, rfl, HFed, HSp, HBp⟩ := hrel
          rename World => W2
          have hle := HFed.out.le
          rw [HLn.out] at hle
          have HSt := Lib.hid (pstat_any HSp.out)
          have htz := HTu.out.1
          unfold ptr at HSt
          by_cases hgo : at_ < t.size ∧ sp.bad = 0
          · obtain ⟨g1, g2⟩ := hgo
            have hstep := HFed.out.go_on (k := t.size) g2 g1 (by rw [HLn.out]; exact Nat.le_refl _)
            have e1 : ((bs t).drop at_).take (t.size - at_) = (bs t).drop at_ := List.take_of_length_le (by rw [List.length_drop, HLn.out]; exact Nat.le_refl _)
            rw [e1] at hstep
            have hfd := pfeed_any (t.extract at_ t.size) HSp.out HFed.out.ok.self HFed.out.rq (by have := HFed.out.ok.fit.left; rw [ByteArray.size_extract]; omega) (HV.out.later HBp.out)
            rw [bs_extract, e1] at hfd
            generalize (feedP sp ((bs t).drop at_)).1 = n at *
            generalize (feedP sp ((bs t).drop at_)).2 = s2 at *
            obtain ⟨z1, z2, z3, z4, z5, z6⟩ := hstep
            have HF6 := Lib.hid z6
            have HF5 := Lib.hid z5
            have HFd := Lib.hid hfd
            have c1 : (at_ : Int) < (t.size : Int) := by omega
            have c2 : ((sp.bad : Int) == 0) = true := by simp [g2]
            have c3 : (0 : Int) ≤ (at_ : Int) := by omega
            have c4 : (at_ : Int) ≤ (t.size : Int) := by omega
            have c5 : ¬ (n : Int) < 1 := by omega
            have c6 : (at_ : Int) + (n : Int) ≤ 250 := by omega
            have HZ := Lib.hid (⟨z2, z3⟩ : 1 ≤ n ∧ at_ + n ≤ t.size)
            unfold ptr at HFd
            clear hle g1 g2 e1 hfd z1 z2 z3 z4 z5 z6 htz
            go_wp2_with fail
            refine HSt.out.mono ?_
            rintro e W3 ⟨rfl, rfl⟩
            go_wp2_with fail
            refine HFd.out.mono ?_
            rintro e W4 ⟨rfl, V4, hs4, ht4⟩
            have HB4 := Lib.hid (HBp.out.trans (HSp.out.toBelow ht4))
            have HNx := Lib.hid (pnext_take hs4 HF5.out.rq)
            have HS4 := Lib.hid hs4
            unfold ptr at HNx
            clear hs4 ht4
            go_wp2_with fail
            refine HNx.out.mono ?_
            rintro e W5 ⟨⟨x, rfl⟩, hs5⟩
            have HB5' := Lib.hid (HB4.out.trans (SyncTo.below HS4.out hs5))
            obtain ⟨V5, hs5, -⟩ := hs5
            have HS5 := Lib.hid hs5
            clear hs5
            go_wp2_with fail
            exact ⟨⟨at_ + n, _, _, V5, by go_num, HF6, HS5, HB5'⟩, by have := HZ.out; simp [RowKit.intOf]; omega⟩
          · have hend : sp.bad ≠ 0 ∨ (bs t).length ≤ at_ := by
              rw [HLn.out]
              by_cases h1 : sp.bad = 0
              · right; exact Nat.le_of_not_lt fun h => hgo ⟨h, h1⟩
              · exact .inl h1
            obtain ⟨-, hall⟩ := HFed.out.fin hend
            rw [HSa.out] at hall
            have hfd := pfeed_any u HSp.out HFed.out.ok.self HFed.out.rq (by have := HFed.out.ok.fit.left; have := HTu.out; omega) (HV.out.later HBp.out)
            have HFd := Lib.hid hfd
            have hif : at_ < t.size → ((sp.bad : Int) == 0) = false := fun h1 => by
              have : sp.bad ≠ 0 := fun h2 => hgo ⟨h1, h2⟩
              simp [this]
            unfold ptr at HFd
            by_cases hb : sp.bad = 0
            · have c2 : ((sp.bad : Int) == 0) = true := by simp [hb]
              have c1 : ¬ (at_ : Int) < (t.size : Int) := by
                intro h; have := hif (by omega); rw [c2] at this; cases this
              clear hgo hend hall hfd hif hb hle htz
              generalize sp.bad = bd at *
              generalize (feedP sp (bs u)).1 = nn at *
              generalize (feedP sp (bs u)).2 = s3 at *
              go_wp2_with fail
              refine HSt.out.mono ?_
              rintro e W3 ⟨rfl, rfl⟩
              go_wp2_with fail
              refine HFd.out.mono ?_
              rintro e W4 ⟨rfl, V4, hs4, ht4⟩
              have HB4 := Lib.hid (HBp.out.trans (HSp.out.toBelow ht4))
              clear hs4 ht4
              go_wp2_with fail
              go_ret
              exact ⟨rfl, HB0.out.trans (HB4.out.mono HB0.out.size)⟩
            · have c2 : ((sp.bad : Int) == 0) = false := by simp [hb]
              have hstop : stopP sp = true := by unfold stopP; simp [hb]
              rw [feedP_stop sp _ hstop] at HFd
              rw [end_bad hb] at hall
              have c3 : ((sp.bad : Int) == (sp.bad : Int)) = true := by simp
              have c4 : ((sa : Int) == (sp.bad : Int)) = true := by rw [hall]; simp
              have hcase : (at_ : Int) < (t.size : Int) ∨ ¬ (at_ : Int) < (t.size : Int) := Classical.em _
              clear hgo hend hall hfd hif hb hle htz hstop
              dsimp only at HFd
              generalize sp.bad = bd at *
              rcases hcase with c1 | c1
              all_goals
                go_wp2_with fail
                first
                  | (refine HSt.out.mono ?_
                     rintro e W3 ⟨rfl, rfl⟩
                     go_wp2_with fail
                     refine HSt.out.mono ?_
                     rintro e W3 ⟨rfl, rfl⟩
                     go_wp2_with fail
                     refine HFd.out.mono ?_)
                  | (refine HSt.out.mono ?_
                     rintro e W3 ⟨rfl, rfl⟩
                     go_wp2_with fail
                     refine HFd.out.mono ?_)
                rintro e W4 ⟨rfl, V4, hs4, ht4⟩
                have HB4 := Lib.hid (HBp.out.trans (HSp.out.toBelow ht4))
                clear hs4 ht4
                go_wp2_with fail
                go_ret
                exact ⟨rfl, HB0.out.trans (HB4.out.mono HB0.out.size)⟩
set_option maxRecDepth 100000 in
set_option maxHeartbeats 4000000 in
theorem prefix_big (L H C M : Int) (t : ByteArray) (cut : Int) (u : ByteArray) (w : World) (hv : ErrV w.heap.size w) (hb : 250 < t.size ∨ (t.size ≤ 250 ∧ 250 - t.size < u.size)) :
    Calls Tryz.prog 6 #[.agg #[.int .i64 L, .int .i64 H, .int .i64 C, .int .i64 M], .string t, .int .i64 cut, .string u] w (Yes2 w) := by
  have h0 : Below w.heap.size w (w.alloc (.cells #[.int .i64 L, .int .i64 H, .int .i64 C, .int .i64 M] 23)) := (Below.refl _ _).alloc (Nat.le_refl _) _
  have HL := Lib.hid (lives06_any _ (hv.later h0).top)
  have HB0 := Lib.hid h0
  clear hv h0
  unfold Yes2 at HL ⊢
  rcases hb with h | ⟨h, h2⟩
  · have i0 : (250 : Int) < (t.size : Int) := by omega
    clear h
    go_enter Tryz.func6, Tryz.ntmps6
    go_wp2_with fail
    refine HL.out.mono ?_
    rintro e w1 ⟨rfl, hb⟩
    have HB1 := Lib.hid (HB0.out.trans (hb.mono HB0.out.size))
    clear hb
    go_wp2_with fail
    go_ret
    exact ⟨rfl, HB1.out⟩
  · have i0 : ¬ (250 : Int) < (t.size : Int) := by omega
    have i1 : (250 : Int) - (t.size : Int) < (u.size : Int) := by omega
    have iw : IntKind.i64.wrap ((250 : Int) - (t.size : Int)) = (250 : Int) - (t.size : Int) := IntWalk.i64_in _ (by omega)
    clear h h2
    go_enter Tryz.func6, Tryz.ntmps6
    go_wp2_with fail
    refine HL.out.mono ?_
    rintro e w1 ⟨rfl, hb⟩
    have HB1 := Lib.hid (HB0.out.trans (hb.mono HB0.out.size))
    clear hb
    go_wp2_with fail
    go_ret
    exact ⟨rfl, HB1.out⟩
theorem prefix_any (L H C M : Int) (t : ByteArray) (cut : Int) (u : ByteArray) (w : World) (hv : ErrV w.heap.size w) (hL : L ≤ 9223372036854775807) (hX : H ≤ 9223372036854775807) (hC : C ≤ 9223372036854775807) (hM : M ≤ 9223372036854775807) :
    Calls Tryz.prog 6 #[.agg #[.int .i64 L, .int .i64 H, .int .i64 C, .int .i64 M], .string t, .int .i64 cut, .string u] w (Yes2 w) := by
  by_cases h1 : t.size ≤ 250
  · by_cases h2 : u.size ≤ 250 - t.size
    · exact prefix_main L H C M t cut u w hv h1 h2 hL hX hC hM
    · exact prefix_big L H C M t cut u w hv (.inr ⟨h1, by omega⟩)
  · exact prefix_big L H C M t cut u w hv (.inl (by omega))
end Tk
end Go.Proofs.YtomhpnkpmeindaaGreatDoor
