/- CtD CtE, put together. -/
import Derived.Test.YtnbipbeeengiaaaGreatDoorQE
import Derived.Test.YtnbipbeeengiaaaGreatDoorQF
import Derived.RangeFuncNested
import Derived.RangeFuncBound
import Derived.RangeFuncCalls
import Derived.RangeFuncLeaves
import Derived.RangeFuncBox
import Derived.OwnWalkIn
import Derived.TacticsInMore
import Derived.LoopNIn
import Derived.LoopIn
import Derived.Maps.OwnIn
namespace Go.Proofs.YtnbipbeeengiaaaGreatDoor
open Go.RowKit
namespace Tk

attribute [local go_sem] Oper.semAt_some

set_option maxHeartbeats 1000000 in
set_option maxRecDepth 100000 in
theorem cnone_any (w : World) : Calls Tryz.prog 36 #[] w fun e w' => e = .returned (.agg (ctlA noneC)) ∧ Below w.heap.size w w' := by
  go_enter Tryz.func36, Tryz.ntmps36
  go_wp2_with fail
  refine bodyPost_ret (v := .agg (ctlA noneC)) ?_ rfl ⟨rfl, (Below.refl _ _).alloc (Nat.le_refl _) _⟩
  exact results_cell_row rfl _ _ w.heap.size 63 _ (0, 0) _ rfl (heap_alloc_last w _) Tryz.underlying63 rfl (by kernel_rfl)

/-- what an iterator over directives hands to yield -/
def dirE (d : Dir) : Array Value := #[.string (mkS d.1), argV d.2.1 d.2.2]
/-- what it reads: the list in the box -/
def ListAt (g : Nat) (ad : Option Addr) (c : Nat) (L : List Bs) (W : World) : Prop := W.cell? ⟨g, 0, none⟩ = some (.slice ad L.length c) ∧ IsStrs W (.slice ad L.length c) L

theorem flat_take (P : List Bs) (k : Nat) (h : k < P.length) : (P.take (k + 1)).flatMap dirOf = (P.take k).flatMap dirOf ++ dirOf (P.getD k []) := by
  rw [List.take_succ_eq_append_getElem h, List.flatMap_append, List.flatMap_cons, List.flatMap_nil, List.append_nil]
  simp [List.getD, h]
theorem dirs_take (L : List Bs) (i : Nat) (h : i < L.length) : dirsL (L.take (i + 1)) = dirsL (L.take i) ++ dirsV (L.getD i []) := by
  unfold dirsL
  rw [List.take_succ_eq_append_getElem h, List.flatMap_append, List.flatMap_cons, List.flatMap_nil, List.append_nil]
  simp [List.getD, h]
theorem dirs_pre (L : List Bs) (i : Nat) (h : i < L.length) (k : Nat) (hk : k < (splitL (L.getD i [])).length) :
    dirsL (L.take i) ++ ((splitL (L.getD i [])).take k).flatMap dirOf ++ dirOf ((splitL (L.getD i [])).getD k []) <+: dirsL L := by
  have h1 := flat_take _ k hk
  have h2 := dirs_take L i h
  rw [List.append_assoc, ← h1]
  refine ⟨((splitL (L.getD i [])).drop (k + 1)).flatMap dirOf ++ dirsL (L.drop (i + 1)), ?_⟩
  have h3 : dirsV (L.getD i []) = ((splitL (L.getD i [])).take (k + 1)).flatMap dirOf ++ ((splitL (L.getD i [])).drop (k + 1)).flatMap dirOf := by
    unfold dirsV
    rw [← List.flatMap_append, List.take_append_drop]
  have h4 : dirsL L = dirsL (L.take (i + 1)) ++ dirsL (L.drop (i + 1)) := by rw [← dirs_app, List.take_append_drop]
  rw [h4, h2, h3]
  simp [List.append_assoc]

/-- the texts behind a, in blocks that are none of N's -/
def OffAt (a : Option Addr) (P : List Bs) (N : Nat → Prop) (W : World) : Prop := ∀ (j : Nat) (t : Bs), P[j]? = some t → ∃ b o, a = some ⟨b, o, none⟩ ∧ W.cell? ⟨b, o + j, none⟩ = some (.string (mkS t)) ∧ ¬ N b
theorem cell_same {w w' : World} {p : Addr} (h : w'.heap[p.block]? = w.heap[p.block]?) : w'.cell? p = w.cell? p := by unfold World.cell?; rw [h]
theorem cell_in {w : World} {p : Addr} {v : Value} (h : w.cell? p = some v) : p.block < w.heap.size := by
  refine Nat.lt_of_not_le fun hle => ?_
  unfold World.cell? at h
  rw [Array.getElem?_eq_none hle] at h
  simp at h
theorem OffAt.turned {a : Option Addr} {P : List Bs} {N N' : Nat → Prop} {W W' : World} (h : OffAt a P N W) (T : Turns N N' W W') : OffAt a P N' W' := by
  intro j t hj
  obtain ⟨b, o, rfl, hc, hn⟩ := h j t hj
  have hb := cell_in hc
  exact ⟨b, o, rfl, (cell_same (p := ⟨b, o + j, none⟩) (T.same b hb hn)).trans hc, fun hn' => (T.more b hn').elim hn (by simp at hb; omega)⟩
theorem offAt_own {base : Nat} {v : Value} {P : List Bs} {N : Nat → Prop} {W : World} (h : W.ownsRow base 9 1 v P.length (strs P)) (hN : ∀ k, N k → k < base) : ∃ a c, v = .slice a P.length c ∧ OffAt a P N W := by
  obtain ⟨a, c, rfl, hc⟩ := isStrs_own h
  refine ⟨a, c, rfl, fun j t hj => ?_⟩
  obtain ⟨b, o, rfl, hcell⟩ := hc j t hj
  refine ⟨b, o, rfl, hcell, fun hn => ?_⟩
  have h1 := (h.lt b rfl).1
  have := hN b hn
  omega

set_option maxHeartbeats 8000000 in
set_option maxRecDepth 100000 in
theorem dirs1_hands (g : Nat) (ad : Option Addr) (c : Nat) (L : List Bs) (hl : L.length ≤ 1048576) (hz : ∀ x ∈ L, x.length ≤ 1000000) :
    HandsM Tryz.prog 112 #[.pointer (some ⟨g, 0, none⟩)] dirE (dirsL L) (ListAt g ad c L) := by
  intro l J M W hK hJ hS hY h0
  obtain ⟨hbx, -⟩ := hS _ _ _ h0
  have HK := Lib.hid hK
  have HJ := Lib.hid hJ
  have HS := Lib.hid hS
  have HY := Lib.hid hY
  have H0 := Lib.hid h0
  have HZ := Lib.hid hz
  clear hK hJ hS hY h0 hz
  refine (callsIn_wide (n := 5)).1 ?_
  refine callsIn_of_wp Tryz.func112 rfl trivial ?_ rfl
  simp only [Tryz.ntmps112, List.size_toArray, List.length_cons, List.length_nil, Nat.reduceAdd, Nat.reduceSub, Array.replicate_succ, Array.replicate_zero, List.push_toArray, List.append_toArray, List.nil_append, List.cons_append]
  gi_wp2
  gi_loopw [14] (fun vi wr => ∃ i : Nat, i ≤ L.length ∧ vi = .int .i64 i ∧ Hid (∃ N, J (dirsL (L.take i)) N wr) ∧ W.heap.size ≤ wr.heap.size) (fun vi _ => L.length - (RowKit.intOf vi).toNat)
  case atStart => exact ⟨0, Nat.zero_le _, rfl, ⟨M, H0.out⟩, Nat.le_refl _⟩
  case round =>
    obtain ⟨i, hi, rfl, HJi, hsz⟩ := hrel
    by_cases hlt : i < L.length
    · obtain ⟨N, hJi⟩ := HJi.out
      obtain ⟨-, hst⟩ := HS.out _ _ _ hJi
      obtain ⟨a', c', ev, hcs⟩ := hst
      obtain ⟨rfl, rfl⟩ : ad = a' ∧ c = c' := by cases ev; exact ⟨rfl, rfl⟩
      obtain ⟨b, o, rfl, hcw⟩ := hcs i (L.getD i []) (by simp [List.getD, hlt])
      have hzx := HZ.out (L.getD i []) (by simp [List.getD, hlt])
      have HPre := Lib.hid (fun k hk => dirs_pre L i hlt k hk)
      have HTk := Lib.hid (dirs_take L i hlt)
      have HJ0 := Lib.hid hJi
      clear ev hcs hJi HJi hbx
      generalize L.getD i [] = x at *
      have HSp : Hid (∀ W1 : World, CallsIn Fence.wide 4 Tryz.prog 113 #[.string (mkS x)] W1 (ListPost W1.heap.size (splitL x) W1)) := fun W1 => by
        have h := split_any (mkS x) W1 (by rw [size_mkS]; omega)
        rw [bs_mkS] at h
        exact callsIn_wide.2 h
      have hlen := split_len x
      have HPc := Lib.hid (fun p hp => split_piece x p hp)
      unfold ListPost at HSp
      unfold dirsV at HTk
      generalize splitL x = P at *
      gi_wp2_with fail
      refine ⟨trivial, (HSp.out wr).mono ?_⟩
      rintro e w1 ⟨v', rfl, ho, hb⟩
      have hN0 : ∀ k, N k → k < wr.heap.size := HK.out _ _ _ HJ0.out
      have hJ1 := HJ.out _ _ _ _ HJ0.out (Mine.below hb)
      obtain ⟨a, cp, rfl, hoff⟩ := offAt_own ho hN0
      have HJ1 := Lib.hid hJ1
      have HO1 := Lib.hid hoff
      have hs1 := Nat.le_trans hsz hb.size
      clear hb ho hN0 hJ1 hoff hcw
      gi_wp2_with fail
      gi_loopw [21] (fun vk w2 => ∃ k : Nat, k ≤ P.length ∧ vk = .int .i64 k ∧ Hid (∃ N', J (dirsL (L.take i) ++ (P.take k).flatMap dirOf) N' w2 ∧ OffAt a P N' w2) ∧ W.heap.size ≤ w2.heap.size) (fun vk _ => P.length - (RowKit.intOf vk).toNat)
      case atStart => exact ⟨0, Nat.zero_le _, rfl, ⟨N, by simpa using HJ1.out, HO1.out⟩, hs1⟩
      case round =>
        rename World => w2
        obtain ⟨k, hk, rfl, HJk, hs2⟩ := hrel
        by_cases hkl : k < P.length
        · obtain ⟨N', hJk, hof⟩ := HJk.out
          obtain ⟨b2, o2, rfl, hc2, -⟩ := hof k (P.getD k []) (by simp [List.getD, hkl])
          have hp := HPc.out (P.getD k []) (by simp [List.getD, hkl])
          have HFl := Lib.hid (flat_take P k hkl)
          have HPr := Lib.hid (HPre.out k hkl)
          have HJ2 := Lib.hid hJk
          have HO2 := Lib.hid hof
          clear hJk hof HJk HO1 HJ1 HPre
          generalize P.getD k [] = p at *
          have hcl := cut_lens 61 p
          have HCut : Hid (∀ W1 : World, CallsIn Fence.wide 4 Tryz.prog 114 #[.string (mkS p), .string ⟨#[61]⟩] W1 (fun e w' => e = .returned (.tuple #[.string (mkS (cutL 61 p).1), .string (mkS (cutL 61 p).2.1), .bool (cutL 61 p).2.2]) ∧ Below W1.heap.size W1 w')) := fun W1 => by
            have h := cut_any (mkS p) 61 W1 (by rw [size_mkS]; omega)
            rw [bs_mkS] at h
            refine callsIn_wide.2 (h.mono ?_)
            rintro e w' ⟨he, n, rfl⟩
            exact ⟨he, ⟨rfl, rfl, rfl, Nat.le_refl _, fun _ _ => rfl⟩⟩
          have hdo : dirOf p = if tokB (cutL 61 p).1 = true then [(lowL (cutL 61 p).1, unqT (cutL 61 p).2.1, (cutL 61 p).2.2)] else [] := rfl
          generalize cutL 61 p = r at *
          obtain ⟨n, t, h⟩ := r
          simp only at hcl HCut hdo
          have HTok : Hid (∀ W1 : World, CallsIn Fence.wide 4 Tryz.prog 115 #[.string (mkS n)] W1 (fun e w' => e = .returned (.bool (tokB n)) ∧ Below W1.heap.size W1 w')) := fun W1 => by
            have h := token_any (mkS n) W1 (by rw [size_mkS]; omega)
            rw [bs_mkS] at h
            exact callsIn_wide.2 h
          have HLow : Hid (∀ W1 : World, CallsIn Fence.wide 4 Tryz.prog 117 #[.string (mkS n)] W1 (fun e w' => e = .returned (.string (mkS (lowL n))) ∧ Below W1.heap.size W1 w')) := fun W1 => by
            have h := tlower_any (mkS n) W1 (by rw [size_mkS]; omega)
            rw [bs_mkS] at h
            exact callsIn_wide.2 h
          by_cases hk0 : tokB n = true
          · rw [hk0] at HTok
            rw [if_pos hk0] at hdo
            rw [hdo] at HFl HPr
            have HJB := Lib.hid (fun (w3 : World) (N2 : Nat → Prop) (s2 : List Dir) (w4 : World) (h1 : J s2 N2 w3) (h2 : Below w3.heap.size w3 w4) => HJ.out s2 N2 w3 w4 h1 (Mine.below h2))
            have hst0 : W.heap.size ≤ w2.heap.size := hs2
            clear hk0 hdo HPc
            have HBd : Hid (t.length ≤ 1000000) := by show _ ≤ _; omega
            have htl : t.length ≤ 1099511627 := by omega
            by_cases hu : unqOk t = true
            · have e1 : unqT t = unq (t.drop 1) := by unfold unqT; rw [if_pos hu]
              have HUnq : Hid (∀ W1 : World, CallsIn Fence.wide 4 Tryz.prog 116 #[.string (mkS t)] W1 (fun e w' => e = .returned (.tuple #[.string (mkS (unqT t)), .int .i64 0]) ∧ Below W1.heap.size W1 w')) := fun W1 => by
                have h := unquote_yes (mkS t) W1 (by rw [size_mkS]; exact htl) (by rw [bs_mkS]; exact hu)
                rw [bs_mkS, ← e1] at h
                exact callsIn_wide.2 h
              clear e1 hu htl
              generalize unqT t = t2 at *
              gi_wp2_with fail
              refine ⟨trivial, (HCut.out _).mono ?_⟩
              rintro e w3 ⟨rfl, hb3⟩
              have hJ3 := HJB.out _ _ _ _ HJ2.out hb3
              have HO3 := Lib.hid (HO2.out.turned (Turns.below hb3))
              have HJ3 := Lib.hid hJ3
              have hs3 := Nat.le_trans hs2 hb3.size
              clear hb3 hJ3
              gi_wp2_with fail
              refine ⟨trivial, (HTok.out _).mono ?_⟩
              rintro e w4 ⟨rfl, hb4⟩
              have hJ4 := HJB.out _ _ _ _ HJ3.out hb4
              have HO4 := Lib.hid (HO3.out.turned (Turns.below hb4))
              have HJ4 := Lib.hid hJ4
              have hs4 := Nat.le_trans hs3 hb4.size
              clear hb4 hJ4
              gi_wp2_with fail
              refine ⟨trivial, (HUnq.out _).mono ?_⟩
              rintro e w5 ⟨rfl, hb5⟩
              have hJ5 := HJB.out _ _ _ _ HJ4.out hb5
              have HO5 := Lib.hid (HO4.out.turned (Turns.below hb5))
              have HJ5 := Lib.hid hJ5
              have hs5 := Nat.le_trans hs4 hb5.size
              clear hb5 hJ5
              gi_wp2_with fail
              refine ⟨trivial, (HLow.out _).mono ?_⟩
              rintro e w6 ⟨rfl, hb6⟩
              have hJ6 := HJB.out _ _ _ _ HJ5.out hb6
              have HO6 := Lib.hid (HO5.out.turned (Turns.below hb6))
              have HJ6 := Lib.hid hJ6
              have hs6 := Nat.le_trans hs5 hb6.size
              clear hb6 hJ6
              obtain ⟨fn, tm, asg, bd, hy, hR⟩ := (HY.out _ _ N' w6 HJ6.out HPr.out).at (m := 4)
              unfold dirE argV at hy
              simp only at hy
              gi_wp2_with fail
              refine hR.mono ?_
              rintro e w7 ⟨rfl, N7, hJ7, hT7⟩
              have HJ7 := Lib.hid hJ7
              have HO7 := Lib.hid (HO6.out.turned hT7)
              have hs7 := Nat.le_trans hs6 hT7.size
              clear hJ7 hT7 hy hR
              gi_wp2_with fail
              refine ⟨⟨k + 1, hkl, by simp, ⟨N7, by rw [HFl.out, ← List.append_assoc]; exact HJ7.out, HO7.out⟩, hs7⟩, ?_⟩
              simp [RowKit.intOf]; omega
            · rw [Bool.not_eq_true] at hu
              have e1 : unqT t = t := by unfold unqT; rw [if_neg (by rw [hu]; decide)]
              have HUnq : Hid (∀ W1 : World, CallsIn Fence.wide 4 Tryz.prog 116 #[.string (mkS t)] W1 (fun e w' => e = .returned (.tuple #[.string .empty, .int .i64 4]) ∧ Below W1.heap.size W1 w')) := fun W1 =>
                callsIn_wide.2 (unquote_no (mkS t) W1 (by rw [size_mkS]; exact htl) (by rw [bs_mkS]; exact hu))
              rw [e1] at HFl HPr
              clear e1 hu htl
              gi_wp2_with fail
              refine ⟨trivial, (HCut.out _).mono ?_⟩
              rintro e w3 ⟨rfl, hb3⟩
              have hJ3 := HJB.out _ _ _ _ HJ2.out hb3
              have HO3 := Lib.hid (HO2.out.turned (Turns.below hb3))
              have HJ3 := Lib.hid hJ3
              have hs3 := Nat.le_trans hs2 hb3.size
              clear hb3 hJ3
              gi_wp2_with fail
              refine ⟨trivial, (HTok.out _).mono ?_⟩
              rintro e w4 ⟨rfl, hb4⟩
              have hJ4 := HJB.out _ _ _ _ HJ3.out hb4
              have HO4 := Lib.hid (HO3.out.turned (Turns.below hb4))
              have HJ4 := Lib.hid hJ4
              have hs4 := Nat.le_trans hs3 hb4.size
              clear hb4 hJ4
              gi_wp2_with fail
              refine ⟨trivial, (HUnq.out _).mono ?_⟩
              rintro e w5 ⟨rfl, hb5⟩
              have hJ5 := HJB.out _ _ _ _ HJ4.out hb5
              have HO5 := Lib.hid (HO4.out.turned (Turns.below hb5))
              have HJ5 := Lib.hid hJ5
              have hs5 := Nat.le_trans hs4 hb5.size
              clear hb5 hJ5
              gi_wp2_with fail
              refine ⟨trivial, (HLow.out _).mono ?_⟩
              rintro e w6 ⟨rfl, hb6⟩
              have hJ6 := HJB.out _ _ _ _ HJ5.out hb6
              have HO6 := Lib.hid (HO5.out.turned (Turns.below hb6))
              have HJ6 := Lib.hid hJ6
              have hs6 := Nat.le_trans hs5 hb6.size
              clear hb6 hJ6
              obtain ⟨fn, tm, asg, bd, hy, hR⟩ := (HY.out _ _ N' w6 HJ6.out HPr.out).at (m := 4)
              unfold dirE argV at hy
              simp only at hy
              gi_wp2_with fail
              refine hR.mono ?_
              rintro e w7 ⟨rfl, N7, hJ7, hT7⟩
              have HJ7 := Lib.hid hJ7
              have HO7 := Lib.hid (HO6.out.turned hT7)
              have hs7 := Nat.le_trans hs6 hT7.size
              clear hJ7 hT7 hy hR
              gi_wp2_with fail
              refine ⟨⟨k + 1, hkl, by simp, ⟨N7, by rw [HFl.out, ← List.append_assoc]; exact HJ7.out, HO7.out⟩, hs7⟩, ?_⟩
              simp [RowKit.intOf]; omega
          · rw [Bool.not_eq_true] at hk0
            rw [hk0] at HTok
            rw [if_neg (by rw [hk0]; decide)] at hdo
            rw [hdo, List.append_nil] at HFl
            clear HPr hdo hk0 HLow
            gi_wp2_with fail
            refine ⟨trivial, (HCut.out _).mono ?_⟩
            rintro e w3 ⟨rfl, hb3⟩
            have hJ3 := HJ.out _ _ _ _ HJ2.out (Mine.below hb3)
            have HO3 := Lib.hid (HO2.out.turned (Turns.below hb3))
            have HJ3 := Lib.hid hJ3
            have hs3 := Nat.le_trans hs2 hb3.size
            clear hb3 hJ3
            gi_wp2_with fail
            refine ⟨trivial, (HTok.out _).mono ?_⟩
            rintro e w4 ⟨rfl, hb4⟩
            have hJ4 := HJ.out _ _ _ _ HJ3.out (Mine.below hb4)
            have HO4 := Lib.hid (HO3.out.turned (Turns.below hb4))
            have HJ4 := Lib.hid hJ4
            have hs4 := Nat.le_trans hs3 hb4.size
            clear hb4 hJ4
            gi_wp2_with fail
            refine ⟨⟨k + 1, hkl, by simp, ⟨N', by rw [HFl.out]; exact HJ4.out, HO4.out⟩, hs4⟩, ?_⟩
            simp [RowKit.intOf]; omega
        · obtain rfl : k = P.length := by omega
          obtain ⟨N', hJk, -⟩ := HJk.out
          rw [List.take_length] at hJk
          have HJ2 := Lib.hid hJk
          clear hJk HJk HO1 HJ1 HPre
          gi_wp2_with fail
          refine ⟨⟨i + 1, hlt, by simp, ⟨N', by rw [HTk.out]; exact HJ2.out⟩, hs2⟩, ?_⟩
          simp [RowKit.intOf]; omega
    · obtain rfl : i = L.length := by omega
      have HJ4 := HJi.out
      rw [List.take_length] at HJ4
      have HJ5 := Lib.hid HJ4
      clear HJ4 hbx HJi
      gi_wp2
      go_end0
      exact ⟨⟨_, rfl⟩, HJ5.out⟩
end Tk
end Go.Proofs.YtnbipbeeengiaaaGreatDoor
namespace Go.Proofs.YtnbipbeeengiaaaGreatDoor
open Go.RowKit Go.Maps
namespace Tk

attribute [local go_sem] Oper.semAt_some

theorem fnElem_inv_nil {v : Value} {ps : List MemPlace} (h : fnElem v = some (.lit (.int .i64 (-1)), ps)) : v = .nilFunc := by
  unfold fnElem at h
  split at h
  · rename_i g a b
    split at h
    · injection h with h
      injection h with h3 _
      injection h3 with h3
      injection h3 with _ h3
      cases h3
    · cases h
  · rfl
  · cases h
section
variable {F : Fence} {nF : Nat} (w : World) {ops : Array Oper} {rest : List Oper} {o : Oper} {a : Act} {Q : Exit → Act → World → Prop}
/-- a look-up of a setter that is there -/
theorem look_hit (hg : o.guard = none) (m x : Operand) (hop : o.op = Op.lookup 107 m x true) (b : Nat) (L : List (Bs × Nat)) (hm : a.eval m = .map (some b)) (hown : FnMap w b L) (y : Bs) (hy : y.length ≤ 1099511627776) (hx : a.eval x = .string (mkS y)) (f : Nat) (hf : findL L y = some f)
    (hK : wpListIn F nF Tryz.prog ops Q rest (a.put o.dst (.tuple #[.func (.func f) #[] #[], .bool true])) w) : wpListIn F nF Tryz.prog ops Q (o :: rest) a w := by
  obtain ⟨D, h1, -, h2⟩ := hown
  have hk := keyIsC (mkS y) (by rw [size_mkS]; exact hy)
  rw [bs_mkS] at hk
  refine wpListIn_lookup_own_ok w hg m x _ hop 9 115 strKeyC Tryz.underlying107 fnElem (zeroSetter w) _ [] fnElem_nil b 15 D hm h1 _ _ hx hk ?_
  intro v ps hv
  rw [(h2 y).2, hf] at hv
  obtain rfl := fnElem_inv hv
  rw [(h2 y).1, hf]
  exact hK
theorem look_miss (hg : o.guard = none) (m x : Operand) (hop : o.op = Op.lookup 107 m x true) (b : Nat) (L : List (Bs × Nat)) (hm : a.eval m = .map (some b)) (hown : FnMap w b L) (y : Bs) (hy : y.length ≤ 1099511627776) (hx : a.eval x = .string (mkS y)) (hf : findL L y = none)
    (hK : wpListIn F nF Tryz.prog ops Q rest (a.put o.dst (.tuple #[.nilFunc, .bool false])) w) : wpListIn F nF Tryz.prog ops Q (o :: rest) a w := by
  obtain ⟨D, h1, -, h2⟩ := hown
  have hk := keyIsC (mkS y) (by rw [size_mkS]; exact hy)
  rw [bs_mkS] at hk
  refine wpListIn_lookup_own_ok w hg m x _ hop 9 115 strKeyC Tryz.underlying107 fnElem (zeroSetter w) _ [] fnElem_nil b 15 D hm h1 _ _ hx hk ?_
  intro v ps hv
  rw [(h2 y).2, hf] at hv
  obtain rfl := fnElem_inv_nil hv
  rw [(h2 y).1, hf]
  exact hK
end

/-- what the setter of a directive does, if there is one -/
theorem setter_of (d : Dir) (c : Ctl) (hd : d.2.1.length ≤ 1099511627776) :
    (∃ f : Nat, findL setL d.1 = some f ∧ (∀ args w, (callFunc f args).run Tryz.prog w = .ok (.enter f args) w) ∧ ∀ (g : Nat) (W : World), Bx W g 63 (ctlA c) → Calls Tryz.prog f #[.pointer (some ⟨g, 0, none⟩), argV d.2.1 d.2.2] W (SetPost g (setC c d) W)) ∨ (findL setL d.1 = none ∧ setC c d = c) := by
  obtain ⟨n, t, h⟩ := d
  by_cases e0 : n = dn0
  · left
    subst e0
    refine ⟨94, (show findL setL dn0 = some 94 by decide +kernel), enters_of Tryz.func94 (by kernel_rfl) rfl, fun g W hB => ?_⟩
    rw [setC0]
    exact setter0 g c t h W hB hd
  by_cases e1 : n = dn1
  · left
    subst e1
    refine ⟨97, (show findL setL dn1 = some 97 by decide +kernel), enters_of Tryz.func97 (by kernel_rfl) rfl, fun g W hB => ?_⟩
    rw [setC1]
    exact setter1 g c t h W hB hd
  by_cases e2 : n = dn2
  · left
    subst e2
    refine ⟨98, (show findL setL dn2 = some 98 by decide +kernel), enters_of Tryz.func98 (by kernel_rfl) rfl, fun g W hB => ?_⟩
    rw [setC2]
    exact setter2 g c t h W hB hd
  by_cases e3 : n = dn3
  · left
    subst e3
    refine ⟨100, (show findL setL dn3 = some 100 by decide +kernel), enters_of Tryz.func100 (by kernel_rfl) rfl, fun g W hB => ?_⟩
    rw [setC3]
    exact setter3 g c t h W hB hd
  by_cases e4 : n = dn4
  · left
    subst e4
    refine ⟨101, (show findL setL dn4 = some 101 by decide +kernel), enters_of Tryz.func101 (by kernel_rfl) rfl, fun g W hB => ?_⟩
    rw [setC4]
    exact setter4 g c t h W hB hd
  by_cases e5 : n = dn5
  · left
    subst e5
    refine ⟨102, (show findL setL dn5 = some 102 by decide +kernel), enters_of Tryz.func102 (by kernel_rfl) rfl, fun g W hB => ?_⟩
    rw [setC5]
    exact setter5 g c t h W hB hd
  by_cases e6 : n = dn6
  · left
    subst e6
    refine ⟨103, (show findL setL dn6 = some 103 by decide +kernel), enters_of Tryz.func103 (by kernel_rfl) rfl, fun g W hB => ?_⟩
    rw [setC6]
    exact setter6 g c t h W hB hd
  by_cases e7 : n = dn7
  · left
    subst e7
    refine ⟨104, (show findL setL dn7 = some 104 by decide +kernel), enters_of Tryz.func104 (by kernel_rfl) rfl, fun g W hB => ?_⟩
    rw [setC7]
    exact setter7 g c t h W hB hd
  by_cases e8 : n = dn8
  · left
    subst e8
    refine ⟨105, (show findL setL dn8 = some 105 by decide +kernel), enters_of Tryz.func105 (by kernel_rfl) rfl, fun g W hB => ?_⟩
    rw [setC8]
    exact setter8 g c t h W hB hd
  by_cases e9 : n = dn9
  · left
    subst e9
    refine ⟨106, (show findL setL dn9 = some 106 by decide +kernel), enters_of Tryz.func106 (by kernel_rfl) rfl, fun g W hB => ?_⟩
    rw [setC9]
    exact setter9 g c t h W hB hd
  by_cases e10 : n = dn10
  · left
    subst e10
    refine ⟨107, (show findL setL dn10 = some 107 by decide +kernel), enters_of Tryz.func107 (by kernel_rfl) rfl, fun g W hB => ?_⟩
    rw [setC10]
    exact setter10 g c t h W hB hd
  by_cases e11 : n = dn11
  · left
    subst e11
    refine ⟨108, (show findL setL dn11 = some 108 by decide +kernel), enters_of Tryz.func108 (by kernel_rfl) rfl, fun g W hB => ?_⟩
    rw [setC11]
    exact setter11 g c t h W hB hd
  by_cases e12 : n = dn12
  · left
    subst e12
    refine ⟨109, (show findL setL dn12 = some 109 by decide +kernel), enters_of Tryz.func109 (by kernel_rfl) rfl, fun g W hB => ?_⟩
    rw [setC12]
    exact setter12 g c t h W hB hd
  by_cases e13 : n = dn13
  · left
    subst e13
    refine ⟨110, (show findL setL dn13 = some 110 by decide +kernel), enters_of Tryz.func110 (by kernel_rfl) rfl, fun g W hB => ?_⟩
    rw [setC13]
    exact setter13 g c t h W hB hd
  by_cases e14 : n = dn14
  · left
    subst e14
    refine ⟨111, (show findL setL dn14 = some 111 by decide +kernel), enters_of Tryz.func111 (by kernel_rfl) rfl, fun g W hB => ?_⟩
    rw [setC14]
    exact setter14 g c t h W hB hd
  right
  refine ⟨?_, ?_⟩
  · unfold setL findL
    simp only []
    rw [if_neg e14]
    unfold findL; rw [if_neg e13]
    unfold findL; rw [if_neg e12]
    unfold findL; rw [if_neg e11]
    unfold findL; rw [if_neg e10]
    unfold findL; rw [if_neg e9]
    unfold findL; rw [if_neg e8]
    unfold findL; rw [if_neg e7]
    unfold findL; rw [if_neg e6]
    unfold findL; rw [if_neg e5]
    unfold findL; rw [if_neg e4]
    unfold findL; rw [if_neg e3]
    unfold findL; rw [if_neg e2]
    unfold findL; rw [if_neg e1]
    unfold findL; rw [if_neg e0]
    rfl
  · unfold setC
    simp only []
    rw [if_neg e0, if_neg e1, if_neg e2, if_neg e3, if_neg e4, if_neg e5, if_neg e6, if_neg e7, if_neg e8, if_neg e9, if_neg e10, if_neg e11, if_neg e12, if_neg e13, if_neg e14]

set_option maxHeartbeats 1000000 in
set_option maxRecDepth 100000 in
theorem directives_any (a : Option Addr) (n c : Nat) (w : World) :
    Calls Tryz.prog 67 #[.slice a n c] w fun e w' => e = .returned (.func (.func 112) #[] #[.pointer (some ⟨w.heap.size, 0, none⟩)]) ∧ w' = w.alloc (.cells #[.slice a n c] 26) := by
  go_enter Tryz.func67, Tryz.ntmps67
  go_wp2_with fail
  go_ret
  exact ⟨rfl, rfl⟩

theorem Bx.same {w w' : World} {g : Nat} {T : TypeId} {cs : Array Value} (h : Bx w g T cs) (e : w'.heap[g]? = w.heap[g]?) : Bx w' g T cs := e.trans h
theorem Bx.row {w : World} {g : Nat} {T : TypeId} {old cs : Array Value} (h : Bx w g T old) : Bx (w.setRow g cs) g T cs := setRow_heap w g old cs T (0, 0) h
theorem isStrsC_below {w w' : World} {v : Value} {l : List Bs} (h : IsStrs w v l) (hb : Below w.heap.size w w') : IsStrs w' v l := by
  obtain ⟨a, c, rfl, hc⟩ := h
  refine ⟨a, c, rfl, fun j t hj => ?_⟩
  obtain ⟨b, o, rfl, h2⟩ := hc j t hj
  exact ⟨b, o, rfl, (hb.cell (p := ⟨b, o + j, none⟩) (cell_in (p := ⟨b, o + j, none⟩) h2)).trans h2⟩
theorem below_mine {B : Nat} {M : Nat → Prop} {w W W' : World} (hb : Below w.heap.size w W) (h : Mine B M W W') (hB : w.heap.size ≤ B) : Below w.heap.size w W' :=
  ⟨h.os.trans hb.os, h.tape.trans hb.tape, h.output.trans hb.output, Nat.le_trans hb.size h.size, fun k hk => (h.same k (Nat.lt_of_lt_of_le hk hb.size) (.inl (by omega))).trans (hb.block k hk)⟩
theorem below_grownC {w W W' : World} {g : Nat} (hb : Below w.heap.size w W) (h : W.grownBy W' (some g)) (hg : w.heap.size ≤ g) : Below w.heap.size w W' :=
  ⟨h.os.trans hb.os, h.tape.trans hb.tape, h.output.trans hb.output, Nat.le_trans hb.size h.size, fun k hk => (h.block k (Nat.lt_of_lt_of_le hk hb.size) (by intro e; injection e with e; omega)).trans (hb.block k hk)⟩
theorem below_setRow {w W : World} (h : Below w.heap.size w W) (cs : Array Value) : Below w.heap.size w (W.setRow w.heap.size cs) :=
  ⟨h.os, h.tape, h.output, by rw [size_setRow]; exact h.size, fun k hk => (setRow_other _ _ _ _ (by omega)).trans (h.block k hk)⟩
section
variable {F : Fence} {nF : Nat} {P : Program} {ops : Array Oper} {rest : List Oper} {o : Oper} {a : Act} {w : World} {Q : Exit → Act → World → Prop}
theorem wpListIn_store_rowC (hgd : o.guard = none) (ty : TypeId) (x y : Operand) (ho : o.op = .store ty x y)
    (g : Nat) (t : TypeId) (old cells : Array Value) (hx : a.eval x = .pointer (some ⟨g, 0, none⟩)) (hy : a.eval y = .agg cells) (hg : w.heap[g]? = some (.cells old t (0, 0))) (hi : (P.info? ty).map (·.size) = some cells.size)
    (hs : old.size = cells.size) (h1 : cells.all (·.oneCell') = true) (h : wpListIn F nF P ops Q rest (a.put o.dst undef) (w.setRow g cells)) : wpListIn F nF P ops Q (o :: rest) a w := by
  refine wpListIn_plain hgd fun K' hK' => ?_
  have hrun := run_storeVar_row (P := P) w g t ty old cells hg hi hs h1
  unfold Oper.wpIn
  refine ⟨by simp [Oper.about, ho], ?_⟩
  rw [Oper.semAt_plain F _ _ (by rw [ho]; intro c hc'; cases hc')]
  simp [execOp, ho, hx, hy, Instr.storeAt, Instr.sureAddr, hrun, Result.andThen]
  exact hK' _ _ h
theorem wpListIn_load_rowC (hgd : o.guard = none) (ty : TypeId) (x : Operand) (ho : o.op = .load ty x)
    (g : Nat) (t : TypeId) (cs : Array Value) (fr : Nat × Nat) (d : TypeDesc) (hx : a.eval x = .pointer (some ⟨g, 0, none⟩)) (hg : w.heap[g]? = some (.cells cs t fr))
    (hu : P.underlying ty = some d) (hd : (match d with | .struct _ | .array _ _ => true | _ => false) = true) (hi : (P.info? ty).map (·.size) = some cs.size)
    (h : wpListIn F nF P ops Q rest (a.put o.dst (.agg cs)) w) : wpListIn F nF P ops Q (o :: rest) a w := by
  refine wpListIn_plain hgd fun K' hK' => ?_
  have hrun := run_loadVar_row (P := P) w g t ty cs fr d hg hu hd hi
  unfold Oper.wpIn
  refine ⟨by simp [Oper.about, ho], ?_⟩
  rw [Oper.semAt_plain F _ _ (by rw [ho]; intro c hc'; cases hc')]
  simp [execOp, ho, hx, Instr.loadAt, Instr.sureAddr, hrun, Result.andThen]
  exact hK' _ _ h
end
theorem ctl_size (c : Ctl) : (Tryz.prog.info? 63).map (·.size) = some (ctlA c).size := by
  have h : (Tryz.prog.info? 63).map (·.size) = some 15 := by kernel_rfl
  exact h
theorem ctl_one (c : Ctl) : (ctlA c).all (·.oneCell') = true := by kernel_rfl
def zeroC : Ctl := ⟨0, 0, 0, 0, 0, 0, false, false, false, false, false, false, false, false, false⟩
theorem below_allocC (w : World) (o : Obj) : Below w.heap.size w (w.alloc o) := (Below.refl _ _).alloc (Nat.le_refl _) _
def CtlPost (c : Ctl) (w : World) (e : Ending) (w' : World) : Prop := e = .returned (.agg (ctlA c)) ∧ Below w.heap.size w w'


set_option maxHeartbeats 8000000 in
set_option maxRecDepth 100000 in
theorem parse_any (v : Value) (L : List Bs) (w : World) (hs : IsStrs w v L) (hl : L.length ≤ 1048576) (hz : ∀ x ∈ L, x.length ≤ 1000000) :
    Calls Tryz.prog 34 #[v] w (CtlPost (parseL L) w) := by
  have HS := Lib.hid hs
  have HZ := Lib.hid hz
  obtain ⟨a, cap, rfl⟩ : ∃ a cap, v = .slice a L.length cap := by obtain ⟨a, c, h, -⟩ := hs; exact ⟨a, c, h⟩
  clear hs hz
  have HN : Hid (∀ W, CallsIn Fence.wide 4 Tryz.prog 36 #[] W fun e w' => e = .returned (.agg (ctlA noneC)) ∧ Below W.heap.size W w') := fun W => callsIn_wide.2 (cnone_any W)
  have HSet : Hid (∀ W, CallsIn Fence.wide 4 Tryz.prog 66 #[] W (SettersPost W)) := fun W => callsIn_wide.2 (setters_any W)
  have HDir : Hid (∀ W, CallsIn Fence.wide 4 Tryz.prog 67 #[.slice a L.length cap] W fun e w' => e = .returned (.func (.func 112) #[] #[.pointer (some ⟨W.heap.size, 0, none⟩)]) ∧ w' = W.alloc (.cells #[.slice a L.length cap] 26)) := fun W => callsIn_wide.2 (directives_any a L.length cap W)
  unfold SettersPost at HSet
  unfold ctlA noneC at HN
  refine (callsIn_wide (n := 5)).1 ?_
  refine callsIn_of_wp_marks Tryz.func34 rfl trivial ?_ rfl
  simp only [Tryz.ntmps34, List.size_toArray, List.length_cons, List.length_nil, Nat.reduceAdd, Nat.reduceSub, Array.replicate_succ, Array.replicate_zero, List.push_toArray, List.append_toArray, List.nil_append, List.cons_append]
  gi_wp2_with fail
  have hR0 := Bx.new w 63 (ctlA zeroC)
  unfold ctlA zeroC at hR0
  refine ⟨trivial, (HN.out _).mono ?_⟩
  rintro e w1 ⟨rfl, hb1⟩
  have hR1 := hR0.later hb1
  have hw1 : Below w.heap.size w w1 := ((Below.refl _ _).alloc (Nat.le_refl _) _).trans (hb1.mono (by simp))
  clear hR0 hb1
  gi_wp2_with fail
  refine ⟨trivial, (HSet.out _).mono ?_⟩
  rintro e w2 ⟨rfl, hm, hb2⟩
  have hR2 := hR1.later hb2
  have hw2 := hw1.trans (hb2.mono hw1.size)
  have hz1 : w.heap.size < w1.heap.size := hR1.lt
  have hz2 := hm.lt
  clear hR1 hb2 hw1
  generalize w1.heap.size = gM at *
  gi_wp2_with fail
  have hC3 := Bx.new w2 63 (ctlA noneC)
  have hb3 := below_allocC w2 (.cells (ctlA noneC) 63)
  unfold ctlA noneC at hC3 hb3
  have hR3 := hR2.later hb3
  have hm3 := hm.same (hb3.block _ hm.lt)
  have hw3 := hw2.trans (hb3.mono hw2.size)
  have hz3 := World.size_alloc w2 (.cells (ctlA noneC) 63)
  unfold ctlA noneC at hz3
  generalize w2.alloc (Obj.cells #[.int .i64 (-1), .int .i64 (-1), .int .i64 (-1), .int .i64 (-1), .int .i64 (-1), .int .i64 (-1), .bool false, .bool false, .bool false, .bool false, .bool false, .bool false, .bool false, .bool false, .bool false] 63) = W3 at *
  have hK4 := Bx.new W3 107 #[.map (some gM)]
  have hb4 := below_allocC W3 (.cells #[.map (some gM)] 107)
  have hR4 := hR3.later hb4
  have hC4 := hC3.later hb4
  have hm4 := hm3.same (hb4.block _ hm3.lt)
  have hw4 := hw3.trans (hb4.mono hw3.size)
  have hz4 := World.size_alloc W3 (.cells #[.map (some gM)] 107)
  rw [hz3] at hK4
  generalize W3.alloc (Obj.cells #[.map (some gM)] 107) = W4 at *
  refine ⟨trivial, (HDir.out _).mono ?_⟩
  rintro e w5 ⟨rfl, rfl⟩
  have hB5 := Bx.new W4 26 #[.slice a L.length cap]
  have hb5 := below_allocC W4 (.cells #[.slice a L.length cap] 26)
  have hR5 := hR4.later hb5
  have hC5 := hC4.later hb5
  have hK5 := hK4.later hb5
  have hm5 := hm4.same (hb5.block _ hm4.lt)
  have hw5 := hw4.trans (hb5.mono hw4.size)
  have hz5 := World.size_alloc W4 (.cells #[.slice a L.length cap] 26)
  clear hb3 hb4 hb5 hR2 hR3 hR4 hC3 hC4 hK4 hm hm3 hm4 hw2 hw3 hw4
  generalize W4.alloc (Obj.cells #[.slice a L.length cap] 26) = W5 at *
  have hg1 : w2.heap.size + 1 < W5.heap.size := hK5.lt
  have hg2 : W4.heap.size < W5.heap.size := hB5.lt
  have hg3 : w2.heap.size + 1 < W4.heap.size := by omega
  generalize hgB : W4.heap.size = gB at *
  generalize hgC : w2.heap.size = gC at *
  clear hgB hgC hz3 hz4 hz5
  gi_wp2_with fail
  have hgR : w.heap.size < W5.heap.size := hR5.lt
  have hgC : w.heap.size < gC := by omega
  have hgM : gM < W5.heap.size := hm5.lt
  have hMC : gM < gC := hz2
  have HH := dirs1_hands gB a cap L hl HZ.out
  have HBd := Lib.hid (fun d hd => dirsL_bound L 1000000 HZ.out d hd)
  refine range_mx (gf := 112) (lb := #[.pointer (some ⟨gB, 0, none⟩)]) rfl (enters_of Tryz.func112 (by kernel_rfl) rfl) (fun _ => rfl) HH
    (fun pre M W => Bx W gC 63 (ctlA (foldC noneC pre)) ∧ Bx W w.heap.size 63 (ctlA zeroC) ∧ Bx W (gC + 1) 107 #[.map (some gM)] ∧ FnMap W gM setL ∧ Bx W gB 26 #[.slice a L.length cap] ∧ Below w.heap.size w W ∧ ∀ k, M k ↔ k = gC)
    ?known ?abides ?reads (fun k => k = gC) ⟨hC5, hR5, hK5, hm5, hB5, hw5, fun _ => Iff.rfl⟩
    (fun x a' z W => a' = { tmps := #[.slice a L.length cap, undef, .pointer (some ⟨w.heap.size, 0, none⟩), .pointer (some ⟨gC, 0, none⟩), .pointer (some ⟨gC + 1, 0, none⟩), .string (mkS x.1), .pointer (some ⟨z, 0, none⟩), undef, undef, .agg (ctlA noneC), .map (some gM), .slice a L.length cap, .func (.func 112) #[] #[.pointer (some ⟨gB, 0, none⟩)], .string (mkS x.1), argV x.2.1 x.2.2, undef, undef, undef, undef, undef, undef, undef, undef, undef, undef, undef], defers := [] } ∧ Bx W z 113 #[.string (mkS x.2.1), .bool x.2.2]) ?stays ?assign ?body ?done
  case known =>
    rintro s M W ⟨h, -, -, -, -, -, hM⟩ k hk
    rw [(hM k).1 hk]
    exact h.lt
  case abides =>
    rintro s M W W' ⟨h1, h2, h3, h4, h5, h6, hM⟩ hm
    exact ⟨h1.same (hm.same _ h1.lt (.inl (by omega))), h2.same (hm.same _ h2.lt (.inl hgR)), h3.same (hm.same _ h3.lt (.inl hg1)), h4.same (hm.same _ h4.lt (.inl hgM)), h5.same (hm.same _ h5.lt (.inl hg2)), below_mine h6 hm (by omega), hM⟩
  case reads =>
    rintro s M W ⟨-, -, -, -, h5, h6, -⟩
    exact ⟨h5.cell 0 _ rfl, isStrsC_below HS.out h6⟩
  case stays =>
    rintro x a' z W W' ⟨h1, h2⟩ hk
    exact ⟨h1, h2.same (hk z (Nat.le_refl _) h2.lt)⟩
  case assign =>
    intro lp m x W K hK
    obtain ⟨n, t, h⟩ := x
    unfold dirE argV at *
    gi_wp2
    exact hK _ _ (below_allocC _ _) ⟨rfl, Bx.new _ _ _⟩
  case body =>
    rintro lp m pre x M a' z W ⟨h1, h2, h3, h4, h5, h6, hM⟩ hMz hzW ⟨rfl, hA⟩ hpre
    have hx := HBd.out x (hpre.subset (by simp))
    have hfold : foldC noneC (pre ++ [x]) = setC (foldC noneC pre) x := by rw [fold_app, foldC_one]
    have hsetr := setter_of x (foldC noneC pre) (by omega)
    obtain ⟨n, t, h⟩ := x
    simp only at hx hsetr hA
    have hk0 := h3.cell 0 _ rfl
    have ha0 := hA.cell 0 _ rfl
    have ha1 := hA.cell 1 _ rfl
    have H1 := Lib.hid h1
    have H2 := Lib.hid h2
    have H3 := Lib.hid h3
    have H4 := Lib.hid h4
    have H5 := Lib.hid h5
    have H6 := Lib.hid h6
    have HM := Lib.hid hM
    have HF := Lib.hid hfold
    have hn1 : n.length ≤ 1099511627776 := by omega
    clear h1 h2 h3 h4 h5 h6 hM hA hfold hpre hMz HH
    rcases hsetr with ⟨f, hf, he, hc⟩ | ⟨hf, hs⟩
    · have HC : Hid (∀ m : Nat, CallsIn (Fence.wide.inRound lp) m Tryz.prog f #[.pointer (some ⟨gC, 0, none⟩), argV t h] W (SetPost gC (setC (foldC noneC pre) (n, t, h)) W)) := fun m => (callsIn_wide.2 (hc gC W H1.out) : CallsIn Fence.wide m _ _ _ _ _)
      unfold argV SetPost at HC
      clear hc
      gi_wp2_with (gi_at_lookup; refine look_hit _ rfl _ _ rfl gM setL rfl H4.out n hn1 rfl f hf ?_)
      refine ⟨trivial, fun h => absurd h (by decide), (HC.out _).mono ?_⟩
      rintro e w' ⟨rfl, hb, hg⟩
      have HB' := Lib.hid hb
      have HG' := Lib.hid hg
      clear hb hg
      gi_wp2_with fail
      have hg := HG'.out
      refine ⟨M, ⟨by rw [HF.out]; exact HB'.out, H2.out.grown hg (by intro e; injection e with e; omega), H3.out.grown hg (by intro e; injection e with e; omega), H4.out.kept hg (by intro e; injection e with e; omega), H5.out.grown hg (by intro e; injection e with e; omega), below_grownC H6.out hg (by omega), HM.out⟩, hg.size, fun k hk hnk => hg.block k hk (by intro e; injection e with e; exact hnk ((HM.out k).2 e)), fun k hk => .inl hk⟩
    · gi_wp2_with (gi_at_lookup; refine look_miss _ rfl _ _ rfl gM setL rfl H4.out n hn1 rfl hf ?_)
      exact ⟨M, ⟨by rw [HF.out, hs]; exact H1.out, H2.out, H3.out, H4.out, H5.out, H6.out, HM.out⟩, Turns.refl _ _⟩
  case done =>
    rintro D M W hD hMD ⟨h1, h2, h3, h4, h5, h6, hM⟩ hd
    have hp : foldC noneC (dirsL L) = parseL L := rfl
    rw [hp] at h1
    have H6 := Lib.hid h6
    have HD := Lib.hid hd
    clear h3 h4 h5 h6 hM hd hMD
    gi_wp2_with (first
      | (refine wpListIn_load_rowC rfl _ _ rfl gC _ (ctlA (parseL L)) (0, 0) _ rfl h1 Tryz.underlying63 rfl (ctl_size _) ?_)
      | (refine wpListIn_store_rowC rfl _ _ _ rfl w.heap.size _ (ctlA zeroC) (ctlA (parseL L)) rfl rfl h2 (ctl_size _) rfl (ctl_one _) ?_))
    have hR := h2.row (cs := ctlA (parseL L))
    have hD2 : (W.setRow w.heap.size (ctlA (parseL L))).heap[D]? = some (.deferred (some [])) := (setRow_other _ _ _ _ (by omega)).trans HD.out
    have hBF := below_setRow H6.out (ctlA (parseL L))
    generalize W.setRow w.heap.size (ctlA (parseL L)) = W6 at *
    refine ⟨by simp, .inl ⟨_, _, rfl, run_takeDeferred hD2, ?_⟩⟩
    have hR2 : Bx (W6.putObj D (.deferred none)) w.heap.size 63 (ctlA (parseL L)) := hR.same (World.putObj_heap_other (by omega))
    refine ⟨_, results_cell_row rfl _ _ w.heap.size 63 _ (0, 0) _ rfl hR2 Tryz.underlying63 rfl (ctl_size _), rfl, hBF.trans (belowK_b (w := w) (Nat.le_refl _) W6 D _ _ (by omega) hD2 rfl rfl)⟩

end Tk
end Go.Proofs.YtnbipbeeengiaaaGreatDoor
