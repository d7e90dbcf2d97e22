/- control.None; control.directives and the function that hands over each directive. -/
import Derived.Test.YtdmjpfmjfffmiaaDoorCtC
import Derived.Test.YtdmjpfmjfffmiaaDoorCtQ
import Derived.Test.YtdmjpfmjfffmiaaDoorRngM
import Derived.Test.YtdmjpfmjfffmiaaDoorTokC
import Derived.Test.YtdmjpfmjfffmiaaDoorTkA
import Derived.Test.YtdmjpfmjfffmiaaDoorCut
import Derived.Test.YtdmjpfmjfffmiaaDoorUnq
import Derived.Test.YtdmjpfmjfffmiaaDoorSame
import Derived.RangeFuncNested
import Derived.RangeFuncBound
import Derived.RangeFuncCalls
import Derived.RangeFuncLeaves
import Derived.RangeFuncBox
import Derived.OwnWalkIn
import Derived.TacticsInMore
import Derived.LoopNIn
import Derived.LoopIn
namespace Go.Proofs.YtdmjpfmjfffmiaaDoor
open Go.RowKit
namespace Tk

attribute [local go_sem] Oper.semAt_some

set_option maxHeartbeats 1000000 in
set_option maxRecDepth 100000 in
theorem cnone_any (w : World) : Calls Tryd.prog 21 #[] w fun e w' => e = .returned (.agg (ctlA noneC)) ∧ Below w.heap.size w w' := by
  go_enter Tryd.func21, Tryd.ntmps21
  go_wp2_with fail
  refine bodyPost_ret (v := .agg (ctlA noneC)) ?_ rfl ⟨rfl, (Below.refl _ _).alloc (Nat.le_refl _) _⟩
  exact results_cell_row rfl _ _ w.heap.size 36 _ (0, 0) _ rfl (heap_alloc_last w _) Tryd.underlying36 rfl (by kernel_rfl)

/-- what an iterator over directives hands to yield -/
def dirE (d : Dir) : Array Value := #[.string (mkS d.1), argV d.2.1 d.2.2]
/-- what it reads: the list in the box -/
def ListAt (g : Nat) (ad : Option Addr) (c : Nat) (L : List Bs) (W : World) : Prop := W.cell? ⟨g, 0, none⟩ = some (.slice ad L.length c) ∧ IsStrs W (.slice ad L.length c) L

theorem flat_take (P : List Bs) (k : Nat) (h : k < P.length) : (P.take (k + 1)).flatMap dirOf = (P.take k).flatMap dirOf ++ dirOf (P.getD k []) := by
  rw [List.take_succ_eq_append_getElem h, List.flatMap_append, List.flatMap_cons, List.flatMap_nil, List.append_nil]
  simp [List.getD, h]
theorem dirs_take (L : List Bs) (i : Nat) (h : i < L.length) : dirsL (L.take (i + 1)) = dirsL (L.take i) ++ dirsV (L.getD i []) := by
  unfold dirsL
  rw [List.take_succ_eq_append_getElem h, List.flatMap_append, List.flatMap_cons, List.flatMap_nil, List.append_nil]
  simp [List.getD, h]
theorem dirs_pre (L : List Bs) (i : Nat) (h : i < L.length) (k : Nat) (hk : k < (splitL (L.getD i [])).length) :
    dirsL (L.take i) ++ ((splitL (L.getD i [])).take k).flatMap dirOf ++ dirOf ((splitL (L.getD i [])).getD k []) <+: dirsL L := by
  have h1 := flat_take _ k hk
  have h2 := dirs_take L i h
  rw [List.append_assoc, ← h1]
  refine ⟨((splitL (L.getD i [])).drop (k + 1)).flatMap dirOf ++ dirsL (L.drop (i + 1)), ?_⟩
  have h3 : dirsV (L.getD i []) = ((splitL (L.getD i [])).take (k + 1)).flatMap dirOf ++ ((splitL (L.getD i [])).drop (k + 1)).flatMap dirOf := by
    unfold dirsV
    rw [← List.flatMap_append, List.take_append_drop]
  have h4 : dirsL L = dirsL (L.take (i + 1)) ++ dirsL (L.drop (i + 1)) := by rw [← dirs_app, List.take_append_drop]
  rw [h4, h2, h3]
  simp [List.append_assoc]

/-- the texts behind a, in blocks that are none of N's -/
def OffAt (a : Option Addr) (P : List Bs) (N : Nat → Prop) (W : World) : Prop := ∀ (j : Nat) (t : Bs), P[j]? = some t → ∃ b o, a = some ⟨b, o, none⟩ ∧ W.cell? ⟨b, o + j, none⟩ = some (.string (mkS t)) ∧ ¬ N b
theorem cell_same {w w' : World} {p : Addr} (h : w'.heap[p.block]? = w.heap[p.block]?) : w'.cell? p = w.cell? p := by unfold World.cell?; rw [h]
theorem cell_in {w : World} {p : Addr} {v : Value} (h : w.cell? p = some v) : p.block < w.heap.size := by
  refine Nat.lt_of_not_le fun hle => ?_
  unfold World.cell? at h
  rw [Array.getElem?_eq_none hle] at h
  simp at h
theorem OffAt.turned {a : Option Addr} {P : List Bs} {N N' : Nat → Prop} {W W' : World} (h : OffAt a P N W) (T : Turns N N' W W') : OffAt a P N' W' := by
  intro j t hj
  obtain ⟨b, o, rfl, hc, hn⟩ := h j t hj
  have hb := cell_in hc
  exact ⟨b, o, rfl, (cell_same (p := ⟨b, o + j, none⟩) (T.same b hb hn)).trans hc, fun hn' => (T.more b hn').elim hn (by simp at hb; omega)⟩
theorem offAt_own {base : Nat} {v : Value} {P : List Bs} {N : Nat → Prop} {W : World} (h : W.ownsRow base 9 1 v P.length (strs P)) (hN : ∀ k, N k → k < base) : ∃ a c, v = .slice a P.length c ∧ OffAt a P N W := by
  obtain ⟨a, c, rfl, hc⟩ := isStrs_own h
  refine ⟨a, c, rfl, fun j t hj => ?_⟩
  obtain ⟨b, o, rfl, hcell⟩ := hc j t hj
  refine ⟨b, o, rfl, hcell, fun hn => ?_⟩
  have h1 := (h.lt b rfl).1
  have := hN b hn
  omega

set_option maxHeartbeats 8000000 in
set_option maxRecDepth 100000 in
theorem dirs1_hands (g : Nat) (ad : Option Addr) (c : Nat) (L : List Bs) (hl : L.length ≤ 1048576) (hz : ∀ x ∈ L, x.length ≤ 1000000) :
    HandsM Tryd.prog 90 #[.pointer (some ⟨g, 0, none⟩)] dirE (dirsL L) (ListAt g ad c L) := by
  intro l J M W hK hJ hS hY h0
  obtain ⟨hbx, -⟩ := hS _ _ _ h0
  have HK := Lib.hid hK
  have HJ := Lib.hid hJ
  have HS := Lib.hid hS
  have HY := Lib.hid hY
  have H0 := Lib.hid h0
  have HZ := Lib.hid hz
  clear hK hJ hS hY h0 hz
  refine (callsIn_wide (n := 5)).1 ?_
  refine callsIn_of_wp Tryd.func90 rfl trivial ?_ rfl
  simp only [Tryd.ntmps90, List.size_toArray, List.length_cons, List.length_nil, Nat.reduceAdd, Nat.reduceSub, Array.replicate_succ, Array.replicate_zero, List.push_toArray, List.append_toArray, List.nil_append, List.cons_append]
  gi_wp2
  gi_loopw [14] (fun vi wr => ∃ i : Nat, i ≤ L.length ∧ vi = .int .i64 i ∧ Hid (∃ N, J (dirsL (L.take i)) N wr) ∧ W.heap.size ≤ wr.heap.size) (fun vi _ => L.length - (RowKit.intOf vi).toNat)
  case atStart => exact ⟨0, Nat.zero_le _, rfl, ⟨M, H0.out⟩, Nat.le_refl _⟩
  case round =>
    obtain ⟨i, hi, rfl, HJi, hsz⟩ := hrel
    by_cases hlt : i < L.length
    · obtain ⟨N, hJi⟩ := HJi.out
      obtain ⟨-, hst⟩ := HS.out _ _ _ hJi
      obtain ⟨a', c', ev, hcs⟩ := hst
      obtain ⟨rfl, rfl⟩ : ad = a' ∧ c = c' := by cases ev; exact ⟨rfl, rfl⟩
      obtain ⟨b, o, rfl, hcw⟩ := hcs i (L.getD i []) (by simp [List.getD, hlt])
      have hzx := HZ.out (L.getD i []) (by simp [List.getD, hlt])
      have HPre := Lib.hid (fun k hk => dirs_pre L i hlt k hk)
      have HTk := Lib.hid (dirs_take L i hlt)
      have HJ0 := Lib.hid hJi
      clear ev hcs hJi HJi hbx
      generalize L.getD i [] = x at *
      have HSp : Hid (∀ W1 : World, CallsIn Fence.wide 4 Tryd.prog 91 #[.string (mkS x)] W1 (ListPost W1.heap.size (splitL x) W1)) := fun W1 => by
        have h := split_any (mkS x) W1 (by rw [size_mkS]; omega)
        rw [bs_mkS] at h
        exact callsIn_wide.2 h
      have hlen := split_len x
      have HPc := Lib.hid (fun p hp => split_piece x p hp)
      unfold ListPost at HSp
      unfold dirsV at HTk
      generalize splitL x = P at *
      gi_wp2_with fail
      refine ⟨trivial, (HSp.out wr).mono ?_⟩
      rintro e w1 ⟨v', rfl, ho, hb⟩
      have hN0 : ∀ k, N k → k < wr.heap.size := HK.out _ _ _ HJ0.out
      have hJ1 := HJ.out _ _ _ _ HJ0.out (Mine.below hb)
      obtain ⟨a, cp, rfl, hoff⟩ := offAt_own ho hN0
      have HJ1 := Lib.hid hJ1
      have HO1 := Lib.hid hoff
      have hs1 := Nat.le_trans hsz hb.size
      clear hb ho hN0 hJ1 hoff hcw
      gi_wp2_with fail
      gi_loopw [21] (fun vk w2 => ∃ k : Nat, k ≤ P.length ∧ vk = .int .i64 k ∧ Hid (∃ N', J (dirsL (L.take i) ++ (P.take k).flatMap dirOf) N' w2 ∧ OffAt a P N' w2) ∧ W.heap.size ≤ w2.heap.size) (fun vk _ => P.length - (RowKit.intOf vk).toNat)
      case atStart => exact ⟨0, Nat.zero_le _, rfl, ⟨N, by simpa using HJ1.out, HO1.out⟩, hs1⟩
      case round =>
        rename World => w2
        obtain ⟨k, hk, rfl, HJk, hs2⟩ := hrel
        by_cases hkl : k < P.length
        · obtain ⟨N', hJk, hof⟩ := HJk.out
          obtain ⟨b2, o2, rfl, hc2, -⟩ := hof k (P.getD k []) (by simp [List.getD, hkl])
          have hp := HPc.out (P.getD k []) (by simp [List.getD, hkl])
          have HFl := Lib.hid (flat_take P k hkl)
          have HPr := Lib.hid (HPre.out k hkl)
          have HJ2 := Lib.hid hJk
          have HO2 := Lib.hid hof
          clear hJk hof HJk HO1 HJ1 HPre
          generalize P.getD k [] = p at *
          have hcl := cut_lens 61 p
          have HCut : Hid (∀ W1 : World, CallsIn Fence.wide 4 Tryd.prog 64 #[.string (mkS p), .string ⟨#[61]⟩] W1 (fun e w' => e = .returned (.tuple #[.string (mkS (cutL 61 p).1), .string (mkS (cutL 61 p).2.1), .bool (cutL 61 p).2.2]) ∧ Below W1.heap.size W1 w')) := fun W1 => by
            have h := cut_any (mkS p) 61 W1 (by rw [size_mkS]; omega)
            rw [bs_mkS] at h
            refine callsIn_wide.2 (h.mono ?_)
            rintro e w' ⟨he, n, rfl⟩
            exact ⟨he, ⟨rfl, rfl, rfl, Nat.le_refl _, fun _ _ => rfl⟩⟩
          have hdo : dirOf p = if tokB (cutL 61 p).1 = true then [(lowL (cutL 61 p).1, unqT (cutL 61 p).2.1, (cutL 61 p).2.2)] else [] := rfl
          generalize cutL 61 p = r at *
          obtain ⟨n, t, h⟩ := r
          simp only at hcl HCut hdo
          have HTok : Hid (∀ W1 : World, CallsIn Fence.wide 4 Tryd.prog 92 #[.string (mkS n)] W1 (fun e w' => e = .returned (.bool (tokB n)) ∧ Below W1.heap.size W1 w')) := fun W1 => by
            have h := token_any (mkS n) W1 (by rw [size_mkS]; omega)
            rw [bs_mkS] at h
            exact callsIn_wide.2 h
          have HLow : Hid (∀ W1 : World, CallsIn Fence.wide 4 Tryd.prog 94 #[.string (mkS n)] W1 (fun e w' => e = .returned (.string (mkS (lowL n))) ∧ Below W1.heap.size W1 w')) := fun W1 => by
            have h := tlower_any (mkS n) W1 (by rw [size_mkS]; omega)
            rw [bs_mkS] at h
            exact callsIn_wide.2 h
          by_cases hk0 : tokB n = true
          · rw [hk0] at HTok
            rw [if_pos hk0] at hdo
            rw [hdo] at HFl HPr
            have HJB := Lib.hid (fun (w3 : World) (N2 : Nat → Prop) (s2 : List Dir) (w4 : World) (h1 : J s2 N2 w3) (h2 : Below w3.heap.size w3 w4) => HJ.out s2 N2 w3 w4 h1 (Mine.below h2))
            have hst0 : W.heap.size ≤ w2.heap.size := hs2
            clear hk0 hdo HPc
            have HBd : Hid (t.length ≤ 1000000) := by show _ ≤ _; omega
            have htl : t.length ≤ 1099511627 := by omega
            by_cases hu : unqOk t = true
            · have e1 : unqT t = unq (t.drop 1) := by unfold unqT; rw [if_pos hu]
              have HUnq : Hid (∀ W1 : World, CallsIn Fence.wide 4 Tryd.prog 93 #[.string (mkS t)] W1 (fun e w' => e = .returned (.tuple #[.string (mkS (unqT t)), .int .i64 0]) ∧ Below W1.heap.size W1 w')) := fun W1 => by
                have h := unquote_yes (mkS t) W1 (by rw [size_mkS]; exact htl) (by rw [bs_mkS]; exact hu)
                rw [bs_mkS, ← e1] at h
                exact callsIn_wide.2 h
              clear e1 hu htl
              generalize unqT t = t2 at *
              gi_wp2_with fail
              refine ⟨trivial, (HCut.out _).mono ?_⟩
              rintro e w3 ⟨rfl, hb3⟩
              have hJ3 := HJB.out _ _ _ _ HJ2.out hb3
              have HO3 := Lib.hid (HO2.out.turned (Turns.below hb3))
              have HJ3 := Lib.hid hJ3
              have hs3 := Nat.le_trans hs2 hb3.size
              clear hb3 hJ3
              gi_wp2_with fail
              refine ⟨trivial, (HTok.out _).mono ?_⟩
              rintro e w4 ⟨rfl, hb4⟩
              have hJ4 := HJB.out _ _ _ _ HJ3.out hb4
              have HO4 := Lib.hid (HO3.out.turned (Turns.below hb4))
              have HJ4 := Lib.hid hJ4
              have hs4 := Nat.le_trans hs3 hb4.size
              clear hb4 hJ4
              gi_wp2_with fail
              refine ⟨trivial, (HUnq.out _).mono ?_⟩
              rintro e w5 ⟨rfl, hb5⟩
              have hJ5 := HJB.out _ _ _ _ HJ4.out hb5
              have HO5 := Lib.hid (HO4.out.turned (Turns.below hb5))
              have HJ5 := Lib.hid hJ5
              have hs5 := Nat.le_trans hs4 hb5.size
              clear hb5 hJ5
              gi_wp2_with fail
              refine ⟨trivial, (HLow.out _).mono ?_⟩
              rintro e w6 ⟨rfl, hb6⟩
              have hJ6 := HJB.out _ _ _ _ HJ5.out hb6
              have HO6 := Lib.hid (HO5.out.turned (Turns.below hb6))
              have HJ6 := Lib.hid hJ6
              have hs6 := Nat.le_trans hs5 hb6.size
              clear hb6 hJ6
              obtain ⟨fn, tm, asg, bd, hy, hR⟩ := (HY.out _ _ N' w6 HJ6.out HPr.out).at (m := 4)
              unfold dirE argV at hy
              simp only at hy
              gi_wp2_with fail
              refine hR.mono ?_
              rintro e w7 ⟨rfl, N7, hJ7, hT7⟩
              have HJ7 := Lib.hid hJ7
              have HO7 := Lib.hid (HO6.out.turned hT7)
              have hs7 := Nat.le_trans hs6 hT7.size
              clear hJ7 hT7 hy hR
              gi_wp2_with fail
              refine ⟨⟨k + 1, hkl, by simp, ⟨N7, by rw [HFl.out, ← List.append_assoc]; exact HJ7.out, HO7.out⟩, hs7⟩, ?_⟩
              simp [RowKit.intOf]; omega
            · rw [Bool.not_eq_true] at hu
              have e1 : unqT t = t := by unfold unqT; rw [if_neg (by rw [hu]; decide)]
              have HUnq : Hid (∀ W1 : World, CallsIn Fence.wide 4 Tryd.prog 93 #[.string (mkS t)] W1 (fun e w' => e = .returned (.tuple #[.string .empty, .int .i64 4]) ∧ Below W1.heap.size W1 w')) := fun W1 =>
                callsIn_wide.2 (unquote_no (mkS t) W1 (by rw [size_mkS]; exact htl) (by rw [bs_mkS]; exact hu))
              rw [e1] at HFl HPr
              clear e1 hu htl
              gi_wp2_with fail
              refine ⟨trivial, (HCut.out _).mono ?_⟩
              rintro e w3 ⟨rfl, hb3⟩
              have hJ3 := HJB.out _ _ _ _ HJ2.out hb3
              have HO3 := Lib.hid (HO2.out.turned (Turns.below hb3))
              have HJ3 := Lib.hid hJ3
              have hs3 := Nat.le_trans hs2 hb3.size
              clear hb3 hJ3
              gi_wp2_with fail
              refine ⟨trivial, (HTok.out _).mono ?_⟩
              rintro e w4 ⟨rfl, hb4⟩
              have hJ4 := HJB.out _ _ _ _ HJ3.out hb4
              have HO4 := Lib.hid (HO3.out.turned (Turns.below hb4))
              have HJ4 := Lib.hid hJ4
              have hs4 := Nat.le_trans hs3 hb4.size
              clear hb4 hJ4
              gi_wp2_with fail
              refine ⟨trivial, (HUnq.out _).mono ?_⟩
              rintro e w5 ⟨rfl, hb5⟩
              have hJ5 := HJB.out _ _ _ _ HJ4.out hb5
              have HO5 := Lib.hid (HO4.out.turned (Turns.below hb5))
              have HJ5 := Lib.hid hJ5
              have hs5 := Nat.le_trans hs4 hb5.size
              clear hb5 hJ5
              gi_wp2_with fail
              refine ⟨trivial, (HLow.out _).mono ?_⟩
              rintro e w6 ⟨rfl, hb6⟩
              have hJ6 := HJB.out _ _ _ _ HJ5.out hb6
              have HO6 := Lib.hid (HO5.out.turned (Turns.below hb6))
              have HJ6 := Lib.hid hJ6
              have hs6 := Nat.le_trans hs5 hb6.size
              clear hb6 hJ6
              obtain ⟨fn, tm, asg, bd, hy, hR⟩ := (HY.out _ _ N' w6 HJ6.out HPr.out).at (m := 4)
              unfold dirE argV at hy
              simp only at hy
              gi_wp2_with fail
              refine hR.mono ?_
              rintro e w7 ⟨rfl, N7, hJ7, hT7⟩
              have HJ7 := Lib.hid hJ7
              have HO7 := Lib.hid (HO6.out.turned hT7)
              have hs7 := Nat.le_trans hs6 hT7.size
              clear hJ7 hT7 hy hR
              gi_wp2_with fail
              refine ⟨⟨k + 1, hkl, by simp, ⟨N7, by rw [HFl.out, ← List.append_assoc]; exact HJ7.out, HO7.out⟩, hs7⟩, ?_⟩
              simp [RowKit.intOf]; omega
          · rw [Bool.not_eq_true] at hk0
            rw [hk0] at HTok
            rw [if_neg (by rw [hk0]; decide)] at hdo
            rw [hdo, List.append_nil] at HFl
            clear HPr hdo hk0 HLow
            gi_wp2_with fail
            refine ⟨trivial, (HCut.out _).mono ?_⟩
            rintro e w3 ⟨rfl, hb3⟩
            have hJ3 := HJ.out _ _ _ _ HJ2.out (Mine.below hb3)
            have HO3 := Lib.hid (HO2.out.turned (Turns.below hb3))
            have HJ3 := Lib.hid hJ3
            have hs3 := Nat.le_trans hs2 hb3.size
            clear hb3 hJ3
            gi_wp2_with fail
            refine ⟨trivial, (HTok.out _).mono ?_⟩
            rintro e w4 ⟨rfl, hb4⟩
            have hJ4 := HJ.out _ _ _ _ HJ3.out (Mine.below hb4)
            have HO4 := Lib.hid (HO3.out.turned (Turns.below hb4))
            have HJ4 := Lib.hid hJ4
            have hs4 := Nat.le_trans hs3 hb4.size
            clear hb4 hJ4
            gi_wp2_with fail
            refine ⟨⟨k + 1, hkl, by simp, ⟨N', by rw [HFl.out]; exact HJ4.out, HO4.out⟩, hs4⟩, ?_⟩
            simp [RowKit.intOf]; omega
        · obtain rfl : k = P.length := by omega
          obtain ⟨N', hJk, -⟩ := HJk.out
          rw [List.take_length] at hJk
          have HJ2 := Lib.hid hJk
          clear hJk HJk HO1 HJ1 HPre
          gi_wp2_with fail
          refine ⟨⟨i + 1, hlt, by simp, ⟨N', by rw [HTk.out]; exact HJ2.out⟩, hs2⟩, ?_⟩
          simp [RowKit.intOf]; omega
    · obtain rfl : i = L.length := by omega
      have HJ4 := HJi.out
      rw [List.take_length] at HJ4
      have HJ5 := Lib.hid HJ4
      clear HJ4 hbx HJi
      gi_wp2
      go_end0
      exact ⟨⟨_, rfl⟩, HJ5.out⟩
end Tk
end Go.Proofs.YtdmjpfmjfffmiaaDoor
