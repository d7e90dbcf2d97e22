/- RfF RefSe EmL Args0 ArgF ArgM ArgB BasE, put together. -/
import Derived.Test.YtdlbmfgajgefdaaGreatDoorQI
import Derived.Test.YtdlbmfgajgefdaaGreatDoorQB
import Derived.Test.YtdlbmfgajgefdaaGreatDoorQG
import Derived.Deep.RegionHeld3
import Derived.Test.YtdlbmfgajgefdaaGreatDoorQF
import Derived.Test.YtdlbmfgajgefdaaGreatDoorQA
import Derived.SizedLaws
import Derived.Carry
import Derived.Deep.SlicePairs
import Derived.Lib.SmallJoins
import Derived.ProofKit
import Derived.OpenShut
import Derived.Test.YtdlbmfgajgefdaaGreatDoorQE
import Derived.Lib.LaidTab
namespace Go.Proofs.YtdlbmfgajgefdaaGreatDoor
open Go.RowKit
namespace Tk

def clhB : ByteArray := ⟨#[67, 111, 110, 116, 101, 110, 116, 45, 76, 101, 110, 103, 116, 104, 58, 32]⟩
theorem more_len (n : Nat) : moL (bs (clhB ++ mkS (digL n))) = lnL n := by
  have e : bs (clhB ++ mkS (digL n)) = nmCL ++ [58, 32] ++ digL n := by
    rw [show clhB = mkS (nmCL ++ [58, 32]) from rfl, mkS_append, bs_mkS]
  rw [e]
  unfold moL lnL
  rw [if_neg (by simp [nmCL])]
theorem more_none : moL (bs ⟨#[]⟩) = [] := rfl
def tehB : ByteArray := ⟨#[84, 114, 97, 110, 115, 102, 101, 114, 45, 69, 110, 99, 111, 100, 105, 110, 103, 58, 32, 99, 104, 117, 110, 107, 101, 100]⟩
theorem more_te : moL (bs tehB) = teL := rfl
theorem rdig_len (n : Nat) (w : World) (h : n ≤ 1000000) : Calls Tryz.prog 66 #[.int .i64 (n : Int)] w fun e w' => e = .returned (.string (mkS (digL n))) ∧ w = w' := by
  have := rdig_nat n n (Nat.le_refl _) (by omega) w
  rwa [dec_dig n n (Nat.le_refl _)] at this

set_option maxHeartbeats 16000000 in
set_option maxRecDepth 100000 in
theorem rrequest8_core (M T : ByteArray) (s : Int) (R : ByteArray) (mi : Int) (vf : Value) (B : ByteArray) (vt : Value) (G : Int) (H : Bs) (w : World) (HCk : Hid (Calls Tryz.prog 30 #[.agg (msgC M T s R mi vf B vt)] (w.alloc (.cells (msgC M T s R mi vf B vt) 24)) fun e w' => e = .returned (.int .i64 G) ∧ Below (w.heap.size + 1) (w.alloc (.cells (msgC M T s R mi vf B vt) 24)) w'))
    (HPu : Hid (∀ (W : World) (mo bo : ByteArray), Below w.heap.size w W → mo.size ≤ 1000 → bo.size ≤ 100000 → Calls Tryz.prog 75 #[.agg (msgC M T s R mi vf B vt), .string mo, .string bo] W fun e w' => e = .returned (.string (mkS (H ++ moL (bs mo) ++ [13, 10] ++ bs bo))) ∧ Below w.heap.size w w'))
    (hvf : ∃ a n c, vf = .slice a n c) (hvt : ∃ a n c, vt = .slice a n c) (hG : G = 0 ∨ G = 4 ∨ G = 6) (hBz : B.size ≤ 100000) :
    Calls Tryz.prog 24 #[.agg (msgC M T s R mi vf B vt)] w (TxPost (rqS (bs M) G H (bs B)) (rqE (bs M) G) w) := by
  have HX := Lib.hid (Box.new w 24 (msgC M T s R mi vf B vt))
  have c0 := HX.out.cell 0 _ rfl
  have c1 := HX.out.cell 1 _ rfl
  have c2 := HX.out.cell 2 _ rfl
  have c3 := HX.out.cell 3 _ rfl
  have c4 := HX.out.cell 4 _ rfl
  have c5 := HX.out.cell 5 _ rfl
  have c6 := HX.out.cell 6 _ rfl
  have c7 := HX.out.cell 7 _ rfl
  have HB0 := Lib.hid (below_alloc w (.cells (msgC M T s R mi vf B vt) 24))
  obtain ⟨a1, n1, k1, rfl⟩ := hvf
  obtain ⟨a2, n2, k2, rfl⟩ := hvt
  unfold TxPost
  unfold msgC at *
  have hcs : (G = 4 ∨ G = 6) ∨ (G = 0 ∧ bs M = []) ∨ (G = 0 ∧ bs M ≠ [] ∧ (bs B ≠ [] ∨ hasC (bs M) = true)) ∨ (G = 0 ∧ bs M ≠ [] ∧ bs B = [] ∧ hasC (bs M) = false) := by
    rcases hG with h | h | h
    · by_cases hm : bs M = []
      · exact .inr (.inl ⟨h, hm⟩)
      · by_cases hb : bs B = []
        · cases hh : hasC (bs M)
          · exact .inr (.inr (.inr ⟨h, hm, hb, rfl⟩))
          · exact .inr (.inr (.inl ⟨h, hm, .inr rfl⟩))
        · exact .inr (.inr (.inl ⟨h, hm, .inl hb⟩))
    · exact .inl (.inl h)
    · exact .inl (.inr h)
  clear hG
  rcases hcs with hg | ⟨rfl, hm⟩ | ⟨rfl, hm, hb⟩ | ⟨rfl, hm, hb, hh⟩
  · have hR : rqS (bs M) G H (bs B) = [] ∧ rqE (bs M) G = G := by
      rcases hg with rfl | rfl <;> exact ⟨rfl, rfl⟩
    rw [hR.1, hR.2]
    have hne : (G != 0) = true := by rcases hg with rfl | rfl <;> rfl
    have hne2 : (G == 0) = false := by rcases hg with rfl | rfl <;> rfl
    clear hg hR
    go_enter Tryz.func24, Tryz.ntmps24
    go_wp2_with fail
    refine HCk.out.mono ?_
    rintro e w1 ⟨rfl, hb⟩
    have HX1 := Lib.hid (HX.out.under hb (Nat.lt_succ_self _))
    have HB1 := Lib.hid (HB0.out.trans (hb.mono (Nat.le_succ _)))
    clear hb c0 c1 c2 c3 c4 c5 c6 c7
    have c0 := HX1.out.cell 0 _ rfl
    have c1 := HX1.out.cell 1 _ rfl
    have c2 := HX1.out.cell 2 _ rfl
    have c3 := HX1.out.cell 3 _ rfl
    have c4 := HX1.out.cell 4 _ rfl
    have c5 := HX1.out.cell 5 _ rfl
    have c6 := HX1.out.cell 6 _ rfl
    have c7 := HX1.out.cell 7 _ rfl
    go_wp2_with fail
    go_ret2
    exact ⟨rfl, HB1.out⟩
  · have hR : rqS (bs M) 0 H (bs B) = [] ∧ rqE (bs M) 0 = 4 := by unfold rqS rqE; simp [hm]
    rw [hR.1, hR.2]
    have hme := (bs_nil_iff M).1 hm
    subst hme
    clear hm hR
    go_enter Tryz.func24, Tryz.ntmps24
    go_wp2_with fail
    refine HCk.out.mono ?_
    rintro e w1 ⟨rfl, hb⟩
    have HX1 := Lib.hid (HX.out.under hb (Nat.lt_succ_self _))
    have HB1 := Lib.hid (HB0.out.trans (hb.mono (Nat.le_succ _)))
    clear hb c0 c1 c2 c3 c4 c5 c6 c7
    have c0 := HX1.out.cell 0 _ rfl
    have c1 := HX1.out.cell 1 _ rfl
    have c2 := HX1.out.cell 2 _ rfl
    have c3 := HX1.out.cell 3 _ rfl
    have c4 := HX1.out.cell 4 _ rfl
    have c5 := HX1.out.cell 5 _ rfl
    have c6 := HX1.out.cell 6 _ rfl
    have c7 := HX1.out.cell 7 _ rfl
    go_wp2_with fail
    go_ret2
    exact ⟨rfl, HB1.out⟩
  · have hR : rqS (bs M) 0 H (bs B) = H ++ moL (bs (clhB ++ mkS (digL B.size))) ++ [13, 10] ++ bs B ∧ rqE (bs M) 0 = 0 := by unfold rqS rqE; rw [if_neg hm, if_pos rfl, if_pos hb, more_len, length_bs]; exact ⟨rfl, rfl⟩
    rw [hR.1, hR.2]
    have hme := isE_no hm
    have HDg := Lib.hid (fun W : World => rdig_len B.size W (by omega))
    have hd := digL_le B.size (by omega)
    have hz0 : (clhB ++ mkS (digL B.size) : ByteArray).size ≤ 1000 := by rw [ByteArray.size_append, size_mkS]; show 16 + _ ≤ _; omega
    have hz1 : (mkS (digL B.size)).size ≤ 100 := by rw [size_mkS]; omega
    clear hR hd
    generalize mkS (digL B.size) = D at *
    unfold clhB at *
    have hcs2 : bs B ≠ [] ∨ (bs B = [] ∧ bs M = poB) ∨ (bs B = [] ∧ bs M = puB) ∨ (bs B = [] ∧ bs M = paB) := by
      by_cases hb0 : bs B = []
      · rcases hb with hb | hb
        · exact absurd hb0 hb
        · unfold hasC at hb
          simp only [Bool.or_eq_true, decide_eq_true_eq] at hb
          rcases hb with (hb | hb) | hb
          · exact .inr (.inl ⟨hb0, hb⟩)
          · exact .inr (.inr (.inl ⟨hb0, hb⟩))
          · exact .inr (.inr (.inr ⟨hb0, hb⟩))
      · exact .inl hb0
    clear hb
    rcases hcs2 with hb | ⟨hb, h1⟩ | ⟨hb, h1⟩ | ⟨hb, h1⟩
    · have he := isE_no hb
      clear hb hm
      go_enter Tryz.func24, Tryz.ntmps24
      go_wp2_with fail
      refine HCk.out.mono ?_
      rintro e w1 ⟨rfl, hb⟩
      have HX1 := Lib.hid (HX.out.under hb (Nat.lt_succ_self _))
      have HB1 := Lib.hid (HB0.out.trans (hb.mono (Nat.le_succ _)))
      clear hb c0 c1 c2 c3 c4 c5 c6 c7
      have c0 := HX1.out.cell 0 _ rfl
      have c1 := HX1.out.cell 1 _ rfl
      have c2 := HX1.out.cell 2 _ rfl
      have c3 := HX1.out.cell 3 _ rfl
      have c4 := HX1.out.cell 4 _ rfl
      have c5 := HX1.out.cell 5 _ rfl
      have c6 := HX1.out.cell 6 _ rfl
      have c7 := HX1.out.cell 7 _ rfl
      go_wp2_with fail
      refine (HDg.out _).mono ?_
      rintro e w2 ⟨rfl, rfl⟩
      have HP := Lib.hid (HPu.out w1 (⟨#[67, 111, 110, 116, 101, 110, 116, 45, 76, 101, 110, 103, 116, 104, 58, 32]⟩ ++ D) B HB1.out hz0 hBz)
      go_wp2_with fail
      refine HP.out.mono ?_
      rintro e w9 ⟨rfl, hb⟩
      have HB9 := Lib.hid hb
      clear hb
      go_wp2_with fail
      go_ret2
      exact ⟨by simp only [List.append_assoc, List.cons_append, List.nil_append]; rfl, HB9.out⟩
    · have he := (bs_nil_iff B).1 hb
      subst he
      have x9 : (M.toList == [80, 79, 83, 84]) = true := by rw [toList_bs, h1]; rfl
      clear hb hm h1
      go_enter Tryz.func24, Tryz.ntmps24
      go_wp2_with fail
      refine HCk.out.mono ?_
      rintro e w1 ⟨rfl, hb⟩
      have HX1 := Lib.hid (HX.out.under hb (Nat.lt_succ_self _))
      have HB1 := Lib.hid (HB0.out.trans (hb.mono (Nat.le_succ _)))
      clear hb c0 c1 c2 c3 c4 c5 c6 c7
      have c0 := HX1.out.cell 0 _ rfl
      have c1 := HX1.out.cell 1 _ rfl
      have c2 := HX1.out.cell 2 _ rfl
      have c3 := HX1.out.cell 3 _ rfl
      have c4 := HX1.out.cell 4 _ rfl
      have c5 := HX1.out.cell 5 _ rfl
      have c6 := HX1.out.cell 6 _ rfl
      have c7 := HX1.out.cell 7 _ rfl
      go_wp2_with fail
      refine (HDg.out _).mono ?_
      rintro e w2 ⟨rfl, rfl⟩
      have HP := Lib.hid (HPu.out w1 (⟨#[67, 111, 110, 116, 101, 110, 116, 45, 76, 101, 110, 103, 116, 104, 58, 32]⟩ ++ D) ⟨#[]⟩ HB1.out hz0 hBz)
      go_wp2_with fail
      refine HP.out.mono ?_
      rintro e w9 ⟨rfl, hb⟩
      have HB9 := Lib.hid hb
      clear hb
      go_wp2_with fail
      go_ret2
      exact ⟨by simp only [List.append_assoc, List.cons_append, List.nil_append]; rfl, HB9.out⟩
    · have he := (bs_nil_iff B).1 hb
      subst he
      have x9 : (M.toList == [80, 85, 84]) = true := by rw [toList_bs, h1]; rfl
      have x0 : (M.toList == [80, 79, 83, 84]) = false := by rw [toList_bs, h1]; rfl
      clear hb hm h1
      go_enter Tryz.func24, Tryz.ntmps24
      go_wp2_with fail
      refine HCk.out.mono ?_
      rintro e w1 ⟨rfl, hb⟩
      have HX1 := Lib.hid (HX.out.under hb (Nat.lt_succ_self _))
      have HB1 := Lib.hid (HB0.out.trans (hb.mono (Nat.le_succ _)))
      clear hb c0 c1 c2 c3 c4 c5 c6 c7
      have c0 := HX1.out.cell 0 _ rfl
      have c1 := HX1.out.cell 1 _ rfl
      have c2 := HX1.out.cell 2 _ rfl
      have c3 := HX1.out.cell 3 _ rfl
      have c4 := HX1.out.cell 4 _ rfl
      have c5 := HX1.out.cell 5 _ rfl
      have c6 := HX1.out.cell 6 _ rfl
      have c7 := HX1.out.cell 7 _ rfl
      go_wp2_with fail
      refine (HDg.out _).mono ?_
      rintro e w2 ⟨rfl, rfl⟩
      have HP := Lib.hid (HPu.out w1 (⟨#[67, 111, 110, 116, 101, 110, 116, 45, 76, 101, 110, 103, 116, 104, 58, 32]⟩ ++ D) ⟨#[]⟩ HB1.out hz0 hBz)
      go_wp2_with fail
      refine HP.out.mono ?_
      rintro e w9 ⟨rfl, hb⟩
      have HB9 := Lib.hid hb
      clear hb
      go_wp2_with fail
      go_ret2
      exact ⟨by simp only [List.append_assoc, List.cons_append, List.nil_append]; rfl, HB9.out⟩
    · have he := (bs_nil_iff B).1 hb
      subst he
      have x9 : (M.toList == [80, 65, 84, 67, 72]) = true := by rw [toList_bs, h1]; rfl
      have x0 : (M.toList == [80, 79, 83, 84]) = false := by rw [toList_bs, h1]; rfl
      have x1 : (M.toList == [80, 85, 84]) = false := by rw [toList_bs, h1]; rfl
      clear hb hm h1
      go_enter Tryz.func24, Tryz.ntmps24
      go_wp2_with fail
      refine HCk.out.mono ?_
      rintro e w1 ⟨rfl, hb⟩
      have HX1 := Lib.hid (HX.out.under hb (Nat.lt_succ_self _))
      have HB1 := Lib.hid (HB0.out.trans (hb.mono (Nat.le_succ _)))
      clear hb c0 c1 c2 c3 c4 c5 c6 c7
      have c0 := HX1.out.cell 0 _ rfl
      have c1 := HX1.out.cell 1 _ rfl
      have c2 := HX1.out.cell 2 _ rfl
      have c3 := HX1.out.cell 3 _ rfl
      have c4 := HX1.out.cell 4 _ rfl
      have c5 := HX1.out.cell 5 _ rfl
      have c6 := HX1.out.cell 6 _ rfl
      have c7 := HX1.out.cell 7 _ rfl
      go_wp2_with fail
      refine (HDg.out _).mono ?_
      rintro e w2 ⟨rfl, rfl⟩
      have HP := Lib.hid (HPu.out w1 (⟨#[67, 111, 110, 116, 101, 110, 116, 45, 76, 101, 110, 103, 116, 104, 58, 32]⟩ ++ D) ⟨#[]⟩ HB1.out hz0 hBz)
      go_wp2_with fail
      refine HP.out.mono ?_
      rintro e w9 ⟨rfl, hb⟩
      have HB9 := Lib.hid hb
      clear hb
      go_wp2_with fail
      go_ret2
      exact ⟨by simp only [List.append_assoc, List.cons_append, List.nil_append]; rfl, HB9.out⟩
  · have hR : rqS (bs M) 0 H (bs B) = H ++ moL (bs ⟨#[]⟩) ++ [13, 10] ++ bs B ∧ rqE (bs M) 0 = 0 := by unfold rqS rqE; rw [if_neg hm, if_pos rfl, if_neg (show ¬ (bs B ≠ [] ∨ hasC (bs M) = true) from fun h => by rcases h with h | h; exact h hb; exact absurd h (by simp [hh]))]; exact ⟨by simp [more_none], rfl⟩
    rw [hR.1, hR.2]
    have hme := isE_no hm
    have he := (bs_nil_iff B).1 hb
    subst he
    have hh2 : bs M ≠ poB ∧ bs M ≠ puB ∧ bs M ≠ paB := by
      unfold hasC at hh
      simp only [Bool.or_eq_false_iff, decide_eq_false_iff_not] at hh
      exact ⟨hh.1.1, hh.1.2, hh.2⟩
    have x0 : (M.toList == [80, 79, 83, 84]) = false := by rw [toList_bs]; exact beq_eq_false_iff_ne.2 hh2.1
    have x1 : (M.toList == [80, 85, 84]) = false := by rw [toList_bs]; exact beq_eq_false_iff_ne.2 hh2.2.1
    have x2 : (M.toList == [80, 65, 84, 67, 72]) = false := by rw [toList_bs]; exact beq_eq_false_iff_ne.2 hh2.2.2
    clear hR hm hb hh hh2
    go_enter Tryz.func24, Tryz.ntmps24
    go_wp2_with fail
    refine HCk.out.mono ?_
    rintro e w1 ⟨rfl, hb⟩
    have HX1 := Lib.hid (HX.out.under hb (Nat.lt_succ_self _))
    have HB1 := Lib.hid (HB0.out.trans (hb.mono (Nat.le_succ _)))
    clear hb c0 c1 c2 c3 c4 c5 c6 c7
    have c0 := HX1.out.cell 0 _ rfl
    have c1 := HX1.out.cell 1 _ rfl
    have c2 := HX1.out.cell 2 _ rfl
    have c3 := HX1.out.cell 3 _ rfl
    have c4 := HX1.out.cell 4 _ rfl
    have c5 := HX1.out.cell 5 _ rfl
    have c6 := HX1.out.cell 6 _ rfl
    have c7 := HX1.out.cell 7 _ rfl
    have HP := Lib.hid (HPu.out w1 ⟨#[]⟩ ⟨#[]⟩ HB1.out (by decide) hBz)
    go_wp2_with fail
    refine HP.out.mono ?_
    rintro e w9 ⟨rfl, hb⟩
    have HB9 := Lib.hid hb
    clear hb
    go_wp2_with fail
    go_ret2
    exact ⟨by simp only [List.append_assoc, List.cons_append, List.nil_append]; rfl, HB9.out⟩

set_option maxHeartbeats 16000000 in
set_option maxRecDepth 100000 in
theorem rresponse8_core (M T : ByteArray) (s : Int) (R : ByteArray) (mi : Int) (vf : Value) (B : ByteArray) (vt : Value) (N : ByteArray) (G : Int) (H : Bs) (w : World) (HCk : Hid (Calls Tryz.prog 30 #[.agg (msgC M T s R mi vf B vt)] (w.alloc (.cells (msgC M T s R mi vf B vt) 24)) fun e w' => e = .returned (.int .i64 G) ∧ Below (w.heap.size + 1) (w.alloc (.cells (msgC M T s R mi vf B vt) 24)) w'))
    (HPu : Hid (∀ (W : World) (mo bo : ByteArray), Below w.heap.size w W → mo.size ≤ 1000 → bo.size ≤ 100000 → Calls Tryz.prog 75 #[.agg (msgC M T s R mi vf B vt), .string mo, .string bo] W fun e w' => e = .returned (.string (mkS (H ++ moL (bs mo) ++ [13, 10] ++ bs bo))) ∧ Below w.heap.size w w'))
    (hvf : ∃ a n c, vf = .slice a n c) (hvt : ∃ a n c, vt = .slice a n c) (hG : G = 0 ∨ G = 4 ∨ G = 6) (hBz : B.size ≤ 100000) (hno : G = 0 → bs M = [] → noneB s = bareB [] s) :
    Calls Tryz.prog 26 #[.agg (msgC M T s R mi vf B vt), .string N] w (TxPost (anS (bs M) G H (bs B) s (bs N)) (anE (bs M) G) w) := by
  have HX := Lib.hid (Box.new w 24 (msgC M T s R mi vf B vt))
  have c0 := HX.out.cell 0 _ rfl
  have c1 := HX.out.cell 1 _ rfl
  have c2 := HX.out.cell 2 _ rfl
  have c3 := HX.out.cell 3 _ rfl
  have c4 := HX.out.cell 4 _ rfl
  have c5 := HX.out.cell 5 _ rfl
  have c6 := HX.out.cell 6 _ rfl
  have c7 := HX.out.cell 7 _ rfl
  have HB0 := Lib.hid (below_alloc w (.cells (msgC M T s R mi vf B vt) 24))
  obtain ⟨a1, n1, k1, rfl⟩ := hvf
  obtain ⟨a2, n2, k2, rfl⟩ := hvt
  unfold TxPost
  unfold msgC at *
  have HC := Lib.hid (fun W : World => rnone_any s W)
  have HDg := Lib.hid (fun W : World => rdig_len B.size W (by omega))
  have hd := digL_le B.size (by omega)
  have hz0 : (clhB ++ mkS (digL B.size) : ByteArray).size ≤ 1000 := by rw [ByteArray.size_append, size_mkS]; show 16 + _ ≤ _; omega
  have hz1 : (mkS (digL B.size)).size ≤ 100 := by rw [size_mkS]; omega
  have hml := more_len B.size
  clear hd
  have hcs : (G = 4 ∨ G = 6) ∨ (G = 0 ∧ bs M ≠ []) ∨ (G = 0 ∧ bs M = [] ∧ bareB [] s = true) ∨ (G = 0 ∧ bs M = [] ∧ bareB [] s = false ∧ bs N = heB ∧ bs B ≠ []) ∨ (G = 0 ∧ bs M = [] ∧ bareB [] s = false ∧ bs N = heB ∧ bs B = []) ∨ (G = 0 ∧ bs M = [] ∧ bareB [] s = false ∧ bs N ≠ heB) := by
    rcases hG with h | h | h
    · by_cases hm : bs M = []
      · cases hh : bareB [] s
        · by_cases hn : bs N = heB
          · by_cases hb : bs B = []
            · exact .inr (.inr (.inr (.inr (.inl ⟨h, hm, rfl, hn, hb⟩))))
            · exact .inr (.inr (.inr (.inl ⟨h, hm, rfl, hn, hb⟩)))
          · exact .inr (.inr (.inr (.inr (.inr ⟨h, hm, rfl, hn⟩))))
        · exact .inr (.inr (.inl ⟨h, hm, rfl⟩))
      · exact .inr (.inl ⟨h, hm⟩)
    · exact .inl (.inl h)
    · exact .inl (.inr h)
  clear hG
  rcases hcs with hg | ⟨rfl, hm⟩ | ⟨rfl, hm, hh⟩ | ⟨rfl, hm, hh, hn, hb⟩ | ⟨rfl, hm, hh, hn, hb⟩ | ⟨rfl, hm, hh, hn⟩
  · have hR : anS (bs M) G H (bs B) s (bs N) = [] ∧ anE (bs M) G = G := by
      rcases hg with rfl | rfl <;> exact ⟨rfl, rfl⟩
    rw [hR.1, hR.2]
    have hne : (G != 0) = true := by rcases hg with rfl | rfl <;> rfl
    have hne2 : (G == 0) = false := by rcases hg with rfl | rfl <;> rfl
    clear hg hR
    go_enter Tryz.func26, Tryz.ntmps26
    go_wp2_with fail
    refine HCk.out.mono ?_
    rintro e w1 ⟨rfl, hb⟩
    have HX1 := Lib.hid (HX.out.under hb (Nat.lt_succ_self _))
    have HB1 := Lib.hid (HB0.out.trans (hb.mono (Nat.le_succ _)))
    clear hb c0 c1 c2 c3 c4 c5 c6 c7
    have c0 := HX1.out.cell 0 _ rfl
    have c1 := HX1.out.cell 1 _ rfl
    have c2 := HX1.out.cell 2 _ rfl
    have c3 := HX1.out.cell 3 _ rfl
    have c4 := HX1.out.cell 4 _ rfl
    have c5 := HX1.out.cell 5 _ rfl
    have c6 := HX1.out.cell 6 _ rfl
    have c7 := HX1.out.cell 7 _ rfl
    go_wp2_with fail
    go_ret2
    exact ⟨rfl, HB1.out⟩
  · have hR : anS (bs M) 0 H (bs B) s (bs N) = [] ∧ anE (bs M) 0 = 4 := by unfold anS anE; simp [hm]
    rw [hR.1, hR.2]
    have hme := isE_no hm
    clear hm hR
    go_enter Tryz.func26, Tryz.ntmps26
    go_wp2_with fail
    refine HCk.out.mono ?_
    rintro e w1 ⟨rfl, hb⟩
    have HX1 := Lib.hid (HX.out.under hb (Nat.lt_succ_self _))
    have HB1 := Lib.hid (HB0.out.trans (hb.mono (Nat.le_succ _)))
    clear hb c0 c1 c2 c3 c4 c5 c6 c7
    have c0 := HX1.out.cell 0 _ rfl
    have c1 := HX1.out.cell 1 _ rfl
    have c2 := HX1.out.cell 2 _ rfl
    have c3 := HX1.out.cell 3 _ rfl
    have c4 := HX1.out.cell 4 _ rfl
    have c5 := HX1.out.cell 5 _ rfl
    have c6 := HX1.out.cell 6 _ rfl
    have c7 := HX1.out.cell 7 _ rfl
    go_wp2_with fail
    go_ret2
    exact ⟨rfl, HB1.out⟩
  · have hR : anS (bs M) 0 H (bs B) s (bs N) = H ++ moL (bs ⟨#[]⟩) ++ [13, 10] ++ bs ⟨#[]⟩ ∧ anE (bs M) 0 = 0 := by
      unfold anS anE; rw [if_pos rfl, if_pos hm, if_pos rfl, if_pos hh, if_pos (.inl hh)]
      exact ⟨by simp [show bs ⟨#[]⟩ = [] from rfl, moL], rfl⟩
    rw [hR.1, hR.2]
    have hno := hno rfl hm
    rw [hh] at hno
    rw [hno] at HC
    have hme := (bs_nil_iff M).1 hm
    subst hme
    have hN : ((N.toList == [72, 69, 65, 68]) = true ∧ bs N = heB) ∨ ((N.toList == [72, 69, 65, 68]) = false ∧ bs N ≠ heB) := by
      by_cases h : bs N = heB
      · exact .inl ⟨by rw [toList_bs, h]; rfl, h⟩
      · exact .inr ⟨by rw [toList_bs]; exact beq_eq_false_iff_ne.2 h, h⟩
    have hBb : B = ⟨#[]⟩ ∨ B.toList.isEmpty = false := by
      by_cases h : bs B = []
      · exact .inl ((bs_nil_iff B).1 h)
      · exact .inr (isE_no h)
    clear hm hR hh hno hml
    generalize mkS (digL B.size) = D at *
    unfold clhB at *
    rcases hN with ⟨hN, -⟩ | ⟨hN, -⟩ <;> rcases hBb with rfl | hBb
    all_goals
      have HP := Lib.hid (fun (W : World) (hb : Below w.heap.size w W) => HPu.out W ⟨#[]⟩ ⟨#[]⟩ hb (by decide) (by decide))
      clear HPu
      go_enter Tryz.func26, Tryz.ntmps26
      go_wp2_with fail
      refine HCk.out.mono ?_
      rintro e w1 ⟨rfl, hb⟩
      have HX1 := Lib.hid (HX.out.under hb (Nat.lt_succ_self _))
      have HB1 := Lib.hid (HB0.out.trans (hb.mono (Nat.le_succ _)))
      clear hb c0 c1 c2 c3 c4 c5 c6 c7
      have c0 := HX1.out.cell 0 _ rfl
      have c1 := HX1.out.cell 1 _ rfl
      have c2 := HX1.out.cell 2 _ rfl
      have c3 := HX1.out.cell 3 _ rfl
      have c4 := HX1.out.cell 4 _ rfl
      have c5 := HX1.out.cell 5 _ rfl
      have c6 := HX1.out.cell 6 _ rfl
      have c7 := HX1.out.cell 7 _ rfl
      go_wp2_with fail
      go_quiet (first | (go_at_call 66; refine Calls.quiet_of_same (HDg.out _)) | (go_at_call 66; refine Calls.quiet_of_same ((HDg.out _).mono fun _ _ h => ⟨h.1, h.2.symm⟩)))
      go_wp2_with fail
      refine (HC.out _).mono ?_
      rintro e w3 ⟨rfl, rfl⟩
      go_wp2_with fail
      refine (HP.out _ (below_some_draws HB1.out _)).mono ?_
      rintro e w9 ⟨rfl, hb⟩
      have HB9 := Lib.hid hb
      clear hb
      go_wp2_with fail
      go_ret2
      exact ⟨by simp only [List.append_assoc, List.cons_append, List.nil_append]; rfl, HB9.out⟩
  · have hR : anS (bs M) 0 H (bs B) s (bs N) = H ++ moL (bs (clhB ++ mkS (digL B.size))) ++ [13, 10] ++ bs ⟨#[]⟩ ∧ anE (bs M) 0 = 0 := by
      unfold anS anE; rw [if_pos rfl, if_pos hm, if_pos rfl, if_neg (by simp [hh]), if_neg (fun h => hb h.2), if_pos (.inr hn), length_bs, hml]
      exact ⟨rfl, rfl⟩
    rw [hR.1, hR.2]
    have hno := hno rfl hm
    rw [hh] at hno
    rw [hno] at HC
    have hme := (bs_nil_iff M).1 hm
    subst hme
    have he := isE_no hb
    have hne : (N.toList == [72, 69, 65, 68]) = true := by rw [toList_bs, hn]; rfl
    clear hm hR hh hno hml hn hb
    generalize mkS (digL B.size) = D at *
    unfold clhB at *
    have HP := Lib.hid (fun (W : World) (hb : Below w.heap.size w W) => HPu.out W (⟨#[67, 111, 110, 116, 101, 110, 116, 45, 76, 101, 110, 103, 116, 104, 58, 32]⟩ ++ D) ⟨#[]⟩ hb hz0 (by decide))
    clear HPu
    go_enter Tryz.func26, Tryz.ntmps26
    go_wp2_with fail
    refine HCk.out.mono ?_
    rintro e w1 ⟨rfl, hb⟩
    have HX1 := Lib.hid (HX.out.under hb (Nat.lt_succ_self _))
    have HB1 := Lib.hid (HB0.out.trans (hb.mono (Nat.le_succ _)))
    clear hb c0 c1 c2 c3 c4 c5 c6 c7
    have c0 := HX1.out.cell 0 _ rfl
    have c1 := HX1.out.cell 1 _ rfl
    have c2 := HX1.out.cell 2 _ rfl
    have c3 := HX1.out.cell 3 _ rfl
    have c4 := HX1.out.cell 4 _ rfl
    have c5 := HX1.out.cell 5 _ rfl
    have c6 := HX1.out.cell 6 _ rfl
    have c7 := HX1.out.cell 7 _ rfl
    go_wp2_with fail
    go_quiet (first | (go_at_call 66; refine Calls.quiet_of_same (HDg.out _)) | (go_at_call 66; refine Calls.quiet_of_same ((HDg.out _).mono fun _ _ h => ⟨h.1, h.2.symm⟩)))
    go_wp2_with fail
    refine (HC.out _).mono ?_
    rintro e w3 ⟨rfl, rfl⟩
    go_wp2_with fail
    refine (HP.out _ (below_some_draws HB1.out _)).mono ?_
    rintro e w9 ⟨rfl, hb⟩
    have HB9 := Lib.hid hb
    clear hb
    go_wp2_with fail
    go_ret2
    exact ⟨by simp only [List.append_assoc, List.cons_append, List.nil_append]; rfl, HB9.out⟩
  · have hR : anS (bs M) 0 H (bs B) s (bs N) = H ++ moL (bs ⟨#[]⟩) ++ [13, 10] ++ bs ⟨#[]⟩ ∧ anE (bs M) 0 = 0 := by
      unfold anS anE; rw [if_pos rfl, if_pos hm, if_pos rfl, if_neg (by simp [hh]), if_pos ⟨hn, hb⟩, if_pos (.inr hn)]
      exact ⟨by simp [show bs ⟨#[]⟩ = [] from rfl, moL], rfl⟩
    rw [hR.1, hR.2]
    have hno := hno rfl hm
    rw [hh] at hno
    rw [hno] at HC
    have hme := (bs_nil_iff M).1 hm
    subst hme
    have he := (bs_nil_iff B).1 hb
    subst he
    have hne : (N.toList == [72, 69, 65, 68]) = true := by rw [toList_bs, hn]; rfl
    clear hm hR hh hno hml hn hb
    generalize mkS (digL (ByteArray.mk #[]).size) = D at *
    unfold clhB at *
    have HP := Lib.hid (fun (W : World) (hb : Below w.heap.size w W) => HPu.out W ⟨#[]⟩ ⟨#[]⟩ hb (by decide) (by decide))
    clear HPu
    go_enter Tryz.func26, Tryz.ntmps26
    go_wp2_with fail
    refine HCk.out.mono ?_
    rintro e w1 ⟨rfl, hb⟩
    have HX1 := Lib.hid (HX.out.under hb (Nat.lt_succ_self _))
    have HB1 := Lib.hid (HB0.out.trans (hb.mono (Nat.le_succ _)))
    clear hb c0 c1 c2 c3 c4 c5 c6 c7
    have c0 := HX1.out.cell 0 _ rfl
    have c1 := HX1.out.cell 1 _ rfl
    have c2 := HX1.out.cell 2 _ rfl
    have c3 := HX1.out.cell 3 _ rfl
    have c4 := HX1.out.cell 4 _ rfl
    have c5 := HX1.out.cell 5 _ rfl
    have c6 := HX1.out.cell 6 _ rfl
    have c7 := HX1.out.cell 7 _ rfl
    go_wp2_with fail
    go_quiet (first | (go_at_call 66; refine Calls.quiet_of_same (HDg.out _)) | (go_at_call 66; refine Calls.quiet_of_same ((HDg.out _).mono fun _ _ h => ⟨h.1, h.2.symm⟩)))
    go_wp2_with fail
    refine (HC.out _).mono ?_
    rintro e w3 ⟨rfl, rfl⟩
    go_wp2_with fail
    refine (HP.out _ (below_some_draws HB1.out _)).mono ?_
    rintro e w9 ⟨rfl, hb⟩
    have HB9 := Lib.hid hb
    clear hb
    go_wp2_with fail
    go_ret2
    exact ⟨by simp only [List.append_assoc, List.cons_append, List.nil_append]; rfl, HB9.out⟩
  · have hR : anS (bs M) 0 H (bs B) s (bs N) = H ++ moL (bs (clhB ++ mkS (digL B.size))) ++ [13, 10] ++ bs B ∧ anE (bs M) 0 = 0 := by
      unfold anS anE; rw [if_pos rfl, if_pos hm, if_pos rfl, if_neg (by simp [hh]), if_neg (fun h => hn h.1), if_neg (fun h => by rcases h with h | h; exact absurd h (by simp [hh]); exact hn h), length_bs, hml]
      exact ⟨rfl, rfl⟩
    rw [hR.1, hR.2]
    have hno := hno rfl hm
    rw [hh] at hno
    rw [hno] at HC
    have hme := (bs_nil_iff M).1 hm
    subst hme
    have hne : (N.toList == [72, 69, 65, 68]) = false := by rw [toList_bs]; exact beq_eq_false_iff_ne.2 hn
    clear hm hR hh hno hml hn
    generalize mkS (digL B.size) = D at *
    unfold clhB at *
    have HP := Lib.hid (fun (W : World) (hb : Below w.heap.size w W) => HPu.out W (⟨#[67, 111, 110, 116, 101, 110, 116, 45, 76, 101, 110, 103, 116, 104, 58, 32]⟩ ++ D) B hb hz0 hBz)
    clear HPu
    go_enter Tryz.func26, Tryz.ntmps26
    go_wp2_with fail
    refine HCk.out.mono ?_
    rintro e w1 ⟨rfl, hb⟩
    have HX1 := Lib.hid (HX.out.under hb (Nat.lt_succ_self _))
    have HB1 := Lib.hid (HB0.out.trans (hb.mono (Nat.le_succ _)))
    clear hb c0 c1 c2 c3 c4 c5 c6 c7
    have c0 := HX1.out.cell 0 _ rfl
    have c1 := HX1.out.cell 1 _ rfl
    have c2 := HX1.out.cell 2 _ rfl
    have c3 := HX1.out.cell 3 _ rfl
    have c4 := HX1.out.cell 4 _ rfl
    have c5 := HX1.out.cell 5 _ rfl
    have c6 := HX1.out.cell 6 _ rfl
    have c7 := HX1.out.cell 7 _ rfl
    go_wp2_with fail
    go_quiet (first | (go_at_call 66; refine Calls.quiet_of_same (HDg.out _)) | (go_at_call 66; refine Calls.quiet_of_same ((HDg.out _).mono fun _ _ h => ⟨h.1, h.2.symm⟩)))
    go_wp2_with fail
    refine (HC.out _).mono ?_
    rintro e w3 ⟨rfl, rfl⟩
    go_wp2_with fail
    refine (HP.out _ (below_some_draws HB1.out _)).mono ?_
    rintro e w9 ⟨rfl, hb⟩
    have HB9 := Lib.hid hb
    clear hb
    go_wp2_with fail
    go_ret2
    exact ⟨by simp only [List.append_assoc, List.cons_append, List.nil_append]; rfl, HB9.out⟩

set_option maxHeartbeats 16000000 in
set_option maxRecDepth 100000 in
theorem rchunked8_core (M T : ByteArray) (s : Int) (R : ByteArray) (mi : Int) (vf : Value) (B : ByteArray) (vt : Value) (size : Int) (G : Int) (H Z : Bs) (zE : Int) (w : World) (HCk : Hid (Calls Tryz.prog 30 #[.agg (msgC M T s R mi vf B vt)] (w.alloc (.cells (msgC M T s R mi vf B vt) 24)) fun e w' => e = .returned (.int .i64 G) ∧ Below (w.heap.size + 1) (w.alloc (.cells (msgC M T s R mi vf B vt) 24)) w'))
    (HPu : Hid (∀ (W : World) (mo bo : ByteArray), Below w.heap.size w W → mo.size ≤ 1000 → bo.size ≤ 100000 → Calls Tryz.prog 75 #[.agg (msgC M T s R mi vf B vt), .string mo, .string bo] W fun e w' => e = .returned (.string (mkS (H ++ moL (bs mo) ++ [13, 10] ++ bs bo))) ∧ Below w.heap.size w w'))
    (hvf : ∃ a n c, vf = .slice a n c) (hvt : ∃ a n c, vt = .slice a n c) (hG : G = 0 ∨ G = 4 ∨ G = 6) (hno : G = 0 → bs M = [] → noneB s = bareB [] s) (hno2 : G = 0 → bs M ≠ [] → bareB [] s = false)
    (HEn : Hid (∀ W, Below w.heap.size w W → Calls Tryz.prog 80 #[.string B, .int .i64 size, vt] W fun e w' => e = .returned (.tuple #[.string (mkS Z), .int .i64 zE]) ∧ Below W.heap.size W w')) (hZ : Z.length ≤ 100000) :
    Calls Tryz.prog 28 #[.agg (msgC M T s R mi vf B vt), .int .i64 size] w (TxPost (if ckE mi G s = 0 then H ++ teL ++ [13, 10] ++ Z else []) (ckE mi G s) w) := by
  have HX := Lib.hid (Box.new w 24 (msgC M T s R mi vf B vt))
  have c0 := HX.out.cell 0 _ rfl
  have c1 := HX.out.cell 1 _ rfl
  have c2 := HX.out.cell 2 _ rfl
  have c3 := HX.out.cell 3 _ rfl
  have c4 := HX.out.cell 4 _ rfl
  have c5 := HX.out.cell 5 _ rfl
  have c6 := HX.out.cell 6 _ rfl
  have c7 := HX.out.cell 7 _ rfl
  have HB0 := Lib.hid (below_alloc w (.cells (msgC M T s R mi vf B vt) 24))
  obtain ⟨a1, n1, k1, rfl⟩ := hvf
  obtain ⟨a2, n2, k2, rfl⟩ := hvt
  unfold TxPost
  unfold msgC at *
  have HC := Lib.hid (fun W : World => rnone_any s W)
  have hZz : (mkS Z).size ≤ 100000 := by rw [size_mkS]; exact hZ
  have hcs : (G = 4 ∨ G = 6) ∨ (G = 0 ∧ mi = 0) ∨ (G = 0 ∧ mi ≠ 0 ∧ bs M = [] ∧ bareB [] s = true) ∨ (G = 0 ∧ mi ≠ 0 ∧ bs M = [] ∧ bareB [] s = false) ∨ (G = 0 ∧ mi ≠ 0 ∧ bs M ≠ []) := by
    rcases hG with h | h | h
    · by_cases hm : mi = 0
      · exact .inr (.inl ⟨h, hm⟩)
      · by_cases hM : bs M = []
        · cases hh : bareB [] s
          · exact .inr (.inr (.inr (.inl ⟨h, hm, hM, rfl⟩)))
          · exact .inr (.inr (.inl ⟨h, hm, hM, rfl⟩))
        · exact .inr (.inr (.inr (.inr ⟨h, hm, hM⟩)))
    · exact .inl (.inl h)
    · exact .inl (.inr h)
  clear hG hZ
  rcases hcs with hg | ⟨rfl, rfl⟩ | ⟨rfl, hm, hM, hh⟩ | ⟨rfl, hm, hM, hh⟩ | ⟨rfl, hm, hM⟩
  · have hR : ckE mi G s = G := by rcases hg with rfl | rfl <;> rfl
    have hne : (G != 0) = true := by rcases hg with rfl | rfl <;> rfl
    have hne3 : (G == 0) = false := by rcases hg with rfl | rfl <;> rfl
    have hne2 : G ≠ 0 := by rcases hg with rfl | rfl <;> decide
    rw [hR, if_neg hne2]
    clear hg hR hne2 hno hno2
    go_enter Tryz.func28, Tryz.ntmps28
    go_wp2_with fail
    refine HCk.out.mono ?_
    rintro e w1 ⟨rfl, hb⟩
    have HX1 := Lib.hid (HX.out.under hb (Nat.lt_succ_self _))
    have HB1 := Lib.hid (HB0.out.trans (hb.mono (Nat.le_succ _)))
    clear hb c0 c1 c2 c3 c4 c5 c6 c7
    have c0 := HX1.out.cell 0 _ rfl
    have c1 := HX1.out.cell 1 _ rfl
    have c2 := HX1.out.cell 2 _ rfl
    have c3 := HX1.out.cell 3 _ rfl
    have c4 := HX1.out.cell 4 _ rfl
    have c5 := HX1.out.cell 5 _ rfl
    have c6 := HX1.out.cell 6 _ rfl
    have c7 := HX1.out.cell 7 _ rfl
    go_wp2_with fail
    go_ret2
    exact ⟨rfl, HB1.out⟩
  · have hR : ckE 0 0 s = 4 := by unfold ckE; rw [if_pos rfl, if_pos (.inl rfl)]
    rw [hR, if_neg (by decide)]
    clear hR hno hno2
    go_enter Tryz.func28, Tryz.ntmps28
    go_wp2_with fail
    refine HCk.out.mono ?_
    rintro e w1 ⟨rfl, hb⟩
    have HX1 := Lib.hid (HX.out.under hb (Nat.lt_succ_self _))
    have HB1 := Lib.hid (HB0.out.trans (hb.mono (Nat.le_succ _)))
    clear hb c0 c1 c2 c3 c4 c5 c6 c7
    have c0 := HX1.out.cell 0 _ rfl
    have c1 := HX1.out.cell 1 _ rfl
    have c2 := HX1.out.cell 2 _ rfl
    have c3 := HX1.out.cell 3 _ rfl
    have c4 := HX1.out.cell 4 _ rfl
    have c5 := HX1.out.cell 5 _ rfl
    have c6 := HX1.out.cell 6 _ rfl
    have c7 := HX1.out.cell 7 _ rfl
    go_wp2_with fail
    go_ret2
    exact ⟨rfl, HB1.out⟩
  · have hR : ckE mi 0 s = 4 := by unfold ckE; rw [if_pos rfl, if_pos (.inr hh)]
    have hne : (mi == 0) = false := by simp [hm]
    have hno := hno rfl hM
    rw [hh] at hno
    rw [hno] at HC
    have hme := (bs_nil_iff M).1 hM
    subst hme
    rw [hR, if_neg (by decide)]
    clear hR hm hh hM hno hno2
    go_enter Tryz.func28, Tryz.ntmps28
    go_wp2_with fail
    refine HCk.out.mono ?_
    rintro e w1 ⟨rfl, hb⟩
    have HX1 := Lib.hid (HX.out.under hb (Nat.lt_succ_self _))
    have HB1 := Lib.hid (HB0.out.trans (hb.mono (Nat.le_succ _)))
    clear hb c0 c1 c2 c3 c4 c5 c6 c7
    have c0 := HX1.out.cell 0 _ rfl
    have c1 := HX1.out.cell 1 _ rfl
    have c2 := HX1.out.cell 2 _ rfl
    have c3 := HX1.out.cell 3 _ rfl
    have c4 := HX1.out.cell 4 _ rfl
    have c5 := HX1.out.cell 5 _ rfl
    have c6 := HX1.out.cell 6 _ rfl
    have c7 := HX1.out.cell 7 _ rfl
    go_wp2_with fail
    refine (HC.out _).mono ?_
    rintro e w2 ⟨rfl, rfl⟩
    go_wp2_with fail
    go_ret2
    exact ⟨rfl, HB1.out⟩
  · have hR : ckE mi 0 s = 0 := by unfold ckE; rw [if_pos rfl, if_neg (fun h => by rcases h with h | h; exact hm h; exact absurd h (by simp [hh]))]
    have hne : (mi == 0) = false := by simp [hm]
    have hno := hno rfl hM
    rw [hh] at hno
    rw [hno] at HC
    have hme := (bs_nil_iff M).1 hM
    subst hme
    rw [hR, if_pos rfl]
    clear hR hm hh hM hno hno2
    go_enter Tryz.func28, Tryz.ntmps28
    go_wp2_with fail
    refine HCk.out.mono ?_
    rintro e w1 ⟨rfl, hb⟩
    have HX1 := Lib.hid (HX.out.under hb (Nat.lt_succ_self _))
    have HB1 := Lib.hid (HB0.out.trans (hb.mono (Nat.le_succ _)))
    clear hb c0 c1 c2 c3 c4 c5 c6 c7
    have c0 := HX1.out.cell 0 _ rfl
    have c1 := HX1.out.cell 1 _ rfl
    have c2 := HX1.out.cell 2 _ rfl
    have c3 := HX1.out.cell 3 _ rfl
    have c4 := HX1.out.cell 4 _ rfl
    have c5 := HX1.out.cell 5 _ rfl
    have c6 := HX1.out.cell 6 _ rfl
    have c7 := HX1.out.cell 7 _ rfl
    go_wp2_with fail
    refine (HC.out _).mono ?_
    rintro e w2 ⟨rfl, rfl⟩
    go_wp2_with fail
    refine (HEn.out _ HB1.out).mono ?_
    rintro e w3 ⟨rfl, hb⟩
    have HX3 := Lib.hid (HX1.out.later hb)
    have HB3 := Lib.hid (HB1.out.trans (hb.mono HB1.out.size))
    clear hb c0 c1 c2 c3 c4 c5 c6 c7
    have c0 := HX3.out.cell 0 _ rfl
    have c1 := HX3.out.cell 1 _ rfl
    have c2 := HX3.out.cell 2 _ rfl
    have c3 := HX3.out.cell 3 _ rfl
    have c4 := HX3.out.cell 4 _ rfl
    have c5 := HX3.out.cell 5 _ rfl
    have c6 := HX3.out.cell 6 _ rfl
    have c7 := HX3.out.cell 7 _ rfl
    have HP := Lib.hid (HPu.out w3 tehB (mkS Z) HB3.out (by decide) hZz)
    rw [more_te, bs_mkS] at HP
    unfold tehB at HP
    go_wp2_with fail
    refine HP.out.mono ?_
    rintro e w9 ⟨rfl, hb⟩
    have HB9 := Lib.hid hb
    clear hb
    go_wp2_with fail
    go_ret2
    exact ⟨by simp only [List.append_assoc, List.cons_append, List.nil_append]; rfl, HB9.out⟩
  · have hh := hno2 rfl hM
    have hR : ckE mi 0 s = 0 := by unfold ckE; rw [if_pos rfl, if_neg (fun h => by rcases h with h | h; exact hm h; exact absurd h (by simp [hh]))]
    have hne : (mi == 0) = false := by simp [hm]
    have hme := isE_no hM
    rw [hR, if_pos rfl]
    clear hR hm hh hM hno hno2
    go_enter Tryz.func28, Tryz.ntmps28
    go_wp2_with fail
    refine HCk.out.mono ?_
    rintro e w1 ⟨rfl, hb⟩
    have HX1 := Lib.hid (HX.out.under hb (Nat.lt_succ_self _))
    have HB1 := Lib.hid (HB0.out.trans (hb.mono (Nat.le_succ _)))
    clear hb c0 c1 c2 c3 c4 c5 c6 c7
    have c0 := HX1.out.cell 0 _ rfl
    have c1 := HX1.out.cell 1 _ rfl
    have c2 := HX1.out.cell 2 _ rfl
    have c3 := HX1.out.cell 3 _ rfl
    have c4 := HX1.out.cell 4 _ rfl
    have c5 := HX1.out.cell 5 _ rfl
    have c6 := HX1.out.cell 6 _ rfl
    have c7 := HX1.out.cell 7 _ rfl
    go_wp2_with fail
    refine (HEn.out _ HB1.out).mono ?_
    rintro e w3 ⟨rfl, hb⟩
    have HX3 := Lib.hid (HX1.out.later hb)
    have HB3 := Lib.hid (HB1.out.trans (hb.mono HB1.out.size))
    clear hb c0 c1 c2 c3 c4 c5 c6 c7
    have c0 := HX3.out.cell 0 _ rfl
    have c1 := HX3.out.cell 1 _ rfl
    have c2 := HX3.out.cell 2 _ rfl
    have c3 := HX3.out.cell 3 _ rfl
    have c4 := HX3.out.cell 4 _ rfl
    have c5 := HX3.out.cell 5 _ rfl
    have c6 := HX3.out.cell 6 _ rfl
    have c7 := HX3.out.cell 7 _ rfl
    have HP := Lib.hid (HPu.out w3 tehB (mkS Z) HB3.out (by decide) hZz)
    rw [more_te, bs_mkS] at HP
    unfold tehB at HP
    go_wp2_with fail
    refine HP.out.mono ?_
    rintro e w9 ⟨rfl, hb⟩
    have HB9 := Lib.hid hb
    clear hb
    go_wp2_with fail
    go_ret2
    exact ⟨by simp only [List.append_assoc, List.cons_append, List.nil_append]; rfl, HB9.out⟩

theorem flE_res {M T : Bs} {s : Int} {R : Bs} {mi : Int} (hM : M = []) (h : flE M T s R mi = 0) : noneB s = bareB [] s := by
  unfold flE at h
  rw [if_pos hM] at h
  split at h
  · unfold slE at h
    split at h
    · rename_i hb
      unfold slB sInI at hb
      simp only [Bool.and_eq_true, decide_eq_true_eq] at hb
      have h1 := hb.2.1
      unfold noneB bareB
      by_cases h2 : s < 200
      · have h3 : s ≤ 199 := by omega
        simp [h2, h3, h1.1]
      · have h3 : ¬ s ≤ 199 := by omega
        simp [h2, h3]
    · omega
  · omega
theorem flE_req {M T : Bs} {s : Int} {R : Bs} {mi : Int} (hM : M ≠ []) (h : flE M T s R mi = 0) : bareB [] s = false := by
  unfold flE at h
  rw [if_neg hM] at h
  split at h
  · rename_i hs
    rw [hs.1]; decide
  · omega
theorem hdE_zero {M T : Bs} {s : Int} {R : Bs} {mi : Int} {l tl : List (Bs × Bs)} (h : hdE M T s R mi l tl = 0) : flE M T s R mi = 0 ∧ okFs l = true ∧ okFs tl = true ∧ endB l = false := by
  unfold hdE at h
  split at h
  · rename_i hc
    split at h
    · omega
    · rename_i he
      exact ⟨hc.1, hc.2.1, hc.2.2, by simpa using he⟩
  · omega
theorem hdW_zero {M T : Bs} {s : Int} {R : Bs} {mi : Int} {l tl : List (Bs × Bs)} (h : hdE M T s R mi l tl = 0) : hdW M T s R mi l tl = flS M T s R mi ++ [13, 10] ++ byN l := by
  unfold hdW
  rw [if_pos h]
  have := (hdE_zero h).2.1
  unfold hdS byN
  rw [this]; rfl

/-- what is asked of a message that is gone through -/
structure Fits (M T R B : ByteArray) (l tl : List (Bs × Bs)) : Prop where
  hz : sumF l ≤ 90000
  hl : l.length ≤ 90000
  hzt : sumF tl ≤ 90000
  hlt : tl.length ≤ 90000
  hM : M.size + T.size + R.size ≤ 90000
  hB : B.size ≤ 400

theorem rtx_of {f : Nat} {args : Array Value} {S S' : Bs} {E : Int} {w : World} (h : Calls Tryz.prog f args w (TxPost S E w)) (e : S = S') : Calls Tryz.prog f args w (TxPost S' E w) := e ▸ h

theorem rck8 (M T : ByteArray) (s : Int) (R : ByteArray) (mi : Int) (vf : Value) (B : ByteArray) (vt : Value) (l tl : List (Bs × Bs)) (w : World) (hs : IsFlds w vf l) (ht : IsFlds w vt tl) (hF : Fits M T R B l tl) :
    Calls Tryz.prog 30 #[.agg (msgC M T s R mi vf B vt)] (w.alloc (.cells (msgC M T s R mi vf B vt) 24)) fun e w' => e = .returned (.int .i64 (hdE (bs M) (bs T) s (bs R) mi l tl)) ∧ Below (w.heap.size + 1) (w.alloc (.cells (msgC M T s R mi vf B vt) 24)) w' := by
  have h := rcheck8_any M T s R mi vf B vt l tl (w.alloc (.cells (msgC M T s R mi vf B vt) 24)) (isFlds_alloc hs _) (isFlds_alloc ht _) hF.hz hF.hl hF.hzt hF.hlt hF.hM
  have hs1 : (w.alloc (.cells (msgC M T s R mi vf B vt) 24)).heap.size = w.heap.size + 1 := by simp
  rw [hs1] at h
  exact h
theorem rpu8 (M T : ByteArray) (s : Int) (R : ByteArray) (mi : Int) (vf : Value) (B : ByteArray) (vt : Value) (l tl : List (Bs × Bs)) (w : World) (hs : IsFlds w vf l) (ht : IsFlds w vt tl) (hF : Fits M T R B l tl) :
    ∀ (W : World) (mo bo : ByteArray), Below w.heap.size w W → mo.size ≤ 1000 → bo.size ≤ 100000 → Calls Tryz.prog 75 #[.agg (msgC M T s R mi vf B vt), .string mo, .string bo] W fun e w' => e = .returned (.string (mkS (flS (bs M) (bs T) s (bs R) mi ++ [13, 10] ++ byN l ++ moL (bs mo) ++ [13, 10] ++ bs bo))) ∧ Below w.heap.size w w' := by
  intro W mo bo hb h1 h2
  refine (rput8_any M T s R mi vf B vt l mo bo W (isFlds_below hs hb) hF.hz hF.hl hF.hM h1 h2 (by obtain ⟨a, c, h, -⟩ := ht; exact ⟨a, _, c, h⟩)).mono ?_
  rintro e w' ⟨rfl, hb'⟩
  exact ⟨rfl, hb.trans (hb'.mono hb.size)⟩
theorem rrequest8_any (M T : ByteArray) (s : Int) (R : ByteArray) (mi : Int) (vf : Value) (B : ByteArray) (vt : Value) (l tl : List (Bs × Bs)) (w : World) (hs : IsFlds w vf l) (ht : IsFlds w vt tl) (hF : Fits M T R B l tl) :
    Calls Tryz.prog 24 #[.agg (msgC M T s R mi vf B vt)] w (TxPost (rqS (bs M) (hdE (bs M) (bs T) s (bs R) mi l tl) (hdW (bs M) (bs T) s (bs R) mi l tl) (bs B)) (rqE (bs M) (hdE (bs M) (bs T) s (bs R) mi l tl)) w) := by
  refine rtx_of (rrequest8_core M T s R mi vf B vt (hdE (bs M) (bs T) s (bs R) mi l tl) (flS (bs M) (bs T) s (bs R) mi ++ [13, 10] ++ byN l) w (Lib.hid (rck8 M T s R mi vf B vt l tl w hs ht hF)) (Lib.hid (rpu8 M T s R mi vf B vt l tl w hs ht hF)) (by obtain ⟨a, c, h, -⟩ := hs; exact ⟨a, _, c, h⟩) (by obtain ⟨a, c, h, -⟩ := ht; exact ⟨a, _, c, h⟩) (hdE_three _ _ _ _ _ _ _) (by have := hF.hB; omega)) ?_
  unfold rqS
  split
  · rename_i h
    have h0 : hdE (bs M) (bs T) s (bs R) mi l tl = 0 := by unfold rqE at h; split at h; assumption; exact h
    rw [hdW_zero h0]
  · rfl
theorem rresponse8_any (M T : ByteArray) (s : Int) (R : ByteArray) (mi : Int) (vf : Value) (B : ByteArray) (vt : Value) (N : ByteArray) (l tl : List (Bs × Bs)) (w : World) (hs : IsFlds w vf l) (ht : IsFlds w vt tl) (hF : Fits M T R B l tl) :
    Calls Tryz.prog 26 #[.agg (msgC M T s R mi vf B vt), .string N] w (TxPost (anS (bs M) (hdE (bs M) (bs T) s (bs R) mi l tl) (hdW (bs M) (bs T) s (bs R) mi l tl) (bs B) s (bs N)) (anE (bs M) (hdE (bs M) (bs T) s (bs R) mi l tl)) w) := by
  refine rtx_of (rresponse8_core M T s R mi vf B vt N (hdE (bs M) (bs T) s (bs R) mi l tl) (flS (bs M) (bs T) s (bs R) mi ++ [13, 10] ++ byN l) w (Lib.hid (rck8 M T s R mi vf B vt l tl w hs ht hF)) (Lib.hid (rpu8 M T s R mi vf B vt l tl w hs ht hF)) (by obtain ⟨a, c, h, -⟩ := hs; exact ⟨a, _, c, h⟩) (by obtain ⟨a, c, h, -⟩ := ht; exact ⟨a, _, c, h⟩) (hdE_three _ _ _ _ _ _ _) (by have := hF.hB; omega) (fun h hm => flE_res hm (hdE_zero h).1)) ?_
  unfold anS
  split
  · rename_i h
    have h0 : hdE (bs M) (bs T) s (bs R) mi l tl = 0 := by unfold anE at h; split at h; assumption; exact h
    rw [hdW_zero h0]
  · rfl
theorem rchunked8_any (M T : ByteArray) (s : Int) (R : ByteArray) (mi : Int) (vf : Value) (B : ByteArray) (vt : Value) (size : Int) (l tl : List (Bs × Bs)) (w : World) (hs : IsFlds w vf l) (ht : IsFlds w vt tl) (hF : Fits M T R B l tl) (hsz : size ≤ 9223372036854775807) :
    Calls Tryz.prog 28 #[.agg (msgC M T s R mi vf B vt), .int .i64 size] w (TxPost (ckS mi (hdE (bs M) (bs T) s (bs R) mi l tl) (hdW (bs M) (bs T) s (bs R) mi l tl) (bs B) s size tl) (ckE mi (hdE (bs M) (bs T) s (bs R) mi l tl) s) w) := by
  have hle := enc_len (encK size (bs B)) (bs B) (linesF tl) (by rw [length_bs]; exact hF.hB)
  have hll := lines_len tl
  have hzt := hF.hzt
  refine rtx_of (rchunked8_core M T s R mi vf B vt size (hdE (bs M) (bs T) s (bs R) mi l tl) (flS (bs M) (bs T) s (bs R) mi ++ [13, 10] ++ byN l) (if okFs tl then encL (encK size (bs B)) (bs B) (linesF tl) else []) (byE tl) w (Lib.hid (rck8 M T s R mi vf B vt l tl w hs ht hF)) (Lib.hid (rpu8 M T s R mi vf B vt l tl w hs ht hF)) (by obtain ⟨a, c, h, -⟩ := hs; exact ⟨a, _, c, h⟩) (by obtain ⟨a, c, h, -⟩ := ht; exact ⟨a, _, c, h⟩) (hdE_three _ _ _ _ _ _ _) (fun h hm => flE_res hm (hdE_zero h).1) (fun h hm => flE_req hm (hdE_zero h).1)
    (Lib.hid fun W hb => rencode_any B size vt tl W (isFlds_below ht hb) (by omega) (by have := hF.hlt; omega) hF.hB hsz) (by split; omega; simp)) ?_
  unfold ckS
  split
  · rename_i h
    have h0 : hdE (bs M) (bs T) s (bs R) mi l tl = 0 := by unfold ckE at h; split at h; assumption; exact h
    rw [hdW_zero h0, (hdE_zero h0).2.2.1]
    rfl
  · rfl
end Tk
end Go.Proofs.YtdlbmfgajgefdaaGreatDoor
namespace Go.Proofs.YtdlbmfgajgefdaaGreatDoor
open Go.RowKit
namespace Tk

/-- the four texts that a round reads -/
def Four (b1 o1 b2 o2 i : Nat) (n x k y : Bs) (W : World) : Prop := W.cell? ⟨b1, o1 + i * 2, none⟩ = some (.string (mkS n)) ∧ W.cell? ⟨b1, o1 + i * 2 + 1, none⟩ = some (.string (mkS x)) ∧ W.cell? ⟨b2, o2 + i * 2, none⟩ = some (.string (mkS k)) ∧ W.cell? ⟨b2, o2 + i * 2 + 1, none⟩ = some (.string (mkS y))

set_option maxHeartbeats 4000000 in
set_option maxRecDepth 100000 in
theorem rsame_self (v1 v2 : Value) (l : List (Bs × Bs)) (w : World) (h1 : IsFlds w v1 l) (h2 : IsFlds w v2 l) (hz : ∀ f, f ∈ l → f.1.length ≤ 1099511627776) (hl : l.length ≤ 1099511627) :
    Calls Tryz.prog 83 #[v1, v2] w fun e w' => e = .returned (.bool true) ∧ Below w.heap.size w w' := by
  have H1 := Lib.hid h1
  have H2 := Lib.hid h2
  have HZ := Lib.hid hz
  obtain ⟨a1, c1, rfl⟩ : ∃ a cap, v1 = .slice a l.length cap := by obtain ⟨a, c, h, -⟩ := h1; exact ⟨a, c, h⟩
  obtain ⟨a2, c2, rfl⟩ : ∃ a cap, v2 = .slice a l.length cap := by obtain ⟨a, c, h, -⟩ := h2; exact ⟨a, c, h⟩
  clear h1 h2 hz
  go_enter Tryz.func83, Tryz.ntmps83
  go_wp2_with fail
  go_loopw [5] (fun vi wr => ∃ i : Nat, i ≤ l.length ∧ vi = .int .i64 i ∧ Hid (Below w.heap.size w wr)) (fun vi _ => l.length - (RowKit.intOf vi).toNat)
  case atStart => exact ⟨0, Nat.zero_le _, rfl, Below.refl _ _⟩
  case round =>
    obtain ⟨i, hi, rfl, HB⟩ := hrel
    rename World => W
    by_cases hlt : i < l.length
    · obtain ⟨a1', c1', e', -, hc1⟩ := isFlds_below H1.out HB.out
      injection e' with e1 _ e2
      subst e1 e2
      obtain ⟨a2', c2', e', -, hc2⟩ := isFlds_below H2.out HB.out
      injection e' with e1 _ e2
      subst e1 e2
      obtain ⟨b1, o1, rfl, p0, p1⟩ := hc1 i (l.getD i ([], [])) (by simp [List.getD, hlt])
      obtain ⟨b2, o2, rfl, q0, q1⟩ := hc2 i (l.getD i ([], [])) (by simp [List.getD, hlt])
      have z1 := HZ.out (l.getD i ([], [])) (by simp [List.getD, hlt])
      clear hc1 hc2
      generalize l.getD i ([], []) = f at *
      obtain ⟨n, x⟩ := f
      simp only at z1 p0 p1 q0 q1
      have g0 : (0 : Int) ≤ (i : Int) := by omega
      have g1 : (i : Int) < (l.length : Int) := by omega
      have l1 := cell_lt (p := ⟨b1, o1 + i * 2, none⟩) p0
      have l2 := cell_lt (p := ⟨b2, o2 + i * 2, none⟩) q0
      have hS : ∀ W', Below W.heap.size W W' → Four b1 o1 b2 o2 i n x n x W' := fun W' h => ⟨(h.cell (p := ⟨b1, o1 + i * 2, none⟩) l1).trans p0, (h.cell (p := ⟨b1, o1 + i * 2 + 1, none⟩) l1).trans p1, (h.cell (p := ⟨b2, o2 + i * 2, none⟩) l2).trans q0, (h.cell (p := ⟨b2, o2 + i * 2 + 1, none⟩) l2).trans q1⟩
      have HC : ∀ W' : World, Below W.heap.size W W' → Calls Tryz.prog 60 #[.string (mkS n), .string (mkS n)] W' fun e w' => e = .returned (.bool true) ∧ Below W.heap.size W w' ∧ w'.cell? ⟨b1, o1 + i * 2, none⟩ = some (.string (mkS n)) ∧ w'.cell? ⟨b1, o1 + i * 2 + 1, none⟩ = some (.string (mkS x)) ∧ w'.cell? ⟨b2, o2 + i * 2, none⟩ = some (.string (mkS n)) ∧ w'.cell? ⟨b2, o2 + i * 2 + 1, none⟩ = some (.string (mkS x)) := fun W' hW' => by
        have h := rsm_any (mkS n) (mkS n) W' (by rw [size_mkS]; exact z1) (by rw [size_mkS]; exact z1)
        rw [decide_eq_true rfl] at h
        refine h.mono ?_
        rintro e w' ⟨rfl, hb⟩
        have h3 := hW'.trans (hb.mono hW'.size)
        obtain ⟨t1, t2, t3, t4⟩ := hS w' h3
        exact ⟨rfl, h3, t1, t2, t3, t4⟩
      have hbd : Below W.heap.size W W.drew := (Below.refl _ _).drew
      obtain ⟨d0, d1, d2, d3⟩ := hS _ hbd
      have HC2 := Lib.hid (HC _ hbd)
      have hne : (!(mkS x).toList == (mkS x).toList) = false := by simp
      clear HC hS l1 l2 z1
      go_wp2_with fail
      go_region_held3 (fun w' => w'.cell? ⟨b1, o1 + i * 2, none⟩ = some (.string (mkS n)) ∧ w'.cell? ⟨b1, o1 + i * 2 + 1, none⟩ = some (.string (mkS x)) ∧ w'.cell? ⟨b2, o2 + i * 2, none⟩ = some (.string (mkS n)) ∧ w'.cell? ⟨b2, o2 + i * 2 + 1, none⟩ = some (.string (mkS x))) (first | (refine ⟨?_, ?_, ?_, ?_⟩ <;> assumption)) ((go_at_call 60; refine HC2.out.mono ?_; rintro e w5 ⟨rfl, hb5, t1, t2, t3, t4⟩))
      all_goals
        have HB5 := Lib.hid (HB.out.trans (hb5.mono HB.out.size))
        go_wp2_with fail
        exact ⟨⟨i + 1, hlt, by go_num, HB5⟩, by simp [RowKit.intOf]; omega⟩
    · go_wp2_with fail
      go_ret
      exact ⟨rfl, HB.out⟩
end Tk
end Go.Proofs.YtdlbmfgajgefdaaGreatDoor
namespace Go.Proofs.YtdlbmfgajgefdaaGreatDoor
open Go.RowKit
namespace Tk

set_option maxHeartbeats 4000000 in
theorem light08_any (M T : ByteArray) (s : Int) (R : ByteArray) (mi : Int) (vf : Value) (B : ByteArray) (vt : Value) (l tl : List (Bs × Bs)) (w : World) (hs : IsFlds w vf l) (ht : IsFlds w vt tl) (hz : SizedF l) (hzt : SizedF tl)
    (hM : M.size ≤ 140737488351232) (hT : T.size ≤ 140737488351232) (hR : R.size ≤ 140737488351232) (hB : B.size ≤ 140737488351232) :
    Calls Tryz.prog 22 #[.agg (msgC M T s R mi vf B vt)] w fun e w' => e = .returned (.bool (lightM M T R B l tl)) ∧ Below w.heap.size w w' := by
  have HX := Lib.hid (Box.new w 24 (msgC M T s R mi vf B vt))
  have hB0 := below_alloc w (.cells (msgC M T s R mi vf B vt) 24)
  have HL := Lib.hid (lightMsg_any M T s R mi vf B vt l tl _ (isFlds_below hs hB0) (isFlds_below ht hB0) hz hzt hM hT hR hB)
  have HB0 := Lib.hid hB0
  have hsz := hB0.size
  have c0 := HX.out.cell 0 _ rfl
  have c1 := HX.out.cell 1 _ rfl
  have c2 := HX.out.cell 2 _ rfl
  have c3 := HX.out.cell 3 _ rfl
  have c4 := HX.out.cell 4 _ rfl
  have c5 := HX.out.cell 5 _ rfl
  have c6 := HX.out.cell 6 _ rfl
  have c7 := HX.out.cell 7 _ rfl
  obtain ⟨a, cap, rfl⟩ : ∃ a cap, vf = .slice a l.length cap := by obtain ⟨a, c, h, -⟩ := hs; exact ⟨a, c, h⟩
  obtain ⟨at2, capt, rfl⟩ : ∃ a cap, vt = .slice a tl.length cap := by obtain ⟨a, c, h, -⟩ := ht; exact ⟨a, c, h⟩
  generalize lightM M T R B l tl = d at *
  clear hs ht hz hzt hB0 hM hT hR hB
  unfold msgC at *
  go_enter Tryz.func22, Tryz.ntmps22
  go_wp2_with fail
  refine HL.out.mono ?_
  rintro e w1 ⟨rfl, hb⟩
  have HB1 := Lib.hid (HB0.out.trans (hb.mono hsz))
  clear hb
  go_wp2_with fail
  go_ret
  exact ⟨rfl, HB1.out⟩

set_option maxHeartbeats 16000000 in
set_option maxRecDepth 100000 in
theorem rmsame_self (M T : ByteArray) (s : Int) (R : ByteArray) (mi : Int) (vf vf2 : Value) (B : ByteArray) (vt vt2 : Value) (l tl : List (Bs × Bs)) (w : World) (h1 : IsFlds w vf l) (h2 : IsFlds w vf2 l) (h3 : IsFlds w vt tl) (h4 : IsFlds w vt2 tl)
    (hz : ∀ f, f ∈ l → f.1.length ≤ 1099511627776) (hl : l.length ≤ 1099511627) (hzt : ∀ f, f ∈ tl → f.1.length ≤ 1099511627776) (hlt : tl.length ≤ 1099511627) :
    Calls Tryz.prog 33 #[.agg (msgC M T s R mi vf B vt), .agg (msgC M T s R mi vf2 B vt2)] w fun e w' => e = .returned (.bool true) ∧ Below w.heap.size w w' := by
  have hs1 : (w.alloc (.cells (msgC M T s R mi vf B vt) 24)).heap.size = w.heap.size + 1 := by simp
  have hX0 := Box.new w 24 (msgC M T s R mi vf B vt)
  have hX := hX0.later (below_alloc _ (.cells (msgC M T s R mi vf2 B vt2) 24))
  have hY := Box.new (w.alloc (.cells (msgC M T s R mi vf B vt) 24)) 24 (msgC M T s R mi vf2 B vt2)
  rw [hs1] at hY
  have hB0 := below_alloc w (.cells (msgC M T s R mi vf B vt) 24)
  have HB0 := Lib.hid (hB0.alloc hB0.size (.cells (msgC M T s R mi vf2 B vt2) 24))
  have HX := Lib.hid hX
  have HY := Lib.hid hY
  have HS1 := Lib.hid (fun (W : World) (hb : Below w.heap.size w W) => rsame_self vf vf2 l W (isFlds_below h1 hb) (isFlds_below h2 hb) hz hl)
  have HS2 := Lib.hid (fun (W : World) (hb : Below w.heap.size w W) => rsame_self vt vt2 tl W (isFlds_below h3 hb) (isFlds_below h4 hb) hzt hlt)
  have c0 := HX.out.cell 0 _ rfl
  have d0 := HY.out.cell 0 _ rfl
  have c1 := HX.out.cell 1 _ rfl
  have d1 := HY.out.cell 1 _ rfl
  have c2 := HX.out.cell 2 _ rfl
  have d2 := HY.out.cell 2 _ rfl
  have c3 := HX.out.cell 3 _ rfl
  have d3 := HY.out.cell 3 _ rfl
  have c4 := HX.out.cell 4 _ rfl
  have d4 := HY.out.cell 4 _ rfl
  have c5 := HX.out.cell 5 _ rfl
  have d5 := HY.out.cell 5 _ rfl
  have c6 := HX.out.cell 6 _ rfl
  have d6 := HY.out.cell 6 _ rfl
  have c7 := HX.out.cell 7 _ rfl
  have d7 := HY.out.cell 7 _ rfl
  have t0 : (M.toList == M.toList) = true := beq_self_eq_true _
  have t1 : (T.toList == T.toList) = true := beq_self_eq_true _
  have t2 : (R.toList == R.toList) = true := beq_self_eq_true _
  have t3 : (B.toList == B.toList) = true := beq_self_eq_true _
  have t4 : (s == s) = true := beq_self_eq_true _
  have t5 : (mi == mi) = true := beq_self_eq_true _
  obtain ⟨a1, k1, rfl⟩ : ∃ a cap, vf = .slice a l.length cap := by obtain ⟨a, c, h, -⟩ := h1; exact ⟨a, c, h⟩
  obtain ⟨a2, k2, rfl⟩ : ∃ a cap, vf2 = .slice a l.length cap := by obtain ⟨a, c, h, -⟩ := h2; exact ⟨a, c, h⟩
  obtain ⟨a3, k3, rfl⟩ : ∃ a cap, vt = .slice a tl.length cap := by obtain ⟨a, c, h, -⟩ := h3; exact ⟨a, c, h⟩
  obtain ⟨a4, k4, rfl⟩ : ∃ a cap, vt2 = .slice a tl.length cap := by obtain ⟨a, c, h, -⟩ := h4; exact ⟨a, c, h⟩
  clear h1 h2 h3 h4 hz hl hzt hlt hX0 hX hY hB0 hs1
  unfold msgC at *
  generalize l.length = n1 at *
  generalize tl.length = n2 at *
  go_enter Tryz.func33, Tryz.ntmps33
  go_wp2_with fail
  refine (HS1.out _ HB0.out).mono ?_
  rintro e w2 ⟨rfl, hb⟩
  have HX2 := Lib.hid (HX.out.later hb)
  have HY2 := Lib.hid (HY.out.later hb)
  have HB2 := Lib.hid (HB0.out.trans (hb.mono HB0.out.size))
  clear hb c0 c1 c2 c3 c4 c5 c6 c7 d0 d1 d2 d3 d4 d5 d6 d7
  have c7 := HX2.out.cell 7 _ rfl
  have d7 := HY2.out.cell 7 _ rfl
  go_wp2_with fail
  refine (HS2.out _ HB2.out).mono ?_
  rintro e w3 ⟨rfl, hb⟩
  have HB3 := Lib.hid (HB2.out.trans (hb.mono HB2.out.size))
  clear hb
  go_wp2_with fail
  go_ret
  exact ⟨rfl, HB3.out⟩
end Tk
end Go.Proofs.YtdlbmfgajgefdaaGreatDoor
namespace Go.Proofs.YtdlbmfgajgefdaaGreatDoor
open Go.RowKit Go.ChangeShapes Go.WideShapes
namespace Tk

theorem all_mem {H : Type} {P : Program} {e : TypeId} : ∀ {l : List (DataW H)} {d : DataW H}, d ∈ l → ∀ n ∈ d.weights P e, n ∈ DataW.weightsAll P e l
  | d' :: r, d, hd, n, hn => by
    simp only [DataW.weightsAll, List.mem_append]
    rcases List.mem_cons.1 hd with rfl | h
    · exact Or.inl hn
    · exact Or.inr (all_mem h n hn)

theorem laidOut : laidOutB Tryz.prog = true := by kernel_rfl
theorem cellsStr : Tryz.prog.cellsOf 9 = 1 := by kernel_rfl
theorem bytesStr : Tryz.prog.bytesOf 9 = 16 := by kernel_rfl

end Tk
end Go.Proofs.YtdlbmfgajgefdaaGreatDoor
namespace Go.Proofs.YtdlbmfgajgefdaaGreatDoor
open Go.RowKit Go.ChangeShapes Go.WideShapes Go.Deep
namespace Tk

theorem cellsFld : Tryz.prog.cellsOf 32 = 2 := by kernel_rfl
theorem bytesFld : Tryz.prog.bytesOf 32 = 32 := by kernel_rfl

/-- the reach, of the texts of a field inside a list of fields -/
theorem sized_fld {H : Type} {P : Program} {ts : List TypeId} {ds : List (DataW H)} (h : (DataW.weightsEach P ts ds).all (· ≤ reachBytes) = true) {j : Nat} {t e : TypeId} {elems spare : List (DataW H)} {f0 f1 : Field} {x y : List UInt8}
    (ht : ts[j]? = some t) (hd : ds[j]? = some (.slice elems spare)) (hu : P.underlying t = some (.slice e)) (he : P.underlying e = some (.struct #[f0, f1])) (hx : DataW.agg [.lit (.string x), .lit (.string y)] ∈ elems) : x.length ≤ 140737488351232 ∧ y.length ≤ 140737488351232 := by
  have key : ∀ n ∈ DataW.weights P e (.agg [.lit (.string x), .lit (.string y)] : DataW H), n ≤ reachBytes := fun n hn => by
    refine of_decide_eq_true (List.all_eq_true.1 h _ (DataW.weights_mem_each ht hd n ?_))
    simp only [DataW.weights, hu, List.mem_cons, List.mem_append]
    exact Or.inr (Or.inl (all_mem hx _ hn))
  exact ⟨key x.length (by simp [DataW.weights, he, DataW.weightsEach]), key y.length (by simp [DataW.weights, he, DataW.weightsEach])⟩

def fldD {H : Type} (f : Bs × Bs) : DataW H := .agg [.lit (.string f.1), .lit (.string f.2)]

theorem flds_arg {H : Type} {enc : TypeId × Value → H} {W : World} {v : Value} {d : DataW H} {p : List MemPlace} {a0 : Option Addr} {n0 c0 : Nat} (hv : v = .slice a0 n0 c0)
    (h : DataW.Trod enc Tryz.prog W 0 (fun _ => true) true 22 v d p) :
    ∃ l : List (Bs × Bs), IsFlds W v l ∧ (l = [] ∨ ∃ spare, d = .slice (l.map fldD) spare) := by
  subst hv
  obtain ⟨fuel, hf⟩ := h
  rcases open_slice_pairs Tryz.underlying22 Tryz.underlying32 cellsFld rfl rfl cellsStr cellsStr hf with ⟨hcs, hx⟩ | ⟨a, len, cap, m, n, V0, V1, D0, D1, P0, P1, hcs, _, hl, hm, hmm, hx, hcell⟩
  · simp [Value.cells] at hcs
    obtain ⟨rfl, rfl, rfl⟩ := hcs
    exact ⟨[], ⟨none, 0, rfl, Nat.le_refl _, fun j t hj => by simp at hj⟩, .inl rfl⟩
  · simp [Value.cells] at hcs
    obtain ⟨rfl, rfl, rfl⟩ := hcs
    simp only [if_true] at hmm
    subst hmm
    simp only [Prod.mk.injEq] at hx
    have each : ∀ i, i < m → ∃ q : ByteArray × ByteArray, V0 i = .string q.1 ∧ V1 i = .string q.2 ∧ D0 i = .lit (.string q.1.data.toList) ∧ D1 i = .lit (.string q.2.data.toList) := by
      intro i hi
      obtain ⟨-, -, t0, t1⟩ := hcell i hi
      obtain ⟨s0, e0, x0, -⟩ := DataW.trod_string Tryz.underlying9 t0
      obtain ⟨s1, e1, x1, -⟩ := DataW.trod_string Tryz.underlying9 t1
      simp only [Prod.mk.injEq] at x0 x1
      exact ⟨(s0, s1), by simpa using e0, by simpa using e1, x0.1, x1.1⟩
    obtain ⟨Q, hQ⟩ := choose_lt each
    refine ⟨(List.range n0).map fun i => (bs (Q i).1, bs (Q i).2), ⟨some a, m, by simp, by simpa using hl, fun j t hj => ?_⟩, ?_⟩
    · have hjl : j < n0 := by
        have := (List.getElem?_eq_some_iff.1 hj).1
        simpa using this
      rw [List.getElem?_map, List.getElem?_range hjl] at hj
      injection hj with hj
      subst hj
      obtain ⟨b, o, spot⟩ := a
      obtain ⟨h0, h1, -, -⟩ := hcell j (by omega)
      have hsp : spot = none := by
        have := World.cell?_spot (hcell 0 (by omega)).1
        simpa [Addr.add] using this
      subst hsp
      obtain ⟨v0, v1, -, -⟩ := hQ j (by omega)
      refine ⟨b, o, rfl, ?_, ?_⟩
      · rw [mkS_bs, ← add_plain, h0, v0]
      · rw [mkS_bs, ← v1, ← h1, add_plain, Nat.add_assoc]
    · refine .inr ⟨_, hx.1.trans (congrArg (fun z => DataW.slice z _) ?_)⟩
      rw [List.map_map]
      refine List.map_congr_left fun i hi => ?_
      obtain ⟨-, -, d0, d1⟩ := hQ i (by have := List.mem_range.1 hi; omega)
      rw [d0, d1]; rfl
/-- a nil list of fields holds no room -/
theorem flds_nil {H : Type} {enc : TypeId × Value → H} {W : World} {v : Value} {d : DataW H} {p : List MemPlace}
    (h : DataW.Trod enc Tryz.prog W 0 (fun _ => true) true 22 v d p) : ∀ n c, v = .slice none n c → c = 0 := by
  rintro n0 c0 rfl
  obtain ⟨fuel, hf⟩ := h
  rcases open_slice_pairs Tryz.underlying22 Tryz.underlying32 cellsFld rfl rfl cellsStr cellsStr hf with ⟨hcs, -⟩ | ⟨a, len, cap, m, n, V0, V1, D0, D1, P0, P1, hcs, -⟩
  · simp [Value.cells] at hcs
    exact hcs.2
  · simp [Value.cells] at hcs
end Tk
end Go.Proofs.YtdlbmfgajgefdaaGreatDoor
namespace Go.Proofs.YtdlbmfgajgefdaaGreatDoor
open Go.RowKit Go.ChangeShapes Go.WideShapes Go.Deep Go.Joins
namespace Tk

theorem cellsMsg : Tryz.prog.cellsOf 24 = 8 := by kernel_rfl
theorem array8 {cs : Array Value} (h : cs.size = 8) : ∃ a b c d e f g i, cs = #[a, b, c, d, e, f, g, i] := by
  obtain ⟨l⟩ := cs
  match l, h with
  | [a, b, c, d, e, f, g, i], _ => exact ⟨a, b, c, d, e, f, g, i, rfl⟩
theorem list8 {α : Type} {l : List α} (h : l.length = 8) : ∃ a b c d e f g i, l = [a, b, c, d, e, f, g, i] := by
  match l, h with
  | [a, b, c, d, e, f, g, i], _ => exact ⟨a, b, c, d, e, f, g, i, rfl⟩
theorem flds_cell {H : Type} {enc : TypeId × Value → H} {W : World} {v : Value} {y : DataW H × List MemPlace} {n : Nat} (h : DataW.trod enc Tryz.prog W 0 (fun _ => true) true n 22 [v] = some y) :
    (∃ a c k, v = .slice a c k) ∧ DataW.Trod enc Tryz.prog W 0 (fun _ => true) true 22 v y.1 y.2 := by
  rcases open_slice_pairs Tryz.underlying22 Tryz.underlying32 cellsFld rfl rfl cellsStr cellsStr h with ⟨hcs, -⟩ | ⟨a, len, cap, m, n, V0, V1, D0, D1, P0, P1, hcs, -⟩
  · simp only [List.cons.injEq, and_true] at hcs
    subst hcs
    exact ⟨⟨_, _, _, rfl⟩, n, h⟩
  · simp only [List.cons.injEq, and_true] at hcs
    subst hcs
    exact ⟨⟨_, _, _, rfl⟩, _, h⟩

/-- the reach, of a part of a message -/
theorem sized_part {H : Type} {ts : List TypeId} {ds : List (DataW H)} (h : (DataW.weightsEach Tryz.prog ts ds).all (· ≤ reachBytes) = true) {j : Nat} {e0 e1 e2 e3 e4 e5 e6 e7 : DataW H} (ht : ts[j]? = some 24) (hd : ds[j]? = some (.agg [e0, e1, e2, e3, e4, e5, e6, e7])) :
    (DataW.weightsEach Tryz.prog [9, 9, 3, 9, 3, 22, 9, 22] [e0, e1, e2, e3, e4, e5, e6, e7]).all (· ≤ reachBytes) = true := by
  rw [List.all_eq_true]
  intro n hn
  refine List.all_eq_true.1 h _ (DataW.weights_mem_each ht hd n ?_)
  simpa [DataW.weights, Tryz.underlying24] using hn
theorem sized_text {H : Type} {ts : List TypeId} {ds : List (DataW H)} (h : (DataW.weightsEach Tryz.prog ts ds).all (· ≤ reachBytes) = true) {j : Nat} {x : List UInt8} (ht : ts[j]? = some 9) (hd : ds[j]? = some (.lit (.string x))) : x.length ≤ 140737488351232 := by
  have := of_decide_eq_true (List.all_eq_true.1 h x.length (DataW.weights_mem_each ht hd x.length (by simp [DataW.weights])))
  exact this
theorem sizedF_of {H : Type} {ts : List TypeId} {ds : List (DataW H)} (h : (DataW.weightsEach Tryz.prog ts ds).all (· ≤ reachBytes) = true) {j : Nat} {l : List (Bs × Bs)} {d : DataW H} (ht : ts[j]? = some 22) (hj : ds[j]? = some d) (hd : l = [] ∨ ∃ spare, d = .slice (l.map fldD) spare) : SizedF l := by
  rcases hd with rfl | ⟨spare, rfl⟩
  · exact ⟨fun f hf => by simp at hf, by simp⟩
  · refine ⟨fun f hf => sized_fld h (j := j) (t := 22) (e := 32) ht hj Tryz.underlying22 Tryz.underlying32 (List.mem_map_of_mem (f := fldD) hf), ?_⟩
    have := sized_slice h (j := j) (t := 22) (e := 32) ht hj Tryz.underlying22
    rw [bytesFld] at this
    simp only [List.length_map, reachBytes] at this
    omega

set_option maxRecDepth 100000 in
theorem msg_arg {H : Type} {enc : TypeId × Value → H} {W : World} {r : Reach} {b0 : Nat} {v : Value} {d : DataW H} {p : List MemPlace} {ts : List TypeId} {ds : List (DataW H)} {j : Nat} (hv : Value.okWide Tryz.prog W r b0 24 v)
    (h : DataW.Trod enc Tryz.prog W 0 (fun _ => true) true 24 v d p) (hsz : (DataW.weightsEach Tryz.prog ts ds).all (· ≤ reachBytes) = true) (ht : ts[j]? = some 24) (hd : ds[j]? = some d) :
    ∃ (M T : ByteArray) (s : Int) (R : ByteArray) (mi : Int) (vf : Value) (B : ByteArray) (vt : Value) (l tl : List (Bs × Bs)), v = .agg (msgC M T s R mi vf B vt) ∧ IsFlds W vf l ∧ (∀ n c, vf = .slice none n c → c = 0) ∧ IsFlds W vt tl ∧ SizedF l ∧ SizedF tl ∧
      M.size ≤ 140737488351232 ∧ T.size ≤ 140737488351232 ∧ R.size ≤ 140737488351232 ∧ B.size ≤ 140737488351232 ∧ (Lit.int .i64 mi).wf = true := by
  obtain ⟨cs, rfl, hcz⟩ := okWide_struct Tryz.underlying24 hv
  obtain ⟨c0, c1, c2, c3, c4, c5, c6, c7, rfl⟩ := array8 (hcz.trans cellsMsg)
  obtain ⟨fuel, hf⟩ := h
  obtain ⟨xs, n, -, hx, -, hxl, hfs⟩ := DataW.trod_struct Tryz.underlying24 hf
  obtain ⟨y0, y1, y2, y3, y4, y5, y6, y7, rfl⟩ := list8 hxl
  have g0 := hfs 0 _ rfl
  have g1 := hfs 1 _ rfl
  have g2 := hfs 2 _ rfl
  have g3 := hfs 3 _ rfl
  have g4 := hfs 4 _ rfl
  have g5 := hfs 5 _ rfl
  have g6 := hfs 6 _ rfl
  have g7 := hfs 7 _ rfl
  have k1 : Tryz.prog.cellsOf 9 = 1 := cellsStr
  have k2 : Tryz.prog.cellsOf 3 = 1 := by kernel_rfl
  have k3 : Tryz.prog.cellsOf 22 = 1 := by kernel_rfl
  simp [Value.cells, k1, k2, k3] at g0 g1 g2 g3 g4 g5 g6 g7
  obtain ⟨s0, e0, x0, -⟩ := DataW.trod_string Tryz.underlying9 g0
  obtain ⟨s1, e1, x1, -⟩ := DataW.trod_string Tryz.underlying9 g1
  obtain ⟨s2, e2, x2, -⟩ := DataW.trod_int Tryz.underlying3 g2
  obtain ⟨s3, e3, x3, -⟩ := DataW.trod_string Tryz.underlying9 g3
  obtain ⟨s4, e4, x4, w4⟩ := DataW.trod_int Tryz.underlying3 g4
  obtain ⟨s6, e6, x6, -⟩ := DataW.trod_string Tryz.underlying9 g6
  obtain ⟨⟨a5, n5, k5, rfl⟩, t5⟩ := flds_cell g5
  obtain ⟨⟨a7, n7, k7, rfl⟩, t7⟩ := flds_cell g7
  simp only [List.cons.injEq, and_true] at e0 e1 e2 e3 e4 e6
  subst e0 e1 e2 e3 e4 e6
  obtain ⟨l, hl, hd5⟩ := flds_arg rfl t5
  obtain ⟨tl, htl, hd7⟩ := flds_arg rfl t7
  subst x0 x1 x2 x3 x4 x6
  simp only [Prod.mk.injEq, List.map_cons, List.map_nil] at hx
  obtain ⟨rfl, -⟩ := hx
  have hp := sized_part hsz ht hd
  refine ⟨s0, s1, s2, s3, s4, _, s6, _, l, tl, rfl, hl, flds_nil t5, htl, sizedF_of hp (j := 5) rfl rfl hd5, sizedF_of hp (j := 7) rfl rfl hd7, ?_, ?_, ?_, ?_, w4⟩
  · have := sized_text hp (j := 0) rfl rfl; rwa [Array.length_toList] at this
  · have := sized_text hp (j := 1) rfl rfl; rwa [Array.length_toList] at this
  · have := sized_text hp (j := 3) rfl rfl; rwa [Array.length_toList] at this
  · have := sized_text hp (j := 6) rfl rfl; rwa [Array.length_toList] at this
end Tk
end Go.Proofs.YtdlbmfgajgefdaaGreatDoor
namespace Go.Proofs.YtdlbmfgajgefdaaGreatDoor
open Go.RowKit Go.ChangeShapes Go.WideShapes
namespace Tk

/-- one variable off the list -/
theorem laid_atB {P : Program} {W : World} : ∀ {l : List (String × DataW Unit)} {ps : List MemPlace}, DataW.LaidVars P W l ps → ∀ (n : String) (d : DataW Unit), (n, d) ∈ l →
    ∃ g t cs fuel p, P.globalNamed n = some g ∧ (P.globals[g]?).map (·.type) = some t ∧ W.var? P n = some cs ∧ DataW.trod (fun _ => ()) P W 0 (fun _ => true) false fuel t cs.toList = some (d, p)
  | [], _, _, n, d, h => by simp at h
  | (m, e) :: r, ps, h, n, d, hm => by
    obtain ⟨g, t, cs, fuel, p, q, h1, h2, h3, h4, h5, -⟩ := h
    rcases List.mem_cons.1 hm with hm | hm
    · injection hm with a b
      subst a b
      exact ⟨g, t, cs, fuel, p, h1, h2, h3, h4⟩
    · exact laid_atB h5 n d hm

def deB : List Int := [0, 1, 56, 2, 57, 49, 28, 3, 61, 58, 42, 50, 38, 29, 17, 4, 62, 47, 59, 36, 45, 43, 51, 22, 53, 39, 33, 30, 24, 18, 12, 5, 63, 55, 48, 27, 60, 41, 37, 16, 46, 35, 44, 21, 52, 32, 23, 11, 54, 26, 40, 15, 34, 20, 31, 10, 25, 14, 19, 9, 13, 8, 7, 6]
theorem gDeB : Tryz.prog.globalNamed "math/bits.deBruijn64tab" = some 3 := by kernel_rfl
theorem gDeBType : (Tryz.prog.globals[3]?).map (·.type) = some 197 := by kernel_rfl
theorem cellsU8B : Tryz.prog.cellsOf 5 = 1 := by kernel_rfl
theorem cellsDeB : Tryz.prog.cellsOf 197 = 64 := by kernel_rfl

theorem bruijn_of {l : List (String × DataW Unit)} {W : World} (h : laidMet Tryz.prog l W) (h2 : ("math/bits.deBruijn64tab", Lib.tabData .u8 deB) ∈ l) : Bruijn W.heap.size W := by
  obtain ⟨ps, hl, -⟩ := h
  obtain ⟨g', t', cs', fuel', p', b1, b2, b3, b4⟩ := laid_atB hl _ _ h2
  obtain rfl := Option.some.inj (gDeB.symm.trans b1)
  obtain rfl := Option.some.inj (gDeBType.symm.trans b2)
  have hcs := Lib.cells_of_tab Tryz.underlying197 Tryz.underlying5 cellsU8B cellsDeB b4
  have h0 : W.cell? ⟨3, 15, none⟩ = some (.int .u8 4) := by
    rw [World.var?_cell gDeB b3 15, ← Array.getElem?_toList, hcs]; rfl
  exact ⟨World.block_lt_of_cell? _ _ h0, Nat.le_refl _, h0⟩
end Tk
end Go.Proofs.YtdlbmfgajgefdaaGreatDoor

