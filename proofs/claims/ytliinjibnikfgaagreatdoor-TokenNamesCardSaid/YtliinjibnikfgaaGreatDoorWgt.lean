/- token.Weight: what any text is as a weight. -/
import Derived.Test.YtliinjibnikfgaaGreatDoorWgt0
import Derived.Test.YtliinjibnikfgaaGreatDoorCut
import Derived.Test.YtliinjibnikfgaaGreatDoorNum
import Derived.Test.YtliinjibnikfgaaGreatDoorLives
namespace Go.Proofs.YtliinjibnikfgaaGreatDoor
open Go.RowKit
namespace Tk
open Ff

def WgtPost (l : Bs) (w : World) (e : Ending) (w' : World) : Prop := e = .returned (.tuple #[.float .f64 (wF (wgtL l)), .int .i64 (wE (wgtL l))]) ∧ Below w.heap.size w w'

theorem below_draws (w : World) (n : Nat) : Below w.heap.size w (w.drewN n) := ⟨rfl, rfl, rfl, Nat.le_refl _, fun _ _ => rfl⟩

theorem run_quo2 (k : Nat) (hk : k < 2000) (w : World) : (binOp .quo 28 (.float .f64 (floatOfInt .f64 (k : Int))) (.float .f64 4652007308841189376)).run Tryz.prog w = .ok (.float .f64 (F k)) w :=
  run_float_arith w .quo 28 .f64 _ _ (F k) (quo_some2 k hk)

theorem wgt_none_a (l : Bs) (h : (cutL 46 l).1 ≠ [48]) (h2 : (cutL 46 l).1 ≠ [49]) : wgtL l = none := by
  unfold wgtL; rw [if_neg (fun x => by rcases x.1 with x | x; exact h x; exact h2 x)]
theorem wgt_none_b (l : Bs) (h : 3 < (cutL 46 l).2.1.length) : wgtL l = none := by
  unfold wgtL; rw [if_neg (fun x => by have := x.2.1; omega)]
theorem wgt_none_c (l : Bs) (h : numL (wDig l) = (0, 4)) : wgtL l = none := by
  unfold wgtL; rw [if_neg (fun x => by have := x.2.2.1; rw [h] at this; cases this)]
theorem wgt_none_d (l : Bs) (h : 1000 < (numL (wDig l)).1 + wUp l) : wgtL l = none := by
  unfold wgtL; rw [if_neg (fun x => by have := x.2.2.2; omega)]
theorem wgt_some (l : Bs) (h : (cutL 46 l).1 = [48] ∨ (cutL 46 l).1 = [49]) (h1 : (cutL 46 l).2.1.length ≤ 3) (h2 : (numL (wDig l)).2 = 0) (h3 : (numL (wDig l)).1 + wUp l ≤ 1000) : wgtL l = some ((numL (wDig l)).1 + wUp l) := by
  unfold wgtL; rw [if_pos ⟨h, h1, h2, h3⟩]

theorem wDig_bs (l : Bs) : bs ((mkS (cutL 46 l).2.1 ++ ⟨#[48, 48, 48]⟩ : ByteArray).extract 0 3) = wDig l := by
  rw [bs_extract]
  have e : bs (mkS (cutL 46 l).2.1 ++ ⟨#[48, 48, 48]⟩) = (cutL 46 l).2.1 ++ [48, 48, 48] := by
    show (mkS (cutL 46 l).2.1 ++ ⟨#[48, 48, 48]⟩).data.toList = _
    rw [ByteArray.data_append]; simp [mkS]
  rw [e]; rfl

theorem cut_len (c : UInt8) (l : Bs) : (cutL c l).2.1.length ≤ l.length := by
  unfold cutL
  split
  · refine Nat.le_trans (by simp) ((List.dropWhile_sublist (· != c) (l := l)).length_le)
  · simp

theorem ne_lit (A : Bs) (c : UInt8) (h : A ≠ [c]) : ((mkS A).toList == [c]) = false := by
  rw [toList_bs, bs_mkS]
  exact beq_eq_false_iff_ne.2 h

set_option maxHeartbeats 2000000 in
set_option maxRecDepth 100000 in
theorem weight_a (s : ByteArray) (w : World) (hs : s.size ≤ 1099511627) (h0 : (cutL 46 (bs s)).1 ≠ [48]) (h1 : (cutL 46 (bs s)).1 ≠ [49]) :
    Calls Tryz.prog 9 #[.string s] w (WgtPost (bs s) w) := by
  have HC := Lib.hid (cut_any s 46 w (by omega))
  have HN := Lib.hid (wgt_none_a _ h0 h1)
  have e0 := ne_lit _ _ h0
  have e1 := ne_lit _ _ h1
  unfold CutPost at HC
  clear h0 h1
  generalize mkS (cutL 46 (bs s)).1 = A at *
  generalize mkS (cutL 46 (bs s)).2.1 = B at *
  go_enter Tryz.func9, Tryz.ntmps9
  go_wp2_with fail
  refine HC.out.mono ?_
  rintro e w' ⟨rfl, n, rfl⟩
  go_wp2_with fail
  go_ret2
  exact ⟨by rw [HN.out]; rfl, below_draws _ _⟩

set_option maxHeartbeats 4000000 in
set_option maxRecDepth 100000 in
theorem weight_b (s : ByteArray) (w : World) (hs : s.size ≤ 1099511627) (u : UInt8) (h0 : (cutL 46 (bs s)).1 = [u]) (hu : u = 48 ∨ u = 49) :
    Calls Tryz.prog 9 #[.string s] w (WgtPost (bs s) w) := by
  have HC := Lib.hid (cut_any s 46 w (by omega))
  unfold CutPost at HC
  have hwh : (cutL 46 (bs s)).1 = [48] ∨ (cutL 46 (bs s)).1 = [49] := by rcases hu with rfl | rfl; exact .inl h0; exact .inr h0
  have hup : wUp (bs s) = if u = 49 then 1000 else 0 := by
    unfold wUp; rw [h0]
    rcases hu with rfl | rfl <;> rfl
  have hlen := cut_len 46 (bs s)
  rw [length_bs] at hlen
  have hbz : (mkS (cutL 46 (bs s)).2.1).size = (cutL 46 (bs s)).2.1.length := size_mkS _
  have hdg := wDig_bs (bs s)
  have hn3 := num_three (wDig (bs s)) (wDig_len _)
  have HM := Lib.hid (fun W : World => number_any ((mkS (cutL 46 (bs s)).2.1 ++ ⟨#[48, 48, 48]⟩ : ByteArray).extract 0 3) W (by
    rw [← length_bs, hdg, wDig_len]; omega))
  rw [hdg] at HM
  rw [h0, show mkS [u] = (⟨#[u]⟩ : ByteArray) from rfl] at HC
  by_cases h3 : 3 < (cutL 46 (bs s)).2.1.length
  · have HN := Lib.hid (wgt_none_b _ h3)
    rw [← hbz] at h3
    clear hdg hn3 HM hup hwh h0 hlen hbz
    generalize mkS (cutL 46 (bs s)).2.1 = B at *
    have h3' : (3 : Int) < (B.size : Int) := by omega
    rcases hu with rfl | rfl
    all_goals
      go_enter Tryz.func9, Tryz.ntmps9
      go_wp2_with fail
      refine HC.out.mono ?_
      rintro e w' ⟨rfl, n, rfl⟩
      go_wp2_with fail
      go_ret2
      exact ⟨by rw [HN.out]; rfl, below_draws _ _⟩
  · have hb3 : (cutL 46 (bs s)).2.1.length ≤ 3 := by omega
    rcases hn3 with ⟨hn9, hz | hbad⟩
    · have hsz : ∀ k, (numL (wDig (bs s))).1 + (if u = 49 then 1000 else 0) = k → (wgtL (bs s) = if 1000 < k then none else some k) := by
        intro k hk
        rw [← hup] at hk
        subst hk
        by_cases hk : 1000 < (numL (wDig (bs s))).1 + wUp (bs s)
        · rw [if_pos hk]; exact wgt_none_d _ hk
        · rw [if_neg hk]; exact wgt_some _ hwh hb3 hz (by omega)
      rw [show (numL (wDig (bs s))) = ((numL (wDig (bs s))).1, 0) from Prod.ext rfl hz] at HM
      rw [← hbz] at hb3
      have HZ := Lib.hid hsz
      clear hdg hup hwh h0 hlen hbz h3 hz hsz
      generalize mkS (cutL 46 (bs s)).2.1 = B at *
      generalize (numL (wDig (bs s))).1 = n at *
      have hcat : ((B ++ ⟨#[48, 48, 48]⟩ : ByteArray).size : Int) = (B.size : Int) + 3 := by
        have e1 : (ByteArray.mk #[48, 48, 48]).size = 3 := rfl
        simp only [ByteArray.size_append]; omega
      rcases hu with rfl | rfl
      · have hk := HZ.out n rfl
        have ha := above_one n (by omega)
        have hq := fun W => run_quo2 n (by omega) W
        rw [show decide (1000 < n) = false by simp; omega] at ha
        rw [if_neg (by omega)] at hk
        have HK := Lib.hid hk
        clear hk HZ
        go_enter Tryz.func9, Tryz.ntmps9
        go_wp2_with fail
        refine HC.out.mono ?_
        rintro e w' ⟨rfl, m, rfl⟩
        go_wp2_with fail
        refine (HM.out _).mono ?_
        rintro e w' ⟨rfl, rfl⟩
        go_wp2_with fail
        go_ret2
        exact ⟨by rw [HK.out]; rfl, below_draws _ _⟩
      · have hk := HZ.out (n + 1000) rfl
        have ha := above_one (n + 1000) (by omega)
        have hq := fun W => run_quo2 (n + 1000) (by omega) W
        rw [show (((n + 1000 : Nat)) : Int) = (n : Int) + 1000 from rfl] at hq
        have HK := Lib.hid hk
        clear hk HZ
        by_cases h1 : n = 0
        · rw [show decide (1000 < n + 1000) = false by simp; omega] at ha
          have HK2 : Hid (wgtL (bs s) = some (n + 1000)) := by
            have := HK.out
            rw [if_neg (by omega)] at this
            exact this
          clear h1 HK
          go_enter Tryz.func9, Tryz.ntmps9
          go_wp2_with fail
          refine HC.out.mono ?_
          rintro e w' ⟨rfl, m, rfl⟩
          go_wp2_with fail
          refine (HM.out _).mono ?_
          rintro e w' ⟨rfl, rfl⟩
          go_wp2_with fail
          go_ret2
          exact ⟨by rw [HK2.out]; rfl, below_draws _ _⟩
        · rw [show decide (1000 < n + 1000) = true by simp; omega] at ha
          have HK2 : Hid (wgtL (bs s) = none) := by
            have := HK.out
            rw [if_pos (by omega)] at this
            exact this
          clear h1 HK
          go_enter Tryz.func9, Tryz.ntmps9
          go_wp2_with fail
          refine HC.out.mono ?_
          rintro e w' ⟨rfl, m, rfl⟩
          go_wp2_with fail
          refine (HM.out _).mono ?_
          rintro e w' ⟨rfl, rfl⟩
          go_wp2_with fail
          go_ret2
          exact ⟨by rw [HK2.out]; rfl, below_draws _ _⟩
    · have HN := Lib.hid (wgt_none_c _ hbad)
      rw [hbad] at HM
      rw [← hbz] at hb3
      clear hdg hup hwh h0 hlen hbz h3 hn9 hbad
      generalize mkS (cutL 46 (bs s)).2.1 = B at *
      have hcat : ((B ++ ⟨#[48, 48, 48]⟩ : ByteArray).size : Int) = (B.size : Int) + 3 := by
        have e1 : (ByteArray.mk #[48, 48, 48]).size = 3 := rfl
        simp only [ByteArray.size_append]; omega
      rcases hu with rfl | rfl
      all_goals
        go_enter Tryz.func9, Tryz.ntmps9
        go_wp2_with fail
        refine HC.out.mono ?_
        rintro e w' ⟨rfl, m, rfl⟩
        go_wp2_with fail
        refine (HM.out _).mono ?_
        rintro e w' ⟨rfl, rfl⟩
        go_wp2_with fail
        go_ret2
        exact ⟨by rw [HN.out]; rfl, below_draws _ _⟩

theorem weight_any (s : ByteArray) (w : World) (hs : s.size ≤ 1099511627) :
    Calls Tryz.prog 9 #[.string s] w (WgtPost (bs s) w) := by
  by_cases h0 : (cutL 46 (bs s)).1 = [48]
  · exact weight_b s w hs 48 h0 (.inl rfl)
  · by_cases h1 : (cutL 46 (bs s)).1 = [49]
    · exact weight_b s w hs 49 h1 (.inr rfl)
    · exact weight_a s w hs h0 h1
end Tk
end Go.Proofs.YtliinjibnikfgaaGreatDoor
