/- The document's date: leap years, months, days, seconds. -/
import Derived.Test.YtajmheblbnodjaaDoorDtJ
namespace Go.Proofs.YtajmheblbnodjaaDoor
open Go.RowKit
namespace Tk

def leapB (y : Int) : Bool := (y % 4 == 0) && (!(y % 100 == 0) || (y % 400 == 0))
theorem leap_mD (y : Int) : mD y 2 = if leapB y = true then 29 else 28 := by
  unfold leapB mD lpB
  rw [if_neg (by omega), if_pos rfl]
  simp only [Bool.and_eq_true, Bool.or_eq_true, Bool.not_eq_true', beq_iff_eq, beq_eq_false_iff_ne]
  split
  · omega
  · omega

set_option maxHeartbeats 1000000 in
theorem rleap_any (y : Int) (w : World) (h : 1 ≤ y ∧ y ≤ 19999) :
    Calls Tryd.prog 44 #[.int .i64 y] w fun e w' => e = .returned (.bool (leapB y)) ∧ w = w' := by
  have hV : leapB y = ((y % 4 == 0) && (!(y % 100 == 0) || (y % 400 == 0))) := rfl
  have h1 := h
  have e4 : y.tmod 4 = y % 4 := IntWalk.rem_in _ _ (by omega)
  have e100 : y.tmod 100 = y % 100 := IntWalk.rem_in _ _ (by omega)
  have e400 : y.tmod 400 = y % 400 := IntWalk.rem_in _ _ (by omega)
  generalize leapB y = L at *
  cases a4 : (y % 4 == 0)
  · rw [a4] at hV
    have HV := Lib.hid hV
    clear hV
    go_enter Tryd.func44, Tryd.ntmps44
    go_wp2_with fail
    go_ret
    exact ⟨retBd (by rw [HV.out]; rfl), rfl⟩
  cases a100 : (y % 100 == 0)
  · rw [a4, a100] at hV
    have n100 : (y % 100 != 0) = true := by rw [bne, a100]; rfl
    have HV := Lib.hid hV
    clear hV
    go_enter Tryd.func44, Tryd.ntmps44
    go_wp2_with fail
    go_ret
    exact ⟨retBd (by rw [HV.out]; rfl), rfl⟩
  have n100 : (y % 100 != 0) = false := by rw [bne, a100]; rfl
  cases a400 : (y % 400 == 0)
  all_goals
    rw [a4, a100, a400] at hV
    have HV := Lib.hid hV
    clear hV
    go_enter Tryd.func44, Tryd.ntmps44
    go_wp2_with fail
    go_ret
    exact ⟨retBd (by rw [HV.out]; rfl), rfl⟩

set_option maxHeartbeats 1000000 in
theorem rmonth_any (y m : Int) (w : World) (h : 1 ≤ y ∧ y ≤ 19999) :
    Calls Tryd.prog 28 #[.int .i64 y, .int .i64 m] w fun e w' => e = .returned (.int .i64 (mD y m)) ∧ w = w' := by
  rcases mD_kind m with (rfl | rfl | rfl | rfl) | rfl | ⟨e4, e6, e9, e11, e2⟩
  iterate 4
    · go_enter Tryd.func28, Tryd.ntmps28
      go_wp2_with fail
      go_ret
      exact ⟨rfl, rfl⟩
  · have hL := rleap_any y w h
    have hV := leap_mD y
    generalize leapB y = L at *
    cases L
    all_goals
      have HL := Lib.hid hL
      have HV := Lib.hid hV
      clear hL hV
      go_enter Tryd.func28, Tryd.ntmps28
      go_wp2_with fail
      refine HL.out.mono ?_
      rintro e w' ⟨rfl, rfl⟩
      go_wp2_with fail
      go_ret
      exact ⟨retId (by rw [HV.out]; rfl), rfl⟩
  · have HV := Lib.hid (show mD y m = 31 by
      rw [beq_eq_false_iff_ne] at e4 e6 e9 e11 e2
      unfold mD; rw [if_neg (by omega), if_neg e2])
    go_enter Tryd.func28, Tryd.ntmps28
    go_wp2_with fail
    go_ret
    exact ⟨retId (by rw [HV.out]), rfl⟩

set_option maxHeartbeats 4000000 in
theorem rdays_any (y m d : Int) (w : World) :
    Calls Tryd.prog 8 #[.int .i64 y, .int .i64 m, .int .i64 d] w fun e w' => e = .returned (.tuple #[.int .i64 (dayV y m d), .int .i64 (dayE y m d)]) ∧ w = w' := by
  have hbad : okDay y m d = false → dayV y m d = 0 ∧ dayE y m d = 2 := fun h => by unfold dayV dayE; rw [h]; exact ⟨rfl, rfl⟩
  have hiff := okDay_iff y m d
  have hno : ¬ (1970 ≤ y ∧ y ≤ 9999 ∧ 1 ≤ m ∧ m ≤ 12 ∧ 1 ≤ d ∧ d ≤ mD y m) → dayV y m d = 0 ∧ dayE y m d = 2 := fun h => hbad (by cases hk : okDay y m d; rfl; exact absurd (hiff.1 hk) h)
  have hno2 : ¬ (1970 ≤ y ∧ y ≤ 9999 ∧ 1 ≤ m ∧ m ≤ 12 ∧ 1 ≤ d) → dayV y m d = 0 ∧ dayE y m d = 2 := fun h => hno (fun hh => h ⟨hh.1, hh.2.1, hh.2.2.1, hh.2.2.2.1, hh.2.2.2.2.1⟩)
  by_cases hin : 1970 ≤ y ∧ y ≤ 9999 ∧ 1 ≤ m ∧ m ≤ 12 ∧ 1 ≤ d
  · obtain ⟨h1, h2, h3, h4, h5⟩ := hin
    have HMk := Lib.hid (fun k => rmonth_any y k w (by omega))
    have hmd := mD_28 y m
    have HM := Lib.hid (rmonth_any y m w (by omega))
    by_cases h6 : d ≤ mD y m
    · have hV : dayV y m d = dayN y m d ∧ dayE y m d = 0 := by unfold dayV dayE; rw [if_pos (hiff.2 ⟨h1, h2, h3, h4, h5, h6⟩), if_pos (hiff.2 ⟨h1, h2, h3, h4, h5, h6⟩)]; exact ⟨rfl, rfl⟩
      have HV := Lib.hid hV
      have HE := Lib.hid (show dayN y m d = yS y + mC y (m - 1).toNat + (d - 1) from rfl)
      have HS := Lib.hid (show yS y = 365 * (y - 1970) + ((y - 1) / 4 - (y - 1) / 100 + (y - 1) / 400) - 477 from rfl)
      have HN := Lib.hid (fun k (h : k < 12) => mC_next y k h)
      have HC0 : Hid (mC y 0 = 0) := rfl
      have HCk := Lib.hid (fun k (h : k ≤ 12) => show 0 ≤ mC y k ∧ mC y k ≤ 400 from by
        have a1 := mC_le y k 0 (by omega)
        have a2 := mC_le y (12 - k) k (by omega)
        rw [Nat.zero_add] at a1
        rw [show k + (12 - k) = 12 by omega, mC_12] at a2
        have a3 : mC y 0 = 0 := rfl
        have a4 := lpY_01 y
        omega)
      have HDk := Lib.hid (fun k => mD_28 y k)
      have g6 : ¬ mD y m < d := by omega
      clear hbad hiff hno hno2 hV h6
      generalize mD y m = D at *
      go_enter Tryd.func8, Tryd.ntmps8
      go_wp2_with fail
      refine HM.out.mono ?_
      rintro e w' ⟨rfl, rfl⟩
      go_wp2_with fail
      go_loop [8, 9] (fun vd vm => ∃ k : Nat, k + 1 ≤ m.toNat ∧ vd = .int .i64 (mC y k + (d - 1)) ∧ vm = .int .i64 ((k : Int) + 1)) (fun _ vm => (m - RowKit.intOf vm).toNat)
      case atStart => exact ⟨0, by omega, by rw [HC0.out]; congr 1; omega, rfl⟩
      case round =>
        obtain ⟨k, hk, rfl, rfl⟩ := hrel
        have hck := HCk.out k (by omega)
        have hdk := HDk.out ((k : Int) + 1)
        have HK := Lib.hid (HMk.out ((k : Int) + 1))
        by_cases hlt : ((k : Int) + 1) < m
        · have HN2 := Lib.hid (HN.out k (by omega))
          clear HE HV HMk HN HCk HDk HM HS
          generalize mD y ((k : Int) + 1) = D2 at *
          go_wp2_with fail
          refine HK.out.mono ?_
          rintro e w' ⟨rfl, rfl⟩
          go_wp2_with fail
          refine ⟨⟨k + 1, by omega, ?_, by go_num⟩, by simp only [RowKit.intOf]; omega⟩
          rw [HN2.out]; congr 1; omega
        · have e : (m - 1).toNat = k := by omega
          have hE := HE.out
          rw [e, HS.out] at hE
          have HE2 := Lib.hid hE
          clear HN HMk HCk HDk HM HS HE hE
          go_wp2_with fail
          go_ret2
          exact ⟨ret2 (by rw [HV.out.1, HE2.out]; omega) HV.out.2.symm, rfl⟩
    · have HV := Lib.hid (hno (fun h => h6 h.2.2.2.2.2))
      have g6 : mD y m < d := by omega
      clear hbad hiff hno hno2 h6 HMk
      generalize mD y m = D at *
      go_enter Tryd.func8, Tryd.ntmps8
      go_wp2_with fail
      refine HM.out.mono ?_
      rintro e w' ⟨rfl, rfl⟩
      go_wp2_with fail
      go_ret2
      exact ⟨ret2 HV.out.1.symm HV.out.2.symm, rfl⟩
  · have HV := Lib.hid (hno2 hin)
    have hcs : y < 1970 ∨ (1970 ≤ y ∧ 9999 < y) ∨ (1970 ≤ y ∧ y ≤ 9999 ∧ m < 1) ∨ (1970 ≤ y ∧ y ≤ 9999 ∧ 1 ≤ m ∧ 12 < m) ∨ (1970 ≤ y ∧ y ≤ 9999 ∧ 1 ≤ m ∧ m ≤ 12 ∧ d < 1) := by omega
    clear hbad hiff hno hno2 hin
    rcases hcs with q1 | ⟨q1, q2⟩ | ⟨q1, q2, q3⟩ | ⟨q1, q2, q3, q4⟩ | ⟨q1, q2, q3, q4, q5⟩
    all_goals
      go_enter Tryd.func8, Tryd.ntmps8
      go_wp2_with fail
      go_ret2
      exact ⟨ret2 HV.out.1.symm HV.out.2.symm, rfl⟩

set_option maxHeartbeats 8000000 in
set_option maxRecDepth 100000 in
theorem rseconds_any (c : Cv) (w : World) :
    Calls Tryd.prog 12 #[cvV c] w (SecPost c w) := by
  have HD0 := fun W => rdays_any c.y c.m c.d W
  have HO := okC_split c
  have hrg := day_range c.y c.m c.d
  have hX : secX c = if okC c = true then secC c else 0 := rfl
  have hE : secE c = if okC c = true then 0 else 2 := rfl
  have hS : secC c = dayN c.y c.m c.d * 86400 + (c.h * 3600 + c.n * 60 + c.s) := rfl
  unfold SecPost
  unfold cvV
  cases h0 : okDay c.y c.m c.d
  · have hd : dayV c.y c.m c.d = 0 ∧ dayE c.y c.m c.d = 2 := by unfold dayV dayE; rw [h0]; exact ⟨rfl, rfl⟩
    rw [hd.1, hd.2] at HD0
    rw [h0] at HO
    have hf : okC c = false := HO
    rw [hf] at hX hE
    have HD := Lib.hid HD0
    have HX := Lib.hid hX
    have HE := Lib.hid hE
    clear HO hrg hX hE hS hd HD0 h0 hf
    generalize c.y = v0 at *
    generalize c.m = v1 at *
    generalize c.d = v2 at *
    generalize c.h = v3 at *
    generalize c.n = v4 at *
    generalize c.s = v5 at *
    generalize c.w = v6 at *
    go_enter Tryd.func12, Tryd.ntmps12
    go_wp2_with fail
    refine (HD.out _).mono ?_
    rintro e w' ⟨rfl, rfl⟩
    go_wp2_with fail
    go_ret2
    exact ⟨ret2 HX.out.symm HE.out.symm, (Below.refl _ _).alloc (Nat.le_refl _) _⟩
  · have hd : dayV c.y c.m c.d = dayN c.y c.m c.d ∧ dayE c.y c.m c.d = 0 := by unfold dayV dayE; rw [h0]; exact ⟨rfl, rfl⟩
    rw [hd.1, hd.2] at HD0
    rw [h0] at HO
    obtain ⟨r1, r2, -⟩ := hrg h0
    have HD := Lib.hid HD0
    have hok : okC c = true ↔ (0 ≤ c.h ∧ c.h ≤ 23 ∧ 0 ≤ c.n ∧ c.n ≤ 59 ∧ 0 ≤ c.s ∧ c.s ≤ 59 ∧ c.w = (dayN c.y c.m c.d + 4) % 7) := by
      rw [HO]; simp only [Bool.true_and, Bool.and_eq_true, decide_eq_true_eq, and_assoc]
    have hcs : (okC c = true ∧ 0 ≤ c.h ∧ c.h ≤ 23 ∧ 0 ≤ c.n ∧ c.n ≤ 59 ∧ 0 ≤ c.s ∧ c.s ≤ 59 ∧ c.w = (dayN c.y c.m c.d + 4) % 7) ∨
      (okC c = false ∧ (c.h < 0 ∨ (0 ≤ c.h ∧ 23 < c.h) ∨ (0 ≤ c.h ∧ c.h ≤ 23 ∧ c.n < 0) ∨ (0 ≤ c.h ∧ c.h ≤ 23 ∧ 0 ≤ c.n ∧ 59 < c.n) ∨ (0 ≤ c.h ∧ c.h ≤ 23 ∧ 0 ≤ c.n ∧ c.n ≤ 59 ∧ c.s < 0) ∨ (0 ≤ c.h ∧ c.h ≤ 23 ∧ 0 ≤ c.n ∧ c.n ≤ 59 ∧ 0 ≤ c.s ∧ 59 < c.s) ∨ (0 ≤ c.h ∧ c.h ≤ 23 ∧ 0 ≤ c.n ∧ c.n ≤ 59 ∧ 0 ≤ c.s ∧ c.s ≤ 59 ∧ ¬ c.w = (dayN c.y c.m c.d + 4) % 7))) := by
      cases hk : okC c
      · right; refine ⟨rfl, ?_⟩
        have hn : ¬ (0 ≤ c.h ∧ c.h ≤ 23 ∧ 0 ≤ c.n ∧ c.n ≤ 59 ∧ 0 ≤ c.s ∧ c.s ≤ 59 ∧ c.w = (dayN c.y c.m c.d + 4) % 7) := fun h => Bool.false_ne_true (hk.symm.trans (hok.2 h))
        generalize (dayN c.y c.m c.d + 4) % 7 = X at *
        omega
      · left; exact ⟨rfl, hok.1 hk⟩
    clear HO hok hd HD0 h0 hrg
    rcases hcs with ⟨hf, q1, q2, q3, q4, q5, q6, q7⟩ | ⟨hf, hw⟩
    · rw [hf, if_pos rfl] at hX hE
      rw [hS] at hX
      have HX := Lib.hid hX
      have HE := Lib.hid hE
      have q8 : (c.w == (dayN c.y c.m c.d + 4) % 7) = true := beq_iff_eq.2 q7
      clear hX hE hS hf q7
      generalize dayN c.y c.m c.d = N at *
      generalize c.y = v0 at *
      generalize c.m = v1 at *
      generalize c.d = v2 at *
      generalize c.h = v3 at *
      generalize c.n = v4 at *
      generalize c.s = v5 at *
      generalize c.w = v6 at *
      have q9 : (v6 != (N + 4) % 7) = false := by rw [bne, q8]; rfl
      go_enter Tryd.func12, Tryd.ntmps12
      go_wp2_with fail
      refine (HD.out _).mono ?_
      rintro e w' ⟨rfl, rfl⟩
      go_wp2_with fail
      go_ret2
      exact ⟨ret2 (by rw [HX.out]; omega) HE.out.symm, (Below.refl _ _).alloc (Nat.le_refl _) _⟩
    · rw [hf] at hX hE
      have HX := Lib.hid hX
      have HE := Lib.hid hE
      clear hX hE hS hf
      generalize dayN c.y c.m c.d = N at *
      generalize c.y = v0 at *
      generalize c.m = v1 at *
      generalize c.d = v2 at *
      generalize c.h = v3 at *
      generalize c.n = v4 at *
      generalize c.s = v5 at *
      generalize c.w = v6 at *
      have hB := Lib.hid (fun h : ¬ v6 = (N + 4) % 7 => beq_eq_false_iff_ne.2 h)
      rcases hw with q1 | ⟨q1, q2⟩ | ⟨q1, q2, q3⟩ | ⟨q1, q2, q3, q4⟩ | ⟨q1, q2, q3, q4, q5⟩ | ⟨q1, q2, q3, q4, q5, q6⟩ | ⟨q1, q2, q3, q4, q5, q6, q7⟩
      rotate_right
      · have q8 := hB.out q7
        have q9 : (v6 != (N + 4) % 7) = true := by rw [bne, q8]; rfl
        clear q7 hB
        go_enter Tryd.func12, Tryd.ntmps12
        go_wp2_with fail
        refine (HD.out _).mono ?_
        rintro e w' ⟨rfl, rfl⟩
        go_wp2_with fail
        go_ret2
        exact ⟨ret2 HX.out.symm HE.out.symm, (Below.refl _ _).alloc (Nat.le_refl _) _⟩
      all_goals
        clear hB
        go_enter Tryd.func12, Tryd.ntmps12
        go_wp2_with fail
        refine (HD.out _).mono ?_
        rintro e w' ⟨rfl, rfl⟩
        go_wp2_with fail
        go_ret2
        exact ⟨ret2 HX.out.symm HE.out.symm, (Below.refl _ _).alloc (Nat.le_refl _) _⟩
end Tk
end Go.Proofs.YtajmheblbnodjaaDoor
