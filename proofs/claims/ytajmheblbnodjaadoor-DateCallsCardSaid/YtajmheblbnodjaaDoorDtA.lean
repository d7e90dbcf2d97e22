/- date: years, months, weekdays. -/
import Derived.Test.YtajmheblbnodjaaDoorBase
import Derived.Test.YtajmheblbnodjaaDoorNum
import Derived.Test.YtajmheblbnodjaaDoorDtT
namespace Go.Proofs.YtajmheblbnodjaaDoor
open Go.RowKit
namespace Tk

theorem retBd {a b : Bool} (h : a = b) : Ending.returned (.bool a) = .returned (.bool b) := by rw [h]
theorem retId {k : IntKind} {a b : Int} (h : a = b) : Ending.returned (.int k a) = .returned (.int k b) := by rw [h]

set_option maxHeartbeats 400000 in
theorem leapsBefore_any (y : Int) (w : World) (h : 1 ≤ y ∧ y ≤ 20000) :
    Calls Tryd.prog 43 #[.int .i64 y] w fun e w' => e = .returned (.int .i64 (lpB y)) ∧ w = w' := by
  have hy := h
  go_enter Tryd.func43, Tryd.ntmps43
  go_wp2_with fail
  go_ret
  exact ⟨rfl, rfl⟩

set_option maxHeartbeats 400000 in
theorem yearStart_any (y : Int) (w : World) (h : 1 ≤ y ∧ y ≤ 20000) :
    Calls Tryd.prog 27 #[.int .i64 y] w fun e w' => e = .returned (.int .i64 (yS y)) ∧ w = w' := by
  have hL := Lib.hid (leapsBefore_any y w h)
  have hM := Lib.hid (leapsBefore_any 1970 w (by decide))
  have hb : 0 ≤ lpB y ∧ lpB y ≤ 20000 := by unfold lpB; omega
  have hb2 : lpB 1970 = 477 := by decide
  rw [hb2] at hM
  have HV := Lib.hid (show yS y = 365 * (y - 1970) + lpB y - 477 from rfl)
  clear hb2
  generalize lpB y = L at *
  go_enter Tryd.func27, Tryd.ntmps27
  go_wp2_with fail
  refine hL.out.mono ?_
  rintro e w' ⟨rfl, rfl⟩
  go_wp2_with fail
  refine hM.out.mono ?_
  rintro e w' ⟨rfl, rfl⟩
  go_wp2_with fail
  go_ret
  exact ⟨retId (by rw [HV.out]), rfl⟩

set_option maxHeartbeats 400000 in
theorem weekday_any (n : Int) (w : World) (h : 0 ≤ n ∧ n ≤ 100000000) :
    Calls Tryd.prog 30 #[.int .i64 n] w fun e w' => e = .returned (.int .i64 ((n + 4) % 7)) ∧ w = w' := by
  have hy := h
  go_enter Tryd.func30, Tryd.ntmps30
  go_wp2_with fail
  go_ret
  exact ⟨rfl, rfl⟩

set_option maxHeartbeats 400000 in
theorem within_any (n a b : Int) (w : World) :
    Calls Tryd.prog 25 #[.int .i64 n, .int .i64 a, .int .i64 b] w fun e w' => e = .returned (.bool (decide (a ≤ n) && decide (n ≤ b))) ∧ w = w' := by
  cases e1 : decide (a ≤ n) <;> cases e2 : decide (n ≤ b)
  all_goals
    go_enter Tryd.func25, Tryd.ntmps25
    go_wp2_with fail
    go_ret
    exact ⟨rfl, rfl⟩


theorem mD_kind (m : Int) : (m = 4 ∨ m = 6 ∨ m = 9 ∨ m = 11) ∨ m = 2 ∨ ((m == 4) = false ∧ (m == 6) = false ∧ (m == 9) = false ∧ (m == 11) = false ∧ (m == 2) = false) := by
  by_cases h4 : m = 4
  · exact .inl (.inl h4)
  by_cases h6 : m = 6
  · exact .inl (.inr (.inl h6))
  by_cases h9 : m = 9
  · exact .inl (.inr (.inr (.inl h9)))
  by_cases h11 : m = 11
  · exact .inl (.inr (.inr (.inr h11)))
  by_cases h2 : m = 2
  · exact .inr (.inl h2)
  exact .inr (.inr ⟨beq_eq_false_iff_ne.2 h4, beq_eq_false_iff_ne.2 h6, beq_eq_false_iff_ne.2 h9, beq_eq_false_iff_ne.2 h11, beq_eq_false_iff_ne.2 h2⟩)

set_option maxHeartbeats 1000000 in
theorem monthDays_any (y m : Int) (w : World) (h : 1 ≤ y ∧ y ≤ 19999) :
    Calls Tryd.prog 26 #[.int .i64 y, .int .i64 m] w fun e w' => e = .returned (.int .i64 (mD y m)) ∧ w = w' := by
  rcases mD_kind m with (rfl | rfl | rfl | rfl) | rfl | ⟨e4, e6, e9, e11, e2⟩
  · go_enter Tryd.func26, Tryd.ntmps26
    go_wp2_with fail
    go_ret
    exact ⟨rfl, rfl⟩
  · go_enter Tryd.func26, Tryd.ntmps26
    go_wp2_with fail
    go_ret
    exact ⟨rfl, rfl⟩
  · go_enter Tryd.func26, Tryd.ntmps26
    go_wp2_with fail
    go_ret
    exact ⟨rfl, rfl⟩
  · go_enter Tryd.func26, Tryd.ntmps26
    go_wp2_with fail
    go_ret
    exact ⟨rfl, rfl⟩
  · have hL := Lib.hid (leapsBefore_any (y + 1) w (by omega))
    have hM := Lib.hid (leapsBefore_any y w (by omega))
    have hb1 : 0 ≤ lpB (y + 1) ∧ lpB (y + 1) ≤ 20000 := by unfold lpB; omega
    have hb2 : 0 ≤ lpB y ∧ lpB y ≤ 20000 := by unfold lpB; omega
    have HV := Lib.hid (show mD y 2 = 28 + lpB (y + 1) - lpB y from rfl)
    generalize lpB (y + 1) = L1 at *
    generalize lpB y = L at *
    go_enter Tryd.func26, Tryd.ntmps26
    go_wp2_with fail
    refine hL.out.mono ?_
    rintro e w' ⟨rfl, rfl⟩
    go_wp2_with fail
    refine hM.out.mono ?_
    rintro e w' ⟨rfl, rfl⟩
    go_wp2_with fail
    go_ret
    exact ⟨retId (by rw [HV.out]), rfl⟩
  · have HV := Lib.hid (show mD y m = 31 by
      rw [beq_eq_false_iff_ne] at e4 e6 e9 e11 e2
      unfold mD; rw [if_neg (by omega), if_neg e2])
    go_enter Tryd.func26, Tryd.ntmps26
    go_wp2_with fail
    go_ret
    exact ⟨retId (by rw [HV.out]), rfl⟩

set_option maxHeartbeats 1000000 in
theorem yearOf_any (n : Int) (w : World) (h : 0 ≤ n ∧ n < 2932897) :
    Calls Tryd.prog 29 #[.int .i64 n] w fun e w' => e = .returned (.int .i64 (yOf n)) ∧ w = w' := by
  have hy := h
  have H0 := Lib.hid (yS_above n h.1)
  have HR := Lib.hid (fun y (h1 : yS y ≤ n) (h2 : n < yS (y + 1)) => yOf_is h.1 h1 h2)
  have HY := Lib.hid yS_1970
  have HLe := Lib.hid (fun y (h1 : n < yS y) => Int.not_le.1 fun h2 : y ≤ 1970 => by have := yS_le h2; rw [yS_1970] at this; omega)
  have hq : 0 ≤ n * 400 / 146097 ∧ n * 400 / 146097 ≤ 9000 := by omega
  go_enter Tryd.func29, Tryd.ntmps29
  go_wp2_with fail
  generalize n * 400 / 146097 = q at *
  go_loop [3] (fun vy => ∃ y : Int, 1970 ≤ y ∧ y ≤ 12000 ∧ vy = .int .i64 y ∧ Hid (n < yS (y + 1))) (fun vy => (RowKit.intOf vy - 1970).toNat)
  case atStart => exact ⟨_, by omega, by omega, rfl, by rw [show 1970 + q + 1 + 1 = 1970 + q + 2 by omega]; exact H0.out⟩
  case round =>
    obtain ⟨y, hy1, hy2, rfl, HI⟩ := hrel
    have HS := Lib.hid (yearStart_any y w (by omega))
    cases hgt : decide (n < yS y)
    · have HE := Lib.hid (HR.out y (Int.not_lt.1 (of_decide_eq_false hgt)) HI.out)
      clear HR HLe HI H0
      generalize yS y = S at *
      go_wp2_with fail
      refine HS.out.mono ?_
      rintro e w' ⟨rfl, rfl⟩
      go_wp2_with fail
      go_ret
      exact ⟨retId HE.out.symm, rfl⟩
    · have hl := HLe.out y (of_decide_eq_true hgt)
      have HI2 := Lib.hid (of_decide_eq_true hgt)
      clear HR HLe HI H0
      generalize hS : yS y = S at *
      go_wp2_with fail
      refine HS.out.mono ?_
      rintro e w' ⟨rfl, rfl⟩
      go_wp2_with fail
      refine ⟨⟨y - 1, by omega, by omega, rfl, by rw [Int.sub_add_cancel, hS]; exact HI2.out⟩, ?_⟩
      simp only [RowKit.intOf]; omega
end Tk
end Go.Proofs.YtajmheblbnodjaaDoor
