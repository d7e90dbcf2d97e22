/- AgeParts: a guess is a part of the span, at most a day, greater with a greater part or span. -/
import Derived.Test.YtjhakmobbncbgaaAgB
import Derived.Test.YtjhakmobbncbgaaAgO
import Derived.Deep.Cut
namespace Go.Proofs.Ytjhakmobbncbgaa
open Go.RowKit
namespace Tk
open Fl

theorem retBq {a b : Bool} (h : a = b) : Ending.returned (.bool a) = .returned (.bool b) := by rw [h]

set_option maxHeartbeats 40000000 in
set_option maxRecDepth 100000 in
theorem parts_core (p q : Nat) (a b x y m : Int) (b0 c1 c2 : Bool) (w : World) (ha : -9223372036854775808 ≤ a ∧ a ≤ 9223372036854775807)
    (A1 : Hid (Calls Try.prog 11 #[.float .f64 p, .int .i64 a] w.drew fun e w' => e = .returned (.int .i64 x) ∧ w.drew = w'))
    (A2 : Hid (Calls Try.prog 11 #[.float .f64 q, .int .i64 a] w.drew fun e w' => e = .returned (.int .i64 y) ∧ w.drew = w'))
    (A3 : Hid (Calls Try.prog 11 #[.float .f64 p, .int .i64 b] w.drew fun e w' => e = .returned (.int .i64 m) ∧ w.drew = w'))
    (e0 : (FloatKind.f64.format.order p 0 == some Ordering.gt) = b0)
    (e1 : (FloatKind.f64.format.order p 4607182418800017408 == some Ordering.gt || FloatKind.f64.format.order p 4607182418800017408 == some Ordering.eq) = c1)
    (e2 : (FloatKind.f64.format.order p q == some Ordering.lt || FloatKind.f64.format.order p q == some Ordering.eq) = c2)
    (hx : 0 ≤ x ∧ x ≤ 86400) (h0 : b0 = false → x = 0) (h1 : c1 = true → x = min (max a 0) 86400) (h2 : c2 = true → ¬ y < x)
    (huv : (a < b ∧ x ≤ m) ∨ (a = b ∧ x = m) ∨ (b < a ∧ m ≤ x)) (har : (a < 0 ∧ x = 0) ∨ (a = 0 ∧ x = 0) ∨ (0 < a ∧ a ≤ 86400 ∧ x ≤ a) ∨ 86400 < a) :
    Calls Try.prog 4 #[.float .f64 p, .float .f64 q, .int .i64 a, .int .i64 b] w fun e w' => e = .returned (.bool true) ∧ Below w.heap.size w w' := by
  have HL := Lib.hid (lives_any w)
  have H2 := Lib.hid h2
  have HU := Lib.hid huv
  clear h2 huv
  rcases har with ⟨ha1, rfl⟩ | ⟨rfl, rfl⟩ | ⟨ha1, ha2, ha3⟩ | ha1 <;> cases b0 <;> cases c1
  all_goals
    first
      | (have h0' := h0 rfl; clear h0; first | subst h0' | skip)
      | clear h0
    first
      | (have h1' := h1 rfl; clear h1)
      | clear h1
    try
      have h1'' : x = a := by omega
      clear h1'
      subst h1''
    try
      have h1'' : x = 86400 := by omega
      clear h1'
      subst h1''
    first
      | (exfalso; omega)
      | (try clear h1')
  all_goals
    go_enter Try.func4, Try.ntmps4
    go_wp2_with fail
    refine HL.out.mono ?_
    rintro e w' ⟨rfl, rfl⟩
    go_wp2_with fail
    refine A1.out.mono ?_
    rintro e w' ⟨rfl, rfl⟩
    go_upto_region 6 with (fail)
    cases c2
    · go_upto_region 8 with (fail)
      rcases HU.out with ⟨hab, hmx⟩ | ⟨hab, hmx⟩ | ⟨hab, hmx⟩
      · as_aux_lemma =>
          clear HL HU H2 A2
          go_wp2_with fail
          refine A1.out.mono ?_
          rintro e w' ⟨rfl, rfl⟩
          go_wp2_with fail
          refine A3.out.mono ?_
          rintro e w' ⟨rfl, rfl⟩
          go_wp2_with fail
          go_ret
          exact ⟨retBq (by first | rfl | (rw [decide_eq_true_eq]; omega)), (Below.refl _ _).drew⟩
      · as_aux_lemma =>
          clear HL HU H2 A2
          subst hab hmx
          go_wp2_with fail
          refine A1.out.mono ?_
          rintro e w' ⟨rfl, rfl⟩
          go_wp2_with fail
          refine A1.out.mono ?_
          rintro e w' ⟨rfl, rfl⟩
          go_wp2_with fail
          go_ret
          exact ⟨retBq (by first | rfl | (rw [decide_eq_true_eq]; omega)), (Below.refl _ _).drew⟩
      · as_aux_lemma =>
          clear HL HU H2 A2
          go_wp2_with fail
          refine A3.out.mono ?_
          rintro e w' ⟨rfl, rfl⟩
          go_wp2_with fail
          refine A1.out.mono ?_
          rintro e w' ⟨rfl, rfl⟩
          go_wp2_with fail
          go_ret
          exact ⟨retBq (by first | rfl | (rw [decide_eq_true_eq]; omega)), (Below.refl _ _).drew⟩
    · have h2' := H2.out rfl
      go_wp2_with fail
      refine A2.out.mono ?_
      rintro e w' ⟨rfl, rfl⟩
      go_upto_region 8 with (fail)
      rcases HU.out with ⟨hab, hmx⟩ | ⟨hab, hmx⟩ | ⟨hab, hmx⟩
      · as_aux_lemma =>
          clear HL HU H2 A2
          go_wp2_with fail
          refine A1.out.mono ?_
          rintro e w' ⟨rfl, rfl⟩
          go_wp2_with fail
          refine A3.out.mono ?_
          rintro e w' ⟨rfl, rfl⟩
          go_wp2_with fail
          go_ret
          exact ⟨retBq (by first | rfl | (rw [decide_eq_true_eq]; omega)), (Below.refl _ _).drew⟩
      · as_aux_lemma =>
          clear HL HU H2 A2
          subst hab hmx
          go_wp2_with fail
          refine A1.out.mono ?_
          rintro e w' ⟨rfl, rfl⟩
          go_wp2_with fail
          refine A1.out.mono ?_
          rintro e w' ⟨rfl, rfl⟩
          go_wp2_with fail
          go_ret
          exact ⟨retBq (by first | rfl | (rw [decide_eq_true_eq]; omega)), (Below.refl _ _).drew⟩
      · as_aux_lemma =>
          clear HL HU H2 A2
          go_wp2_with fail
          refine A3.out.mono ?_
          rintro e w' ⟨rfl, rfl⟩
          go_wp2_with fail
          refine A1.out.mono ?_
          rintro e w' ⟨rfl, rfl⟩
          go_wp2_with fail
          go_ret
          exact ⟨retBq (by first | rfl | (rw [decide_eq_true_eq]; omega)), (Below.refl _ _).drew⟩

theorem parts_anyA (p q : Nat) (a b : Int) (w : World) (hp : p < 18446744073709551616) (hq : q < 18446744073709551616) (ha : -9223372036854775808 ≤ a ∧ a ≤ 9223372036854775807) (hb : -9223372036854775808 ≤ b ∧ b ≤ 9223372036854775807) :
    Calls Try.prog 4 #[.float .f64 p, .float .f64 q, .int .i64 a, .int .i64 b] w fun e w' => e = .returned (.bool true) ∧ Below w.heap.size w w' := by
  have hbd := gA_bd p a
  have hsp := gA_span p a
  refine parts_core p q a b (gA p a) (gA q a) (gA p b) _ _ _ w ha (guess_any p a w.drew hp ha) (guess_any q a w.drew hq ha) (guess_any p b w.drew hp hb) rfl rfl rfl hbd ?_ ?_ ?_ ?_ ?_
  · intro h
    refine gA_none p a fun hh => ?_
    have h2 := (gt_zero p hp).2 hh
    rw [show FloatKind.f64.format.order p 0 = some .gt from h2] at h
    cases h
  · intro h
    rw [Bool.or_eq_true, beq_iff_eq, beq_iff_eq] at h
    obtain ⟨g1, g2⟩ := ge_of_order p 4607182418800017408 (by omega) hp h
    exact gA_all p a g1 g2
  · intro h
    rw [Bool.or_eq_true, beq_iff_eq, beq_iff_eq] at h
    have := gA_part (p := p) (q := q) a (fun hp2 => le_of_order p q hp2 hq h)
    omega
  · rcases Int.lt_trichotomy a b with h | h | h
    · exact .inl ⟨h, gA_mono p (by omega)⟩
    · exact .inr (.inl ⟨h, by rw [h]⟩)
    · exact .inr (.inr ⟨h, gA_mono p (by omega)⟩)
  · omega
end Tk
end Go.Proofs.Ytjhakmobbncbgaa
