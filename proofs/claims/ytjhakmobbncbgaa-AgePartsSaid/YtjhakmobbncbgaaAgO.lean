/- Plain facts on the order of floats: what is not below a float above 0. -/
import Derived.Test.YtjhakmobbncbgaaAgS
namespace Go.Proofs.Ytjhakmobbncbgaa
namespace Fl
open Ieee

theorem read_neg (s : Nat) (h0 : 9223372036854775808 ≤ s) (h1 : s < 18446744073709551616) : (∃ m e, double.read s = .number true m e) ∨ double.read s = .infinity true ∨ ∃ t u, double.read s = .nan t u := by
  have hs : double.signWeight = 9223372036854775808 := by decide
  have hb : double.binade = 4503599627370496 := by decide
  have hi : double.infRung = 9218868437227405312 := by decide
  have hl : double.leastPlace = -1074 := by decide
  unfold Format.read
  simp only [hs, hb, hi, hl]
  have e2 : (s / 9223372036854775808 % 2 == 1) = true := by
    rw [show s / 9223372036854775808 = 1 by omega]; rfl
  rw [e2]
  generalize s % 9223372036854775808 = r
  by_cases h4 : r < 4503599627370496
  · rw [if_pos h4]; exact .inl ⟨_, _, rfl⟩
  · rw [if_neg h4]
    by_cases h5 : r < 9218868437227405312
    · rw [if_pos h5]; exact .inl ⟨_, _, rfl⟩
    · rw [if_neg h5]
      by_cases h6 : r = 9218868437227405312
      · rw [if_pos h6]; exact .inr (.inl rfl)
      · rw [if_neg h6]; exact .inr (.inr ⟨_, _, rfl⟩)

theorem read_nan (s : Nat) (h0 : 9218868437227405312 < s) (h1 : s < 9223372036854775808) : ∃ t u, double.read s = .nan t u := by
  have hs : double.signWeight = 9223372036854775808 := by decide
  have hb : double.binade = 4503599627370496 := by decide
  have hi : double.infRung = 9218868437227405312 := by decide
  have hl : double.leastPlace = -1074 := by decide
  unfold Format.read
  simp only [hs, hb, hi, hl]
  rw [Nat.mod_eq_of_lt h1, if_neg (by omega), if_neg (by omega), if_neg (by omega)]
  exact ⟨_, _, rfl⟩

theorem read_up (p : Nat) (hp : 0 < p ∧ p ≤ 9218868437227405312) : (∃ (m : Nat) (e : Int), double.read p = .number false m e ∧ m ≠ 0) ∨ double.read p = .infinity false := by
  by_cases h : p < 9218868437227405312
  · obtain ⟨m, c, r, -, hz, -, -⟩ := read_pos p h
    exact .inl ⟨m, _, r, fun e => by have := hz.1 e; omega⟩
  · have : p = 9218868437227405312 := by omega
    subst this
    exact .inr (by decide +kernel)

theorem sgn_pos (m k : Nat) (h : m ≠ 0) : (0 : Int) < Ieee.signed false m k := by
  rw [signed_false]
  have : 0 < m * 2 ^ k := Nat.mul_pos (by omega) (Nat.two_pow_pos _)
  omega
theorem sgn_neg (m k : Nat) : Ieee.signed true m k ≤ 0 := by
  unfold Ieee.signed
  rw [if_pos rfl]
  have hx : ∀ x : Nat, -(x : Int) ≤ 0 := by intro x; omega
  exact hx _

theorem order_up_neg (p s : Nat) (hp : 0 < p ∧ p ≤ 9218868437227405312) (h0 : 9223372036854775808 ≤ s) (h1 : s < 18446744073709551616) : (double.order p s = some .gt ∨ double.order p s = none) ∧ (double.order s p = some .lt ∨ double.order s p = none) := by
  unfold Format.order
  rcases read_up p hp with ⟨m, e, hr, hm⟩ | hr <;> rcases read_neg s h0 h1 with ⟨n, f, hn⟩ | hn | ⟨t, u, hn⟩ <;> rw [hr, hn]
  · have hx := sgn_pos m (e - min e f).toNat hm
    have hy := sgn_neg n (f - min e f).toNat
    have hx2 := sgn_pos m (e - min f e).toNat hm
    have hy2 := sgn_neg n (f - min f e).toNat
    refine ⟨.inl ?_, .inl ?_⟩
    · simp only [Datum.order, Option.some.injEq]
      rw [Int.compare_eq_gt]; omega
    · simp only [Datum.order, Option.some.injEq]
      rw [Int.compare_eq_lt]; omega
  · exact ⟨.inl rfl, .inl rfl⟩
  · exact ⟨.inr rfl, .inr rfl⟩
  · exact ⟨.inl rfl, .inl rfl⟩
  · exact ⟨.inl rfl, .inl rfl⟩
  · exact ⟨.inr rfl, .inr rfl⟩

theorem order_up_nan (p s : Nat) (hp : 0 < p ∧ p ≤ 9218868437227405312) (h0 : 9218868437227405312 < s) (h1 : s < 9223372036854775808) : double.order p s = none ∧ double.order s p = none := by
  obtain ⟨t, u, hn⟩ := read_nan s h0 h1
  unfold Format.order
  rcases read_up p hp with ⟨m, e, hr, hm⟩ | hr <;> rw [hr, hn] <;> exact ⟨rfl, rfl⟩

/-- what a float above 0 is not above -/
theorem le_of_order (p q : Nat) (hp : 0 < p ∧ p ≤ 9218868437227405312) (hq : q < 18446744073709551616) (h : double.order p q = some .lt ∨ double.order p q = some .eq) : p ≤ q ∧ q ≤ 9218868437227405312 := by
  by_cases h1 : q ≤ 9218868437227405312
  · rw [order_up p q hp.2 h1] at h
    rcases h with h | h <;> injection h with h
    · rw [Nat.compare_eq_lt] at h; omega
    · rw [Nat.compare_eq_eq] at h; omega
  · exfalso
    by_cases h2 : q < 9223372036854775808
    · rw [(order_up_nan p q hp (by omega) h2).1] at h
      rcases h with h | h <;> cases h
    · rcases (order_up_neg p q hp (by omega) hq).1 with e | e <;> rw [e] at h <;> rcases h with h | h <;> cases h
/-- what is not below a float above 0 -/
theorem ge_of_order (p r : Nat) (hr : 0 < r ∧ r ≤ 9218868437227405312) (hp : p < 18446744073709551616) (h : double.order p r = some .gt ∨ double.order p r = some .eq) : r ≤ p ∧ p ≤ 9218868437227405312 := by
  by_cases h1 : p ≤ 9218868437227405312
  · rw [order_up p r h1 hr.2] at h
    rcases h with h | h <;> injection h with h
    · rw [Nat.compare_eq_gt] at h; omega
    · rw [Nat.compare_eq_eq] at h; omega
  · exfalso
    by_cases h2 : p < 9223372036854775808
    · rw [(order_up_nan r p hr (by omega) h2).2] at h
      rcases h with h | h <;> cases h
    · rcases (order_up_neg r p hr (by omega) hp).2 with e | e <;> rw [e] at h <;> rcases h with h | h <;> cases h
end Fl
end Go.Proofs.Ytjhakmobbncbgaa
