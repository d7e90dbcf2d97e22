/- Plain facts on floats: a float from 0 to 1, times 1000, cut to a whole number. -/
import Derived.Test.YtjhakmobbncbgaaFloat
import Derived.KernelRfl
namespace Go.Proofs.Ytjhakmobbncbgaa
namespace Fl
open Ieee

theorem succ_div (a b : Nat) (hb : 0 < b) : (a + 1) / b ≤ a / b + 1 := by
  rw [← Nat.add_div_right a hb]
  exact Nat.div_le_div_right (by omega)

theorem read_1000 : double.read 4652007308841189376 = .number false 8796093022208000 (-43) := by decide +kernel
theorem val_one : val 4607182418800017408 = one := by
  obtain ⟨E, hE⟩ : ∃ E : Nat, E = 1022 := ⟨_, rfl⟩
  rw [show (4607182418800017408 : Nat) = E * 4503599627370496 + 4503599627370496 by omega, val_rung E 4503599627370496 (by omega) (by omega)]
  have e := oneE_eq
  unfold one
  rw [show (4503599627370496 : Nat) = 2 ^ 52 by decide, ← Nat.pow_add]
  exact congrArg (fun x => 2 ^ x) (by omega)

theorem toInt_val (r : Nat) (h : r < 9218868437227405312) (hs : val r / one < 9223372036854775807) : floatToIntVal .f64 r .i64 = some ((val r / one : Nat) : Int) := by
  unfold floatToIntVal
  have e : (FloatKind.f64.decode r).toInt .zero = some ((val r / one : Nat) : Int) := toInt_pos r h
  rw [e]
  generalize val r / one = n at *
  have h1 : IntKind.i64.min = -9223372036854775808 := by decide
  have h2 : IntKind.i64.max = 9223372036854775807 := by decide
  simp only [h1, h2]
  rw [if_pos (by omega)]

theorem mul1000 (q : Nat) (h : q ≤ 4607182418800017408) : ∃ (r n : Nat), double.mul q 4652007308841189376 = some r ∧ floatToIntVal .f64 r .i64 = some (n : Int) ∧ val q * 1000 / one ≤ n ∧ n ≤ val q * 1000 / one + 1 := by
  obtain ⟨m, c, r1, v1, hz, -, -⟩ := read_pos q (by omega)
  have hle : val q ≤ one := by rw [← val_one]; exact val_le h
  unfold Format.mul
  rw [r1, read_1000]
  simp only [Datum.product, Option.map_some, Bool.false_xor, Format.write]
  by_cases h0 : q = 0
  · have hm := hz.2 h0
    subst hm
    have hv : val q = 0 := by rw [v1]; simp
    refine ⟨_, 0, rfl, ?_, by rw [hv]; simp, Nat.zero_le _⟩
    have e : double.nearest false (0 * 8796093022208000) (-1074 + (c : Int) + -43) = 0 := by
      rw [Nat.zero_mul]; unfold Format.nearest; rw [if_pos rfl]; decide
    rw [e]
    decide +kernel
  · have hm : m ≠ 0 := fun e => h0 (hz.1 e)
    have hmag : m * 8796093022208000 ≠ 0 := by omega
    obtain ⟨X, hX⟩ : ∃ X : Nat, X = 1127 := ⟨_, rfl⟩
    have hlog : (m * 8796093022208000).log2 + c < X := by
      have e1 : 2 ^ (m * 8796093022208000).log2 ≤ m * 8796093022208000 := Nat.log2_self_le hmag
      have e2 : 2 ^ (m * 8796093022208000).log2 * 2 ^ c ≤ m * 8796093022208000 * 2 ^ c := Nat.mul_le_mul_right _ e1
      have e3 : m * 8796093022208000 * 2 ^ c = val q * 8796093022208000 := by rw [v1, Nat.mul_assoc, Nat.mul_comm 8796093022208000, ← Nat.mul_assoc]
      have e4 : val q * 8796093022208000 ≤ one * 8796093022208000 := Nat.mul_le_mul_right _ hle
      have e5 : one * 8796093022208000 < one * 2 ^ 53 := Nat.mul_lt_mul_of_pos_left (by decide) one_pos
      have e6 : one * 2 ^ 53 = 2 ^ X := by
        have e := oneE_eq
        unfold one; rw [← Nat.pow_add]; exact congrArg (fun x => 2 ^ x) (by omega)
      rw [← Nat.pow_add] at e2
      rw [e3] at e2
      rw [e6] at e5
      have t2 := Nat.lt_of_le_of_lt (Nat.le_trans e2 e4) e5
      exact (Nat.pow_lt_pow_iff_right (a := 2) (by decide)).1 t2
    obtain ⟨kept, L, w, hv, hlt, k0, k1, hL⟩ := nearest_pos (m * 8796093022208000) c 43 hmag (by omega)
    have e43 : -1074 + (c : Int) + -43 = -1074 + (c : Int) - (43 : Nat) := by omega
    rw [e43, w]
    have hlow : m * 8796093022208000 * 2 ^ c / 2 ^ (43 + L) = val q * 1000 / 2 ^ L := by
      have e3 : m * 8796093022208000 * 2 ^ c = 2 ^ 43 * (val q * 1000) := by
        rw [v1, show (8796093022208000 : Nat) = 1000 * 2 ^ 43 by decide]
        generalize 2 ^ 43 = A
        generalize 2 ^ c = B
        ac_rfl
      rw [e3, Nat.pow_add, Nat.mul_div_mul_left _ _ (Nat.two_pow_pos _)]
    rw [hlow] at k0 k1
    have ho : one = 2 ^ (1074 - L) * 2 ^ L := one_split L (by omega)
    have hk : kept * 2 ^ L / one = kept / 2 ^ (1074 - L) := by rw [ho, Nat.mul_div_mul_right _ _ (Nat.two_pow_pos _)]
    have hd : val q * 1000 / one = val q * 1000 / 2 ^ L / 2 ^ (1074 - L) := by rw [ho, Nat.div_div_eq_div_mul, Nat.mul_comm (2 ^ (1074 - L))]
    have hp : 0 < 2 ^ (1074 - L) := Nat.two_pow_pos _
    have l1 : val q * 1000 / one ≤ val (L * 4503599627370496 + kept) / one := by rw [hv, hk, hd]; exact Nat.div_le_div_right k0
    have l2 : val (L * 4503599627370496 + kept) / one ≤ val q * 1000 / one + 1 := by
      rw [hv, hk, hd]
      exact Nat.le_trans (Nat.div_le_div_right k1) (succ_div _ _ hp)
    have l3 : val q * 1000 / one ≤ 1000 := by
      have := Nat.div_le_div_right (c := one) (Nat.mul_le_mul_right 1000 hle)
      rw [Nat.mul_div_cancel_left _ one_pos] at this
      exact this
    exact ⟨_, _, rfl, toInt_val _ hlt (Nat.lt_of_le_of_lt (Nat.le_trans l2 (Nat.succ_le_succ l3)) (by omega)), l1, l2⟩
end Fl
end Go.Proofs.Ytjhakmobbncbgaa
