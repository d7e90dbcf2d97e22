/- Plain facts on the model's floats of 64 bits that are not negative: their order is that of their words; a product cut to a whole number. -/
import Derived.Laws.FloatArith
import Derived.Laws.Cover2
namespace Go.Proofs.Ytjhakmobbncbgaa
namespace Fl
open Ieee

/-- the value of a finite word without a sign, in units of 2^-1074 -/
def val (b : Nat) : Nat := if b < 4503599627370496 then b else (4503599627370496 + b % 4503599627370496) * 2 ^ (b / 4503599627370496 - 1)

theorem val_lt {a b : Nat} (h : a < b) : val a < val b := by
  unfold val
  by_cases ha : a < 4503599627370496
  · rw [if_pos ha]
    by_cases hb : b < 4503599627370496
    · rw [if_pos hb]; exact h
    · rw [if_neg hb]
      have h1 : 1 ≤ 2 ^ (b / 4503599627370496 - 1) := Nat.one_le_two_pow
      have h2 : 4503599627370496 * 1 ≤ (4503599627370496 + b % 4503599627370496) * 2 ^ (b / 4503599627370496 - 1) := Nat.mul_le_mul (by omega) h1
      omega
  · rw [if_neg ha, if_neg (by omega)]
    have hd : a / 4503599627370496 ≤ b / 4503599627370496 := Nat.div_le_div_right (by omega)
    by_cases he : a / 4503599627370496 = b / 4503599627370496
    · rw [← he]
      exact Nat.mul_lt_mul_of_pos_right (by omega) (Nat.two_pow_pos _)
    · have h1 : (4503599627370496 + a % 4503599627370496) * 2 ^ (a / 4503599627370496 - 1) < (2 * 4503599627370496) * 2 ^ (a / 4503599627370496 - 1) := Nat.mul_lt_mul_of_pos_right (by omega) (Nat.two_pow_pos _)
      have h2 : (2 * 4503599627370496) * 2 ^ (a / 4503599627370496 - 1) = 4503599627370496 * 2 ^ (a / 4503599627370496) := by
        rw [show a / 4503599627370496 = (a / 4503599627370496 - 1) + 1 by omega, Nat.pow_succ, Nat.add_sub_cancel, Nat.mul_comm 2, Nat.mul_assoc, Nat.mul_comm 2]
      have h3 : 2 ^ (a / 4503599627370496) ≤ 2 ^ (b / 4503599627370496 - 1) := Nat.pow_le_pow_right (by omega) (by omega)
      have h4 : 4503599627370496 * 2 ^ (a / 4503599627370496) ≤ (4503599627370496 + b % 4503599627370496) * 2 ^ (b / 4503599627370496 - 1) := Nat.mul_le_mul (by omega) h3
      omega

theorem val_le {a b : Nat} (h : a ≤ b) : val a ≤ val b := by
  rcases Nat.lt_or_eq_of_le h with h | h
  · exact Nat.le_of_lt (val_lt h)
  · rw [h]; exact Nat.le_refl _
theorem val_lt_iff {a b : Nat} : val a < val b ↔ a < b := ⟨fun h => Nat.lt_of_not_le fun k => Nat.not_le_of_lt h (val_le k), val_lt⟩
theorem val_inj {a b : Nat} (h : val a = val b) : a = b := by
  rcases Nat.lt_trichotomy a b with h1 | h1 | h1
  · have := val_lt h1; omega
  · exact h1
  · have := val_lt h1; omega

/-- what a finite word without a sign reads as -/
theorem read_pos (b : Nat) (h : b < 9218868437227405312) : ∃ (m : Nat) (c : Nat), double.read b = .number false m (-1074 + (c : Int)) ∧ val b = m * 2 ^ c ∧ (m = 0 ↔ b = 0) ∧ m < 9007199254740992 ∧ c ≤ 2045 := by
  have hs : double.signWeight = 9223372036854775808 := by decide
  have hb : double.binade = 4503599627370496 := by decide
  have hi : double.infRung = 9218868437227405312 := by decide
  have hl : double.leastPlace = -1074 := by decide
  unfold Format.read
  simp only [hs, hb, hi, hl]
  have e1 : b % 9223372036854775808 = b := Nat.mod_eq_of_lt (by omega)
  have e2 : (b / 9223372036854775808 % 2 == 1) = false := by rw [Nat.div_eq_of_lt (by omega)]; rfl
  rw [e1, e2]
  by_cases h1 : b < 4503599627370496
  · rw [if_pos h1]
    exact ⟨b, 0, by simp, by unfold val; rw [if_pos h1]; simp, Iff.rfl, by omega, by omega⟩
  · rw [if_neg h1, if_pos h]
    refine ⟨_, b / 4503599627370496 - 1, rfl, by unfold val; rw [if_neg h1], by omega, by omega, by omega⟩

theorem signed_false (m c : Nat) : Ieee.signed false m c = ((m * 2 ^ c : Nat) : Int) := by
  unfold Ieee.signed; rw [if_neg (by decide), Nat.shiftLeft_eq]

theorem compare_scale (a b c d k : Nat) (h1 : c = a * 2 ^ k) (h2 : d = b * 2 ^ k) : compare (a : Int) (b : Int) = compare c d := by
  have hp : 0 < 2 ^ k := Nat.two_pow_pos k
  subst h1 h2
  rcases Nat.lt_trichotomy a b with h | h | h
  · have e1 : compare (a : Int) (b : Int) = .lt := by rw [Int.compare_eq_lt]; omega
    have e2 : compare (a * 2 ^ k) (b * 2 ^ k) = .lt := by rw [Nat.compare_eq_lt]; exact Nat.mul_lt_mul_of_pos_right h hp
    rw [e1, e2]
  · subst h
    have e1 : compare (a : Int) (a : Int) = .eq := by rw [Int.compare_eq_eq]
    have e2 : compare (a * 2 ^ k) (a * 2 ^ k) = .eq := by rw [Nat.compare_eq_eq]
    rw [e1, e2]
  · have e1 : compare (a : Int) (b : Int) = .gt := by rw [Int.compare_eq_gt]; omega
    have e2 : compare (a * 2 ^ k) (b * 2 ^ k) = .gt := by rw [Nat.compare_eq_gt]; exact Nat.mul_lt_mul_of_pos_right h hp
    rw [e1, e2]

theorem compare_val (a b : Nat) : compare (val a) (val b) = compare a b := by
  rcases Nat.lt_trichotomy a b with h | h | h
  · rw [Nat.compare_eq_lt.2 h, Nat.compare_eq_lt.2 (val_lt h)]
  · subst h; rw [Nat.compare_eq_eq.2 rfl, Nat.compare_eq_eq.2 rfl]
  · rw [Nat.compare_eq_gt.2 h, Nat.compare_eq_gt.2 (val_lt h)]

/-- two finite words without a sign stand to each other as numbers -/
theorem order_pos (a b : Nat) (ha : a < 9218868437227405312) (hb : b < 9218868437227405312) : double.order a b = some (compare a b) := by
  obtain ⟨m, c, r1, v1, -, -, -⟩ := read_pos a ha
  obtain ⟨n, d, r2, v2, -, -, -⟩ := read_pos b hb
  unfold Format.order
  rw [r1, r2]
  simp only [Datum.order, signed_false]
  rw [← compare_val a b]
  congr 1
  by_cases h : c ≤ d
  · have e0 : min (-1074 + (c : Int)) (-1074 + (d : Int)) = -1074 + (c : Int) := by omega
    rw [e0]
    have e1 : (-1074 + (c : Int) - (-1074 + (c : Int))).toNat = 0 := by omega
    have e2 : (-1074 + (d : Int) - (-1074 + (c : Int))).toNat = d - c := by omega
    rw [e1, e2]
    refine compare_scale _ _ _ _ c (by rw [v1]; simp) ?_
    rw [v2, Nat.mul_assoc, ← Nat.pow_add, Nat.sub_add_cancel h]
  · have e0 : min (-1074 + (c : Int)) (-1074 + (d : Int)) = -1074 + (d : Int) := by omega
    rw [e0]
    have e1 : (-1074 + (d : Int) - (-1074 + (d : Int))).toNat = 0 := by omega
    have e2 : (-1074 + (c : Int) - (-1074 + (d : Int))).toNat = c - d := by omega
    rw [e1, e2]
    refine compare_scale _ _ _ _ d ?_ (by rw [v2]; simp)
    rw [v1, Nat.mul_assoc, ← Nat.pow_add, Nat.sub_add_cancel (by omega)]

/-- cutting off digits, where the count of them is held small: the whole part is what plain division gives -/
theorem cut_low (n drop : Nat) : n / (1 <<< min drop (n.log2 + 2)) = n / 2 ^ drop := by
  rw [Nat.shiftLeft_eq, Nat.one_mul]
  by_cases h : drop ≤ n.log2 + 2
  · rw [Nat.min_eq_left h]
  · rw [Nat.min_eq_right (by omega)]
    have h1 : n < 2 ^ (n.log2 + 1) := Nat.lt_log2_self
    have h2 : 2 ^ (n.log2 + 1) ≤ 2 ^ (n.log2 + 2) := Nat.pow_le_pow_right (by omega) (by omega)
    have h3 : 2 ^ (n.log2 + 2) ≤ 2 ^ drop := Nat.pow_le_pow_right (by omega) (by omega)
    rw [Nat.div_eq_of_lt (by omega), Nat.div_eq_of_lt (by omega)]

theorem cut_even (n drop : Nat) (neg : Bool) : n / 2 ^ drop ≤ Toward.even.cut neg n drop ∧ Toward.even.cut neg n drop ≤ n / 2 ^ drop + 1 := by
  unfold Toward.cut
  simp only [cut_low]
  have key : ∀ b : Bool, n / 2 ^ drop ≤ n / 2 ^ drop + b.toNat ∧ n / 2 ^ drop + b.toNat ≤ n / 2 ^ drop + 1 := by intro b; cases b <;> simp
  exact key _

theorem cut_zero (n drop : Nat) (neg : Bool) : Toward.zero.cut neg n drop = n / 2 ^ drop := by
  unfold Toward.cut
  simp only [cut_low]
  simp

/-- the value of 1 -/
def oneE : Nat := 1074
theorem oneE_eq : oneE = 1074 := rfl
def one : Nat := 2 ^ oneE
theorem one_split (k : Nat) (h : k ≤ 1074) : one = 2 ^ (1074 - k) * 2 ^ k := by
  have e := oneE_eq
  unfold one
  rw [← Nat.pow_add]; congr 1; omega
theorem one_pos : 0 < one := Nat.two_pow_pos _

/-- a finite word without a sign, cut to a whole number -/
theorem toInt_pos (b : Nat) (h : b < 9218868437227405312) : (double.read b).toInt .zero = some ((val b / one : Nat) : Int) := by
  obtain ⟨m, c, r, v, -, -, -⟩ := read_pos b h
  rw [r]
  simp only [Datum.toInt, Datum.integral, cut_zero, signed_false, Nat.pow_zero, Nat.mul_one, Nat.shiftLeft_eq]
  congr 2
  rw [v]
  by_cases hc : 1074 ≤ c
  · have e1 : (-1074 + (c : Int)).toNat = c - 1074 := by omega
    have e2 : (-(-1074 + (c : Int))).toNat = 0 := by omega
    rw [e1, e2, Nat.pow_zero, Nat.div_one]
    rw [show m * 2 ^ c = m * 2 ^ (c - 1074) * one by unfold one; have e := oneE_eq; rw [Nat.mul_assoc, ← Nat.pow_add]; congr 2; omega, Nat.mul_div_cancel _ one_pos]
  · have e1 : (-1074 + (c : Int)).toNat = 0 := by omega
    have e2 : (-(-1074 + (c : Int))).toNat = 1074 - c := by omega
    rw [e1, e2, Nat.pow_zero, Nat.mul_one]
    rw [one_split c (by omega), Nat.mul_div_mul_right _ _ (Nat.two_pow_pos _)]

/-- a rung of so many binades and a significand -/
theorem val_rung (L kept : Nat) (h1 : kept ≤ 9007199254740992) (h2 : L = 0 ∨ 4503599627370496 ≤ kept) : val (L * 4503599627370496 + kept) = kept * 2 ^ L := by
  unfold val
  by_cases h : L * 4503599627370496 + kept < 4503599627370496
  · rw [if_pos h]
    have : L = 0 := by omega
    subst this; simp
  · rw [if_neg h]
    by_cases hk : kept < 4503599627370496
    · omega
    · by_cases hk2 : kept = 9007199254740992
      · subst hk2
        have e1 : (L * 4503599627370496 + 9007199254740992) / 4503599627370496 = L + 2 := by omega
        have e2 : (L * 4503599627370496 + 9007199254740992) % 4503599627370496 = 0 := by omega
        rw [e1, e2, show L + 2 - 1 = L + 1 by omega, Nat.pow_succ, Nat.add_zero, show (9007199254740992 : Nat) = 4503599627370496 * 2 by rfl, Nat.mul_comm (2 ^ L) 2, Nat.mul_assoc]
      · have e1 : (L * 4503599627370496 + kept) / 4503599627370496 = L + 1 := by omega
        have e2 : (L * 4503599627370496 + kept) % 4503599627370496 = kept - 4503599627370496 := by omega
        rw [e1, e2, Nat.add_sub_cancel, show 4503599627370496 + (kept - 4503599627370496) = kept by omega]

/-- THE NEAREST WORD of 'mag * 2 ^ (c - 1074 - K)', where that is not too great: its value is 'kept * 2 ^ L', kept being the whole part or one more. -/
theorem nearest_pos (mag c K : Nat) (hm : mag ≠ 0) (hbig : mag.log2 + c ≤ 2000 + K) :
    ∃ kept L : Nat, double.nearest false mag (-1074 + (c : Int) - K) = L * 4503599627370496 + kept ∧ val (L * 4503599627370496 + kept) = kept * 2 ^ L ∧ L * 4503599627370496 + kept < 9218868437227405312 ∧
      mag * 2 ^ c / 2 ^ (K + L) ≤ kept ∧ kept ≤ mag * 2 ^ c / 2 ^ (K + L) + 1 ∧ L ≤ mag.log2 + c - K - 52 := by
  have hb : double.binade = 4503599627370496 := by decide
  have hi : double.infRung = 9218868437227405312 := by decide
  have hl : double.leastPlace = -1074 := by decide
  have hf : double.fractionBits = 52 := rfl
  unfold Format.nearest Format.word
  simp only [hb, hi, hl, hf, if_neg hm, if_neg (show ¬ (false = true) by decide)]
  -- L: the binades above the least place
  have eL : max (-1074 + (c : Int) - K + (mag.log2 : Nat) - (52 : Nat)) (-1074) = -1074 + ((mag.log2 + c - K - 52 : Nat) : Int) := by omega
  rw [eL]
  generalize hL : mag.log2 + c - K - 52 = L
  have e0 : (-1074 + (L : Int) - -1074).toNat = L := by omega
  rw [e0]
  have hlow : ∀ x y : Nat, x = (-1074 + (c : Int) - K - (-1074 + (L : Int))).toNat → y = (-1074 + (L : Int) - (-1074 + (c : Int) - K)).toNat → (mag <<< x) / 2 ^ y = mag * 2 ^ c / 2 ^ (K + L) := by
    intro x y hx hy
    rw [Nat.shiftLeft_eq]
    by_cases h : K + L ≤ c
    · have hx' : x = c - (K + L) := by omega
      have hy' : y = 0 := by omega
      clear hx hy
      subst hx' hy'
      rw [Nat.pow_zero, Nat.div_one, show mag * 2 ^ c = mag * 2 ^ (c - (K + L)) * 2 ^ (K + L) by rw [Nat.mul_assoc, ← Nat.pow_add, Nat.sub_add_cancel h], Nat.mul_div_cancel _ (Nat.two_pow_pos _)]
    · have hx' : x = 0 := by omega
      have hy' : y = K + L - c := by omega
      clear hx hy
      subst hx' hy'
      rw [Nat.pow_zero, Nat.mul_one, show (2 : Nat) ^ (K + L) = 2 ^ (K + L - c) * 2 ^ c by rw [← Nat.pow_add, Nat.sub_add_cancel (by omega)], Nat.mul_div_mul_right _ _ (Nat.two_pow_pos _)]
  obtain ⟨k0, k1⟩ := cut_even (mag <<< (-1074 + (c : Int) - K - (-1074 + (L : Int))).toNat) (-1074 + (L : Int) - (-1074 + (c : Int) - K)).toNat false
  rw [hlow _ _ rfl rfl] at k0 k1
  generalize Toward.even.cut false _ _ = kept at *
  -- the whole part lies in its binade
  have hup : mag * 2 ^ c / 2 ^ (K + L) < 9007199254740992 := by
    rw [Nat.div_lt_iff_lt_mul (Nat.two_pow_pos _)]
    have h1 : mag < 2 ^ (mag.log2 + 1) := Nat.lt_log2_self
    have h2 : mag * 2 ^ c < 2 ^ (mag.log2 + 1) * 2 ^ c := Nat.mul_lt_mul_of_pos_right h1 (Nat.two_pow_pos _)
    rw [← Nat.pow_add] at h2
    have h3 : 2 ^ (mag.log2 + 1 + c) ≤ 2 ^ (53 + (K + L)) := Nat.pow_le_pow_right (by omega) (by omega)
    rw [Nat.pow_add 2 53] at h3
    have h4 : (2 : Nat) ^ 53 = 9007199254740992 := by decide
    omega
  have hlo : L = 0 ∨ 4503599627370496 ≤ mag * 2 ^ c / 2 ^ (K + L) := by
    by_cases h0 : L = 0
    · exact .inl h0
    · refine .inr ?_
      rw [Nat.le_div_iff_mul_le (Nat.two_pow_pos _)]
      have h1 : 2 ^ mag.log2 ≤ mag := Nat.log2_self_le hm
      have h2 : 2 ^ mag.log2 * 2 ^ c ≤ mag * 2 ^ c := Nat.mul_le_mul_right _ h1
      rw [← Nat.pow_add] at h2
      have h3 : 2 ^ (52 + (K + L)) ≤ 2 ^ (mag.log2 + c) := Nat.pow_le_pow_right (by omega) (by omega)
      rw [Nat.pow_add 2 52] at h3
      have h4 : (2 : Nat) ^ 52 = 4503599627370496 := by decide
      omega
  have hr : L * 4503599627370496 + kept < 9218868437227405312 := by omega
  refine ⟨kept, L, Nat.min_eq_left (by omega), val_rung L kept (by omega) (by omega), hr, k0, k1, Nat.le_refl _⟩
end Fl
end Go.Proofs.Ytjhakmobbncbgaa
