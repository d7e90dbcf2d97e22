/- token.WeightText: the plain part. -/
import Derived.Test.YtapnlopeipdjmaaGreatDoorFfI
import Derived.Test.YtapnlopeipdjmaaGreatDoorFloat2
namespace Go.Proofs.YtapnlopeipdjmaaGreatDoor
namespace Ff
open Ieee Fl

/-- a weight's float that is not minus nought -/
def qn (q : Nat) : Nat := if q = 9223372036854775808 then 0 else q
/-- between 0 and 1, minus nought among them -/
def isW (q : Nat) : Prop := q = 9223372036854775808 ∨ q ≤ 4607182418800017408
/-- the greatest thousandth up to k that is not above q -/
def gk (q : Nat) : Nat → Nat
  | 0 => 0
  | k + 1 => if F (k + 1) ≤ q then k + 1 else gk q k

set_option maxRecDepth 100000 in
theorem F_steps : (List.range 1000).all (fun k => decide (F k < F (k + 1)) && decide (k * one ≤ val (F (k + 1)) * 1000) && decide (F (k + 1) ≤ 4607182418800017408)) = true := by decide +kernel
theorem F_step (k : Nat) (h : k < 1000) : F k < F (k + 1) ∧ k * one ≤ val (F (k + 1)) * 1000 ∧ F (k + 1) ≤ 4607182418800017408 := by
  have := List.all_eq_true.1 F_steps k (List.mem_range.2 h)
  simp only [Bool.and_eq_true, decide_eq_true_eq] at this
  exact ⟨this.1.1, this.1.2, this.2⟩
theorem F_le1 (k : Nat) (h : k ≤ 1000) : F k ≤ 4607182418800017408 := by
  cases k with
  | zero => rw [F_zero]; omega
  | succ k => exact (F_step k (by omega)).2.2
theorem F_mono : ∀ (d k : Nat), k + d ≤ 1000 → F k ≤ F (k + d)
  | 0, k, _ => Nat.le_refl _
  | d + 1, k, h => Nat.le_trans (F_mono d k (by omega)) (Nat.le_of_lt (F_step (k + d) (by omega)).1)
theorem F_le {j k : Nat} (h : j ≤ k) (hk : k ≤ 1000) : F j ≤ F k := by
  obtain ⟨d, rfl⟩ : ∃ d, k = j + d := ⟨k - j, by omega⟩
  exact F_mono d j hk
theorem F_lt {j k : Nat} (h : j < k) (hk : k ≤ 1000) : F j < F k := Nat.lt_of_lt_of_le (F_step j (by omega)).1 (F_le h hk)

theorem gk_le (q : Nat) : ∀ k, gk q k ≤ k
  | 0 => Nat.le_refl _
  | k + 1 => by unfold gk; split; exact Nat.le_refl _; exact Nat.le_succ_of_le (gk_le q k)
theorem gk_pos (q k : Nat) (h : F (k + 1) ≤ q) : gk q (k + 1) = k + 1 := by rw [gk, if_pos h]
theorem gk_neg (q k : Nat) (h : ¬ F (k + 1) ≤ q) : gk q (k + 1) = gk q k := by rw [gk, if_neg h]
/-- where nothing from s on is not above q, the search may begin at s -/
theorem gk_from (q s : Nat) : ∀ d, (∀ j, s < j → j ≤ s + d → q < F j) → gk q (s + d) = gk q s
  | 0, _ => rfl
  | d + 1, h => by
    have := h (s + d + 1) (by omega) (by omega)
    rw [show s + (d + 1) = s + d + 1 by omega, gk_neg q (s + d) (by omega)]
    exact gk_from q s d fun j h1 h2 => h j h1 (by omega)
/-- found from below -/
theorem gk_at (q k : Nat) (hk : k ≤ 1000) (h0 : F k ≤ q) (h1 : k = 1000 ∨ q < F (k + 1)) : gk q 1000 = k := by
  have e : gk q k = k := by
    cases k with
    | zero => rfl
    | succ k => exact gk_pos q k h0
  obtain ⟨d, hd⟩ : ∃ d, 1000 = k + d := ⟨1000 - k, by omega⟩
  rw [hd, gk_from q k d fun j a b => ?_, e]
  rcases h1 with h1 | h1
  · omega
  · exact Nat.lt_of_lt_of_le h1 (F_le a (by omega))

theorem read_neg0 : double.read 9223372036854775808 = .number true 0 (-1074) := by decide +kernel

/-- how a thousandth, or any finite float that is not negative, stands to a weight -/
theorem order_q (x q : Nat) (hx : x < 9218868437227405312) (hq : isW q) : double.order x q = some (compare x (qn q)) := by
  by_cases h : q = 9223372036854775808
  · subst h
    unfold qn
    rw [if_pos rfl]
    obtain ⟨m, c, r1, v1, -, -, -⟩ := read_pos x hx
    unfold Format.order
    rw [r1, read_neg0]
    simp only [Datum.order, signed_false]
    congr 1
    have e0 : min (-1074 + (c : Int)) (-1074) = -1074 := by omega
    rw [e0]
    have e1 : (-1074 + (c : Int) - -1074).toNat = c := by omega
    have e2 : Ieee.signed true 0 (-1074 - -1074 : Int).toNat = ((0 : Nat) : Int) := by decide
    rw [e1, e2, ← v1, ← compare_val x 0]
    exact compare_scale _ _ _ _ 0 (by simp) (by rfl)
  · have h1 : q ≤ 4607182418800017408 := by rcases hq with h' | h'; exact absurd h' h; exact h'
    unfold qn
    rw [if_neg h]
    exact order_pos x q hx (by omega)
theorem order_q' (x q : Nat) (hx : x < 9218868437227405312) (hq : isW q) : double.order q x = some (compare (qn q) x) := by
  by_cases h : q = 9223372036854775808
  · subst h
    unfold qn
    rw [if_pos rfl]
    obtain ⟨m, c, r1, v1, -, -, -⟩ := read_pos x hx
    unfold Format.order
    rw [r1, read_neg0]
    simp only [Datum.order, signed_false]
    congr 1
    have e0 : min (-1074) (-1074 + (c : Int)) = -1074 := by omega
    rw [e0]
    have e1 : (-1074 + (c : Int) - -1074).toNat = c := by omega
    have e2 : Ieee.signed true 0 (-1074 - -1074 : Int).toNat = ((0 : Nat) : Int) := by decide
    rw [e1, e2, ← v1, ← compare_val 0 x]
    exact compare_scale _ _ _ _ 0 (by rfl) (by simp)
  · have h1 : q ≤ 4607182418800017408 := by rcases hq with h' | h'; exact absurd h' h; exact h'
    unfold qn
    rw [if_neg h]
    exact order_pos q x (by omega) hx

/-- the test with which both begin -/
def tst (q : Nat) : Bool := (double.order q 0 == some .gt || double.order q 0 == some .eq) && (double.order q 4607182418800017408 == some .lt || double.order q 4607182418800017408 == some .eq)

theorem tst_yes (q : Nat) (h : isW q) : tst q = true := by
  unfold tst
  rw [order_q' 0 q (by omega) h, order_q' 4607182418800017408 q (by omega) h]
  have hq : qn q ≤ 4607182418800017408 := by unfold qn; split; omega; rcases h with h | h; contradiction; exact h
  have h1 : compare (qn q) 0 = .gt ∨ compare (qn q) 0 = .eq := by
    by_cases h0 : qn q = 0
    · right; rw [h0]; decide
    · left; rw [Nat.compare_eq_gt]; omega
  have h2 : compare (qn q) 4607182418800017408 = .lt ∨ compare (qn q) 4607182418800017408 = .eq := by
    by_cases h0 : qn q = 4607182418800017408
    · right; rw [Nat.compare_eq_eq]; exact h0
    · left; rw [Nat.compare_eq_lt]; omega
  rcases h1 with h1 | h1 <;> rcases h2 with h2 | h2 <;> rw [h1, h2] <;> rfl

theorem read_zero : double.read 0 = .number false 0 (-1074) := by decide +kernel
theorem read_inf (q : Nat) (h : ¬ q < 9218868437227405312) (h2 : q < 9223372036854775808) : double.read q = .infinity false ∨ ∃ s t, double.read q = .nan s t := by
  have hs : double.signWeight = 9223372036854775808 := by decide
  have hb : double.binade = 4503599627370496 := by decide
  have hi : double.infRung = 9218868437227405312 := by decide
  unfold Format.read
  simp only [hs, hb, hi]
  have e1 : q % 9223372036854775808 = q := Nat.mod_eq_of_lt (by omega)
  have e2 : (q / 9223372036854775808 % 2 == 1) = false := by rw [Nat.div_eq_of_lt (by omega)]; rfl
  rw [e1, e2, if_neg (by omega), if_neg h]
  split
  · exact .inl rfl
  · exact .inr ⟨_, _, rfl⟩
theorem read_neg (q : Nat) (h : 9223372036854775808 < q) (h2 : q < 18446744073709551616) : (∃ m c : Nat, m ≠ 0 ∧ double.read q = .number true m (-1074 + (c : Int))) ∨ double.read q = .infinity true ∨ ∃ s t, double.read q = .nan s t := by
  have hs : double.signWeight = 9223372036854775808 := by decide
  have hb : double.binade = 4503599627370496 := by decide
  have hi : double.infRung = 9218868437227405312 := by decide
  have hl : double.leastPlace = -1074 := by decide
  unfold Format.read
  simp only [hs, hb, hi, hl]
  have e1 : q % 9223372036854775808 = q - 9223372036854775808 := by omega
  have e2 : (q / 9223372036854775808 % 2 == 1) = true := by rw [show q / 9223372036854775808 = 1 by omega]; rfl
  rw [e1, e2]
  split
  · exact .inl ⟨q - 9223372036854775808, 0, by omega, by simp⟩
  · split
    · exact .inl ⟨_, _, by omega, rfl⟩
    · split
      · exact .inr (.inl rfl)
      · exact .inr (.inr ⟨_, _, rfl⟩)

theorem tst_no (q : Nat) (hq : q < 18446744073709551616) (h : ¬ isW q) : tst q = false := by
  have hn : q ≠ 9223372036854775808 ∧ ¬ q ≤ 4607182418800017408 := ⟨fun e => h (.inl e), fun e => h (.inr e)⟩
  unfold tst
  by_cases h1 : q < 9218868437227405312
  · rw [order_pos q 4607182418800017408 h1 (by omega)]
    have : compare q 4607182418800017408 = .gt := by rw [Nat.compare_eq_gt]; omega
    rw [this]
    rw [show ((some Ordering.gt == some Ordering.lt) || (some Ordering.gt == some Ordering.eq)) = false by decide, Bool.and_false]
  · by_cases h2 : q < 9223372036854775808
    · have hone : double.read 4607182418800017408 = .number false 4503599627370496 (-52) := by decide +kernel
      have : (double.order q 4607182418800017408 == some .lt || double.order q 4607182418800017408 == some .eq) = false := by
        unfold Format.order
        rw [hone]
        rcases read_inf q h1 h2 with e | ⟨s, t, e⟩ <;> rw [e] <;> rfl
      rw [this, Bool.and_false]
    · have : (double.order q 0 == some .gt || double.order q 0 == some .eq) = false := by
        unfold Format.order
        rw [read_zero]
        rcases read_neg q (by omega) hq with ⟨m, c, hm, e⟩ | e | ⟨s, t, e⟩ <;> rw [e]
        · simp only [Datum.order, signed_false]
          have e0 : min (-1074 + (c : Int)) (-1074) = -1074 := by omega
          rw [e0]
          have hp : 0 < 2 ^ ((-1074 + (c : Int) - -1074).toNat) := Nat.two_pow_pos _
          have hneg : Ieee.signed true m (-1074 + (c : Int) - -1074).toNat < 0 := by
            unfold Ieee.signed
            rw [if_pos rfl, Nat.shiftLeft_eq]
            have := Nat.mul_pos (Nat.pos_of_ne_zero hm) hp
            omega
          have : compare (Ieee.signed true m (-1074 + (c : Int) - -1074).toNat) (((0 * 2 ^ (-1074 - -1074 : Int).toNat : Nat)) : Int) = .lt := by
            rw [Int.compare_eq_lt]; simpa using hneg
          rw [this]; rfl
        · rfl
        · rfl
      rw [this, Bool.false_and]

/-- the start of the search is not below what is sought -/
theorem start_ge (q n : Nat) (hn : val q * 1000 / one ≤ n) : ∀ j, min (n + 1) 1000 < j → j ≤ 1000 → q < F j := by
  intro j h1 h2
  refine Nat.lt_of_not_le fun hle => ?_
  obtain ⟨i, rfl⟩ : ∃ i, j = i + 1 := ⟨j - 1, by omega⟩
  have hs := (F_step i (by omega)).2.1
  have hv : val (F (i + 1)) ≤ val q := val_le hle
  have : i ≤ val q * 1000 / one := by
    rw [Nat.le_div_iff_mul_le one_pos]
    exact Nat.le_trans hs (Nat.mul_le_mul_right _ hv)
  omega
end Ff
end Go.Proofs.YtapnlopeipdjmaaGreatDoor
