/- token.Weight: the plain part. -/
import Derived.Test.YtliinjibnikfgaaGreatDoorWtB
import Derived.Test.YtliinjibnikfgaaGreatDoorNum
import Derived.Test.YtliinjibnikfgaaGreatDoorFld0
namespace Go.Proofs.YtliinjibnikfgaaGreatDoor
namespace Tk
open Ff Ieee Fl

/-- the three digits behind the point, noughts added -/
def wDig (l : Bs) : Bs := ((cutL 46 l).2.1 ++ [48, 48, 48]).take 3
def wUp (l : Bs) : Nat := if (cutL 46 l).1 = [49] then 1000 else 0
/-- how many thousandths a weight's text says -/
def wgtL (l : Bs) : Option Nat :=
  if ((cutL 46 l).1 = [48] ∨ (cutL 46 l).1 = [49]) ∧ (cutL 46 l).2.1.length ≤ 3 ∧ (numL (wDig l)).2 = 0 ∧ (numL (wDig l)).1 + wUp l ≤ 1000 then some ((numL (wDig l)).1 + wUp l) else none
def wF : Option Nat → Nat
  | none => 0
  | some k => F k
def wE : Option Nat → Int
  | none => 4
  | some _ => 0

theorem wDig_len (l : Bs) : (wDig l).length = 3 := by unfold wDig; simp
theorem valFrom_lt : ∀ (l : Bs) (a : Nat), (∀ c ∈ l, isDig c = true) → valFrom a l < (a + 1) * 10 ^ l.length
  | [], a, _ => by simp [valFrom]
  | c :: t, a, h => by
    have hc := h c (by simp)
    unfold isDig at hc
    simp only [Bool.and_eq_true, decide_eq_true_eq] at hc
    have ih := valFrom_lt t (a * 10 + (c.toNat - 48)) (fun x hx => h x (by simp [hx]))
    show valFrom (a * 10 + (c.toNat - 48)) t < _
    refine Nat.lt_of_lt_of_le ih ?_
    rw [List.length_cons, Nat.pow_succ, Nat.mul_comm (10 ^ t.length) 10, ← Nat.mul_assoc]
    exact Nat.mul_le_mul_right _ (by omega)
/-- three digits: below 1000, or no number -/
theorem num_three (l : Bs) (h : l.length = 3) : (numL l).1 ≤ 999 ∧ ((numL l).2 = 0 ∨ numL l = (0, 4)) := by
  have hne : l ≠ [] := fun e => by rw [e] at h; simp at h
  unfold numL
  rw [if_neg hne]
  by_cases hd : ∀ c ∈ l, isDig c = true
  · have hv := valFrom_lt l 0 hd
    rw [h] at hv
    rw [numGo_val l 0 hd, if_neg (by unfold maxN; omega)]
    exact ⟨by simp; omega, .inl rfl⟩
  · rw [numGo_bad l 0 (by
      simp only [Classical.not_forall] at hd
      obtain ⟨c, hc, hx⟩ := hd
      exact ⟨c, hc, by simpa using hx⟩)]
    exact ⟨by simp, .inr rfl⟩

set_option maxRecDepth 100000 in
theorem quo_more : ((List.range 2000).drop 1001).all (fun k => (Go.floatBits .quo .f64 (Go.floatOfInt .f64 (k : Int)) 4652007308841189376).isSome && decide (4607182418800017408 < F k) && decide (F k < 9218868437227405312)) = true := by decide +kernel
theorem quo_some2 (k : Nat) (hk : k < 2000) : Go.floatBits .quo .f64 (Go.floatOfInt .f64 (k : Int)) 4652007308841189376 = some (F k) := by
  by_cases h : k ≤ 1000
  · exact quo_some k h
  · have := List.all_eq_true.1 quo_more k (by rw [List.mem_drop_iff_getElem]; exact ⟨k - 1001, by simp; omega, by simp; omega⟩)
    simp only [Bool.and_eq_true] at this
    obtain ⟨x, hx⟩ := Option.isSome_iff_exists.1 this.1.1
    unfold F
    rw [hx]; rfl
theorem F_above (k : Nat) (h1 : 1000 < k) (h2 : k < 2000) : 4607182418800017408 < F k ∧ F k < 9218868437227405312 := by
  have := List.all_eq_true.1 quo_more k (by rw [List.mem_drop_iff_getElem]; exact ⟨k - 1001, by simp; omega, by simp; omega⟩)
  simp only [Bool.and_eq_true, decide_eq_true_eq] at this
  exact ⟨this.1.2, this.2⟩
/-- is a thousandth above 1 -/
theorem above_one (k : Nat) (hk : k < 2000) : (FloatKind.f64.format.order (F k) 4607182418800017408 == some .gt) = decide (1000 < k) := by
  by_cases h : 1000 < k
  · have hf := F_above k h hk
    have := order_pos (F k) 4607182418800017408 hf.2 (by omega)
    rw [show FloatKind.f64.format.order (F k) 4607182418800017408 = some (compare (F k) 4607182418800017408) from this, Nat.compare_eq_gt.2 hf.1]
    simp [h]
  · have hf := F_le1 k (by omega)
    have := order_pos (F k) 4607182418800017408 (by omega) (by omega)
    rw [show FloatKind.f64.format.order (F k) 4607182418800017408 = some (compare (F k) 4607182418800017408) from this]
    have hne : compare (F k) 4607182418800017408 ≠ .gt := fun e => by have := Nat.compare_eq_gt.1 e; omega
    rw [decide_eq_false h]
    generalize compare (F k) 4607182418800017408 = o at *
    cases o <;> simp_all

set_option maxRecDepth 100000 in
theorem wgt_texts : (List.range 1001).all (fun k => decide (wgtL (ktext k) = some k) && decide ((ktext k).length ≤ 5)) = true := by decide +kernel
/-- the text of a thousandth is a weight, that thousandth -/
theorem wgt_text (k : Nat) (h : k ≤ 1000) : wgtL (ktext k) = some k := by
  have := List.all_eq_true.1 wgt_texts k (List.mem_range.2 (by omega))
  simp only [Bool.and_eq_true, decide_eq_true_eq] at this
  exact this.1
theorem ktext_len (k : Nat) (h : k ≤ 1000) : (ktext k).length ≤ 5 := by
  have := List.all_eq_true.1 wgt_texts k (List.mem_range.2 (by omega))
  simp only [Bool.and_eq_true, decide_eq_true_eq] at this
  exact this.2
theorem wgt_nil : wgtL [] = none := by decide +kernel

/-- a thousandth and a little more is not below the next thousandth -/
def addC (k : Nat) : Option Nat := Go.floatBits .add .f64 (F k) 4562254970085971183
set_option maxRecDepth 100000 in
theorem add_table : (List.range 1000).all (fun k => match addC k with | some r => decide (F (k + 1) ≤ r) && decide (r < 9218868437227405312) | none => false) = true := by decide +kernel
theorem add_at (k : Nat) (h : k < 1000) : ∃ r, Go.floatBits .add .f64 (F k) 4562254970085971183 = some r ∧ F (k + 1) ≤ r ∧ r < 9218868437227405312 := by
  have := List.all_eq_true.1 add_table k (List.mem_range.2 h)
  show ∃ r, addC k = some r ∧ _
  generalize addC k = o at *
  cases o with
  | none => simp at this
  | some r =>
    simp only [Bool.and_eq_true, decide_eq_true_eq] at this
    exact ⟨r, rfl, this.1, this.2⟩
theorem F_1000 : F 1000 = 4607182418800017408 := by decide +kernel
end Tk
end Go.Proofs.YtliinjibnikfgaaGreatDoor
