/- Plain facts on ages: sums that are cut at their ends, differences of times, ages, guesses; they do not decrease. -/
import Derived.Test.YtjhakmobbncbgaaAgP
namespace Go.Proofs.Ytjhakmobbncbgaa
namespace Fl

/-- 'n' cut to the range from 0 to 'm' -/
def clA (n m : Int) : Int := min (max n 0) m
def addA (a b : Int) : Int := clA (clA a 2147483648 + clA b 2147483648) 2147483648
def subA (a b : Int) : Int := clA (clA a 2147483648 - clA b 2147483648) 2147483648
def difA (l e : Int) : Int := clA (clA l 253402300799 - clA e 253402300799) 2147483648
def aftA (l e : Int) : Int := if e < 0 then 0 else difA l e
/-- Corrected: of Asked, Answered, Date, Age -/
def corA (k n d g : Int) : Int := max (aftA n d) (addA g (difA n k))
/-- Current: likewise, now -/
def curA (k n d g t : Int) : Int := addA (corA k n d g) (difA t n)

theorem cl_bd (n m : Int) (hm : 0 ≤ m) : 0 ≤ clA n m ∧ clA n m ≤ m := by unfold clA; omega
theorem cl_mono {n n' : Int} (m : Int) (h : n ≤ n') : clA n m ≤ clA n' m := by unfold clA; omega
theorem cl_id (n m : Int) (h0 : 0 ≤ n) (hm : n ≤ m) : clA n m = n := by unfold clA; omega
theorem add_bd (a b : Int) : 0 ≤ addA a b ∧ addA a b ≤ 2147483648 := cl_bd _ _ (by omega)
theorem sub_bd (a b : Int) : 0 ≤ subA a b ∧ subA a b ≤ 2147483648 := cl_bd _ _ (by omega)
theorem dif_bd (a b : Int) : 0 ≤ difA a b ∧ difA a b ≤ 2147483648 := cl_bd _ _ (by omega)
theorem aft_bd (a b : Int) : 0 ≤ aftA a b ∧ aftA a b ≤ 2147483648 := by
  unfold aftA; have := dif_bd a b; split <;> omega
theorem cor_bd (k n d g : Int) : 0 ≤ corA k n d g ∧ corA k n d g ≤ 2147483648 := by
  unfold corA; have h1 := aft_bd n d; have h2 := add_bd g (difA n k); omega
theorem cur_bd (k n d g t : Int) : 0 ≤ curA k n d g t ∧ curA k n d g t ≤ 2147483648 := add_bd _ _
theorem add_mono {a a' b b' : Int} (h : a ≤ a') (h' : b ≤ b') : addA a b ≤ addA a' b' :=
  cl_mono _ (Int.add_le_add (cl_mono _ h) (cl_mono _ h'))
theorem dif_mono {a a' b b' : Int} (h : a ≤ a') (h' : b' ≤ b) : difA a b ≤ difA a' b' :=
  cl_mono _ (Int.sub_le_sub (cl_mono _ h) (cl_mono _ h'))
theorem sub_mono {a a' b b' : Int} (h : a ≤ a') (h' : b' ≤ b) : subA a b ≤ subA a' b' :=
  cl_mono _ (Int.sub_le_sub (cl_mono _ h) (cl_mono _ h'))
theorem add_ge (a b : Int) (h0 : 0 ≤ a) (h1 : a ≤ 2147483648) : a ≤ addA a b := by
  unfold addA
  have h2 := cl_bd b 2147483648 (by omega)
  rw [cl_id a _ h0 h1]
  unfold clA at *; omega
theorem add_comm' (a b : Int) : addA a b = addA b a := by unfold addA; rw [Int.add_comm]
theorem add_assoc' (a b c : Int) : addA (addA a b) c = addA a (addA b c) := by
  unfold addA
  have h1 := cl_bd a 2147483648 (by omega)
  have h2 := cl_bd b 2147483648 (by omega)
  have h3 := cl_bd c 2147483648 (by omega)
  generalize clA a 2147483648 = x at *
  generalize clA b 2147483648 = y at *
  generalize clA c 2147483648 = z at *
  unfold clA; omega

/-- AgeSums' last test -/
theorem sums_back (a b : Int) (h : clA a 2147483648 + clA b 2147483648 ≤ 2147483648) : subA (addA a b) b = clA a 2147483648 ∧ (addA a b = 0 ↔ clA a 2147483648 = 0 ∧ clA b 2147483648 = 0) := by
  unfold subA addA
  have h1 := cl_bd a 2147483648 (by omega)
  have h2 := cl_bd b 2147483648 (by omega)
  generalize clA a 2147483648 = x at *
  generalize clA b 2147483648 = y at *
  unfold clA; omega
theorem sums_top (a b : Int) (h : ¬ clA a 2147483648 + clA b 2147483648 ≤ 2147483648) : addA a b = 2147483648 := by
  unfold addA
  generalize clA a 2147483648 + clA b 2147483648 = z at *
  unfold clA; omega

theorem cur_mono {t t' : Int} (k n d g : Int) (h : t ≤ t') : curA k n d g t ≤ curA k n d g t' := add_mono (Int.le_refl _) (dif_mono h (Int.le_refl _))
theorem cor_mono {g g' : Int} (k n d : Int) (h : g ≤ g') : corA k n d g ≤ corA k n d g' := by
  unfold corA; have := add_mono h (Int.le_refl (difA n k)); omega
theorem cur_older {g g' : Int} (k n d t : Int) (h : g ≤ g') : curA k n d g t ≤ curA k n d g' t := add_mono (cor_mono k n d h) (Int.le_refl _)
theorem cor_cur (k n d g t : Int) : corA k n d g ≤ curA k n d g t := add_ge _ _ (cor_bd k n d g).1 (cor_bd k n d g).2
theorem aft_cor (k n d g : Int) : aftA n d ≤ corA k n d g := by unfold corA; omega
theorem aft_none (n : Int) : aftA n (-1) = 0 := rfl
theorem cor_none (k n d g : Int) : corA k n (-1) g ≤ corA k n d g := by
  unfold corA; rw [aft_none]; have := aft_bd n d; omega

/-- Guess -/
def gA (p : Nat) (s : Int) : Int := if 0 < p ∧ p ≤ 9218868437227405312 then min ((gs (clA s 2147483648).toNat (min p 4607182418800017408) : Nat) : Int) 86400 else 0

theorem ns_le (s : Int) : (clA s 2147483648).toNat ≤ 4294967296 := by have := cl_bd s 2147483648 (by omega); omega
theorem gA_bd (p : Nat) (s : Int) : 0 ≤ gA p s ∧ gA p s ≤ 86400 := by
  unfold gA; split <;> omega
theorem gA_span (p : Nat) (s : Int) : gA p s ≤ max 0 s := by
  unfold gA
  split
  · have := gs_le (clA s 2147483648).toNat (min p 4607182418800017408) (ns_le s) (Nat.min_le_right _ _)
    have h2 : clA s 2147483648 ≤ max 0 s := by unfold clA; omega
    have h3 := cl_bd s 2147483648 (by omega)
    omega
  · omega
theorem gA_none (p : Nat) (s : Int) (h : ¬ (0 < p ∧ p ≤ 9218868437227405312)) : gA p s = 0 := if_neg h
theorem gA_all (p : Nat) (s : Int) (h1 : 4607182418800017408 ≤ p) (h2 : p ≤ 9218868437227405312) : gA p s = min (max s 0) 86400 := by
  unfold gA
  rw [if_pos ⟨by omega, h2⟩, Nat.min_eq_right h1, gs_one _ (ns_le s)]
  unfold clA; omega
theorem gA_part {p q : Nat} (s : Int) (hq : 0 < p ∧ p ≤ 9218868437227405312 → p ≤ q ∧ q ≤ 9218868437227405312) : gA p s ≤ gA q s := by
  unfold gA
  by_cases hp : 0 < p ∧ p ≤ 9218868437227405312
  · obtain ⟨h1, h2⟩ := hq hp
    rw [if_pos hp, if_pos ⟨by omega, h2⟩]
    have := gs_mono (Nat.le_refl (clA s 2147483648).toNat) (show min p 4607182418800017408 ≤ min q 4607182418800017408 by omega)
    omega
  · rw [if_neg hp]; split <;> omega
theorem gA_mono {s s' : Int} (p : Nat) (h : s ≤ s') : gA p s ≤ gA p s' := by
  unfold gA
  split
  · have h1 := cl_mono 2147483648 h
    have := gs_mono (show (clA s 2147483648).toNat ≤ (clA s' 2147483648).toNat by omega) (Nat.le_refl (min p 4607182418800017408))
    omega
  · omega
theorem gA_half (k : Nat) (hk : k ≤ 1000) (s : Int) (h0 : 0 ≤ s) (h1 : s ≤ 2147483648) : gA (hw k) s = min ((s.toNat / 2 ^ k : Nat) : Int) 86400 := by
  have hh : 0 < hw k ∧ hw k ≤ 4607182418800017408 := by unfold hw; omega
  unfold gA
  rw [if_pos ⟨hh.1, by omega⟩, Nat.min_eq_left hh.2, gs_half _ k (ns_le s) hk, cl_id s _ h0 h1]
end Fl
end Go.Proofs.Ytjhakmobbncbgaa
