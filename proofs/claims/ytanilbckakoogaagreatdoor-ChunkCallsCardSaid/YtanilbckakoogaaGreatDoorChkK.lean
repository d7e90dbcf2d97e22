/- A size line read digit by digit (plain facts). -/
import Derived.Test.YtanilbckakoogaaGreatDoorChkQ
namespace Go.Proofs.YtanilbckakoogaaGreatDoor
namespace Tk

theorem take_all (c : UInt8) : ∀ (l : Bs), (∀ x ∈ l, x ≠ c) → l.takeWhile (· != c) = l
  | [], _ => rfl
  | x :: t, h => by
    rw [List.takeWhile_cons_of_pos (by simpa using h x (by simp)), take_all c t fun y hy => h y (by simp [hy])]
theorem cut_fst (c : UInt8) (l : Bs) : (cutL c l).1 = l.takeWhile (· != c) := by
  unfold cutL
  split
  · rfl
  · rename_i h
    refine (take_all c l fun x hx => ?_).symm
    simp only [List.contains_eq_mem, decide_eq_true_eq] at h
    rintro rfl
    exact h hx
theorem sizeL_long (l : Bs) (h : 16 < (cutL 59 l).1.length) : sizeL l = (0, 400) := by unfold sizeL; rw [if_pos h]
theorem sizeL_none (l : Bs) (h : hexN (cutL 59 l).1 = none) : sizeL l = (0, 400) := by
  unfold sizeL
  rw [h]
  split
  · rfl
  · split <;> rfl
theorem hex_some (p : Bs) (m : Nat) (h : hexGo 0 p = some m) : ∀ x ∈ p, (x != 59) = true := fun x hx => by
  simpa using (hex_ne x (hexGo_mem p 0 m h x hx)).1
/-- no digit -/
theorem size_A (l : Bs) (h : l = [] ∨ ∃ c r, l = c :: r ∧ hexD c = none) : sizeL l = (0, 400) := by
  apply sizeL_none
  rw [cut_fst]
  rcases h with rfl | ⟨c, r, rfl, hc⟩
  · rfl
  · by_cases h59 : c = 59
    · subst h59; rfl
    · rw [List.takeWhile_cons_of_pos (by simpa using h59)]
      show (if c :: List.takeWhile (fun x => x != 59) r = [] then none else hexGo 0 (c :: List.takeWhile (fun x => x != 59) r)) = none
      rw [if_neg (by simp)]
      exact hexGo_bad _ 0 ⟨c, by simp, hc⟩
/-- seventeen digits -/
theorem size_B (p r : Bs) (m : Nat) (hp : hexGo 0 p = some m) (hl : 16 < p.length) : sizeL (p ++ r) = (0, 400) := by
  apply sizeL_long
  rw [cut_fst, List.takeWhile_append_of_pos (hex_some p m hp), List.length_append]
  omega
/-- digits, and no more -/
theorem size_C (p : Bs) (m : Nat) (hp : hexGo 0 p = some m) (hl : p.length ≤ 16) (hne : p ≠ []) : sizeL p = if 9007199254740991 < m then (0, 413) else (m, 0) := by
  have hc := cut_none 59 p (fun x hx => (hex_ne x (hexGo_mem p 0 m hp x hx)).1)
  have hN : hexN p = some m := by unfold hexN; rw [if_neg hne]; exact hp
  unfold sizeL
  rw [hc]
  simp only
  rw [if_neg (by omega), if_pos (by rfl), hN]
/-- digits, and a byte that is none -/
theorem size_D (p r : Bs) (c : UInt8) (m : Nat) (hp : hexGo 0 p = some m) (h59 : c ≠ 59) (hc : hexD c = none) : sizeL (p ++ c :: r) = (0, 400) := by
  apply sizeL_none
  rw [cut_fst, List.takeWhile_append_of_pos (hex_some p m hp), List.takeWhile_cons_of_pos (by simpa using h59)]
  unfold hexN
  rw [if_neg (by simp)]
  exact hexGo_bad _ 0 ⟨c, by simp, hc⟩
/-- digits, and a semicolon -/
theorem size_E (p r : Bs) (m : Nat) (hp : hexGo 0 p = some m) (hl : p.length ≤ 16) (hne : p ≠ []) : sizeL (p ++ 59 :: r) = if allL 1 (59 :: r) then (if 9007199254740991 < m then (0, 413) else (m, 0)) else (0, 400) := by
  have hc := cut_at 59 p r (fun x hx => (hex_ne x (hexGo_mem p 0 m hp x hx)).1)
  have hN : hexN p = some m := by unfold hexN; rw [if_neg hne]; exact hp
  have h1 : allL 1 (59 :: r) = allL 1 r := by rw [allL_cons]; rw [show decide (1 ≤ kindOf (59 : UInt8).toNat) = true by decide, Bool.true_and]
  unfold sizeL
  rw [hc, h1]
  simp only
  rw [if_neg (by omega), hN]
theorem hexD_lt (c : UInt8) (d : Nat) (h : hexD c = some d) : d < 16 := by
  unfold hexD at h
  split at h
  · injection h with h; omega
  · split at h
    · injection h with h; omega
    · split at h
      · injection h with h; omega
      · cases h
theorem hexGo_snoc (p : Bs) (c : UInt8) (m d : Nat) (hp : hexGo 0 p = some m) (hd : hexD c = some d) : hexGo 0 (p ++ [c]) = some (m * 16 + d) := by
  rw [hexGo_append, hp]
  simp only [Option.bind_some, hexGo, hd]
theorem or_low (m d : Nat) (hd : d < 16) : m * 16 ||| d = m * 16 + d := by
  have h := Nat.shiftLeft_add_eq_or_of_lt (b := d) (i := 4) (by omega) m
  rw [Nat.shiftLeft_eq] at h
  exact h.symm
end Tk
end Go.Proofs.YtanilbckakoogaaGreatDoor
