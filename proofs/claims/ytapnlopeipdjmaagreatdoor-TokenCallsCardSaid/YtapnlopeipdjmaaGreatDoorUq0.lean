/- The document's own Unquote: plain facts. -/
import Derived.Test.YtapnlopeipdjmaaGreatDoorUnq
namespace Go.Proofs.YtapnlopeipdjmaaGreatDoor
namespace Tk

/-- what the bytes between the quotes say, if they may stand there -/
def inn : Bs → Option Bs
  | [] => some []
  | [c] => if c = 34 ∨ c = 92 then none else some [c]
  | c :: d :: t => if c = 34 then none else if c = 92 then (inn t).map (d :: ·) else (inn (d :: t)).map (c :: ·)

theorem inn_q (t : Bs) : inn (34 :: t) = none := by cases t <;> simp [inn]
theorem inn_b (d : UInt8) (t : Bs) : inn (92 :: d :: t) = (inn t).map (d :: ·) := by simp [inn]
theorem inn_b1 : inn [92] = none := by simp [inn]
theorem inn_o (c : UInt8) (t : Bs) (h : c ≠ 34) (h2 : c ≠ 92) : inn (c :: t) = (inn t).map (c :: ·) := by
  cases t with
  | nil => simp [inn, h, h2]
  | cons d t => simp [inn, h, h2]

theorem close_inn : ∀ (k : Nat) (t : Bs), t.length ≤ k → (closeLen (t ++ [34]) = t.length ↔ inn t ≠ none) ∧ ∀ u, inn t = some u → unq (t ++ [34]) = u
  | _, [], _ => by
    refine ⟨by simp [inn, closeLen], fun u h => ?_⟩
    simp [inn] at h
    subst h; rfl
  | 0, c :: t, h => by simp at h
  | k + 1, c :: t, h => by
    simp only [List.length_cons] at h
    by_cases h34 : c = 34
    · subst h34
      rw [List.cons_append, closeLen_q, inn_q]
      exact ⟨by simp, fun u h => by cases h⟩
    · by_cases h92 : c = 92
      · subst h92
        cases t with
        | nil =>
          rw [inn_b1]
          exact ⟨by simp [closeLen], fun u h => by cases h⟩
        | cons d t =>
          simp only [List.length_cons] at h
          obtain ⟨i1, i2⟩ := close_inn k t (by omega)
          rw [List.cons_append, List.cons_append, closeLen_b, unq_bs, inn_b]
          constructor
          · simp only [List.length_cons]
            constructor
            · intro e
              have := i1.1 (by omega)
              cases hi : inn t with
              | none => exact absurd hi this
              | some v => simp
            · intro e
              have : inn t ≠ none := fun hn => e (by rw [hn]; rfl)
              have := i1.2 this
              omega
          · intro u hu
            cases hi : inn t with
            | none => rw [hi] at hu; cases hu
            | some v =>
              rw [hi] at hu
              simp at hu
              rw [i2 v hi, hu]
      · obtain ⟨i1, i2⟩ := close_inn k t (by omega)
        rw [List.cons_append, closeLen_o c _ h92 h34, unq_o c _ h92 (by simp), inn_o c t h34 h92]
        constructor
        · simp only [List.length_cons]
          constructor
          · intro e
            have := i1.1 (by omega)
            cases hi : inn t with
            | none => exact absurd hi this
            | some v => simp
          · intro e
            have : inn t ≠ none := fun hn => e (by rw [hn]; rfl)
            have := i1.2 this
            omega
        · intro u hu
          cases hi : inn t with
          | none => rw [hi] at hu; cases hu
          | some v =>
            rw [hi] at hu
            simp at hu
            rw [i2 v hi, hu]
theorem close_last : ∀ (k : Nat) (t : Bs) (c : UInt8), t.length ≤ k → c ≠ 34 → closeLen (t ++ [c]) ≠ t.length
  | _, [], c, _, hc => by
    show closeLen [c] ≠ 0
    unfold closeLen
    split
    · decide
    · first | decide | (rw [if_neg hc]; decide)
  | 0, a :: t, c, h, _ => by simp at h
  | k + 1, a :: t, c, h, hc => by
    simp only [List.length_cons] at h
    rw [List.cons_append]
    by_cases h34 : a = 34
    · subst h34; rw [closeLen_q]; simp
    · by_cases h92 : a = 92
      · subst h92
        cases t with
        | nil => simp [closeLen]
        | cons d t =>
          simp only [List.length_cons] at h
          have := close_last k t c (by omega) hc
          rw [List.cons_append, closeLen_b]
          simp only [List.length_cons]; omega
      · have := close_last k t c (by omega) hc
        rw [closeLen_o a _ h92 h34]
        simp only [List.length_cons]; omega

theorem uq_short (l : Bs) (h : l.length < 2) : unqOk l = false := by
  match l, h with
  | [], _ => rfl
  | [c], _ =>
    unfold unqOk
    rw [closing_head]
    simp [closeLen]
theorem uq_first (c : UInt8) (t : Bs) (h : c ≠ 34) : unqOk (c :: t) = false := by unfold unqOk; simp [h]
theorem uq_last (t : Bs) (c : UInt8) (h : c ≠ 34) : unqOk (34 :: (t ++ [c])) = false := by
  unfold unqOk
  rw [closing_head]
  have := close_last t.length t c (Nat.le_refl _) h
  have e : decide (1 + closeLen (t ++ [c]) + 1 = (34 :: (t ++ [c])).length) = false := by
    rw [decide_eq_false_iff_not]; simp only [List.length_cons, List.length_append, List.length_nil]; omega
  rw [e]; simp
theorem uq_chars (l : Bs) (h : allL 1 l = false) : unqOk l = false := by unfold unqOk; rw [h]; simp
theorem uq_is (t : Bs) (h : allL 1 (34 :: (t ++ [34])) = true) : unqOk (34 :: (t ++ [34])) = (inn t).isSome ∧ ∀ u, inn t = some u → unq (t ++ [34]) = u := by
  obtain ⟨i1, i2⟩ := close_inn t.length t (Nat.le_refl _)
  refine ⟨?_, i2⟩
  unfold unqOk
  rw [closing_head, h]
  have e : decide (1 + closeLen (t ++ [34]) + 1 = (34 :: (t ++ [34])).length) = decide (closeLen (t ++ [34]) = t.length) := by
    simp only [List.length_cons, List.length_append, List.length_nil, decide_eq_decide]; omega
  rw [e]
  cases hi : inn t with
  | none =>
    have : ¬ closeLen (t ++ [34]) = t.length := fun e => i1.1 e hi
    simp [this]
  | some u =>
    have := i1.2 (by rw [hi]; simp)
    simp [this]
end Tk
end Go.Proofs.YtapnlopeipdjmaaGreatDoor
