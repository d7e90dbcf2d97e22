/- What package chunk's decoder does, as a function on states and bytes. -/
import Derived.Test.YtanilbckakoogaaGreatDoorFld0
namespace Go.Proofs.YtanilbckakoogaaGreatDoor
namespace Tk

/-- a hexadecimal digit's value -/
def hexD (c : UInt8) : Option Nat :=
  if 48 ≤ c.toNat ∧ c.toNat ≤ 57 then some (c.toNat - 48)
  else if 97 ≤ c.toNat ∧ c.toNat ≤ 102 then some (c.toNat - 87)
  else if 65 ≤ c.toNat ∧ c.toNat ≤ 70 then some (c.toNat - 55)
  else none
/-- a number by sixteen, read on from n -/
def hexGo : Nat → Bs → Option Nat
  | n, [] => some n
  | n, c :: t => match hexD c with
    | some d => hexGo (n * 16 + d) t
    | none => none
def hexN (l : Bs) : Option Nat := if l = [] then none else hexGo 0 l
/-- the size that a size line names, and the status -/
def sizeL (t : Bs) : Nat × Nat :=
  if 16 < (cutL 59 t).1.length then (0, 400)
  else if allL 1 (cutL 59 t).2.1 then
    match hexN (cutL 59 t).1 with
    | none => (0, 400)
    | some n => if 9007199254740991 < n then (0, 413) else (n, 0)
  else (0, 400)

/-- a decoder: its limits; its state (0 a size line, 1 a chunk's bytes, 2 CR, 3 LF behind them, 4 trailers, 5 the end); its flaw -/
structure Dc where
  L : Nat
  H : Nat
  C : Nat
  M : Nat
  mode : Nat := 0
  bad : Nat := 0
  line : Bs := []
  left : Nat := 0
  head : Nat := 0
  body : Bs := []
  trl : List (Bs × Bs) := []

def cr (l : Bs) : Bool := decide (l.getLast? = some 13)

/-- one byte more of a line: 0 more must come, 1 the line has ended, 2 a flaw -/
def addK (s : Dc) (c : UInt8) : Nat :=
  if cr s.line = decide (c = 10) then
    if cr s.line then 1 else if s.L ≤ s.line.length + 1 then 2 else 0
  else 2
/-- .. the line behind it -/
def addD (s : Dc) (c : UInt8) : Dc := { s with line := s.line ++ [c] }
/-- the text of the line that has ended by c -/
def txt (s : Dc) : Bs := s.line.dropLast

/-- behind a size line -/
def sizedD (s : Dc) (t : Bs) : Dc :=
  if (sizeL t).2 = 0 then
    if s.M - s.body.length < (sizeL t).1 then { s with bad := 413 }
    else if (sizeL t).1 = 0 then { s with mode := 4 }
    else { s with mode := 1, left := (sizeL t).1 }
  else { s with bad := (sizeL t).2 }
/-- behind a line of the trailers -/
def trailD (s : Dc) (t : Bs) : Dc :=
  if t = [] then { s with mode := 5 }
  else if lineOk t then
    if s.C ≤ s.trl.length then { s with bad := 431 } else { s with trl := s.trl ++ [(lineN t, lineV t)] }
  else { s with bad := 400 }

def stepD (s : Dc) (c : UInt8) : Dc :=
  match s.mode with
  | 0 => match addK s c with
    | 0 => addD s c
    | 1 => sizedD { s with line := [] } (txt s)
    | _ => { addD s c with bad := 400 }
  | 1 => if 1 < s.left then { s with body := s.body ++ [c], left := s.left - 1 } else { s with body := s.body ++ [c], left := s.left - 1, mode := 2 }
  | 2 => if c = 13 then { s with mode := 3 } else { s with bad := 400 }
  | 3 => if c = 10 then { s with mode := 0 } else { s with bad := 400 }
  | 4 => match addK s c with
    | 0 => if s.H < s.head + 1 then { addD s c with head := s.head + 1, bad := 431 } else { addD s c with head := s.head + 1 }
    | 1 => if s.H < s.head + 1 then { addD s c with head := s.head + 1, bad := 431 } else trailD { s with head := s.head + 1, line := [] } (txt s)
    | _ => { addD s c with head := s.head + 1, bad := 400 }
  | _ => s

def stopD (s : Dc) : Bool := decide (s.mode = 5) || decide (s.bad ≠ 0)
def feedD : Dc → Bs → Nat × Dc
  | s, [] => (0, s)
  | s, c :: t => if stopD s then (0, s) else ((feedD (stepD s c) t).1 + 1, (feedD (stepD s c) t).2)

theorem feedD_stop (s : Dc) (l : Bs) (h : stopD s = true) : feedD s l = (0, s) := by
  cases l with
  | nil => rfl
  | cons c t => unfold feedD; rw [if_pos h]
theorem feedD_cons (s : Dc) (c : UInt8) (t : Bs) (h : stopD s = false) : feedD s (c :: t) = ((feedD (stepD s c) t).1 + 1, (feedD (stepD s c) t).2) := by
  rw [feedD, if_neg (by simp [h])]
theorem feedD_append : ∀ (a : Bs) (s : Dc) (b : Bs), feedD s (a ++ b) = ((feedD s a).1 + (feedD (feedD s a).2 b).1, (feedD (feedD s a).2 b).2)
  | [], s, b => by simp [feedD]
  | c :: a, s, b => by
    cases h : stopD s
    · rw [List.cons_append, feedD_cons s c _ h, feedD_cons s c a h, feedD_append a (stepD s c) b]
      simp only [Prod.mk.injEq, and_true]; omega
    · rw [feedD_stop s _ h, feedD_stop s _ h, feedD_stop s _ h]; simp
theorem feedD_le : ∀ (l : Bs) (s : Dc), (feedD s l).1 ≤ l.length
  | [], s => by simp [feedD]
  | c :: t, s => by
    cases h : stopD s
    · rw [feedD_cons s c t h]; have := feedD_le t (stepD s c); simp; omega
    · rw [feedD_stop s _ h]; simp
theorem feedD_all : ∀ (l : Bs) (s : Dc), stopD (feedD s l).2 = false → (feedD s l).1 = l.length
  | [], s, _ => by simp [feedD]
  | c :: t, s, h => by
    cases hs : stopD s
    · rw [feedD_cons s c t hs] at h ⊢; have := feedD_all t (stepD s c) h; simp at this ⊢; omega
    · rw [feedD_stop s _ hs] at h; rw [hs] at h; cases h
/-- what was eaten is all that counts -/
theorem feedD_take (l : Bs) (s : Dc) : feedD s (l.take (feedD s l).1) = feedD s l := by
  induction l generalizing s with
  | nil => simp [feedD]
  | cons c t ih =>
    cases h : stopD s
    · rw [feedD_cons s c t h]
      show feedD s ((c :: t).take ((feedD (stepD s c) t).1 + 1)) = _
      rw [List.take_succ_cons, feedD_cons s c _ h, ih (stepD s c)]
    · rw [feedD_stop s _ h, feedD_stop s _ h]

/-- what is true of a decoder at all times; n: how many bytes it may have eaten -/
structure Dc.Fit (s : Dc) (n : Nat) : Prop where
  line : s.line.length ≤ n
  head : s.head ≤ n
  body : s.body.length ≤ n
  trl : s.trl.length ≤ n
  each : ∀ f ∈ s.trl, f.1.length ≤ n ∧ f.2.length ≤ n
  mode : s.mode ≤ 5
  bad : s.bad = 0 ∨ s.bad = 400 ∨ s.bad = 413 ∨ s.bad = 431
  room : s.body.length + (if s.mode = 1 then s.left else 0) ≤ s.M
  one : s.mode = 1 → 1 ≤ s.left
  few : s.left ≤ 9007199254740991

theorem sizeL_le (t : Bs) : (sizeL t).1 ≤ 9007199254740991 ∧ ((sizeL t).2 = 0 ∨ (sizeL t).2 = 400 ∨ (sizeL t).2 = 413) := by
  unfold sizeL
  split
  · simp
  · split
    · split
      · simp
      · split <;> simp; omega
    · simp
theorem trimL_le (l : Bs) : (trimL l).length ≤ l.length := trim_sublist l
theorem cutL_le (c : UInt8) (l : Bs) : (cutL c l).1.length ≤ l.length ∧ (cutL c l).2.1.length ≤ l.length := by
  unfold cutL
  split
  · refine ⟨(List.takeWhile_sublist _).length_le, ?_⟩
    simp only [List.length_drop]
    have := (List.dropWhile_sublist (l := l) (· != c)).length_le
    omega
  · simp
theorem lineNV_le (t : Bs) : (lineN t).length ≤ t.length ∧ (lineV t).length ≤ t.length :=
  ⟨(cutL_le 58 t).1, Nat.le_trans (trimL_le _) (cutL_le 58 t).2⟩

theorem Dc.Fit.mono {s : Dc} {n m : Nat} (h : s.Fit n) (hm : n ≤ m) : s.Fit m :=
  ⟨Nat.le_trans h.line hm, Nat.le_trans h.head hm, Nat.le_trans h.body hm, Nat.le_trans h.trl hm, fun f hf => ⟨Nat.le_trans (h.each f hf).1 hm, Nat.le_trans (h.each f hf).2 hm⟩, h.mode, h.bad, h.room, h.one, h.few⟩

theorem stepD_fit (s : Dc) (c : UInt8) (n : Nat) (h : s.Fit n) : (stepD s c).Fit (n + 1) := by
  obtain ⟨h1, h2, h3, h4, h5, h6, h7, h8, h9, h10⟩ := h
  have h5' : ∀ f ∈ s.trl, f.1.length ≤ n + 1 ∧ f.2.length ≤ n + 1 := fun f hf => ⟨Nat.le_succ_of_le (h5 f hf).1, Nat.le_succ_of_le (h5 f hf).2⟩
  have hl : (s.line ++ [c]).length ≤ n + 1 := by simp; omega
  have ht : (txt s).length ≤ n := by unfold txt; simp; omega
  have h58 : s.body.length ≤ s.M := by have := h8; omega
  unfold stepD
  split
  · rename_i hm
    rw [hm] at h8 h9
    split
    · exact ⟨hl, by simp only [addD]; omega, by simp only [addD]; omega, by simp only [addD]; omega, h5', by simp only [addD]; omega, h7, by simp only [addD, hm]; simpa using h58, by simp only [addD, hm]; simp, h10⟩
    · unfold sizedD
      obtain ⟨k1, k2⟩ := sizeL_le (txt s)
      split
      · split
        · exact ⟨by simp, by simp only; omega, by simp only; omega, by simp only; omega, h5', by simp only; omega, by simp, by simp only [hm]; simpa using h58, by simp only [hm]; simp, h10⟩
        · split
          · exact ⟨by simp, by simp only; omega, by simp only; omega, by simp only; omega, h5', by simp, h7, by simpa using h58, by simp, h10⟩
          · exact ⟨by simp, by simp only; omega, by simp only; omega, by simp only; omega, h5', by simp, h7, by simp only [if_true]; simp only at *; omega, fun _ => by simp only; omega, k1⟩
      · exact ⟨by simp, by simp only; omega, by simp only; omega, by simp only; omega, h5', by simp only; omega, by simp only; omega, by simp only [hm]; simpa using h58, by simp only [hm]; simp, h10⟩
    · exact ⟨hl, by simp only [addD]; omega, by simp only [addD]; omega, by simp only [addD]; omega, h5', by simp only [addD]; omega, by simp, by simp only [addD, hm]; simpa using h58, by simp only [addD, hm]; simp, h10⟩
  · rename_i hm
    rw [hm] at h8 h9
    have h9' := h9 rfl
    simp only [if_true] at h8
    split
    · exact ⟨by simp only; omega, by simp only; omega, by simp; omega, by simp only; omega, h5', by simp only; omega, h7, by simp only [hm, if_true]; simp; omega, fun _ => by simp only; omega, by simp only; omega⟩
    · exact ⟨by simp only; omega, by simp only; omega, by simp; omega, by simp only; omega, h5', by simp, h7, by simp; omega, by simp, by simp only; omega⟩
  · rename_i hm
    rw [hm] at h8 h9
    split
    · exact ⟨by simp only; omega, by simp only; omega, by simp only; omega, by simp only; omega, h5', by simp, h7, by simpa using h58, by simp, h10⟩
    · exact ⟨by simp only; omega, by simp only; omega, by simp only; omega, by simp only; omega, h5', by simp only; omega, by simp, by simp only [hm]; simpa using h58, by simp only [hm]; simp, h10⟩
  · rename_i hm
    rw [hm] at h8 h9
    split
    · exact ⟨by simp only; omega, by simp only; omega, by simp only; omega, by simp only; omega, h5', by simp, h7, by simpa using h58, by simp, h10⟩
    · exact ⟨by simp only; omega, by simp only; omega, by simp only; omega, by simp only; omega, h5', by simp only; omega, by simp, by simp only [hm]; simpa using h58, by simp only [hm]; simp, h10⟩
  · rename_i hm
    rw [hm] at h8 h9
    split
    · split
      · exact ⟨hl, by simp only; omega, by simp only [addD]; omega, by simp only [addD]; omega, h5', by simp only [addD]; omega, by simp, by simp only [addD, hm]; simpa using h58, by simp only [addD, hm]; simp, h10⟩
      · exact ⟨hl, by simp only; omega, by simp only [addD]; omega, by simp only [addD]; omega, h5', by simp only [addD]; omega, h7, by simp only [addD, hm]; simpa using h58, by simp only [addD, hm]; simp, h10⟩
    · split
      · exact ⟨hl, by simp only; omega, by simp only [addD]; omega, by simp only [addD]; omega, h5', by simp only [addD]; omega, by simp, by simp only [addD, hm]; simpa using h58, by simp only [addD, hm]; simp, h10⟩
      · unfold trailD
        split
        · exact ⟨by simp, by simp only; omega, by simp only; omega, by simp only; omega, h5', by simp, h7, by simpa using h58, by simp, h10⟩
        · split
          · split
            · exact ⟨by simp, by simp only; omega, by simp only; omega, by simp only; omega, h5', by simp only; omega, by simp, by simp only [hm]; simpa using h58, by simp only [hm]; simp, h10⟩
            · refine ⟨by simp, by simp only; omega, by simp only; omega, by simp; omega, fun f hf => ?_, by simp only; omega, h7, by simp only [hm]; simpa using h58, by simp only [hm]; simp, h10⟩
              rcases List.mem_append.1 hf with hf | hf
              · exact h5' f hf
              · simp at hf; subst hf
                have := lineNV_le (txt s)
                simp only; omega
          · exact ⟨by simp, by simp only; omega, by simp only; omega, by simp only; omega, h5', by simp only; omega, by simp, by simp only [hm]; simpa using h58, by simp only [hm]; simp, h10⟩
    · exact ⟨hl, by simp only; omega, by simp only [addD]; omega, by simp only [addD]; omega, h5', by simp only [addD]; omega, by simp, by simp only [addD, hm]; simpa using h58, by simp only [addD, hm]; simp, h10⟩
  · exact ⟨by omega, by omega, by omega, by omega, h5', h6, h7, h8, h9, h10⟩

theorem stepD_lim (s : Dc) (c : UInt8) : (stepD s c).L = s.L ∧ (stepD s c).H = s.H ∧ (stepD s c).C = s.C ∧ (stepD s c).M = s.M := by
  unfold stepD sizedD trailD addD
  repeat' split
  all_goals exact ⟨rfl, rfl, rfl, rfl⟩
theorem feedD_fit : ∀ (l : Bs) (s : Dc) (n : Nat), s.Fit n → (feedD s l).2.Fit (n + l.length)
  | [], s, n, h => by simpa [feedD] using h
  | c :: t, s, n, h => by
    cases hs : stopD s
    · rw [feedD_cons s c t hs]
      have := feedD_fit t _ _ (stepD_fit s c n h)
      exact this.mono (by simp; omega)
    · rw [feedD_stop s _ hs]; exact Dc.Fit.mono h (by simp)
theorem feedD_lim : ∀ (l : Bs) (s : Dc), (feedD s l).2.L = s.L ∧ (feedD s l).2.H = s.H ∧ (feedD s l).2.C = s.C ∧ (feedD s l).2.M = s.M
  | [], s => ⟨rfl, rfl, rfl, rfl⟩
  | c :: t, s => by
    cases hs : stopD s
    · rw [feedD_cons s c t hs]
      obtain ⟨a1, a2, a3, a4⟩ := feedD_lim t (stepD s c)
      obtain ⟨b1, b2, b3, b4⟩ := stepD_lim s c
      exact ⟨a1.trans b1, a2.trans b2, a3.trans b3, a4.trans b4⟩
    · rw [feedD_stop s _ hs]; exact ⟨rfl, rfl, rfl, rfl⟩
/-- a flaw leaves the state as it was -/
theorem stepD_bad (s : Dc) (c : UInt8) (h : s.bad = 0) (hb : (stepD s c).bad ≠ 0) : (stepD s c).mode = s.mode := by
  revert hb
  unfold stepD sizedD trailD addD
  repeat' split
  all_goals simp_all
def newD (l h c m : Nat) : Dc := { L := l, H := h, C := c, M := m }
theorem newD_fit (l h c m : Nat) : (newD l h c m).Fit 0 := ⟨by simp [newD], by simp [newD], by simp [newD], by simp [newD], by simp [newD], by simp [newD], by simp [newD], by simp [newD], by simp [newD], by simp [newD]⟩
end Tk
end Go.Proofs.YtanilbckakoogaaGreatDoor
