/- What package framing answers, as functions on lists of fields; what the statements of its layer ask of them. -/
import Derived.Test.YtapnlopeipdjmaaDoorFldW
import Derived.Test.YtapnlopeipdjmaaDoorNum0
namespace Go.Proofs.YtapnlopeipdjmaaDoor
namespace Tk

def nmCL : Bs := [67, 111, 110, 116, 101, 110, 116, 45, 76, 101, 110, 103, 116, 104]
def nmTE : Bs := [84, 114, 97, 110, 115, 102, 101, 114, 45, 69, 110, 99, 111, 100, 105, 110, 103]
def chkB : Bs := [99, 104, 117, 110, 107, 101, 100]

def hasF (l : List (Bs × Bs)) (name : Bs) : Bool := decide (0 < (allF l name).length)
theorem list_has (l : List (Bs × Bs)) (name : Bs) (h : listF l name ≠ []) : hasF l name = true := by
  unfold hasF
  rw [decide_eq_true_eq]
  refine Nat.pos_of_ne_zero fun e => h ?_
  unfold listF
  rw [List.eq_nil_of_length_eq_zero e]; rfl
/-- a text that is a number: this one -/
def isNum (k : Nat) (p : Bs) : Bool := decide ((numL p).2 = 0) && decide ((numL p).1 = k)
def firstN (P : List Bs) : Nat := (numL (P.headD [])).1
def lensOk (P : List Bs) : Bool := !P.isEmpty && P.all (isNum (firstN P))
/-- the length, if it is one -/
def lenOkF (l : List (Bs × Bs)) : Bool := lensOk (listF l nmCL)
def lenN (l : List (Bs × Bs)) : Nat := if lenOkF l then firstN (listF l nmCL) else 0
def lenS (l : List (Bs × Bs)) : Nat := if hasF l nmCL && !lenOkF l then 400 else 0
def codOk (P : List Bs) : Bool := decide (P.length = 1) && decide (lowL (P.headD []) = lowL chkB)
def codS (l : List (Bs × Bs)) : Nat := if hasF l nmTE && !codOk (listF l nmTE) then 501 else 0

theorem codS_two (l : List (Bs × Bs)) : codS l = 0 ∨ codS l = 501 := by unfold codS; split <;> simp
theorem lenS_two (l : List (Bs × Bs)) : lenS l = 0 ∨ lenS l = 400 := by unfold lenS; split <;> simp
theorem lenS_none (l : List (Bs × Bs)) (h : hasF l nmCL = false) : lenS l = 0 ∧ lenN l = 0 := by
  have : lenOkF l = false := by
    unfold lenOkF
    cases hl : listF l nmCL with
    | nil => rfl
    | cons p t =>
      have := list_has l nmCL (by rw [hl]; simp)
      rw [h] at this; cases this
  unfold lenS lenN
  rw [h, this]; exact ⟨rfl, rfl⟩

/-- the frame: its status, its kind, its length -/
def frS (m : Int) (l : List (Bs × Bs)) : Nat := if hasF l nmTE then (if decide (m = 0) || hasF l nmCL then 400 else codS l) else lenS l
def frK (m : Int) (l : List (Bs × Bs)) (neither : Nat) : Nat :=
  if frS m l = 0 then (if hasF l nmTE then 3 else if hasF l nmCL then (if lenN l = 0 then 1 else 2) else neither) else 0
def frN (m : Int) (l : List (Bs × Bs)) : Nat := if frS m l = 0 then (if hasF l nmTE then 0 else lenN l) else 0

def bareB (method : Bs) (s : Int) : Bool := decide (method = [72, 69, 65, 68]) || (decide (100 ≤ s) && decide (s ≤ 199)) || decide (s = 204) || decide (s = 304) || (decide (method = [67, 79, 78, 78, 69, 67, 84]) && decide (200 ≤ s) && decide (s ≤ 299))
def rsK (method : Bs) (s m : Int) (l : List (Bs × Bs)) : Nat := if bareB method s then 1 else frK m l 4
def rsN (method : Bs) (s m : Int) (l : List (Bs × Bs)) : Nat := if bareB method s then 0 else frN m l
def rsS (method : Bs) (s m : Int) (l : List (Bs × Bs)) : Nat := if bareB method s then 0 else frS m l

-- by cases, as the walk meets them
theorem fr_400 (m : Int) (l : List (Bs × Bs)) (n : Nat) (h : hasF l nmTE = true) (h2 : (decide (m = 0) || hasF l nmCL) = true) : frS m l = 400 ∧ frK m l n = 0 ∧ frN m l = 0 := by
  have : frS m l = 400 := by unfold frS; rw [h, h2]; rfl
  unfold frK frN
  rw [this]; exact ⟨rfl, rfl, rfl⟩
theorem fr_501 (m : Int) (l : List (Bs × Bs)) (n : Nat) (h : hasF l nmTE = true) (h2 : (decide (m = 0) || hasF l nmCL) = false) (h3 : codS l ≠ 0) : frS m l = codS l ∧ frK m l n = 0 ∧ frN m l = 0 := by
  have : frS m l = codS l := by unfold frS; rw [h, h2]; rfl
  unfold frK frN
  rw [this, if_neg h3, if_neg h3]; exact ⟨rfl, rfl, rfl⟩
theorem fr_chunks (m : Int) (l : List (Bs × Bs)) (n : Nat) (h : hasF l nmTE = true) (h2 : (decide (m = 0) || hasF l nmCL) = false) (h3 : codS l = 0) : frS m l = 0 ∧ frK m l n = 3 ∧ frN m l = 0 := by
  have : frS m l = 0 := by unfold frS; rw [h, h2]; exact h3
  unfold frK frN
  rw [this, h]; exact ⟨rfl, rfl, rfl⟩
theorem fr_bad (m : Int) (l : List (Bs × Bs)) (n : Nat) (h : hasF l nmTE = false) (h2 : lenS l ≠ 0) : frS m l = lenS l ∧ frK m l n = 0 ∧ frN m l = 0 := by
  have : frS m l = lenS l := by unfold frS; rw [h]; rfl
  unfold frK frN
  rw [this, if_neg h2, if_neg h2]; exact ⟨rfl, rfl, rfl⟩
theorem fr_neither (m : Int) (l : List (Bs × Bs)) (n : Nat) (h : hasF l nmTE = false) (h2 : hasF l nmCL = false) : frS m l = 0 ∧ frK m l n = n ∧ frN m l = 0 := by
  obtain ⟨h3, h4⟩ := lenS_none l h2
  have : frS m l = 0 := by unfold frS; rw [h]; exact h3
  unfold frK frN
  rw [this, h, h2, h4]; exact ⟨rfl, rfl, rfl⟩
theorem fr_nought (m : Int) (l : List (Bs × Bs)) (n : Nat) (h : hasF l nmTE = false) (h2 : hasF l nmCL = true) (h3 : lenS l = 0) (h4 : lenN l = 0) : frS m l = 0 ∧ frK m l n = 1 ∧ frN m l = 0 := by
  have : frS m l = 0 := by unfold frS; rw [h]; exact h3
  unfold frK frN
  rw [this, h, h2, h4]; exact ⟨rfl, rfl, rfl⟩
theorem fr_len (m : Int) (l : List (Bs × Bs)) (n : Nat) (h : hasF l nmTE = false) (h2 : hasF l nmCL = true) (h3 : lenS l = 0) (h4 : lenN l ≠ 0) : frS m l = 0 ∧ frK m l n = 2 ∧ frN m l = lenN l := by
  have : frS m l = 0 := by unfold frS; rw [h]; exact h3
  unfold frK frN
  rw [this, h, h2]
  refine ⟨rfl, ?_, rfl⟩
  show (if lenN l = 0 then 1 else 2) = 2
  rw [if_neg h4]

-- the loop of Length, part for part
theorem isNum_head (p : Bs) (t : List Bs) (h : (numL p).2 = 0) : isNum (firstN (p :: t)) p = true := by
  unfold isNum firstN; simp [h]
theorem lensOk_no (P : List Bs) (p : Bs) (hp : p ∈ P) (h : isNum (firstN P) p = false) : lensOk P = false := by
  unfold lensOk
  cases hq : P.all (isNum (firstN P))
  · simp
  · rw [List.all_eq_true] at hq
    rw [hq p hp] at h; cases h
theorem lensOk_yes (P : List Bs) (hp : P ≠ []) (h : ∀ p ∈ P, isNum (firstN P) p = true) : lensOk P = true := by
  unfold lensOk
  rw [List.all_eq_true.2 h]
  cases P with
  | nil => exact absurd rfl hp
  | cons a t => rfl
theorem len_bad (l : List (Bs × Bs)) (p : Bs) (hp : p ∈ listF l nmCL) (h : isNum (firstN (listF l nmCL)) p = false) : lenN l = 0 ∧ hasF l nmCL = true ∧ lenS l = 400 := by
  have h1 := lensOk_no _ p hp h
  have h2 := list_has l nmCL (fun e => by rw [e] at hp; simp at hp)
  unfold lenN lenS lenOkF
  rw [h1, h2]; exact ⟨rfl, rfl, rfl⟩
theorem len_good (l : List (Bs × Bs)) (hp : listF l nmCL ≠ []) (h : ∀ p ∈ listF l nmCL, isNum (firstN (listF l nmCL)) p = true) : lenN l = firstN (listF l nmCL) ∧ hasF l nmCL = true ∧ lenS l = 0 := by
  have h1 := lensOk_yes _ hp h
  have h2 := list_has l nmCL hp
  unfold lenN lenS lenOkF
  rw [h1, h2]; exact ⟨rfl, rfl, rfl⟩
theorem len_empty (l : List (Bs × Bs)) (hp : listF l nmCL = []) (h : hasF l nmCL = true) : lenN l = 0 ∧ lenS l = 400 := by
  unfold lenN lenS lenOkF
  rw [hp, h]; exact ⟨rfl, rfl⟩
theorem numGo_le : ∀ (l : Bs) (n : Nat), (numGo n l).1 ≤ maxN
  | [], n => by rw [numGo]; split <;> simp; omega
  | c :: t, n => by
    rw [numGo]
    split
    · exact numGo_le t _
    · exact Nat.zero_le _
theorem numL_le (l : Bs) : (numL l).1 ≤ maxN := by
  unfold numL
  split
  · exact Nat.zero_le _
  · exact numGo_le l 0
theorem lenN_le (l : List (Bs × Bs)) : lenN l ≤ maxN := by
  unfold lenN
  split
  · exact numL_le _
  · exact Nat.zero_le _

-- fields of other names change nothing
theorem allF_app' (a b : List (Bs × Bs)) (name : Bs) : allF (a ++ b) name = allF a name ++ allF b name := by unfold allF; simp
theorem allF_none' (l : List (Bs × Bs)) (name : Bs) (h : ∀ f ∈ l, isN name f = false) : allF l name = [] := by
  unfold allF
  rw [List.filter_eq_nil_iff.2 (fun f hf => by rw [h f hf]; simp)]; rfl
theorem fr_more (m : Int) (l r : List (Bs × Bs)) (n : Nat) (h : ∀ f ∈ r, isN nmCL f = false ∧ isN nmTE f = false) : frS m (l ++ r) = frS m l ∧ frK m (l ++ r) n = frK m l n ∧ frN m (l ++ r) = frN m l := by
  have h1 : allF (l ++ r) nmCL = allF l nmCL := by rw [allF_app', allF_none' r nmCL fun f hf => (h f hf).1, List.append_nil]
  have h2 : allF (l ++ r) nmTE = allF l nmTE := by rw [allF_app', allF_none' r nmTE fun f hf => (h f hf).2, List.append_nil]
  unfold frK frN frS codS lenS lenN lenOkF hasF listF
  rw [h1, h2]; exact ⟨rfl, rfl, rfl⟩
end Tk
end Go.Proofs.YtapnlopeipdjmaaDoor
