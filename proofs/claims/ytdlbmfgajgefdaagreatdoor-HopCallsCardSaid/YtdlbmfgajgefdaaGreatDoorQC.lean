/- ChkP ChkQ EmP FldH JoinF FldI FldJ FldK FldP FldN, put together. -/
import Derived.Test.YtdlbmfgajgefdaaGreatDoorQA
import Derived.Test.YtdlbmfgajgefdaaGreatDoorQB
import Derived.Laws.AppendOwnNone
import Derived.Laws.OwnMore
import Derived.BigFrame
import Derived.Laws.IdiomCopy
import Derived.Lib.SliceRun
import Derived.Laws.StructEq
import Derived.IntWalk
import Derived.Deep.QuietTactic
import Derived.BigQuiet
namespace Go.Proofs.YtdlbmfgajgefdaaGreatDoor
namespace Tk

/-- a hexadecimal digit's value -/
def hexD (c : UInt8) : Option Nat :=
  if 48 ≤ c.toNat ∧ c.toNat ≤ 57 then some (c.toNat - 48)
  else if 97 ≤ c.toNat ∧ c.toNat ≤ 102 then some (c.toNat - 87)
  else if 65 ≤ c.toNat ∧ c.toNat ≤ 70 then some (c.toNat - 55)
  else none
/-- a number by sixteen, read on from n -/
def hexGo : Nat → Bs → Option Nat
  | n, [] => some n
  | n, c :: t => match hexD c with
    | some d => hexGo (n * 16 + d) t
    | none => none
def hexN (l : Bs) : Option Nat := if l = [] then none else hexGo 0 l
/-- the size that a size line names, and the status -/
def sizeL (t : Bs) : Nat × Nat :=
  if 16 < (cutL 59 t).1.length then (0, 400)
  else if allL 1 (cutL 59 t).2.1 then
    match hexN (cutL 59 t).1 with
    | none => (0, 400)
    | some n => if 9007199254740991 < n then (0, 413) else (n, 0)
  else (0, 400)

/-- a decoder: its limits; its state (0 a size line, 1 a chunk's bytes, 2 CR, 3 LF behind them, 4 trailers, 5 the end); its flaw -/
structure Dc where
  L : Nat
  H : Nat
  C : Nat
  M : Nat
  mode : Nat := 0
  bad : Nat := 0
  line : Bs := []
  left : Nat := 0
  head : Nat := 0
  body : Bs := []
  trl : List (Bs × Bs) := []

def cr (l : Bs) : Bool := decide (l.getLast? = some 13)

/-- one byte more of a line: 0 more must come, 1 the line has ended, 2 a flaw -/
def addK (s : Dc) (c : UInt8) : Nat :=
  if cr s.line = decide (c = 10) then
    if cr s.line then 1 else if s.L ≤ s.line.length + 1 then 2 else 0
  else 2
/-- .. the line behind it -/
def addD (s : Dc) (c : UInt8) : Dc := { s with line := s.line ++ [c] }
/-- the text of the line that has ended by c -/
def txt (s : Dc) : Bs := s.line.dropLast

/-- behind a size line -/
def sizedD (s : Dc) (t : Bs) : Dc :=
  if (sizeL t).2 = 0 then
    if s.M - s.body.length < (sizeL t).1 then { s with bad := 413 }
    else if (sizeL t).1 = 0 then { s with mode := 4 }
    else { s with mode := 1, left := (sizeL t).1 }
  else { s with bad := (sizeL t).2 }
/-- behind a line of the trailers -/
def trailD (s : Dc) (t : Bs) : Dc :=
  if t = [] then { s with mode := 5 }
  else if lineOk t then
    if s.C ≤ s.trl.length then { s with bad := 431 } else { s with trl := s.trl ++ [(lineN t, lineV t)] }
  else { s with bad := 400 }

def stepD (s : Dc) (c : UInt8) : Dc :=
  match s.mode with
  | 0 => match addK s c with
    | 0 => addD s c
    | 1 => sizedD { s with line := [] } (txt s)
    | _ => { addD s c with bad := 400 }
  | 1 => if 1 < s.left then { s with body := s.body ++ [c], left := s.left - 1 } else { s with body := s.body ++ [c], left := s.left - 1, mode := 2 }
  | 2 => if c = 13 then { s with mode := 3 } else { s with bad := 400 }
  | 3 => if c = 10 then { s with mode := 0 } else { s with bad := 400 }
  | 4 => match addK s c with
    | 0 => if s.H < s.head + 1 then { addD s c with head := s.head + 1, bad := 431 } else { addD s c with head := s.head + 1 }
    | 1 => if s.H < s.head + 1 then { addD s c with head := s.head + 1, bad := 431 } else trailD { s with head := s.head + 1, line := [] } (txt s)
    | _ => { addD s c with head := s.head + 1, bad := 400 }
  | _ => s

def stopD (s : Dc) : Bool := decide (s.mode = 5) || decide (s.bad ≠ 0)
def feedD : Dc → Bs → Nat × Dc
  | s, [] => (0, s)
  | s, c :: t => if stopD s then (0, s) else ((feedD (stepD s c) t).1 + 1, (feedD (stepD s c) t).2)

theorem feedD_stop (s : Dc) (l : Bs) (h : stopD s = true) : feedD s l = (0, s) := by
  cases l with
  | nil => rfl
  | cons c t => unfold feedD; rw [if_pos h]
theorem feedD_cons (s : Dc) (c : UInt8) (t : Bs) (h : stopD s = false) : feedD s (c :: t) = ((feedD (stepD s c) t).1 + 1, (feedD (stepD s c) t).2) := by
  rw [feedD, if_neg (by simp [h])]
theorem feedD_append : ∀ (a : Bs) (s : Dc) (b : Bs), feedD s (a ++ b) = ((feedD s a).1 + (feedD (feedD s a).2 b).1, (feedD (feedD s a).2 b).2)
  | [], s, b => by simp [feedD]
  | c :: a, s, b => by
    cases h : stopD s
    · rw [List.cons_append, feedD_cons s c _ h, feedD_cons s c a h, feedD_append a (stepD s c) b]
      simp only [Prod.mk.injEq, and_true]; omega
    · rw [feedD_stop s _ h, feedD_stop s _ h, feedD_stop s _ h]; simp
theorem feedD_le : ∀ (l : Bs) (s : Dc), (feedD s l).1 ≤ l.length
  | [], s => by simp [feedD]
  | c :: t, s => by
    cases h : stopD s
    · rw [feedD_cons s c t h]; have := feedD_le t (stepD s c); simp; omega
    · rw [feedD_stop s _ h]; simp
theorem feedD_all : ∀ (l : Bs) (s : Dc), stopD (feedD s l).2 = false → (feedD s l).1 = l.length
  | [], s, _ => by simp [feedD]
  | c :: t, s, h => by
    cases hs : stopD s
    · rw [feedD_cons s c t hs] at h ⊢; have := feedD_all t (stepD s c) h; simp at this ⊢; omega
    · rw [feedD_stop s _ hs] at h; rw [hs] at h; cases h
/-- what was eaten is all that counts -/
theorem feedD_take (l : Bs) (s : Dc) : feedD s (l.take (feedD s l).1) = feedD s l := by
  induction l generalizing s with
  | nil => simp [feedD]
  | cons c t ih =>
    cases h : stopD s
    · rw [feedD_cons s c t h]
      show feedD s ((c :: t).take ((feedD (stepD s c) t).1 + 1)) = _
      rw [List.take_succ_cons, feedD_cons s c _ h, ih (stepD s c)]
    · rw [feedD_stop s _ h, feedD_stop s _ h]

/-- what is true of a decoder at all times; n: how many bytes it may have eaten -/
structure Dc.Fit (s : Dc) (n : Nat) : Prop where
  line : s.line.length ≤ n
  head : s.head ≤ n
  body : s.body.length ≤ n
  trl : s.trl.length ≤ n
  each : ∀ f ∈ s.trl, f.1.length ≤ n ∧ f.2.length ≤ n
  mode : s.mode ≤ 5
  bad : s.bad = 0 ∨ s.bad = 400 ∨ s.bad = 413 ∨ s.bad = 431
  room : s.body.length + (if s.mode = 1 then s.left else 0) ≤ s.M
  one : s.mode = 1 → 1 ≤ s.left
  few : s.left ≤ 9007199254740991

theorem sizeL_le (t : Bs) : (sizeL t).1 ≤ 9007199254740991 ∧ ((sizeL t).2 = 0 ∨ (sizeL t).2 = 400 ∨ (sizeL t).2 = 413) := by
  unfold sizeL
  split
  · simp
  · split
    · split
      · simp
      · split <;> simp; omega
    · simp
theorem trimL_le (l : Bs) : (trimL l).length ≤ l.length := trim_sublist l
theorem cutL_le (c : UInt8) (l : Bs) : (cutL c l).1.length ≤ l.length ∧ (cutL c l).2.1.length ≤ l.length := by
  unfold cutL
  split
  · refine ⟨(List.takeWhile_sublist _).length_le, ?_⟩
    simp only [List.length_drop]
    have := (List.dropWhile_sublist (l := l) (· != c)).length_le
    omega
  · simp
theorem lineNV_le (t : Bs) : (lineN t).length ≤ t.length ∧ (lineV t).length ≤ t.length :=
  ⟨(cutL_le 58 t).1, Nat.le_trans (trimL_le _) (cutL_le 58 t).2⟩

theorem Dc.Fit.mono {s : Dc} {n m : Nat} (h : s.Fit n) (hm : n ≤ m) : s.Fit m :=
  ⟨Nat.le_trans h.line hm, Nat.le_trans h.head hm, Nat.le_trans h.body hm, Nat.le_trans h.trl hm, fun f hf => ⟨Nat.le_trans (h.each f hf).1 hm, Nat.le_trans (h.each f hf).2 hm⟩, h.mode, h.bad, h.room, h.one, h.few⟩

theorem stepD_fit (s : Dc) (c : UInt8) (n : Nat) (h : s.Fit n) : (stepD s c).Fit (n + 1) := by
  obtain ⟨h1, h2, h3, h4, h5, h6, h7, h8, h9, h10⟩ := h
  have h5' : ∀ f ∈ s.trl, f.1.length ≤ n + 1 ∧ f.2.length ≤ n + 1 := fun f hf => ⟨Nat.le_succ_of_le (h5 f hf).1, Nat.le_succ_of_le (h5 f hf).2⟩
  have hl : (s.line ++ [c]).length ≤ n + 1 := by simp; omega
  have ht : (txt s).length ≤ n := by unfold txt; simp; omega
  have h58 : s.body.length ≤ s.M := by have := h8; omega
  unfold stepD
  split
  · rename_i hm
    rw [hm] at h8 h9
    split
    · exact ⟨hl, by simp only [addD]; omega, by simp only [addD]; omega, by simp only [addD]; omega, h5', by simp only [addD]; omega, h7, by simp only [addD, hm]; simpa using h58, by simp only [addD, hm]; simp, h10⟩
    · unfold sizedD
      obtain ⟨k1, k2⟩ := sizeL_le (txt s)
      split
      · split
        · exact ⟨by simp, by simp only; omega, by simp only; omega, by simp only; omega, h5', by simp only; omega, by simp, by simp only [hm]; simpa using h58, by simp only [hm]; simp, h10⟩
        · split
          · exact ⟨by simp, by simp only; omega, by simp only; omega, by simp only; omega, h5', by simp, h7, by simpa using h58, by simp, h10⟩
          · exact ⟨by simp, by simp only; omega, by simp only; omega, by simp only; omega, h5', by simp, h7, by simp only [if_true]; simp only at *; omega, fun _ => by simp only; omega, k1⟩
      · exact ⟨by simp, by simp only; omega, by simp only; omega, by simp only; omega, h5', by simp only; omega, by simp only; omega, by simp only [hm]; simpa using h58, by simp only [hm]; simp, h10⟩
    · exact ⟨hl, by simp only [addD]; omega, by simp only [addD]; omega, by simp only [addD]; omega, h5', by simp only [addD]; omega, by simp, by simp only [addD, hm]; simpa using h58, by simp only [addD, hm]; simp, h10⟩
  · rename_i hm
    rw [hm] at h8 h9
    have h9' := h9 rfl
    simp only [if_true] at h8
    split
    · exact ⟨by simp only; omega, by simp only; omega, by simp; omega, by simp only; omega, h5', by simp only; omega, h7, by simp only [hm, if_true]; simp; omega, fun _ => by simp only; omega, by simp only; omega⟩
    · exact ⟨by simp only; omega, by simp only; omega, by simp; omega, by simp only; omega, h5', by simp, h7, by simp; omega, by simp, by simp only; omega⟩
  · rename_i hm
    rw [hm] at h8 h9
    split
    · exact ⟨by simp only; omega, by simp only; omega, by simp only; omega, by simp only; omega, h5', by simp, h7, by simpa using h58, by simp, h10⟩
    · exact ⟨by simp only; omega, by simp only; omega, by simp only; omega, by simp only; omega, h5', by simp only; omega, by simp, by simp only [hm]; simpa using h58, by simp only [hm]; simp, h10⟩
  · rename_i hm
    rw [hm] at h8 h9
    split
    · exact ⟨by simp only; omega, by simp only; omega, by simp only; omega, by simp only; omega, h5', by simp, h7, by simpa using h58, by simp, h10⟩
    · exact ⟨by simp only; omega, by simp only; omega, by simp only; omega, by simp only; omega, h5', by simp only; omega, by simp, by simp only [hm]; simpa using h58, by simp only [hm]; simp, h10⟩
  · rename_i hm
    rw [hm] at h8 h9
    split
    · split
      · exact ⟨hl, by simp only; omega, by simp only [addD]; omega, by simp only [addD]; omega, h5', by simp only [addD]; omega, by simp, by simp only [addD, hm]; simpa using h58, by simp only [addD, hm]; simp, h10⟩
      · exact ⟨hl, by simp only; omega, by simp only [addD]; omega, by simp only [addD]; omega, h5', by simp only [addD]; omega, h7, by simp only [addD, hm]; simpa using h58, by simp only [addD, hm]; simp, h10⟩
    · split
      · exact ⟨hl, by simp only; omega, by simp only [addD]; omega, by simp only [addD]; omega, h5', by simp only [addD]; omega, by simp, by simp only [addD, hm]; simpa using h58, by simp only [addD, hm]; simp, h10⟩
      · unfold trailD
        split
        · exact ⟨by simp, by simp only; omega, by simp only; omega, by simp only; omega, h5', by simp, h7, by simpa using h58, by simp, h10⟩
        · split
          · split
            · exact ⟨by simp, by simp only; omega, by simp only; omega, by simp only; omega, h5', by simp only; omega, by simp, by simp only [hm]; simpa using h58, by simp only [hm]; simp, h10⟩
            · refine ⟨by simp, by simp only; omega, by simp only; omega, by simp; omega, fun f hf => ?_, by simp only; omega, h7, by simp only [hm]; simpa using h58, by simp only [hm]; simp, h10⟩
              rcases List.mem_append.1 hf with hf | hf
              · exact h5' f hf
              · simp at hf; subst hf
                have := lineNV_le (txt s)
                simp only; omega
          · exact ⟨by simp, by simp only; omega, by simp only; omega, by simp only; omega, h5', by simp only; omega, by simp, by simp only [hm]; simpa using h58, by simp only [hm]; simp, h10⟩
    · exact ⟨hl, by simp only; omega, by simp only [addD]; omega, by simp only [addD]; omega, h5', by simp only [addD]; omega, by simp, by simp only [addD, hm]; simpa using h58, by simp only [addD, hm]; simp, h10⟩
  · exact ⟨by omega, by omega, by omega, by omega, h5', h6, h7, h8, h9, h10⟩

theorem stepD_lim (s : Dc) (c : UInt8) : (stepD s c).L = s.L ∧ (stepD s c).H = s.H ∧ (stepD s c).C = s.C ∧ (stepD s c).M = s.M := by
  unfold stepD sizedD trailD addD
  repeat' split
  all_goals exact ⟨rfl, rfl, rfl, rfl⟩
theorem feedD_fit : ∀ (l : Bs) (s : Dc) (n : Nat), s.Fit n → (feedD s l).2.Fit (n + l.length)
  | [], s, n, h => by simpa [feedD] using h
  | c :: t, s, n, h => by
    cases hs : stopD s
    · rw [feedD_cons s c t hs]
      have := feedD_fit t _ _ (stepD_fit s c n h)
      exact this.mono (by simp; omega)
    · rw [feedD_stop s _ hs]; exact Dc.Fit.mono h (by simp)
theorem feedD_lim : ∀ (l : Bs) (s : Dc), (feedD s l).2.L = s.L ∧ (feedD s l).2.H = s.H ∧ (feedD s l).2.C = s.C ∧ (feedD s l).2.M = s.M
  | [], s => ⟨rfl, rfl, rfl, rfl⟩
  | c :: t, s => by
    cases hs : stopD s
    · rw [feedD_cons s c t hs]
      obtain ⟨a1, a2, a3, a4⟩ := feedD_lim t (stepD s c)
      obtain ⟨b1, b2, b3, b4⟩ := stepD_lim s c
      exact ⟨a1.trans b1, a2.trans b2, a3.trans b3, a4.trans b4⟩
    · rw [feedD_stop s _ hs]; exact ⟨rfl, rfl, rfl, rfl⟩
/-- a flaw leaves the state as it was -/
theorem stepD_bad (s : Dc) (c : UInt8) (h : s.bad = 0) (hb : (stepD s c).bad ≠ 0) : (stepD s c).mode = s.mode := by
  revert hb
  unfold stepD sizedD trailD addD
  repeat' split
  all_goals simp_all
def newD (l h c m : Nat) : Dc := { L := l, H := h, C := c, M := m }
theorem newD_fit (l h c m : Nat) : (newD l h c m).Fit 0 := ⟨by simp [newD], by simp [newD], by simp [newD], by simp [newD], by simp [newD], by simp [newD], by simp [newD], by simp [newD], by simp [newD], by simp [newD]⟩
end Tk
end Go.Proofs.YtdlbmfgajgefdaaGreatDoor
namespace Go.Proofs.YtdlbmfgajgefdaaGreatDoor
namespace Tk

def hexc (d : Nat) : UInt8 := if d < 10 then UInt8.ofNat (48 + d) else UInt8.ofNat (87 + d)
def hexC (d : Nat) : UInt8 := if d < 10 then UInt8.ofNat (48 + d) else UInt8.ofNat (55 + d)
/-- a number's digits by sixteen, with the digits f -/
def hexF (f : Nat → UInt8) (n : Nat) : Bs := if _h : n < 16 then [f n] else hexF f (n / 16) ++ [f (n % 16)]
abbrev hexL (n : Nat) : Bs := hexF hexc n
theorem hexF_small (f : Nat → UInt8) (n : Nat) (h : n < 16) : hexF f n = [f n] := by rw [hexF, dif_pos h]
theorem hexF_big (f : Nat → UInt8) (n : Nat) (h : ¬ n < 16) : hexF f n = hexF f (n / 16) ++ [f (n % 16)] := by rw [hexF, dif_neg h]
theorem hexD_c : ∀ d, d < 16 → hexD (hexc d) = some d := by decide
theorem hexD_C : ∀ d, d < 16 → hexD (hexC d) = some d := by decide

theorem hexGo_append : ∀ (x : Bs) (n : Nat) (y : Bs), hexGo n (x ++ y) = (hexGo n x).bind fun m => hexGo m y
  | [], n, y => rfl
  | c :: t, n, y => by
    simp only [List.cons_append, hexGo]
    cases hexD c with
    | none => rfl
    | some d => exact hexGo_append t _ y
theorem hexGo_mem : ∀ (l : Bs) (n m : Nat), hexGo n l = some m → ∀ c ∈ l, hexD c ≠ none
  | [], n, m, _, c, hc => by cases hc
  | a :: t, n, m, h, c, hc => by
    simp only [hexGo] at h
    cases ha : hexD a with
    | none => rw [ha] at h; cases h
    | some d =>
      rw [ha] at h
      rcases List.mem_cons.1 hc with rfl | hc
      · rw [ha]; simp
      · exact hexGo_mem t _ m h c hc
theorem hexGo_bad : ∀ (l : Bs) (n : Nat), (∃ c ∈ l, hexD c = none) → hexGo n l = none
  | [], n, h => by simp at h
  | a :: t, n, h => by
    simp only [hexGo]
    cases ha : hexD a with
    | none => rfl
    | some d =>
      obtain ⟨c, hc, h0⟩ := h
      rcases List.mem_cons.1 hc with rfl | hc
      · rw [ha] at h0; cases h0
      · exact hexGo_bad t _ ⟨c, hc, h0⟩
theorem hexGo_F (f : Nat → UInt8) (hf : ∀ d, d < 16 → hexD (f d) = some d) : ∀ (k n : Nat), n ≤ k → hexGo 0 (hexF f n) = some n
  | 0, n, h => by
    rw [hexF_small f n (by omega)]
    simp only [hexGo, hf n (by omega)]
    congr 1; omega
  | k + 1, n, h => by
    by_cases hn : n < 16
    · rw [hexF_small f n hn]
      simp only [hexGo, hf n hn]
      congr 1; omega
    · rw [hexF_big f n hn, hexGo_append, hexGo_F f hf k (n / 16) (by omega)]
      simp only [Option.bind_some, hexGo, hf (n % 16) (by omega)]
      congr 1; omega
theorem hexGo_zeros : ∀ (k : Nat) (l : Bs), hexGo 0 (List.replicate k 48 ++ l) = hexGo 0 l
  | 0, l => rfl
  | k + 1, l => by
    rw [List.replicate_succ, List.cons_append]
    show hexGo 0 (List.replicate k 48 ++ l) = _
    exact hexGo_zeros k l
theorem hexF_ne (f : Nat → UInt8) (n : Nat) : hexF f n ≠ [] := by rw [hexF]; split <;> simp
theorem hexF_len (f : Nat → UInt8) : ∀ (k n : Nat), n < 16 ^ (k + 1) → (hexF f n).length ≤ k + 1
  | 0, n, h => by rw [hexF_small f n (by omega)]; simp
  | k + 1, n, h => by
    by_cases hn : n < 16
    · rw [hexF_small f n hn]; simp
    · rw [hexF_big f n hn, List.length_append]
      have := hexF_len f k (n / 16) (by rw [Nat.pow_succ] at h; omega)
      simp; omega
theorem hex_ne (c : UInt8) (h : hexD c ≠ none) : c ≠ 59 ∧ c ≠ 13 ∧ c ≠ 10 := by
  refine ⟨?_, ?_, ?_⟩ <;> (rintro rfl; exact h rfl)
theorem cutC_none (c : UInt8) (l : Bs) (h : ∀ x ∈ l, x ≠ c) : cutL c l = (l, [], false) := by
  have : l.contains c = false := by
    cases hc : l.contains c
    · rfl
    · exact absurd rfl (h c (by simpa using hc))
  unfold cutL; rw [this]; rfl
theorem cutQ_at (c : UInt8) (l r : Bs) (h : ∀ x ∈ l, x ≠ c) : cutL c (l ++ c :: r) = (l, r, true) := by
  have hp : ∀ x ∈ l, (x != c) = true := fun x hx => by simp [h x hx]
  unfold cutL
  rw [if_pos (by simp), List.takeWhile_append_of_pos hp, List.takeWhile_cons, List.dropWhile_append_of_pos hp, List.dropWhile_cons]
  simp
/-- the size of digits alone -/
theorem sizeL_digits (l : Bs) (n : Nat) (hl : l.length ≤ 16) (hne : l ≠ []) (hg : hexGo 0 l = some n) (hn : n ≤ 9007199254740991) : sizeL l = (n, 0) := by
  have hc := cutC_none 59 l (fun x hx => (hex_ne x (hexGo_mem l 0 n hg x hx)).1)
  have hN : hexN l = some n := by unfold hexN; rw [if_neg hne]; exact hg
  unfold sizeL
  rw [hc]
  simp only
  rw [if_neg (by omega), if_pos (by rfl), hN]
  simp only
  rw [if_neg (by omega)]
/-- .. and with what stands behind a semicolon -/
theorem sizeL_more (l r : Bs) (n : Nat) (hl : l.length ≤ 16) (hne : l ≠ []) (hg : hexGo 0 l = some n) (hn : n ≤ 9007199254740991) : sizeL (l ++ 59 :: r) = if allL 1 r then (n, 0) else (0, 400) := by
  have hc := cutQ_at 59 l r (fun x hx => (hex_ne x (hexGo_mem l 0 n hg x hx)).1)
  have hN : hexN l = some n := by unfold hexN; rw [if_neg hne]; exact hg
  unfold sizeL
  rw [hc]
  simp only
  rw [if_neg (by omega), hN]
  simp only
  rw [if_neg (by omega : ¬ 9007199254740991 < n)]
theorem sizeL_hex (n : Nat) (h : n ≤ 9007199254740991) : sizeL (hexL n) = (n, 0) :=
  sizeL_digits _ n (Nat.le_trans (hexF_len hexc 13 n (by omega)) (by omega)) (hexF_ne _ _) (hexGo_F hexc hexD_c n n (Nat.le_refl _)) h

theorem stop_no (s : Dc) (hm : s.mode ≠ 5) (hb : s.bad = 0) : stopD s = false := by simp [stopD, hm, hb]
theorem stepD_0 (s : Dc) (c : UInt8) (h : s.mode = 0) : stepD s c = match addK s c with
    | 0 => addD s c
    | 1 => sizedD { s with line := [] } (txt s)
    | _ => { addD s c with bad := 400 } := by cases s; simp only at h; subst h; rfl
theorem stepD_1 (s : Dc) (c : UInt8) (h : s.mode = 1) : stepD s c = if 1 < s.left then { s with body := s.body ++ [c], left := s.left - 1 } else { s with body := s.body ++ [c], left := s.left - 1, mode := 2 } := by cases s; simp only at h; subst h; rfl
theorem stepD_2 (s : Dc) (c : UInt8) (h : s.mode = 2) : stepD s c = if c = 13 then { s with mode := 3 } else { s with bad := 400 } := by cases s; simp only at h; subst h; rfl
theorem stepD_3 (s : Dc) (c : UInt8) (h : s.mode = 3) : stepD s c = if c = 10 then { s with mode := 0 } else { s with bad := 400 } := by cases s; simp only at h; subst h; rfl
theorem stepD_4 (s : Dc) (c : UInt8) (h : s.mode = 4) : stepD s c = match addK s c with
    | 0 => if s.H < s.head + 1 then { addD s c with head := s.head + 1, bad := 431 } else { addD s c with head := s.head + 1 }
    | 1 => if s.H < s.head + 1 then { addD s c with head := s.head + 1, bad := 431 } else trailD { s with head := s.head + 1, line := [] } (txt s)
    | _ => { addD s c with head := s.head + 1, bad := 400 } := by cases s; simp only at h; subst h; rfl

/-- a byte of a line that is not its end -/
theorem addK_0 (s : Dc) (c : UInt8) (hc : c ≠ 10) (hr : cr s.line = false) (hl : s.line.length + 1 < s.L) : addK s c = 0 := by
  unfold addK; rw [hr]; simp [hc]; omega
theorem addK_1 (s : Dc) (hr : cr s.line = true) : addK s 10 = 1 := by unfold addK; rw [hr]; rfl
theorem cr_snoc (p : Bs) (c : UInt8) : cr (p ++ [c]) = decide (c = 13) := by unfold cr; simp

/-- all of it is eaten, and s' is behind it -/
def Eats (s : Dc) (a : Bs) (s' : Dc) : Prop := feedD s a = (a.length, s')
theorem Eats.nil (s : Dc) : Eats s [] s := rfl
theorem Eats.append {s s' s'' : Dc} {a b : Bs} (h : Eats s a s') (h2 : Eats s' b s'') : Eats s (a ++ b) s'' := by
  unfold Eats at *
  rw [feedD_append, h]
  simp only [h2, List.length_append]
theorem Eats.one {s : Dc} {c : UInt8} (h : stopD s = false) : Eats s [c] (stepD s c) := by
  unfold Eats
  rw [feedD_cons s c [] h]
  rfl
theorem Eats.cons {s s' : Dc} {c : UInt8} {a : Bs} (h : stopD s = false) (h2 : Eats (stepD s c) a s') : Eats s (c :: a) s' := (Eats.one h).append h2

theorem eat_text : ∀ (t : Bs) (s : Dc) (p : Bs), s.mode = 0 → s.bad = 0 → (∀ c ∈ t, c ≠ 13 ∧ c ≠ 10) → cr p = false → p.length + t.length < s.L → Eats { s with line := p } t { s with line := p ++ t }
  | [], s, p, _, _, _, _, _ => by rw [List.append_nil]; exact Eats.nil _
  | c :: t, s, p, hm, hb, hc, hr, hl => by
    obtain ⟨h13, h10⟩ := hc c (by simp)
    rw [List.length_cons] at hl
    refine Eats.cons (stop_no _ (by simp only [hm]; decide) hb) ?_
    rw [stepD_0 _ _ (by exact hm), addK_0 _ _ h10 (by exact hr) (by simp only; omega)]
    have := eat_text t s (p ++ [c]) hm hb (fun x hx => hc x (by simp [hx])) (by rw [cr_snoc]; simp [h13]) (by simp; omega)
    rw [List.append_assoc, List.singleton_append] at this
    exact this
theorem eat_line (t : Bs) (s : Dc) (hm : s.mode = 0) (hb : s.bad = 0) (hn : s.line = []) (hc : ∀ c ∈ t, c ≠ 13 ∧ c ≠ 10) (hl : t.length + 1 < s.L) : Eats s (t ++ [13, 10]) (sizedD s t) := by
  have e : s = { s with line := [] } := by cases s; simp_all
  have h1 := eat_text t s [] hm hb hc rfl (by simp; omega)
  rw [← e, List.nil_append] at h1
  have hr : cr t = false := by
    unfold cr
    rw [decide_eq_false_iff_not]
    intro h
    exact (hc 13 (List.mem_of_getLast? h)).1 rfl
  refine h1.append (Eats.cons (stop_no _ (by simp only [hm]; decide) hb) ?_)
  rw [stepD_0 _ _ (by exact hm), addK_0 _ _ (by decide) (by exact hr) (by simp only; omega)]
  have h2 : Eats (addD { s with line := t } 13) [10] _ := Eats.one (stop_no _ (by simp only [addD, hm]; decide) hb)
  rw [stepD_0 _ _ (by exact hm), addK_1 _ (by unfold addD; rw [cr_snoc]; rfl)] at h2
  have h3 : txt (addD { s with line := t } 13) = t := by unfold txt addD; simp
  simp only [h3] at h2
  have h4 : ({ addD { s with line := t } 13 with line := [] } : Dc) = s := by unfold addD; exact e.symm
  rw [h4] at h2
  exact h2
theorem eat_text4 : ∀ (t : Bs) (s : Dc) (p : Bs) (h : Nat), s.mode = 4 → s.bad = 0 → (∀ c ∈ t, c ≠ 13 ∧ c ≠ 10) → cr p = false → p.length + t.length < s.L → h + t.length ≤ s.H → Eats { s with line := p, head := h } t { s with line := p ++ t, head := h + t.length }
  | [], s, p, h, _, _, _, _, _, _ => by rw [List.append_nil]; exact Eats.nil _
  | c :: t, s, p, h, hm, hb, hc, hr, hl, hh => by
    obtain ⟨h13, h10⟩ := hc c (by simp)
    rw [List.length_cons] at hl hh
    refine Eats.cons (stop_no _ (by simp only [hm]; decide) hb) ?_
    rw [stepD_4 _ _ (by exact hm), addK_0 _ _ h10 (by exact hr) (by simp only; omega)]
    simp only
    rw [if_neg (by omega)]
    have := eat_text4 t s (p ++ [c]) (h + 1) hm hb (fun x hx => hc x (by simp [hx])) (by rw [cr_snoc]; simp [h13]) (by simp; omega) (by omega)
    rw [List.append_assoc, List.singleton_append, show h + 1 + t.length = h + (c :: t).length by simp; omega] at this
    exact this
theorem eat_line4 (t : Bs) (s : Dc) (hm : s.mode = 4) (hb : s.bad = 0) (hn : s.line = []) (hc : ∀ c ∈ t, c ≠ 13 ∧ c ≠ 10) (hl : t.length + 1 < s.L) (hh : s.head + t.length + 2 ≤ s.H) : Eats s (t ++ [13, 10]) (trailD { s with head := s.head + t.length + 2 } t) := by
  have e : s = { s with line := [], head := s.head } := by cases s; simp_all
  have h1 := eat_text4 t s [] s.head hm hb hc rfl (by simp; omega) (by omega)
  rw [← e, List.nil_append] at h1
  have hr : cr t = false := by
    unfold cr
    rw [decide_eq_false_iff_not]
    intro h
    exact (hc 13 (List.mem_of_getLast? h)).1 rfl
  refine h1.append (Eats.cons (stop_no _ (by simp only [hm]; decide) hb) ?_)
  rw [stepD_4 _ _ (by exact hm), addK_0 _ _ (by decide) (by exact hr) (by simp only; omega)]
  simp only
  rw [if_neg (by omega)]
  have h2 : Eats { addD { s with line := t, head := s.head + t.length } 13 with head := s.head + t.length + 1 } [10] _ := Eats.one (stop_no _ (by simp only [addD, hm]; decide) hb)
  rw [stepD_4 _ _ (by exact hm), addK_1 _ (by unfold addD; rw [cr_snoc]; rfl)] at h2
  simp only at h2
  rw [if_neg (by simp only [addD]; omega)] at h2
  have h3 : txt ({ addD { s with line := t, head := s.head + t.length } 13 with head := s.head + t.length + 1 } : Dc) = t := by unfold txt addD; simp
  simp only [h3] at h2
  have h4 : ({ addD { s with line := t, head := s.head + t.length } 13 with head := s.head + t.length + 1 + 1, line := [] } : Dc) = { s with head := s.head + t.length + 2 } := by unfold addD; simp [hn]
  rw [h4] at h2
  exact h2
theorem eat_data : ∀ (d : Bs) (s : Dc), s.mode = 1 → s.bad = 0 → s.left = d.length → d ≠ [] → Eats s d { s with body := s.body ++ d, left := 0, mode := 2 }
  | [], s, _, _, _, h => absurd rfl h
  | c :: t, s, hm, hb, hl, _ => by
    rw [List.length_cons] at hl
    refine Eats.cons (stop_no _ (by rw [hm]; decide) hb) ?_
    rw [stepD_1 _ _ hm]
    cases t with
    | nil =>
      rw [if_neg (by rw [hl]; simp)]
      have : s.left - 1 = 0 := by rw [hl]; rfl
      rw [this]
      exact Eats.nil _
    | cons a u =>
      rw [if_pos (by rw [hl]; simp)]
      have := eat_data (a :: u) { s with body := s.body ++ [c], left := s.left - 1 } hm hb (by simp only; omega) (by simp)
      simp only [List.append_assoc, List.singleton_append] at this
      exact this
theorem eat_chunk (d : Bs) (s : Dc) (hm : s.mode = 0) (hb : s.bad = 0) (hn : s.line = []) (hd : d ≠ []) (hz : d.length ≤ 9007199254740991) (hl : (hexL d.length).length + 1 < s.L) (hr : s.body.length + d.length ≤ s.M) :
    Eats s (hexL d.length ++ [13, 10] ++ d ++ [13, 10]) { s with body := s.body ++ d, left := 0 } := by
  have hd0 : 0 < d.length := List.length_pos_iff.2 hd
  have h1 := eat_line (hexL d.length) s hm hb hn (fun c hc => (hex_ne c (hexGo_mem _ 0 d.length (hexGo_F hexc hexD_c _ _ (Nat.le_refl _)) c hc)).2) hl
  have h2 : sizedD s (hexL d.length) = { s with mode := 1, left := d.length } := by
    unfold sizedD
    rw [sizeL_hex _ hz]
    simp only
    rw [if_pos trivial, if_neg (by omega), if_neg (by omega)]
  rw [h2] at h1
  have h3 := eat_data d { s with mode := 1, left := d.length } rfl hb rfl hd
  refine (h1.append h3).append (Eats.cons (stop_no _ (by simp) hb) ?_)
  rw [stepD_2 _ _ rfl, if_pos rfl]
  have h4 : Eats ({ s with mode := 3, left := 0, body := s.body ++ d } : Dc) [10] _ := Eats.one (stop_no _ (by simp) hb)
  rw [stepD_3 _ _ rfl, if_pos rfl] at h4
  have h5 : ({ s with mode := 0, left := 0, body := s.body ++ d } : Dc) = { s with body := s.body ++ d, left := 0 } := by cases s; simp_all
  rw [← h5]
  exact h4

/-- content in chunks of k bytes -/
def chunksL (k : Nat) (l : Bs) : Bs :=
  if h : l = [] ∨ k = 0 then [] else hexL (l.take k).length ++ [13, 10] ++ l.take k ++ [13, 10] ++ chunksL k (l.drop k)
termination_by l.length
decreasing_by
  simp only [not_or] at h
  have := List.length_pos_iff.2 h.1
  simp; omega
theorem chunksL_nil (k : Nat) : chunksL k [] = [] := by rw [chunksL]; simp
theorem chunksL_cons (k : Nat) (l : Bs) (hl : l ≠ []) (hk : k ≠ 0) : chunksL k l = hexL (l.take k).length ++ [13, 10] ++ l.take k ++ [13, 10] ++ chunksL k (l.drop k) := by
  rw [chunksL, dif_neg (by simp [hl, hk])]
theorem eat_chunks (k : Nat) (hk : k ≠ 0) : ∀ (n : Nat) (l : Bs) (s : Dc), l.length ≤ n → s.mode = 0 → s.bad = 0 → s.line = [] → s.left = 0 → l.length < 256 → 3 < s.L → s.body.length + l.length ≤ s.M →
    Eats s (chunksL k l) { s with body := s.body ++ l }
  | 0, l, s, h, hm, hb, hn, h0, hl, hL, hM => by
    have : l = [] := List.eq_nil_of_length_eq_zero (by omega)
    subst this
    rw [chunksL_nil, List.append_nil]; exact Eats.nil _
  | n + 1, l, s, h, hm, hb, hn, h0, hl, hL, hM => by
    by_cases he : l = []
    · subst he
      rw [chunksL_nil, List.append_nil]; exact Eats.nil _
    · have hp := List.length_pos_iff.2 he
      rw [chunksL_cons k l he hk]
      have htl : (l.take k).length + (l.drop k).length = l.length := by rw [← List.length_append, List.take_append_drop]
      have hd : l.take k ≠ [] := by simp [he, hk]
      have hdp := List.length_pos_iff.2 hd
      have hx := hexF_len hexc 1 (l.take k).length (by omega)
      have h1 := eat_chunk (l.take k) s hm hb hn hd (by omega) (by show (hexF hexc _).length + 1 < _; omega) (by omega)
      have h2 := eat_chunks k hk n (l.drop k) { s with body := s.body ++ l.take k, left := 0 } (by omega) hm hb hn rfl (by omega) hL (by simp only [List.length_append]; omega)
      have h3 : ({ s with body := s.body ++ l.take k ++ l.drop k, left := 0 } : Dc) = { s with body := s.body ++ l } := by rw [List.append_assoc, List.take_append_drop]; cases s; simp_all
      have h4 := h1.append h2
      rw [← h3]; exact h4

/-- what Encode writes of a body, of these lines of trailers -/
def encL (k : Nat) (body lines : Bs) : Bs := chunksL k body ++ [48, 13, 10] ++ lines ++ [13, 10]
def sumF1 : Bs := [83, 117, 109, 58, 32, 49]
/-- the roomy limits -/
def roomD : Dc := newD 200 1000 30 1000
theorem eat_enc (k : Nat) (body : Bs) (hk : k ≠ 0 ∨ body = []) (hb : body.length ≤ 200) :
    Eats roomD (encL k body (sumF1 ++ [13, 10])) { roomD with mode := 5, body := body, head := 10, trl := [([83, 117, 109], [49])] } := by
  have h1 : Eats roomD (chunksL k body) { roomD with body := body } := by
    rcases hk with hk | rfl
    · exact eat_chunks k hk body.length body roomD (Nat.le_refl _) rfl rfl rfl rfl (by omega) (by decide) (by show 0 + body.length ≤ 1000; omega)
    · rw [chunksL_nil]; exact Eats.nil _
  have h2 : Eats { roomD with body := body } [48, 13, 10] { roomD with body := body, mode := 4 } := by
    have := eat_line [48] { roomD with body := body } rfl rfl rfl (by simp) (by show [48].length + 1 < 200; decide)
    have e : sizedD { roomD with body := body } [48] = { roomD with body := body, mode := 4 } := by
      unfold sizedD
      rw [show sizeL [48] = (0, 0) by decide]
      simp
    rw [e] at this; exact this
  have h3 : Eats { roomD with body := body, mode := 4 } (sumF1 ++ [13, 10]) { roomD with body := body, mode := 4, head := 8, trl := [([83, 117, 109], [49])] } := by
    have := eat_line4 sumF1 { roomD with body := body, mode := 4 } rfl rfl rfl (by decide) (by show sumF1.length + 1 < 200; decide) (by show 0 + sumF1.length + 2 ≤ 1000; decide)
    have e : trailD { roomD with body := body, mode := 4, head := 0 + sumF1.length + 2 } sumF1 = { roomD with body := body, mode := 4, head := 8, trl := [([83, 117, 109], [49])] } := by
      unfold trailD
      rw [if_neg (by decide), if_pos (by decide), if_neg (by show ¬ 30 ≤ 0; decide)]
      rfl
    have this : Eats { roomD with body := body, mode := 4 } (sumF1 ++ [13, 10]) (trailD { roomD with body := body, mode := 4, head := 0 + sumF1.length + 2 } sumF1) := this
    rw [e] at this; exact this
  have h4 : Eats { roomD with body := body, mode := 4, head := 8, trl := [([83, 117, 109], [49])] } [13, 10] { roomD with mode := 5, body := body, head := 10, trl := [([83, 117, 109], [49])] } := by
    have := eat_line4 [] { roomD with body := body, mode := 4, head := 8, trl := [([83, 117, 109], [49])] } rfl rfl rfl (by simp) (by show 0 + 1 < 200; decide) (by show 8 + 0 + 2 ≤ 1000; decide)
    exact this
  exact ((h1.append h2).append h3).append h4
/-- however what was written is divided: no flaw, and at the end it is all there -/
theorem cut_enc (s fin : Dc) (enc behind : Bs) (h : Eats s enc fin) (hf : stopD fin = true) (hb : fin.bad = 0) (p q : Bs) (hpq : p ++ q = enc ++ behind) :
    (feedD s p).2.bad = 0 ∧ ((feedD s p).2.mode = 5 → (feedD s p) = (enc.length, fin)) ∧ (stopD (feedD s p).2 = true → (feedD s p) = (enc.length, fin)) ∧ (q = [] → (feedD s p) = (enc.length, fin)) := by
  have hall : feedD s (p ++ q) = (enc.length, fin) := by
    rw [hpq, feedD_append, h]
    simp only [feedD_stop fin behind hf, Nat.add_zero]
  have hA := feedD_append p s q
  rw [hall] at hA
  have hstop : stopD (feedD s p).2 = true → feedD s p = (enc.length, fin) := by
    intro hs
    rw [feedD_stop _ q hs] at hA
    simp only [Nat.add_zero] at hA
    exact hA.symm
  refine ⟨?_, ?_, hstop, ?_⟩
  · by_cases h0 : (feedD s p).2.bad = 0
    · exact h0
    · have := hstop (by simp [stopD, h0])
      rw [this]; exact hb
  · intro hm; exact hstop (by simp [stopD, hm])
  · intro hq
    subst hq
    rw [List.append_nil] at hall
    exact hall
end Tk
end Go.Proofs.YtdlbmfgajgefdaaGreatDoor
namespace Go.Proofs.YtdlbmfgajgefdaaGreatDoor
namespace Tk

/-- the first line of a message, its error -/
def flS (M T : Bs) (s : Int) (R : Bs) (mi : Int) : Bs := if M = [] then (if T = [] then slS mi s R else []) else if s = 0 ∧ R = [] then rlS M T mi else []
def flE (M T : Bs) (s : Int) (R : Bs) (mi : Int) : Int := if M = [] then (if T = [] then slE mi s R else 4) else if s = 0 ∧ R = [] then rlE M T mi else 4
/-- a field says where the content ends -/
def endB (l : List (Bs × Bs)) : Bool := hasF l nmCL || hasF l nmTE
/-- the error of Check -/
def hdE (M T : Bs) (s : Int) (R : Bs) (mi : Int) (l tl : List (Bs × Bs)) : Int := if flE M T s R mi = 0 ∧ okFs l = true ∧ okFs tl = true then (if endB l = true then 6 else 0) else 4
/-- first line and fields -/
def hdS (M T : Bs) (s : Int) (R : Bs) (mi : Int) (l : List (Bs × Bs)) : Bs := flS M T s R mi ++ [13, 10] ++ linesF l
def lnL (n : Nat) : Bs := nmCL ++ [58, 32] ++ digL n ++ [13, 10]
def teL : Bs := nmTE ++ [58, 32] ++ chkB ++ [13, 10]
def poB : Bs := [80, 79, 83, 84]
def puB : Bs := [80, 85, 84]
def paB : Bs := [80, 65, 84, 67, 72]
def heB : Bs := [72, 69, 65, 68]
def hasC (M : Bs) : Bool := decide (M = poB) || decide (M = puB) || decide (M = paB)
def rqE (M : Bs) (e : Int) : Int := if e = 0 then (if M = [] then 4 else 0) else e
def rqS (M : Bs) (e : Int) (h B : Bs) : Bs := if rqE M e = 0 then h ++ (if B ≠ [] ∨ hasC M = true then lnL B.length else []) ++ [13, 10] ++ B else []
def anE (M : Bs) (e : Int) : Int := if e = 0 then (if M = [] then 0 else 4) else e
def anS (M : Bs) (e : Int) (h B : Bs) (s : Int) (meth : Bs) : Bs := if anE M e = 0 then h ++ (if bareB [] s = true then [] else if meth = heB ∧ B = [] then [] else lnL B.length) ++ [13, 10] ++ (if bareB [] s = true ∨ meth = heB then [] else B) else []
def ckE (mi : Int) (e : Int) (s : Int) : Int := if e = 0 then (if mi = 0 ∨ bareB [] s = true then 4 else 0) else e
def ckS (mi : Int) (e : Int) (h B : Bs) (s size : Int) (tl : List (Bs × Bs)) : Bs := if ckE mi e s = 0 then h ++ teL ++ [13, 10] ++ encL (if size < 1 then B.length else size.toNat) B (linesF tl) else []

theorem flE_two (M T : Bs) (s : Int) (R : Bs) (mi : Int) : (flE M T s R mi = 0) ∨ (flE M T s R mi = 4 ∧ flS M T s R mi = []) := by
  unfold flE flS slE slS rlE rlS
  split <;> split <;> (try split) <;> simp
theorem hdE_three (M T : Bs) (s : Int) (R : Bs) (mi : Int) (l tl : List (Bs × Bs)) : hdE M T s R mi l tl = 0 ∨ hdE M T s R mi l tl = 4 ∨ hdE M T s R mi l tl = 6 := by
  unfold hdE
  split
  · split <;> simp
  · simp
end Tk
end Go.Proofs.YtdlbmfgajgefdaaGreatDoor
namespace Go.Proofs.YtdlbmfgajgefdaaGreatDoor
open Go.RowKit
namespace Tk

/-- the function value that named returns -/
def namedV (g : Nat) : Value := .func (.func 130) #[] #[.pointer (some ⟨g, 0, none⟩)]
def HasN (w : World) (g : Nat) (name : Bs) : Prop := w.cell? ⟨g, 0, none⟩ = some (.string (mkS name))
theorem HasN.lt {w : World} {g : Nat} {name : Bs} (h : HasN w g name) : g < w.heap.size := cell_lt (p := ⟨g, 0, none⟩) h
theorem HasN.later {w w' : World} {g : Nat} {name : Bs} (h : HasN w g name) (hb : Below w.heap.size w w') : HasN w' g name := (hb.cell (p := ⟨g, 0, none⟩) h.lt).trans h

set_option maxHeartbeats 2000000 in
theorem named_any (name : Bs) (w : World) :
    Calls Tryz.prog 100 #[.string (mkS name)] w fun e w' => e = .returned (namedV w.heap.size) ∧ HasN w' w.heap.size name ∧ Below w.heap.size w w' := by
  go_enter Tryz.func100, Tryz.ntmps100
  go_wp2_with fail
  go_ret
  exact ⟨rfl, by unfold HasN; rw [Lib.cell_of_heap (heap_alloc_last w _)]; rfl, (Below.refl _ _).alloc (Nat.le_refl _) _⟩

set_option maxHeartbeats 2000000 in
set_option maxRecDepth 100000 in
theorem named1_any (g : Nat) (name n x : Bs) (w : World) (hc : HasN w g name) (hn : n.length ≤ 1099511627776) (hm : name.length ≤ 1099511627776) :
    Calls Tryz.prog 130 #[.agg #[.string (mkS n), .string (mkS x)], .pointer (some ⟨g, 0, none⟩)] w fun e w' => e = .returned (.bool (isN name (n, x))) ∧ Below w.heap.size w w' := by
  have HS := fun W : World => tsame_any (mkS n) (mkS name) W (by rw [size_mkS]; exact hn) (by rw [size_mkS]; exact hm)
  rw [bs_mkS, bs_mkS] at HS
  have hv : isN name (n, x) = decide (lowL n = lowL name) := rfl
  have HV := Lib.hid hv
  have HS2 := Lib.hid HS
  have hc0 : (w.alloc (Obj.cells #[.string (mkS n), .string (mkS x)] 32)).cell? ⟨g, 0, none⟩ = some (.string (mkS name)) := (World.cell?_alloc_lt w _ _ hc.lt).trans hc
  have hc1 : w.cell? ⟨g, 0, none⟩ = some (.string (mkS name)) := hc
  clear hv HS
  go_enter Tryz.func130, Tryz.ntmps130
  go_wp2_with fail
  refine (HS2.out _).mono ?_
  rintro e w' ⟨rfl, k, rfl⟩
  go_wp2_with fail
  go_ret
  exact ⟨by rw [HV.out]; rfl, below_some_draws ((Below.refl _ _).alloc (Nat.le_refl _) _) k⟩

/-- where the first field of this name is, or -1 -/
def idxF (name : Bs) (l : List (Bs × Bs)) : Int := if l.findIdx (isN name) < l.length then (l.findIdx (isN name) : Int) else -1
theorem idxF_hit (name : Bs) (l : List (Bs × Bs)) (i : Nat) (hi : i < l.length) (h1 : ∀ f ∈ l.take i, isN name f = false) (h2 : isN name (l.getD i ([], [])) = true) : l.findIdx (isN name) = i := by
  rw [List.findIdx_eq hi]
  refine ⟨by simpa [List.getD, hi] using h2, fun j hj => ?_⟩
  refine h1 _ ?_
  rw [List.mem_take_iff_getElem]
  exact ⟨j, by omega, rfl⟩
theorem idxF_no (name : Bs) (l : List (Bs × Bs)) (h1 : ∀ f ∈ l, isN name f = false) : l.findIdx (isN name) = l.length := by
  rw [List.findIdx_eq_length]; exact h1

set_option maxHeartbeats 4000000 in
set_option maxRecDepth 100000 in
theorem index_any (v : Value) (g : Nat) (name : Bs) (l : List (Bs × Bs)) (w : World) (hs : IsFlds w v l) (hg : HasN w g name) (hz : ∀ f ∈ l, f.1.length ≤ 1099511627776 ∧ f.2.length ≤ 1099511627776) (hn : name.length ≤ 1099511627776) (hl : l.length ≤ 1048576) :
    Calls Tryz.prog 99 #[v, namedV g] w fun e w' => e = .returned (.int .i64 (idxF name l)) ∧ Below w.heap.size w w' := by
  have HS := Lib.hid hs
  have HZ := Lib.hid hz
  have HG := Lib.hid hg
  obtain ⟨a, cap, rfl⟩ : ∃ a cap, v = .slice a l.length cap := by obtain ⟨a, c, h, -⟩ := hs; exact ⟨a, c, h⟩
  clear hs hz hg
  unfold namedV
  go_enter Tryz.func99, Tryz.ntmps99
  go_wp2_with fail
  go_loopw [5, 8] (fun _ vi wr => ∃ i : Nat, i ≤ l.length ∧ vi = .int .i64 i ∧ Hid (∀ f ∈ l.take i, isN name f = false) ∧ Hid (Below w.heap.size w wr)) (fun _ vi _ => l.length - (RowKit.intOf vi).toNat)
  case atStart => exact ⟨0, Nat.zero_le _, rfl, fun f hf => by simp at hf, Below.refl _ _⟩
  case round =>
    obtain ⟨i, hi, rfl, HA, HB⟩ := hrel
    rename World => W
    by_cases hlt : i < l.length
    · obtain ⟨a', c', e', hcap, hc⟩ := isFlds_below HS.out HB.out
      injection e' with e1 _ e2
      subst e1 e2
      obtain ⟨b, o, rfl, hc0, hc1⟩ := hc i (l.getD i ([], [])) (by simp [List.getD, hlt])
      have hm := HZ.out (l.getD i ([], [])) (by simp [List.getD, hlt])
      have hhit := idxF_hit name l i hlt HA.out
      have htk : l.take (i + 1) = l.take i ++ [l.getD i ([], [])] := by
        rw [List.take_succ_eq_append_getElem hlt]; simp [List.getD, hlt]
      have HTK := Lib.hid htk
      have HHit := Lib.hid hhit
      clear hc htk hhit
      generalize l.getD i ([], []) = f at *
      obtain ⟨n, x⟩ := f
      simp only at hm hc0 hc1
      have HC := named1_any g name n x W (HG.out.later HB.out) hm.1 hn
      have g0 : (0 : Int) ≤ (i : Int) := by omega
      have g1 : (i : Int) < (l.length : Int) := by omega
      cases hk : isN name (n, x)
      · rw [hk] at HC
        have HA2 : Hid (∀ f ∈ l.take (i + 1), isN name f = false) := by
          intro f hf
          rw [HTK.out, List.mem_append, List.mem_singleton] at hf
          rcases hf with hf | rfl
          · exact HA.out f hf
          · exact hk
        have HC2 := Lib.hid HC
        clear HC hk
        go_wp2_with fail
        refine HC2.out.mono ?_
        rintro e w' ⟨rfl, hb⟩
        have HB2 := Lib.hid (HB.out.trans (hb.mono HB.out.size))
        clear hb
        go_wp2_with fail
        exact ⟨⟨i + 1, hlt, by go_num, HA2, HB2⟩, by simp [RowKit.intOf]; omega⟩
      · rw [hk] at HC
        have hidx : idxF name l = (i : Int) := by unfold idxF; rw [HHit.out hk, if_pos hlt]
        have HX := Lib.hid hidx
        have HC2 := Lib.hid HC
        clear HC hk hidx
        go_wp2_with fail
        refine HC2.out.mono ?_
        rintro e w' ⟨rfl, hb⟩
        have HB2 := Lib.hid (HB.out.trans (hb.mono HB.out.size))
        clear hb
        go_wp2_with fail
        go_ret
        exact ⟨by rw [HX.out]; rfl, HB2.out⟩
    · have hil : l.take i = l := List.take_of_length_le (by omega)
      rw [hil] at HA
      have hidx : idxF name l = -1 := by unfold idxF; rw [idxF_no name l HA.out, if_neg (by omega)]
      have HX := Lib.hid hidx
      clear hidx hil
      go_wp2_with fail
      go_ret
      exact ⟨by rw [HX.out]; rfl, HB.out⟩
end Tk
end Go.Proofs.YtdlbmfgajgefdaaGreatDoor
namespace Go.Proofs.YtdlbmfgajgefdaaGreatDoor
open Go.RowKit
namespace Tk

def fcells (l : List (Bs × Bs)) : List Value := l.flatMap fun f => [.string (mkS f.1), .string (mkS f.2)]
theorem fcells_len : ∀ l, (fcells l).length = l.length * 2
  | [] => rfl
  | f :: t => by
    have := fcells_len t
    unfold fcells at *
    rw [List.flatMap_cons, List.length_append, this]; simp; omega
theorem fcells_app (a b : List (Bs × Bs)) : fcells (a ++ b) = fcells a ++ fcells b := by simp [fcells]
theorem fcells_at : ∀ (l : List (Bs × Bs)) (j : Nat) (u : Value), (fcells l)[j]? = some u → ∃ i f, l[i]? = some f ∧ ((j = i * 2 ∧ u = .string (mkS f.1)) ∨ (j = i * 2 + 1 ∧ u = .string (mkS f.2)))
  | [], j, u, h => by simp [fcells] at h
  | f :: t, 0, u, h => by
    simp [fcells] at h
    exact ⟨0, f, rfl, .inl ⟨rfl, h.symm⟩⟩
  | f :: t, 1, u, h => by
    simp [fcells] at h
    exact ⟨0, f, rfl, .inr ⟨rfl, h.symm⟩⟩
  | f :: t, j + 2, u, h => by
    have h2 : (fcells t)[j]? = some u := by
      unfold fcells at *
      rw [List.flatMap_cons] at h
      simpa using h
    obtain ⟨i, g, hg, hj⟩ := fcells_at t j u h2
    refine ⟨i + 1, g, by simpa using hg, ?_⟩
    rcases hj with ⟨hj, hu⟩ | ⟨hj, hu⟩
    · exact .inl ⟨by omega, hu⟩
    · exact .inr ⟨by omega, hu⟩
theorem fcells_get : ∀ (l : List (Bs × Bs)) (j : Nat) (f : Bs × Bs), l[j]? = some f → (fcells l)[j * 2]? = some (.string (mkS f.1)) ∧ (fcells l)[j * 2 + 1]? = some (.string (mkS f.2))
  | [], j, f, h => by simp at h
  | g :: t, 0, f, h => by
    simp at h; subst h
    exact ⟨by simp [fcells], by simp [fcells]⟩
  | g :: t, j + 1, f, h => by
    have := fcells_get t j f (by simpa using h)
    unfold fcells at *
    rw [List.flatMap_cons, show (j + 1) * 2 = j * 2 + 2 by omega]
    constructor
    · simpa using this.1
    · simpa using this.2
theorem fcells_one (l : List (Bs × Bs)) : ∀ u ∈ fcells l, u.oneCell' = true := by
  intro u hu
  unfold fcells at hu
  rw [List.mem_flatMap] at hu
  obtain ⟨f, -, hf⟩ := hu
  simp at hf
  rcases hf with rfl | rfl <;> rfl

theorem fldInfo : (Tryz.prog.info? 32).map (fun i => (i.zero, i.size, i.bytes)) = some (some (.agg #[.string .empty, .string .empty]), 2, 32) := by kernel_rfl

theorem below_of_grownF {a b : World} {B : Nat} {v : Value} {n : Nat} {xs : List Value} {e : TypeId} (h : a.grownBy b v.ownBlock) (ho : a.ownsRow B e 2 v n xs) (hB : B ≤ a.heap.size) : Below B a b :=
  (Below.refl B a).grown h hB fun k hk => (ho.lt k hk).1

set_option maxRecDepth 100000 in
theorem joinF_run (w : World) (o : Oper) (a : Act) (K : Act → World → Prop) (Q : Exit → Act → World → Prop) (s x : Operand)
    (ho : o.op = .call { callee := .builtin .append, args := #[s, x], argTypes := #[22, 22] })
    (base : Nat) (v v2 : Value) (P R : List (Bs × Bs)) (hs : a.eval s = v) (hx : a.eval x = v2) (h1 : w.ownsRow base 32 2 v P.length (fcells P)) (h2 : IsFlds w v2 R) (hnl : ∀ n c, v2 = .slice none n c → c = 0)
    (hB : base ≤ w.heap.size) (hP : P.length ≤ 1048576) (hR : R.length ≤ 1048576)
    (h : ∀ v' w', w'.ownsRow base 32 2 v' (P ++ R).length (fcells (P ++ R)) → w.grownBy w' v.ownBlock → K (a.put o.dst v') w') : o.wp Tryz.prog a w K Q := by
  obtain ⟨i0, hi, hz0, hz1, hz2⟩ := info_parts fldInfo
  obtain ⟨ad, cap, rfl, hcap, hc⟩ := h2
  rcases ad with _ | ad
  · have hR0 : R = [] := by
      cases R with
      | nil => rfl
      | cons f t => obtain ⟨b, o, e, -⟩ := hc 0 f rfl; cases e
    subst hR0
    have hcap0 := hnl _ _ rfl
    subst hcap0
    have hrun := run_append_owned_none (P := Tryz.prog) (w := w) base 22 o.type 32 i0 2 Tryz.underlying22 hi v P.length (fcells P) h1
    unfold Oper.wp
    simp only [List.length_nil] at hx
    simp [execOp, ho, resolve, invoke, builtin, hs, hx, hrun, Result.andThen]
    exact h v w (by simpa using h1) ⟨rfl, rfl, rfl, Nat.le_refl _, fun _ _ _ => rfl⟩
  · refine wp_append_own (P := Tryz.prog) w s x 22 ho base 32 i0 (.agg #[.string .empty, .string .empty]) 2 32 Tryz.underlying22 hi hz0 hz1 hz2 rfl (by decide) v P.length (fcells P) hs h1 ad R.length cap (fcells R) hx (fcells_len R)
      (fun j u hj => ?_) (fcells_one R) (by unfold maxLen; omega) (by omega) hB ?_
    · obtain ⟨i, f, hf, hju⟩ := fcells_at R j u hj
      obtain ⟨b, o, e, g0, g1⟩ := hc i f hf
      injection e with e
      subst e
      rw [Go.WideShapes.add_plain]
      rcases hju with ⟨rfl, rfl⟩ | ⟨rfl, rfl⟩
      · exact g0
      · rw [← Nat.add_assoc]; exact g1
    · intro v' w' ho' hg' _
      refine h v' w' ?_ hg'
      rw [List.length_append, fcells_app]
      exact ho'

theorem joinF_guarded {ops : Array Oper} {rest : List Oper} {w : World} {o : Oper} {a : Act} {Q : Exit → Act → World → Prop} (hw : Region.wanted o (yielded ops a.tmps) = true) (s x : Operand)
    (ho : o.op = .call { callee := .builtin .append, args := #[s, x], argTypes := #[22, 22] })
    (base : Nat) (v v2 : Value) (P R : List (Bs × Bs)) (hs : a.eval s = v) (hx : a.eval x = v2) (h1 : w.ownsRow base 32 2 v P.length (fcells P)) (h2 : IsFlds w v2 R) (hnl : ∀ n c, v2 = .slice none n c → c = 0)
    (hB : base ≤ w.heap.size) (hP : P.length ≤ 1048576) (hR : R.length ≤ 1048576)
    (h : ∀ v' w', w'.ownsRow base 32 2 v' (P ++ R).length (fcells (P ++ R)) → w.grownBy w' v.ownBlock → wpList Tryz.prog ops Q rest (a.put o.dst v') w') : wpList Tryz.prog ops Q (o :: rest) a w :=
  BigFrame.wpList_want hw fun K hK => joinF_run w o a K Q s x ho base v v2 P R hs hx h1 h2 hnl hB hP hR fun v' w' a b => hK _ _ (h v' w' a b)

theorem isFlds_own {w : World} {base : Nat} {v : Value} {l : List (Bs × Bs)} (h : w.ownsRow base 32 2 v l.length (fcells l)) : IsFlds w v l := by
  rcases h.2 with ⟨hv, hn⟩ | ⟨g, cap, cur, hv, hb, hg, hcap, -⟩
  · exact ⟨none, 0, by rw [hv, hn], by omega, fun j t hj => by simp [List.eq_nil_of_length_eq_zero hn] at hj⟩
  · refine ⟨some ⟨g, 0, none⟩, cap, hv, hcap, fun j f hj => ⟨g, 0, rfl, ?_, ?_⟩⟩
    · have := h.cells (g := g) (by rw [hv]; rfl) (j * 2) (.string (mkS f.1)) (fcells_get l j f hj).1
      rw [Go.WideShapes.add_plain] at this
      exact this
    · have := h.cells (g := g) (by rw [hv]; rfl) (j * 2 + 1) (.string (mkS f.2)) (fcells_get l j f hj).2
      rw [Go.WideShapes.add_plain, ← Nat.add_assoc] at this
      exact this

set_option maxHeartbeats 2000000 in
set_option maxRecDepth 100000 in
theorem own_any (v : Value) (l : List (Bs × Bs)) (w : World) (hs : IsFlds w v l) (hnl : ∀ n c, v = .slice none n c → c = 0) (hl : l.length ≤ 1048576) :
    Calls Tryz.prog 37 #[v] w fun e w' => ∃ v', e = .returned v' ∧ w'.ownsRow w.heap.size 32 2 v' l.length (fcells l) ∧ Below w.heap.size w w' := by
  have HS := Lib.hid hs
  have HNL := Lib.hid hnl
  obtain ⟨a, cap, rfl⟩ : ∃ a cap, v = .slice a l.length cap := by obtain ⟨a, c, h, -⟩ := hs; exact ⟨a, c, h⟩
  clear hs hnl
  go_enter Tryz.func37, Tryz.ntmps37
  have ho := World.ownsRow_lit (base := w.heap.size) (e := 32) (size := 2) w #[] 0 (Nat.le_refl _) (by decide) rfl
  have hb0 : Below w.heap.size w (w.alloc (Obj.cells #[] 32)) := (Below.refl _ _).alloc (Nat.le_refl _) _
  have HF := Lib.hid (isFlds_below HS.out hb0)
  have HB0 := Lib.hid hb0
  have HO := Lib.hid ho
  clear ho hb0
  go_wp2_with (at_builtin; refine joinF_guarded (by rfl) _ _ rfl w.heap.size _ _ [] l rfl rfl HO.out HF.out HNL.out ?c1 ?c2 ?c3 ?_)
  intro v' w' ho' hg'
  have HB1 := Lib.hid (HB0.out.trans (below_of_grownF hg' HO.out (by simp)))
  have HO1 := Lib.hid ho'
  clear ho' hg'
  go_wp2_with fail
  go_ret
  exact ⟨v', rfl, HO1.out, HB1.out⟩
end Tk
end Go.Proofs.YtdlbmfgajgefdaaGreatDoor
namespace Go.Proofs.YtdlbmfgajgefdaaGreatDoor
open Go.RowKit
namespace Tk

theorem fcells_put : ∀ (a : List (Bs × Bs)) (f : Bs × Bs) (b : List (Bs × Bs)) (n x : Bs), ((fcells (a ++ f :: b)).set (a.length * 2) (.string (mkS n))).set (a.length * 2 + 1) (.string (mkS x)) = fcells (a ++ (n, x) :: b)
  | [], f, b, n, x => by simp [fcells]
  | g :: a, f, b, n, x => by
    have := fcells_put a f b n x
    unfold fcells at *
    rw [List.cons_append, List.cons_append, List.flatMap_cons, List.flatMap_cons, List.length_cons, show (a.length + 1) * 2 = a.length * 2 + 2 by omega]
    simpa using this
theorem fcells_mid (a : List (Bs × Bs)) (f : Bs × Bs) (b : List (Bs × Bs)) : (fcells (a ++ f :: b))[a.length * 2]? = some (.string (mkS f.1)) ∧ (fcells (a ++ f :: b))[a.length * 2 + 1]? = some (.string (mkS f.2)) :=
  fcells_get _ _ _ (by simp)
theorem made_fcells (n : Nat) : (madeCells #[Value.string .empty, Value.string .empty] (n * 2)).toList = fcells (List.replicate n ([], [])) := by
  apply List.ext_getElem?
  intro j
  by_cases hj : j < n * 2
  · have hl : (madeCells #[Value.string .empty, Value.string .empty] (n * 2)).toList[j]? = some (.string (mkS [])) := by
      rcases Nat.mod_two_eq_zero_or_one j with h | h <;> simp [madeCells, hj, h] <;> rfl
    rw [hl]
    rcases Nat.mod_two_eq_zero_or_one j with h | h
    · obtain ⟨t, rfl⟩ : ∃ t, j = t * 2 := ⟨j / 2, by omega⟩
      exact (fcells_get (List.replicate n ([], [])) t ([], []) (by rw [List.getElem?_replicate, if_pos (by omega)])).1.symm
    · obtain ⟨t, rfl⟩ : ∃ t, j = t * 2 + 1 := ⟨j / 2, by omega⟩
      exact (fcells_get (List.replicate n ([], [])) t ([], []) (by rw [List.getElem?_replicate, if_pos (by omega)])).2.symm
  · rw [List.getElem?_eq_none (by simp [madeCells]; omega), List.getElem?_eq_none (by rw [fcells_len]; simp; omega)]

theorem own_keep2f {w w' : World} {B : Nat} {v : Value} {n : Nat} {xs : List Value} {e : TypeId} (h : w.ownsRow B e 2 v n xs) (hb : Below w.heap.size w w') : w'.ownsRow B e 2 v n xs :=
  World.ownsRow.kept h (row := none) ⟨hb.os, hb.tape, hb.output, hb.size, fun k hk _ => hb.block k hk⟩ (by cases h : v.ownBlock <;> simp)
theorem own_put2 {w : World} {B g cap n : Nat} {a b : List (Bs × Bs)} {f : Bs × Bs} (h : w.ownsRow B 32 2 (.slice (some ⟨g, 0, none⟩) n cap) n (fcells (a ++ f :: b))) (s x : Bs) :
    ((w.setCell ⟨g, a.length * 2, none⟩ (.string (mkS s))).setCell ⟨g, a.length * 2 + 1, none⟩ (.string (mkS x))).ownsRow B 32 2 (.slice (some ⟨g, 0, none⟩) n cap) n (fcells (a ++ (s, x) :: b)) := by
  have h1 := (h.stored (a.length * 2) (.string (mkS s))).1
  have h2 := (h1.stored (a.length * 2 + 1) (.string (mkS x))).1
  rw [fcells_put] at h2
  exact h2

def OwnPost (l : List (Bs × Bs)) (w : World) (e : Ending) (w' : World) : Prop :=
  ∃ v', e = .returned v' ∧ w'.ownsRow w.heap.size 32 2 v' l.length (fcells l) ∧ Below w.heap.size w w'

set_option maxHeartbeats 8000000 in
set_option maxRecDepth 100000 in
theorem copied_any (v : Value) (l : List (Bs × Bs)) (w : World) (hs : IsFlds w v l) (hz : ∀ f ∈ l, f.1.length ≤ 1099511627776 ∧ f.2.length ≤ 1099511627776) (hl : l.length ≤ 1048576) :
    Calls Tryz.prog 101 #[v] w (OwnPost l w) := by
  obtain ⟨i0, hi0, hz0, hz1, hz2⟩ := info_parts fldInfo
  have HS := Lib.hid hs
  have HZ := Lib.hid hz
  obtain ⟨a, cap, rfl⟩ : ∃ a cap, v = .slice a l.length cap := by obtain ⟨a, c, h, -⟩ := hs; exact ⟨a, c, h⟩
  clear hs hz
  go_enter Tryz.func101, Tryz.ntmps101
  go_wp2_with (refine wpList_make_full w rfl _ _ 22 rfl w.heap.size 32 i0 (.agg #[.string .empty, .string .empty]) 2 Tryz.underlying22 hi0 hz0 hz1 .i64 .i64 _ _ l.length rfl rfl rfl rfl ?c1 ?c2 (Nat.le_refl _) ?_)
  case c1 => rw [hz2]; omega
  case c2 => unfold maxLen; omega
  intro w1 ho hg
  rw [made_fcells] at ho
  have HO0 := Lib.hid ho
  have HB0 := Lib.hid (show Below w.heap.size w w1 from ⟨hg.os, hg.tape, hg.output, hg.size, fun k hk => hg.block k hk (by simp)⟩)
  clear ho hg
  go_wp2_with fail
  go_loopw [11] (fun vi wr => ∃ i : Nat, i ≤ l.length ∧ vi = .int .i64 i ∧ Hid (wr.ownsRow w.heap.size 32 2 (.slice (some ⟨w.heap.size, 0, none⟩) l.length l.length) l.length (fcells (l.take i ++ List.replicate (l.length - i) ([], [])))) ∧ Hid (Below w.heap.size w wr)) (fun vi _ => l.length - (RowKit.intOf vi).toNat)
  case atStart => exact ⟨0, Nat.zero_le _, rfl, HO0, HB0⟩
  case round =>
    obtain ⟨i, hi, rfl, HO, HB⟩ := hrel
    rename World => W
    by_cases hlt : i < l.length
    · obtain ⟨a', c', e', hcap, hc⟩ := isFlds_below HS.out HB.out
      injection e' with e1 _ e2
      subst e1 e2
      obtain ⟨b, o, rfl, hc0, hc1⟩ := hc i (l.getD i ([], [])) (by simp [List.getD, hlt])
      have hm := HZ.out (l.getD i ([], [])) (by simp [List.getD, hlt])
      have htk : l.take (i + 1) = l.take i ++ [l.getD i ([], [])] := by
        rw [List.take_succ_eq_append_getElem hlt]; simp [List.getD, hlt]
      have hlen : (l.take i).length = i := by simp; omega
      have hrep : List.replicate (l.length - i) (([], []) : Bs × Bs) = ([], []) :: List.replicate (l.length - (i + 1)) ([], []) := by
        rw [show l.length - i = (l.length - (i + 1)) + 1 by omega]; rfl
      rw [hrep] at HO
      have HTK := Lib.hid htk
      have HLen := Lib.hid hlen
      clear hc htk hlen hrep
      generalize l.getD i ([], []) = f at *
      obtain ⟨n, x⟩ := f
      simp only at hm hc0 hc1
      have HC := Lib.hid (fun W : World => fown_any n x W hm.1 hm.2)
      have HF0 := Lib.hid (Two.new W 32 (.string (mkS n)) (.string (mkS x)))
      have hb0 : Below W.heap.size W (W.alloc (Obj.cells #[.string (mkS n), .string (mkS x)] 32)) := (Below.refl _ _).alloc (Nat.le_refl _) _
      have HO1 := Lib.hid (own_keep2f HO.out hb0)
      have HB1 := Lib.hid (HB.out.trans (hb0.mono HB.out.size))
      have hq0 := HF0.out.c0
      have hq1 := HF0.out.c1
      have g0 : (0 : Int) ≤ (i : Int) := by omega
      have g1 : (i : Int) < (l.length : Int) := by omega
      have hbsz := HB.out.size
      have hs0 : w.heap.size ≤ (W.alloc (Obj.cells #[.string (mkS n), .string (mkS x)] 32)).heap.size := by simp; omega
      clear hb0 hbsz
      go_wp2_with fail
      generalize W.alloc (Obj.cells #[.string (mkS n), .string (mkS x)] 32) = W4 at *
      generalize W.heap.size = g at *
      refine (HC.out _).mono ?_
      rintro e w5 ⟨rfl, hb⟩
      have ho5 := own_keep2f HO1.out hb
      have HB5 := Lib.hid (HB1.out.trans (hb.mono hs0))
      have k0 := ho5.cellAt (i * 2) (by omega)
      have k1 := ho5.cellAt (i * 2 + 1) (by omega)
      have hmid := fcells_mid (l.take i) ([], []) (List.replicate (l.length - (i + 1)) ([], []))
      rw [HLen.out] at hmid
      rw [hmid.1] at k0
      rw [hmid.2] at k1
      have f0 := ho5.frozenAt (i * 2)
      have f1 := ho5.frozenAt (i * 2 + 1)
      have HO5 := Lib.hid ho5
      have k2 : (w5.setCell ⟨w.heap.size, i * 2, none⟩ (.string (mkS n))).cell? ⟨w.heap.size, i * 2 + 1, none⟩ = some (.string (mkS [])) := by
        rw [World.cell?_setCell_other (w := w5) (a := ⟨w.heap.size, i * 2, none⟩) (b := ⟨w.heap.size, i * 2 + 1, none⟩) (h := by intro e; injection e with _ e2; omega)]; exact k1
      clear hb ho5 hmid
      go_wp2_with fail
      have hst := own_put2 (a := l.take i) HO5.out n x
      rw [HLen.out] at hst
      refine ⟨⟨i + 1, hlt, by go_num, ?_, ?_⟩, by simp [RowKit.intOf]; omega⟩
      · show World.ownsRow _ _ _ _ _ _ _
        rw [HTK.out, List.append_assoc]
        exact hst
      · exact (HB5.out.setCell (p := ⟨w.heap.size, i * 2, none⟩) (Nat.le_refl _) _).setCell (p := ⟨w.heap.size, i * 2 + 1, none⟩) (Nat.le_refl _) _
    · obtain rfl : i = l.length := by omega
      have hfin := HO.out
      rw [Nat.sub_self, List.take_length, List.replicate_zero, List.append_nil] at hfin
      have HF := Lib.hid hfin
      clear hfin
      go_wp2_with fail
      go_ret
      exact ⟨_, rfl, HF.out, HB.out⟩
end Tk
end Go.Proofs.YtdlbmfgajgefdaaGreatDoor
namespace Go.Proofs.YtdlbmfgajgefdaaGreatDoor
open Go.RowKit
namespace Tk

theorem isFlds_nil_cap {w : World} {v : Value} {B n : Nat} {xs : List Value} {e : TypeId} (h : w.ownsRow B e 2 v n xs) : ∀ m c, v = .slice none m c → c = 0 := by
  rintro m c rfl
  rcases h.2 with ⟨hv, -⟩ | ⟨g, cap, cur, hv, _⟩
  · injection hv
  · injection hv with e1; cases e1

set_option maxHeartbeats 2000000 in
set_option maxRecDepth 100000 in
theorem sclone_any (v : Value) (l : List (Bs × Bs)) (w : World) (hs : IsFlds w v l) (hnl : ∀ n c, v = .slice none n c → c = 0) (hl : l.length ≤ 1048576) :
    Calls Tryz.prog 93 #[v] w (OwnPost l w) := by
  have HS := Lib.hid hs
  have HNL := Lib.hid hnl
  obtain ⟨a, cap, rfl⟩ : ∃ a cap, v = .slice a l.length cap := by obtain ⟨a, c, h, -⟩ := hs; exact ⟨a, c, h⟩
  rcases a with _ | ad
  · have hl0 : l = [] := by
      obtain ⟨a', c', e, -, hc⟩ := hs
      injection e with e1 _ _
      subst e1
      cases l with
      | nil => rfl
      | cons f t => obtain ⟨b, o, e, -⟩ := hc 0 f rfl; cases e
    subst hl0
    have hq : ∀ W : World, (binOp .eql 22 (.slice none 0 cap) (.slice none 0 0)).run Tryz.prog W = .ok (.bool true) W := fun W => Lib.run_eql_slice_nil W _ _ _ _ _ _ _ Tryz.underlying22
    clear hs hnl
    go_enter Tryz.func93, Tryz.ntmps93
    go_wp2_with fail
    go_ret
    exact ⟨_, rfl, World.ownsRow_nil _ _ _ _, Below.refl _ _⟩
  · have hq : ∀ W : World, (binOp .eql 22 (.slice (some ad) l.length cap) (.slice none 0 0)).run Tryz.prog W = .ok (.bool false) W := fun W => Lib.run_eql_slice_nil W _ _ _ _ _ _ _ Tryz.underlying22
    clear hs hnl
    go_enter Tryz.func93, Tryz.ntmps93
    have ho := World.ownsRow_lit (base := w.heap.size) (e := 32) (size := 2) w #[] 0 (Nat.le_refl _) (by decide) rfl
    have hb0 : Below w.heap.size w (w.alloc (Obj.cells #[] 32)) := (Below.refl _ _).alloc (Nat.le_refl _) _
    have HF := Lib.hid (isFlds_below HS.out hb0)
    have HB0 := Lib.hid hb0
    have HO := Lib.hid ho
    clear ho hb0
    go_wp2_with (at_builtin; refine joinF_guarded (by rfl) _ _ rfl w.heap.size _ _ [] l rfl rfl HO.out HF.out HNL.out ?c1 ?c2 ?c3 ?_)
    intro v' w' ho' hg'
    have HB1 := Lib.hid (HB0.out.trans (below_of_grownF hg' HO.out (by simp)))
    have HO1 := Lib.hid ho'
    clear ho' hg'
    go_wp2_with fail
    go_ret
    exact ⟨v', rfl, HO1.out, HB1.out⟩

/-- the cells that clear writes into n fields -/
def zeros2 (n : Nat) : List Value := (Builtin.zeroCells #[.string .empty, .string .empty] n).toList
theorem zeros2_len (n : Nat) : (zeros2 n).length = n * 2 := by simp [zeros2, Builtin.zeroCells]
theorem zeros2_one (n : Nat) : ∀ u ∈ zeros2 n, u.oneCell' = true := by
  intro u hu
  simp [zeros2, Builtin.zeroCells] at hu
  obtain ⟨j, -, rfl⟩ := hu
  rcases Nat.mod_two_eq_zero_or_one j with h | h <;> simp [h] <;> rfl
theorem run_clear2 (w : World) (ty : TypeId) (b o n c : Nat) (hn : 0 < n) (hc : ∀ j, j < n * 2 → (w.cell? ⟨b, o + j, none⟩).isSome = true) (hf : ∀ j, j < n * 2 → w.frozen? ⟨b, o + j, none⟩ = false) :
    (Builtin.clear_ #[22] ty #[.slice (some ⟨b, o, none⟩) n c]).run Tryz.prog w = .ok (.tuple #[]) (w.setCells b o (zeros2 n)) := by
  have hst := run_storeCells_cells (P := Tryz.prog) b o (zeros2 n) 0 w (by rw [zeros2_len]; simpa using hc) (by rw [zeros2_len]; simpa using hf) (zeros2_one n)
  simp only [Nat.add_zero] at hst
  obtain ⟨m, rfl⟩ : ∃ m, n = m + 1 := ⟨n - 1, by omega⟩
  have hst2 : (storeCells ⟨b, o, none⟩ (Builtin.zeroCells (Value.agg #[Value.string ⟨#[]⟩, Value.string ⟨#[]⟩]).cells (m + 1)).toList).run Tryz.prog w = .ok () (w.setCells b o (zeros2 (m + 1))) := hst
  simp [Builtin.clear_, run_underlying Tryz.underlying22]
  rw [hst2]
  rfl
theorem below_setC {B b : Nat} {a : World} (hb : B ≤ b) : ∀ (vs : List Value) (o : Nat) (w : World), Below B a w → Below B a (w.setCells b o vs)
  | [], _, _, h => h
  | v :: vs, o, _, h => below_setC hb vs (o + 1) _ (h.setCell (p := ⟨b, o, none⟩) hb v)
end Tk
end Go.Proofs.YtdlbmfgajgefdaaGreatDoor
namespace Go.Proofs.YtdlbmfgajgefdaaGreatDoor
open Go.RowKit
namespace Tk

/-- the fields of other names -/
def delF (name : Bs) (l : List (Bs × Bs)) : List (Bs × Bs) := l.filter fun f => !isN name f
theorem delF_snoc (name : Bs) (l : List (Bs × Bs)) (f : Bs × Bs) : delF name (l ++ [f]) = delF name l ++ (if isN name f then [] else [f]) := by
  unfold delF
  cases h : isN name f <;> simp [h]
theorem delF_all (name : Bs) (l : List (Bs × Bs)) (h : ∀ f ∈ l, isN name f = false) : delF name l = l := by
  unfold delF
  rw [List.filter_eq_self]
  intro f hf
  rw [h f hf]; rfl
theorem delF_len (name : Bs) (l : List (Bs × Bs)) : (delF name l).length ≤ l.length := List.length_filter_le _ _
theorem find_hit (name : Bs) (l : List (Bs × Bs)) (h : l.findIdx (isN name) < l.length) : isN name (l.getD (l.findIdx (isN name)) ([], [])) = true := by
  have := List.findIdx_getElem (w := h)
  simpa [List.getD, h] using this
theorem find_before (name : Bs) (l : List (Bs × Bs)) : ∀ f ∈ l.take (l.findIdx (isN name)), isN name f = false := by
  intro f hf
  rw [List.mem_take_iff_getElem] at hf
  obtain ⟨j, hj, rfl⟩ := hf
  have := List.not_of_lt_findIdx (p := isN name) (xs := l) (i := j) (by omega)
  simpa using this
theorem find_none (name : Bs) (l : List (Bs × Bs)) (h : ¬ l.findIdx (isN name) < l.length) : ∀ f ∈ l, isN name f = false := by
  have : l.findIdx (isN name) = l.length := by
    have := List.findIdx_le_length (p := isN name) (xs := l); omega
  rwa [List.findIdx_eq_length] at this

/-- what DeleteFunc has done when it has gone through j fields and kept i -/
def Half (wr : World) (B gr cap : Nat) (name : Bs) (l : List (Bs × Bs)) (i j : Nat) : Prop :=
  ∃ K R : List (Bs × Bs), K = delF name (l.take j) ∧ K.length = i ∧ R.length = j - i ∧ wr.ownsRow B 32 2 (.slice (some ⟨gr, 0, none⟩) l.length cap) l.length (fcells (K ++ R ++ l.drop j))

def DelPost (B : Nat) (name : Bs) (l : List (Bs × Bs)) (w : World) (e : Ending) (w' : World) : Prop :=
  ∃ v', e = .returned v' ∧ IsFlds w' v' (delF name l) ∧ Below B w w'

set_option maxHeartbeats 8000000 in
set_option maxRecDepth 100000 in
theorem delf_any (v : Value) (l : List (Bs × Bs)) (name : Bs) (g B : Nat) (w : World) (ho : w.ownsRow B 32 2 v l.length (fcells l)) (hB : B ≤ w.heap.size) (hg : HasN w g name) (hne : v.ownBlock ≠ some g)
    (hz : ∀ f ∈ l, f.1.length ≤ 1099511627776 ∧ f.2.length ≤ 1099511627776) (hn : name.length ≤ 1099511627776) (hl : l.length ≤ 1048576) :
    Calls Tryz.prog 92 #[v, namedV g] w (DelPost B name l w) := by
  have HIx := index_any v g name l w (isFlds_own ho) hg hz hn hl
  have HZ := Lib.hid hz
  have HO := Lib.hid ho
  have HG := Lib.hid hg
  by_cases hidx : l.findIdx (isN name) < l.length
  · obtain ⟨gr, cap, hgr, hcap, rfl⟩ : ∃ gr cap, B ≤ gr ∧ l.length ≤ cap ∧ v = .slice (some ⟨gr, 0, none⟩) l.length cap := by
      rcases ho.2 with ⟨hv, hn⟩ | ⟨gr, cap, cur, hv, hb, hg, hcap, -⟩
      · omega
      · exact ⟨gr, cap, hb, hcap, hv⟩
    have hgne : gr ≠ g := by intro e; subst e; exact hne rfl
    have hix : idxF name l = (l.findIdx (isN name) : Int) := by unfold idxF; rw [if_pos hidx]
    rw [hix] at HIx
    have h1 := find_hit name l hidx
    have h2 := find_before name l
    clear hix ho hg hz hne
    generalize l.findIdx (isN name) = i0 at *
    have htk : l.take (i0 + 1) = l.take i0 ++ [l.getD i0 ([], [])] := by
      rw [List.take_succ_eq_append_getElem hidx]; simp [List.getD, hidx]
    have hdr : l.drop i0 = l.getD i0 ([], []) :: l.drop (i0 + 1) := by rw [List.drop_eq_getElem_cons hidx]; simp [List.getD, hidx]
    have HH0 : Hid (∀ W, W.ownsRow B 32 2 (.slice (some ⟨gr, 0, none⟩) l.length cap) l.length (fcells l) → Half W B gr cap name l i0 (i0 + 1)) := by
      intro W hW
      refine ⟨l.take i0, [l.getD i0 ([], [])], ?_, by simp; omega, by simp, ?_⟩
      · rw [htk, delF_snoc, h1, delF_all name _ h2]; simp
      · rw [← htk, List.take_append_drop]; exact hW
    have HI2 := Lib.hid HIx
    have m1 : ¬ ((i0 : Int) = -1) := by omega
    have m2 : ((i0 : Int) == -1) = false := by simp [m1]
    clear HIx h1 h2 htk hdr
    unfold namedV at HI2 ⊢
    go_enter Tryz.func92, Tryz.ntmps92
    go_wp2_with fail
    refine HI2.out.mono ?_
    rintro e w1 ⟨rfl, hb⟩
    have HB1 := Lib.hid (show Below B w w1 from hb.mono hB)
    have HG1 := Lib.hid (HG.out.later hb)
    have HO1 := Lib.hid (own_keep2f HO.out hb)
    clear hb
    go_wp2_with fail
    go_loopw [5, 6] (fun v5 v6 wr => ∃ i j : Nat, i < j ∧ j ≤ l.length ∧ v5 = .int .i64 i ∧ v6 = .int .i64 j ∧ Hid (Half wr B gr cap name l i j) ∧ Hid (Below B w wr) ∧ Hid (HasN wr g name)) (fun _ v6 _ => l.length - (RowKit.intOf v6).toNat)
    case atStart => exact ⟨i0, i0 + 1, by omega, hidx, rfl, by go_num, HH0.out _ HO1.out, HB1, HG1⟩
    case round =>
      obtain ⟨i, j, hij, hj, rfl, rfl, HR, HB, HN⟩ := hrel
      rename World => W
      by_cases hlt : j < l.length
      · obtain ⟨K, R, hK, hKi, hRl, hoW⟩ := HR.out
        obtain ⟨z, R', rfl⟩ : ∃ z R', R = z :: R' := by
          cases R with
          | nil => simp at hRl; omega
          | cons z R' => exact ⟨z, R', rfl⟩
        have hdr : l.drop j = l.getD j ([], []) :: l.drop (j + 1) := by rw [List.drop_eq_getElem_cons hlt]; simp [List.getD, hlt]
        have htk : l.take (j + 1) = l.take j ++ [l.getD j ([], [])] := by
          rw [List.take_succ_eq_append_getElem hlt]; simp [List.getD, hlt]
        have hm := HZ.out (l.getD j ([], [])) (by simp [List.getD, hlt])
        rw [hdr] at hoW
        generalize l.getD j ([], []) = f at *
        generalize hD : l.drop (j + 1) = D at *
        obtain ⟨n, x⟩ := f
        simp only at hm
        have hat := fcells_mid (K ++ z :: R') (n, x) D
        have hKR : (K ++ z :: R').length = j := by rw [List.length_append, hRl]; omega
        rw [hKR] at hat
        have hc0 := hoW.cellAt (j * 2) (by omega)
        have hc1 := hoW.cellAt (j * 2 + 1) (by omega)
        rw [hat.1] at hc0
        rw [hat.2] at hc1
        have HC := fun W : World => fun h : HasN W g name => named1_any g name n x W h hm.1 hn
        have HF0 := Lib.hid (Two.new W 32 (.string (mkS n)) (.string (mkS x)))
        have hb0 : Below W.heap.size W (W.alloc (Obj.cells #[.string (mkS n), .string (mkS x)] 32)) := (Below.refl _ _).alloc (Nat.le_refl _) _
        have HO2 := Lib.hid (own_keep2f hoW hb0)
        have HN2 := Lib.hid (HN.out.later hb0)
        have hBW : B ≤ W.heap.size := Nat.le_trans hB HB.out.size
        have HB2 := Lib.hid (HB.out.trans (hb0.mono hBW))
        have hq0 := HF0.out.c0
        have hq1 := HF0.out.c1
        have g0 : (0 : Int) ≤ (j : Int) := by omega
        have g1 : (j : Int) < (l.length : Int) := by omega
        have g2 : (0 : Int) ≤ (i : Int) := by omega
        have g3 : (i : Int) < (l.length : Int) := by omega
        have hs0 : B ≤ (W.alloc (Obj.cells #[.string (mkS n), .string (mkS x)] 32)).heap.size := by simp; omega
        have HTK := Lib.hid htk
        have HKK := Lib.hid hK
        have HKi := Lib.hid hKi
        have HRl := Lib.hid hRl
        have HD := Lib.hid hD
        clear hb0 hat hKR hoW htk hdr hK hRl hD
        cases hk : isN name (n, x)
        · rw [hk] at HC
          have hK2 : delF name (l.take (j + 1)) = K ++ [(n, x)] := by rw [HTK.out, delF_snoc, hk, ← HKK.out]; rfl
          have HK2 := Lib.hid hK2
          have HC2 := Lib.hid HC
          clear HC hk hK2
          go_wp2_with fail
          generalize W.alloc (Obj.cells #[.string (mkS n), .string (mkS x)] 32) = W4 at *
          generalize W.heap.size = gw at *
          refine (HC2.out _ HN2.out).mono ?_
          rintro e w5 ⟨rfl, hb⟩
          have ho5 := own_keep2f HO2.out hb
          have HB5 := Lib.hid (HB2.out.trans (hb.mono hs0))
          have HN5 := Lib.hid (HN2.out.later hb)
          have hF5 := HF0.out.later hb
          have q0 := hF5.c0
          have q1 := hF5.c1
          have k0 := ho5.cellAt (i * 2) (by omega)
          have k1 := ho5.cellAt (i * 2 + 1) (by omega)
          rw [show K ++ z :: R' ++ (n, x) :: D = K ++ z :: (R' ++ (n, x) :: D) by simp] at k0 k1 ho5
          have hmid := fcells_mid K z (R' ++ (n, x) :: D)
          rw [HKi.out] at hmid
          rw [hmid.1] at k0
          rw [hmid.2] at k1
          have f0 := ho5.frozenAt (i * 2)
          have f1 := ho5.frozenAt (i * 2 + 1)
          have HO5 := Lib.hid ho5
          have k2 : (w5.setCell ⟨gr, i * 2, none⟩ (.string (mkS n))).cell? ⟨gr, i * 2 + 1, none⟩ = some (.string (mkS z.2)) := by
            rw [World.cell?_setCell_other (w := w5) (a := ⟨gr, i * 2, none⟩) (b := ⟨gr, i * 2 + 1, none⟩) (h := by intro e; injection e with _ e2; omega)]; exact k1
          clear hb ho5 hmid hF5
          go_wp2_with fail
          have hst := own_put2 (a := K) HO5.out n x
          rw [HKi.out] at hst
          refine ⟨⟨i + 1, j + 1, by omega, hlt, by go_num, by go_num, ?_, ?_, ?_⟩, by simp [RowKit.intOf]; omega⟩
          · refine ⟨K ++ [(n, x)], R' ++ [(n, x)], HK2.out.symm, by rw [List.length_append, HKi.out]; rfl, ?_, ?_⟩
            · have := HRl.out
              simp at this ⊢; omega
            · rw [HD.out]
              simpa using hst
          · exact (HB5.out.setCell (p := ⟨gr, i * 2, none⟩) hgr _).setCell (p := ⟨gr, i * 2 + 1, none⟩) hgr _
          · show World.cell? _ _ = _
            rw [World.cell?_setCell_other (h := by intro e; injection e with e1 _; exact hgne e1), World.cell?_setCell_other (h := by intro e; injection e with e1 _; exact hgne e1)]
            exact HN5.out
        · rw [hk] at HC
          have hK2 : delF name (l.take (j + 1)) = K := by rw [HTK.out, delF_snoc, hk, ← HKK.out]; simp
          have HK2 := Lib.hid hK2
          have HC2 := Lib.hid HC
          clear HC hk hK2
          go_wp2_with fail
          generalize W.alloc (Obj.cells #[.string (mkS n), .string (mkS x)] 32) = W4 at *
          generalize W.heap.size = gw at *
          refine (HC2.out _ HN2.out).mono ?_
          rintro e w5 ⟨rfl, hb⟩
          have HO5 := Lib.hid (own_keep2f HO2.out hb)
          have HB5 := Lib.hid (HB2.out.trans (hb.mono hs0))
          have HN5 := Lib.hid (HN2.out.later hb)
          clear hb
          go_wp2_with fail
          refine ⟨⟨i, j + 1, by omega, hlt, rfl, by go_num, ?_, HB5, HN5⟩, by simp [RowKit.intOf]; omega⟩
          refine ⟨K, z :: R' ++ [(n, x)], HK2.out.symm, HKi.out, ?_, ?_⟩
          · have := HRl.out
            simp at this ⊢; omega
          · rw [HD.out]
            have := HO5.out
            simpa using this
      · obtain rfl : j = l.length := by omega
        obtain ⟨K, R, hK, hKi, hRl, hoW⟩ := HR.out
        rw [List.take_length] at hK
        have hcl : ∀ ty, (Builtin.clear_ #[22] ty #[.slice (some ⟨gr, i * 2, none⟩) (l.length - i) (cap - i)]).run Tryz.prog W = .ok (.tuple #[]) (W.setCells gr (i * 2) (zeros2 (l.length - i))) := fun ty =>
          run_clear2 W ty gr (i * 2) (l.length - i) (cap - i) (by omega) (fun t ht => by
            rw [hoW.cellAt (i * 2 + t) (by omega)]
            have : i * 2 + t < (fcells (K ++ R ++ l.drop l.length)).length := by rw [fcells_len]; simp; omega
            rw [List.getElem?_eq_getElem this]; rfl) (fun t _ => hoW.frozenAt _)
        have HOW := Lib.hid hoW
        have HK := Lib.hid hK
        have HKi := Lib.hid hKi
        have g2 : (0 : Int) ≤ (i : Int) := by omega
        have g3 : (i : Int) ≤ (l.length : Int) := by omega
        have g4 : (l.length : Int) ≤ (cap : Int) := by omega
        clear hoW hK hKi hRl
        go_wp2_with fail
        go_ret
        have hw := HOW.out
        refine ⟨_, rfl, ?_, below_setC hgr _ _ _ HB.out⟩
        rw [← HK.out]
        refine ⟨some ⟨gr, 0, none⟩, cap, by rw [HKi.out]; rfl, by rw [HKi.out]; omega, fun t f ht => ?_⟩
        have htl : t < i := by
          have := (List.getElem?_eq_some_iff.1 ht).1
          rw [HKi.out] at this; exact this
        have hget := fcells_get (K ++ R ++ l.drop l.length) t f (by rw [List.append_assoc, List.getElem?_append_left (by rw [HKi.out]; exact htl)]; exact ht)
        refine ⟨gr, 0, rfl, ?_, ?_⟩
        · rw [World.cell?_setCells_out _ _ _ _ _ (fun _ _ => Or.inl (by simp; omega)), Nat.zero_add, hw.cellAt (t * 2) (by omega)]
          exact hget.1
        · rw [World.cell?_setCells_out _ _ _ _ _ (fun _ _ => Or.inl (by simp; omega)), Nat.zero_add, hw.cellAt (t * 2 + 1) (by omega)]
          exact hget.2
  · have hall := find_none name l hidx
    have hix : idxF name l = -1 := by unfold idxF; rw [if_neg hidx]
    rw [hix] at HIx
    have HI2 := Lib.hid HIx
    have HA := Lib.hid (delF_all name l hall)
    obtain ⟨a, cap, rfl⟩ : ∃ a cap, v = .slice a l.length cap := by obtain ⟨a, c, h, -⟩ := isFlds_own ho; exact ⟨a, c, h⟩
    clear hall hix HIx ho hg hz hidx
    unfold namedV at HI2 ⊢
    go_enter Tryz.func92, Tryz.ntmps92
    go_wp2_with fail
    refine HI2.out.mono ?_
    rintro e w1 ⟨rfl, hb⟩
    have HB1 := Lib.hid (show Below B w w1 from hb.mono hB)
    have HF1 := Lib.hid (isFlds_below (isFlds_own HO.out) hb)
    clear hb
    go_wp2_with fail
    go_ret
    exact ⟨_, rfl, by rw [HA.out]; exact HF1.out, HB1.out⟩
end Tk
end Go.Proofs.YtdlbmfgajgefdaaGreatDoor
namespace Go.Proofs.YtdlbmfgajgefdaaGreatDoor
open Go.RowKit
namespace Tk

theorem own_base {w : World} {B B2 n : Nat} {v : Value} {xs : List Value} {e : TypeId} (h : w.ownsRow B e 2 v n xs) (hb : B2 ≤ B) : w.ownsRow B2 e 2 v n xs := by
  refine ⟨h.1, ?_⟩
  rcases h.2 with h2 | ⟨g, cap, cur, hv, hge, h2⟩
  · exact .inl h2
  · exact .inr ⟨g, cap, cur, hv, Nat.le_trans hb hge, h2⟩
theorem ownBlock_lt {w : World} {B n : Nat} {v : Value} {xs : List Value} {e : TypeId} (h : w.ownsRow B e 2 v n xs) : v.ownBlock ≠ some w.heap.size := by
  intro hh
  have := (h.lt _ hh).2
  omega

set_option maxHeartbeats 4000000 in
set_option maxRecDepth 100000 in
theorem fdel_any (v : Value) (l : List (Bs × Bs)) (name : Bs) (w : World) (hs : IsFlds w v l) (hnl : ∀ n c, v = .slice none n c → c = 0)
    (hz : ∀ f ∈ l, f.1.length ≤ 1099511627776 ∧ f.2.length ≤ 1099511627776) (hn : name.length ≤ 1099511627776) (hl : l.length ≤ 1048576) :
    Calls Tryz.prog 103 #[v, .string (mkS name)] w (OwnPost (delF name l) w) := by
  have HZ := Lib.hid hz
  have HZ2 : Hid (∀ f ∈ delF name l, f.1.length ≤ 1099511627776 ∧ f.2.length ≤ 1099511627776) := fun f hf => hz f (List.mem_filter.1 hf).1
  have hl2 : (delF name l).length ≤ 1048576 := Nat.le_trans (delF_len name l) hl
  have HCl := Lib.hid (sclone_any v l w hs hnl hl)
  have HN := Lib.hid (fun W : World => named_any name W)
  unfold OwnPost at HCl ⊢
  obtain ⟨a, cap, rfl⟩ : ∃ a cap, v = .slice a l.length cap := by obtain ⟨a, c, h, -⟩ := hs; exact ⟨a, c, h⟩
  clear hs hnl hz
  go_enter Tryz.func103, Tryz.ntmps103
  go_wp2_with fail
  refine HCl.out.mono ?_
  rintro e w1 ⟨v1, rfl, ho, hb⟩
  have HO := Lib.hid ho
  have HB := Lib.hid hb
  clear ho hb
  go_wp2_with fail
  refine (HN.out _).mono ?_
  rintro e w2 ⟨rfl, hg, hb⟩
  have HD := Lib.hid (delf_any v1 l name w1.heap.size w.heap.size w2 (own_keep2f HO.out hb) (Nat.le_trans HB.out.size hb.size) hg (ownBlock_lt HO.out) HZ.out hn hl)
  have HB2 := Lib.hid (HB.out.trans (hb.mono HB.out.size))
  clear hg hb
  go_wp2_with fail
  refine HD.out.mono ?_
  rintro e w3 ⟨v3, rfl, hf, hb⟩
  have HB3 := Lib.hid (HB2.out.trans hb)
  have HC := Lib.hid (copied_any v3 (delF name l) w3 hf HZ2.out hl2)
  unfold OwnPost at HC
  clear hf hb
  go_wp2_with fail
  refine HC.out.mono ?_
  rintro e w4 ⟨v4, rfl, ho, hb⟩
  have HO4 := Lib.hid (own_base ho HB3.out.size)
  have HB4 := Lib.hid (HB3.out.trans (hb.mono HB3.out.size))
  clear ho hb
  go_wp2_with fail
  go_ret
  exact ⟨v4, rfl, HO4.out, HB4.out⟩
end Tk
end Go.Proofs.YtdlbmfgajgefdaaGreatDoor
namespace Go.Proofs.YtdlbmfgajgefdaaGreatDoor
open Go.RowKit
namespace Tk

theorem noStand : Tryz.prog.stoodInHeld 32 = false := by kernel_rfl
theorem field_eql (W : World) (a b c d : ByteArray) : (binOp .eql 32 (.agg #[.string a, .string b]) (.agg #[.string c, .string d])).run Tryz.prog W = .ok (.bool (a.toList == c.toList && b.toList == d.toList)) W := by
  rw [run_eql_struct, run_equalIn_agg _ _ _ _ _ (by simp [Program.fieldsOf, Tryz.underlying32]) noStand]
  simp [Program.fieldsOf, Tryz.underlying32, Op.eqFields, go_sem]
  by_cases h1 : a.toList = c.toList <;> by_cases h2 : b.toList = d.toList <;> simp [h1, h2]

/-- may the fields be gone through: so many bytes together -/
def lfGo (b : Nat) : Nat → List (Bs × Bs) → Bool
  | _, [] => true
  | n, f :: t => if b < n + f.1.length + f.2.length then false else lfGo b (n + f.1.length + f.2.length) t
def lightF (l : List (Bs × Bs)) : Bool := decide (l.length ≤ 30) && lfGo 600 0 l
theorem lfGo_sum (b : Nat) : ∀ (l : List (Bs × Bs)) (n : Nat), n ≤ b → lfGo b n l = true → n + sumF l ≤ b + 4 * l.length
  | [], n, hn, _ => by simp [sumF]; exact hn
  | f :: t, n, hn, h => by
    unfold lfGo at h
    split at h
    · cases h
    · have := lfGo_sum b t (n + f.1.length + f.2.length) (by omega) h
      unfold sumF; simp only [List.length_cons]; omega
theorem lightF_parts (l : List (Bs × Bs)) (h : lightF l = true) : l.length ≤ 30 ∧ sumF l ≤ 720 := by
  unfold lightF at h
  rw [Bool.and_eq_true, decide_eq_true_eq] at h
  have := lfGo_sum 600 l 0 (by omega) h.2
  exact ⟨h.1, by omega⟩

set_option maxHeartbeats 2000000 in
set_option maxRecDepth 100000 in
theorem lightFields_any (v : Value) (l : List (Bs × Bs)) (w : World) (hs : IsFlds w v l) (hz : ∀ f ∈ l, f.1.length ≤ 140737488351232 ∧ f.2.length ≤ 140737488351232) (hl : l.length ≤ 140737488351232) :
    Calls Tryz.prog 88 #[v, .int .i64 30, .int .i64 600] w fun e w' => e = .returned (.bool (lightF l)) ∧ ∃ n, w' = w.drewN n := by
  obtain ⟨a, c, rfl, hcap, hc⟩ := hs
  have HC := Lib.hid hc
  have HZ := Lib.hid hz
  clear hc hz
  by_cases h20 : 30 < l.length
  · have fin : lightF l = false := by unfold lightF; rw [decide_eq_false (by omega)]; rfl
    have HF := Lib.hid fin
    have h' : (30 : Int) < (l.length : Int) := by omega
    clear fin
    go_enter Tryz.func88, Tryz.ntmps88
    go_wp2_with fail
    go_ret
    exact ⟨by rw [HF.out]; rfl, 0, rfl⟩
  · have fin : lightF l = lfGo 600 0 l := by unfold lightF; rw [decide_eq_true (by omega)]; rfl
    have HF := Lib.hid fin
    have h' : ¬ (30 : Int) < (l.length : Int) := by omega
    clear fin
    go_enter Tryz.func88, Tryz.ntmps88
    go_wp2_with fail
    go_loopw [7, 8] (fun vn vi wr => ∃ (i n m : Nat), i ≤ l.length ∧ n ≤ 600 ∧ vi = .int .i64 i ∧ vn = .int .i64 n ∧ wr = w.drewN m ∧ Hid (lightF l = lfGo 600 n (l.drop i))) (fun _ vi _ => l.length - (RowKit.intOf vi).toNat)
    case atStart => exact ⟨0, 0, 0, by omega, by omega, rfl, rfl, rfl, HF.out⟩
    case round =>
      obtain ⟨i, n, m, hi, hn, rfl, rfl, rfl, hd⟩ := hrel
      by_cases hlt : i < l.length
      · obtain ⟨b, o, rfl, hc0, hc1⟩ := HC.out i (l.getD i ([], [])) (by simp [List.getD, hlt])
        obtain ⟨z0, z1⟩ := HZ.out (l.getD i ([], [])) (by simp [List.getD, hlt])
        have hdr : l.drop i = l.getD i ([], []) :: l.drop (i + 1) := by rw [List.drop_eq_getElem_cons hlt]; simp [List.getD, hlt]
        have HD := Lib.hid hdr
        clear hdr
        generalize l.getD i ([], []) = f at *
        obtain ⟨x, y⟩ := f
        simp only at z0 z1 hc0 hc1
        have s0 := size_mkS x
        have s1 := size_mkS y
        have HS0 := Lib.hid s0
        have HS1 := Lib.hid s1
        have y0 : (mkS x).size ≤ 140737488351232 := by omega
        have y1 : (mkS y).size ≤ 140737488351232 := by omega
        clear s0 s1 z0 z1
        have hb0 : (0 : Int) ≤ (i : Int) := by omega
        have hb1 : (i : Int) < (l.length : Int) := by omega
        by_cases hb : 600 < n + (mkS x).size + (mkS y).size
        · have fin : lightF l = false := by
            rw [hd.out, HD.out, lfGo, if_pos (by rw [← HS0.out, ← HS1.out]; exact hb)]
          have HF2 := Lib.hid fin
          have hb' : (600 : Int) < (n : Int) + ((mkS x).size : Int) + ((mkS y).size : Int) := by omega
          clear fin HF HD hd
          generalize mkS x = s at *
          generalize mkS y = t at *
          have w1 : IntKind.i64.wrap ((n : Int) + (s.size : Int)) = (n : Int) + (s.size : Int) := IntWalk.i64_in _ (by omega)
          have w2 : IntKind.i64.wrap ((n : Int) + (s.size : Int) + (t.size : Int)) = (n : Int) + (s.size : Int) + (t.size : Int) := IntWalk.i64_in _ (by omega)
          go_wp2_with fail
          go_quiet (fail)
          clear w1 w2
          go_wp2_with fail
          go_ret
          exact ⟨by rw [HF2.out]; rfl, _, rfl⟩
        · have nx : lightF l = lfGo 600 (n + (mkS x).size + (mkS y).size) (l.drop (i + 1)) := by
            rw [hd.out, HD.out, lfGo, if_neg (by rw [← HS0.out, ← HS1.out]; exact hb), HS0.out, HS1.out]
          have HN := Lib.hid nx
          have hb' : ¬ (600 : Int) < (n : Int) + ((mkS x).size : Int) + ((mkS y).size : Int) := by omega
          clear nx HF HD hd
          generalize mkS x = s at *
          generalize mkS y = t at *
          have w1 : IntKind.i64.wrap ((n : Int) + (s.size : Int)) = (n : Int) + (s.size : Int) := IntWalk.i64_in _ (by omega)
          have w2 : IntKind.i64.wrap ((n : Int) + (s.size : Int) + (t.size : Int)) = (n : Int) + (s.size : Int) + (t.size : Int) := IntWalk.i64_in _ (by omega)
          go_wp2_with fail
          go_quiet (fail)
          clear w1 w2
          go_wp2_with fail
          exact ⟨⟨i + 1, n + s.size + t.size, _, by omega, by omega, by go_num, by go_num, rfl, HN⟩, by simp [RowKit.intOf]; omega⟩
      · have fin : lightF l = true := by rw [hd.out, List.drop_eq_nil_of_le (by omega)]; rfl
        have HF2 := Lib.hid fin
        clear fin
        go_wp2_with fail
        go_ret
        exact ⟨by rw [HF2.out]; rfl, _, rfl⟩

theorem ex_line1 : lnN [65, 58, 32, 32, 98, 32] = [65] ∧ lnV [65, 58, 32, 32, 98, 32] = [98] ∧ lnE [65, 58, 32, 32, 98, 32] = 0 := by decide +kernel
theorem ex_line2 : lnN [65, 32, 58, 32, 98] = [] ∧ lnV [65, 32, 58, 32, 98] = [] ∧ lnE [65, 32, 58, 32, 98] = 4 := by decide +kernel
def Yes2 (w : World) (r : Ending) (w' : World) : Prop := r = .returned (.bool true) ∧ Below w.heap.size w w'

end Tk
end Go.Proofs.YtdlbmfgajgefdaaGreatDoor
