/- ChkP ChkQ EmP FldH JoinF FldI FldJ FldK FldP FldN FldQ FldT FldU HopP TokE HopA HopI HopK, put together. -/
import Derived.Test.YtdlbmfgajgefdaaDoorQA
import Derived.Test.YtdlbmfgajgefdaaDoorQB
import Derived.Laws.AppendOwnNone
import Derived.Laws.OwnMore
import Derived.BigFrame
import Derived.Laws.IdiomCopy
import Derived.Lib.SliceRun
import Derived.Laws.StructEq
import Derived.IntWalk
import Derived.Deep.QuietTactic
import Derived.BigQuiet
import Derived.Deep.RegionHeld3
import Derived.Lib.ItoaMem
import Derived.Maps.OwnOps
import Derived.Maps.OwnSet
import Derived.Maps.Views
import Derived.StringKeys
namespace Go.Proofs.YtdlbmfgajgefdaaDoor
namespace Tk

/-- a hexadecimal digit's value -/
def hexD (c : UInt8) : Option Nat :=
  if 48 ≤ c.toNat ∧ c.toNat ≤ 57 then some (c.toNat - 48)
  else if 97 ≤ c.toNat ∧ c.toNat ≤ 102 then some (c.toNat - 87)
  else if 65 ≤ c.toNat ∧ c.toNat ≤ 70 then some (c.toNat - 55)
  else none
/-- a number by sixteen, read on from n -/
def hexGo : Nat → Bs → Option Nat
  | n, [] => some n
  | n, c :: t => match hexD c with
    | some d => hexGo (n * 16 + d) t
    | none => none
def hexN (l : Bs) : Option Nat := if l = [] then none else hexGo 0 l
/-- the size that a size line names, and the status -/
def sizeL (t : Bs) : Nat × Nat :=
  if 16 < (cutL 59 t).1.length then (0, 400)
  else if allL 1 (cutL 59 t).2.1 then
    match hexN (cutL 59 t).1 with
    | none => (0, 400)
    | some n => if 9007199254740991 < n then (0, 413) else (n, 0)
  else (0, 400)

/-- a decoder: its limits; its state (0 a size line, 1 a chunk's bytes, 2 CR, 3 LF behind them, 4 trailers, 5 the end); its flaw -/
structure Dc where
  L : Nat
  H : Nat
  C : Nat
  M : Nat
  mode : Nat := 0
  bad : Nat := 0
  line : Bs := []
  left : Nat := 0
  head : Nat := 0
  body : Bs := []
  trl : List (Bs × Bs) := []

def cr (l : Bs) : Bool := decide (l.getLast? = some 13)

/-- one byte more of a line: 0 more must come, 1 the line has ended, 2 a flaw -/
def addK (s : Dc) (c : UInt8) : Nat :=
  if cr s.line = decide (c = 10) then
    if cr s.line then 1 else if s.L ≤ s.line.length + 1 then 2 else 0
  else 2
/-- .. the line behind it -/
def addD (s : Dc) (c : UInt8) : Dc := { s with line := s.line ++ [c] }
/-- the text of the line that has ended by c -/
def txt (s : Dc) : Bs := s.line.dropLast

/-- behind a size line -/
def sizedD (s : Dc) (t : Bs) : Dc :=
  if (sizeL t).2 = 0 then
    if s.M - s.body.length < (sizeL t).1 then { s with bad := 413 }
    else if (sizeL t).1 = 0 then { s with mode := 4 }
    else { s with mode := 1, left := (sizeL t).1 }
  else { s with bad := (sizeL t).2 }
/-- behind a line of the trailers -/
def trailD (s : Dc) (t : Bs) : Dc :=
  if t = [] then { s with mode := 5 }
  else if lineOk t then
    if s.C ≤ s.trl.length then { s with bad := 431 } else { s with trl := s.trl ++ [(lineN t, lineV t)] }
  else { s with bad := 400 }

def stepD (s : Dc) (c : UInt8) : Dc :=
  match s.mode with
  | 0 => match addK s c with
    | 0 => addD s c
    | 1 => sizedD { s with line := [] } (txt s)
    | _ => { addD s c with bad := 400 }
  | 1 => if 1 < s.left then { s with body := s.body ++ [c], left := s.left - 1 } else { s with body := s.body ++ [c], left := s.left - 1, mode := 2 }
  | 2 => if c = 13 then { s with mode := 3 } else { s with bad := 400 }
  | 3 => if c = 10 then { s with mode := 0 } else { s with bad := 400 }
  | 4 => match addK s c with
    | 0 => if s.H < s.head + 1 then { addD s c with head := s.head + 1, bad := 431 } else { addD s c with head := s.head + 1 }
    | 1 => if s.H < s.head + 1 then { addD s c with head := s.head + 1, bad := 431 } else trailD { s with head := s.head + 1, line := [] } (txt s)
    | _ => { addD s c with head := s.head + 1, bad := 400 }
  | _ => s

def stopD (s : Dc) : Bool := decide (s.mode = 5) || decide (s.bad ≠ 0)
def feedD : Dc → Bs → Nat × Dc
  | s, [] => (0, s)
  | s, c :: t => if stopD s then (0, s) else ((feedD (stepD s c) t).1 + 1, (feedD (stepD s c) t).2)

theorem feedD_stop (s : Dc) (l : Bs) (h : stopD s = true) : feedD s l = (0, s) := by
  cases l with
  | nil => rfl
  | cons c t => unfold feedD; rw [if_pos h]
theorem feedD_cons (s : Dc) (c : UInt8) (t : Bs) (h : stopD s = false) : feedD s (c :: t) = ((feedD (stepD s c) t).1 + 1, (feedD (stepD s c) t).2) := by
  rw [feedD, if_neg (by simp [h])]
theorem feedD_append : ∀ (a : Bs) (s : Dc) (b : Bs), feedD s (a ++ b) = ((feedD s a).1 + (feedD (feedD s a).2 b).1, (feedD (feedD s a).2 b).2)
  | [], s, b => by simp [feedD]
  | c :: a, s, b => by
    cases h : stopD s
    · rw [List.cons_append, feedD_cons s c _ h, feedD_cons s c a h, feedD_append a (stepD s c) b]
      simp only [Prod.mk.injEq, and_true]; omega
    · rw [feedD_stop s _ h, feedD_stop s _ h, feedD_stop s _ h]; simp
theorem feedD_le : ∀ (l : Bs) (s : Dc), (feedD s l).1 ≤ l.length
  | [], s => by simp [feedD]
  | c :: t, s => by
    cases h : stopD s
    · rw [feedD_cons s c t h]; have := feedD_le t (stepD s c); simp; omega
    · rw [feedD_stop s _ h]; simp
theorem feedD_all : ∀ (l : Bs) (s : Dc), stopD (feedD s l).2 = false → (feedD s l).1 = l.length
  | [], s, _ => by simp [feedD]
  | c :: t, s, h => by
    cases hs : stopD s
    · rw [feedD_cons s c t hs] at h ⊢; have := feedD_all t (stepD s c) h; simp at this ⊢; omega
    · rw [feedD_stop s _ hs] at h; rw [hs] at h; cases h
/-- what was eaten is all that counts -/
theorem feedD_take (l : Bs) (s : Dc) : feedD s (l.take (feedD s l).1) = feedD s l := by
  induction l generalizing s with
  | nil => simp [feedD]
  | cons c t ih =>
    cases h : stopD s
    · rw [feedD_cons s c t h]
      show feedD s ((c :: t).take ((feedD (stepD s c) t).1 + 1)) = _
      rw [List.take_succ_cons, feedD_cons s c _ h, ih (stepD s c)]
    · rw [feedD_stop s _ h, feedD_stop s _ h]

/-- what is true of a decoder at all times; n: how many bytes it may have eaten -/
structure Dc.Fit (s : Dc) (n : Nat) : Prop where
  line : s.line.length ≤ n
  head : s.head ≤ n
  body : s.body.length ≤ n
  trl : s.trl.length ≤ n
  each : ∀ f ∈ s.trl, f.1.length ≤ n ∧ f.2.length ≤ n
  mode : s.mode ≤ 5
  bad : s.bad = 0 ∨ s.bad = 400 ∨ s.bad = 413 ∨ s.bad = 431
  room : s.body.length + (if s.mode = 1 then s.left else 0) ≤ s.M
  one : s.mode = 1 → 1 ≤ s.left
  few : s.left ≤ 9007199254740991

theorem sizeL_le (t : Bs) : (sizeL t).1 ≤ 9007199254740991 ∧ ((sizeL t).2 = 0 ∨ (sizeL t).2 = 400 ∨ (sizeL t).2 = 413) := by
  unfold sizeL
  split
  · simp
  · split
    · split
      · simp
      · split <;> simp; omega
    · simp
theorem trimL_le (l : Bs) : (trimL l).length ≤ l.length := trim_sublist l
theorem cutL_le (c : UInt8) (l : Bs) : (cutL c l).1.length ≤ l.length ∧ (cutL c l).2.1.length ≤ l.length := by
  unfold cutL
  split
  · refine ⟨(List.takeWhile_sublist _).length_le, ?_⟩
    simp only [List.length_drop]
    have := (List.dropWhile_sublist (l := l) (· != c)).length_le
    omega
  · simp
theorem lineNV_le (t : Bs) : (lineN t).length ≤ t.length ∧ (lineV t).length ≤ t.length :=
  ⟨(cutL_le 58 t).1, Nat.le_trans (trimL_le _) (cutL_le 58 t).2⟩

theorem Dc.Fit.mono {s : Dc} {n m : Nat} (h : s.Fit n) (hm : n ≤ m) : s.Fit m :=
  ⟨Nat.le_trans h.line hm, Nat.le_trans h.head hm, Nat.le_trans h.body hm, Nat.le_trans h.trl hm, fun f hf => ⟨Nat.le_trans (h.each f hf).1 hm, Nat.le_trans (h.each f hf).2 hm⟩, h.mode, h.bad, h.room, h.one, h.few⟩

theorem stepD_fit (s : Dc) (c : UInt8) (n : Nat) (h : s.Fit n) : (stepD s c).Fit (n + 1) := by
  obtain ⟨h1, h2, h3, h4, h5, h6, h7, h8, h9, h10⟩ := h
  have h5' : ∀ f ∈ s.trl, f.1.length ≤ n + 1 ∧ f.2.length ≤ n + 1 := fun f hf => ⟨Nat.le_succ_of_le (h5 f hf).1, Nat.le_succ_of_le (h5 f hf).2⟩
  have hl : (s.line ++ [c]).length ≤ n + 1 := by simp; omega
  have ht : (txt s).length ≤ n := by unfold txt; simp; omega
  have h58 : s.body.length ≤ s.M := by have := h8; omega
  unfold stepD
  split
  · rename_i hm
    rw [hm] at h8 h9
    split
    · exact ⟨hl, by simp only [addD]; omega, by simp only [addD]; omega, by simp only [addD]; omega, h5', by simp only [addD]; omega, h7, by simp only [addD, hm]; simpa using h58, by simp only [addD, hm]; simp, h10⟩
    · unfold sizedD
      obtain ⟨k1, k2⟩ := sizeL_le (txt s)
      split
      · split
        · exact ⟨by simp, by simp only; omega, by simp only; omega, by simp only; omega, h5', by simp only; omega, by simp, by simp only [hm]; simpa using h58, by simp only [hm]; simp, h10⟩
        · split
          · exact ⟨by simp, by simp only; omega, by simp only; omega, by simp only; omega, h5', by simp, h7, by simpa using h58, by simp, h10⟩
          · exact ⟨by simp, by simp only; omega, by simp only; omega, by simp only; omega, h5', by simp, h7, by simp only [if_true]; simp only at *; omega, fun _ => by simp only; omega, k1⟩
      · exact ⟨by simp, by simp only; omega, by simp only; omega, by simp only; omega, h5', by simp only; omega, by simp only; omega, by simp only [hm]; simpa using h58, by simp only [hm]; simp, h10⟩
    · exact ⟨hl, by simp only [addD]; omega, by simp only [addD]; omega, by simp only [addD]; omega, h5', by simp only [addD]; omega, by simp, by simp only [addD, hm]; simpa using h58, by simp only [addD, hm]; simp, h10⟩
  · rename_i hm
    rw [hm] at h8 h9
    have h9' := h9 rfl
    simp only [if_true] at h8
    split
    · exact ⟨by simp only; omega, by simp only; omega, by simp; omega, by simp only; omega, h5', by simp only; omega, h7, by simp only [hm, if_true]; simp; omega, fun _ => by simp only; omega, by simp only; omega⟩
    · exact ⟨by simp only; omega, by simp only; omega, by simp; omega, by simp only; omega, h5', by simp, h7, by simp; omega, by simp, by simp only; omega⟩
  · rename_i hm
    rw [hm] at h8 h9
    split
    · exact ⟨by simp only; omega, by simp only; omega, by simp only; omega, by simp only; omega, h5', by simp, h7, by simpa using h58, by simp, h10⟩
    · exact ⟨by simp only; omega, by simp only; omega, by simp only; omega, by simp only; omega, h5', by simp only; omega, by simp, by simp only [hm]; simpa using h58, by simp only [hm]; simp, h10⟩
  · rename_i hm
    rw [hm] at h8 h9
    split
    · exact ⟨by simp only; omega, by simp only; omega, by simp only; omega, by simp only; omega, h5', by simp, h7, by simpa using h58, by simp, h10⟩
    · exact ⟨by simp only; omega, by simp only; omega, by simp only; omega, by simp only; omega, h5', by simp only; omega, by simp, by simp only [hm]; simpa using h58, by simp only [hm]; simp, h10⟩
  · rename_i hm
    rw [hm] at h8 h9
    split
    · split
      · exact ⟨hl, by simp only; omega, by simp only [addD]; omega, by simp only [addD]; omega, h5', by simp only [addD]; omega, by simp, by simp only [addD, hm]; simpa using h58, by simp only [addD, hm]; simp, h10⟩
      · exact ⟨hl, by simp only; omega, by simp only [addD]; omega, by simp only [addD]; omega, h5', by simp only [addD]; omega, h7, by simp only [addD, hm]; simpa using h58, by simp only [addD, hm]; simp, h10⟩
    · split
      · exact ⟨hl, by simp only; omega, by simp only [addD]; omega, by simp only [addD]; omega, h5', by simp only [addD]; omega, by simp, by simp only [addD, hm]; simpa using h58, by simp only [addD, hm]; simp, h10⟩
      · unfold trailD
        split
        · exact ⟨by simp, by simp only; omega, by simp only; omega, by simp only; omega, h5', by simp, h7, by simpa using h58, by simp, h10⟩
        · split
          · split
            · exact ⟨by simp, by simp only; omega, by simp only; omega, by simp only; omega, h5', by simp only; omega, by simp, by simp only [hm]; simpa using h58, by simp only [hm]; simp, h10⟩
            · refine ⟨by simp, by simp only; omega, by simp only; omega, by simp; omega, fun f hf => ?_, by simp only; omega, h7, by simp only [hm]; simpa using h58, by simp only [hm]; simp, h10⟩
              rcases List.mem_append.1 hf with hf | hf
              · exact h5' f hf
              · simp at hf; subst hf
                have := lineNV_le (txt s)
                simp only; omega
          · exact ⟨by simp, by simp only; omega, by simp only; omega, by simp only; omega, h5', by simp only; omega, by simp, by simp only [hm]; simpa using h58, by simp only [hm]; simp, h10⟩
    · exact ⟨hl, by simp only; omega, by simp only [addD]; omega, by simp only [addD]; omega, h5', by simp only [addD]; omega, by simp, by simp only [addD, hm]; simpa using h58, by simp only [addD, hm]; simp, h10⟩
  · exact ⟨by omega, by omega, by omega, by omega, h5', h6, h7, h8, h9, h10⟩

theorem stepD_lim (s : Dc) (c : UInt8) : (stepD s c).L = s.L ∧ (stepD s c).H = s.H ∧ (stepD s c).C = s.C ∧ (stepD s c).M = s.M := by
  unfold stepD sizedD trailD addD
  repeat' split
  all_goals exact ⟨rfl, rfl, rfl, rfl⟩
theorem feedD_fit : ∀ (l : Bs) (s : Dc) (n : Nat), s.Fit n → (feedD s l).2.Fit (n + l.length)
  | [], s, n, h => by simpa [feedD] using h
  | c :: t, s, n, h => by
    cases hs : stopD s
    · rw [feedD_cons s c t hs]
      have := feedD_fit t _ _ (stepD_fit s c n h)
      exact this.mono (by simp; omega)
    · rw [feedD_stop s _ hs]; exact Dc.Fit.mono h (by simp)
theorem feedD_lim : ∀ (l : Bs) (s : Dc), (feedD s l).2.L = s.L ∧ (feedD s l).2.H = s.H ∧ (feedD s l).2.C = s.C ∧ (feedD s l).2.M = s.M
  | [], s => ⟨rfl, rfl, rfl, rfl⟩
  | c :: t, s => by
    cases hs : stopD s
    · rw [feedD_cons s c t hs]
      obtain ⟨a1, a2, a3, a4⟩ := feedD_lim t (stepD s c)
      obtain ⟨b1, b2, b3, b4⟩ := stepD_lim s c
      exact ⟨a1.trans b1, a2.trans b2, a3.trans b3, a4.trans b4⟩
    · rw [feedD_stop s _ hs]; exact ⟨rfl, rfl, rfl, rfl⟩
/-- a flaw leaves the state as it was -/
theorem stepD_bad (s : Dc) (c : UInt8) (h : s.bad = 0) (hb : (stepD s c).bad ≠ 0) : (stepD s c).mode = s.mode := by
  revert hb
  unfold stepD sizedD trailD addD
  repeat' split
  all_goals simp_all
def newD (l h c m : Nat) : Dc := { L := l, H := h, C := c, M := m }
theorem newD_fit (l h c m : Nat) : (newD l h c m).Fit 0 := ⟨by simp [newD], by simp [newD], by simp [newD], by simp [newD], by simp [newD], by simp [newD], by simp [newD], by simp [newD], by simp [newD], by simp [newD]⟩
end Tk
end Go.Proofs.YtdlbmfgajgefdaaDoor
namespace Go.Proofs.YtdlbmfgajgefdaaDoor
namespace Tk

def hexc (d : Nat) : UInt8 := if d < 10 then UInt8.ofNat (48 + d) else UInt8.ofNat (87 + d)
def hexC (d : Nat) : UInt8 := if d < 10 then UInt8.ofNat (48 + d) else UInt8.ofNat (55 + d)
/-- a number's digits by sixteen, with the digits f -/
def hexF (f : Nat → UInt8) (n : Nat) : Bs := if _h : n < 16 then [f n] else hexF f (n / 16) ++ [f (n % 16)]
abbrev hexL (n : Nat) : Bs := hexF hexc n
theorem hexF_small (f : Nat → UInt8) (n : Nat) (h : n < 16) : hexF f n = [f n] := by rw [hexF, dif_pos h]
theorem hexF_big (f : Nat → UInt8) (n : Nat) (h : ¬ n < 16) : hexF f n = hexF f (n / 16) ++ [f (n % 16)] := by rw [hexF, dif_neg h]
theorem hexD_c : ∀ d, d < 16 → hexD (hexc d) = some d := by decide
theorem hexD_C : ∀ d, d < 16 → hexD (hexC d) = some d := by decide

theorem hexGo_append : ∀ (x : Bs) (n : Nat) (y : Bs), hexGo n (x ++ y) = (hexGo n x).bind fun m => hexGo m y
  | [], n, y => rfl
  | c :: t, n, y => by
    simp only [List.cons_append, hexGo]
    cases hexD c with
    | none => rfl
    | some d => exact hexGo_append t _ y
theorem hexGo_mem : ∀ (l : Bs) (n m : Nat), hexGo n l = some m → ∀ c ∈ l, hexD c ≠ none
  | [], n, m, _, c, hc => by cases hc
  | a :: t, n, m, h, c, hc => by
    simp only [hexGo] at h
    cases ha : hexD a with
    | none => rw [ha] at h; cases h
    | some d =>
      rw [ha] at h
      rcases List.mem_cons.1 hc with rfl | hc
      · rw [ha]; simp
      · exact hexGo_mem t _ m h c hc
theorem hexGo_bad : ∀ (l : Bs) (n : Nat), (∃ c ∈ l, hexD c = none) → hexGo n l = none
  | [], n, h => by simp at h
  | a :: t, n, h => by
    simp only [hexGo]
    cases ha : hexD a with
    | none => rfl
    | some d =>
      obtain ⟨c, hc, h0⟩ := h
      rcases List.mem_cons.1 hc with rfl | hc
      · rw [ha] at h0; cases h0
      · exact hexGo_bad t _ ⟨c, hc, h0⟩
theorem hexGo_F (f : Nat → UInt8) (hf : ∀ d, d < 16 → hexD (f d) = some d) : ∀ (k n : Nat), n ≤ k → hexGo 0 (hexF f n) = some n
  | 0, n, h => by
    rw [hexF_small f n (by omega)]
    simp only [hexGo, hf n (by omega)]
    congr 1; omega
  | k + 1, n, h => by
    by_cases hn : n < 16
    · rw [hexF_small f n hn]
      simp only [hexGo, hf n hn]
      congr 1; omega
    · rw [hexF_big f n hn, hexGo_append, hexGo_F f hf k (n / 16) (by omega)]
      simp only [Option.bind_some, hexGo, hf (n % 16) (by omega)]
      congr 1; omega
theorem hexGo_zeros : ∀ (k : Nat) (l : Bs), hexGo 0 (List.replicate k 48 ++ l) = hexGo 0 l
  | 0, l => rfl
  | k + 1, l => by
    rw [List.replicate_succ, List.cons_append]
    show hexGo 0 (List.replicate k 48 ++ l) = _
    exact hexGo_zeros k l
theorem hexF_ne (f : Nat → UInt8) (n : Nat) : hexF f n ≠ [] := by rw [hexF]; split <;> simp
theorem hexF_len (f : Nat → UInt8) : ∀ (k n : Nat), n < 16 ^ (k + 1) → (hexF f n).length ≤ k + 1
  | 0, n, h => by rw [hexF_small f n (by omega)]; simp
  | k + 1, n, h => by
    by_cases hn : n < 16
    · rw [hexF_small f n hn]; simp
    · rw [hexF_big f n hn, List.length_append]
      have := hexF_len f k (n / 16) (by rw [Nat.pow_succ] at h; omega)
      simp; omega
theorem hex_ne (c : UInt8) (h : hexD c ≠ none) : c ≠ 59 ∧ c ≠ 13 ∧ c ≠ 10 := by
  refine ⟨?_, ?_, ?_⟩ <;> (rintro rfl; exact h rfl)
theorem cutC_none (c : UInt8) (l : Bs) (h : ∀ x ∈ l, x ≠ c) : cutL c l = (l, [], false) := by
  have : l.contains c = false := by
    cases hc : l.contains c
    · rfl
    · exact absurd rfl (h c (by simpa using hc))
  unfold cutL; rw [this]; rfl
theorem cutQ_at (c : UInt8) (l r : Bs) (h : ∀ x ∈ l, x ≠ c) : cutL c (l ++ c :: r) = (l, r, true) := by
  have hp : ∀ x ∈ l, (x != c) = true := fun x hx => by simp [h x hx]
  unfold cutL
  rw [if_pos (by simp), List.takeWhile_append_of_pos hp, List.takeWhile_cons, List.dropWhile_append_of_pos hp, List.dropWhile_cons]
  simp
/-- the size of digits alone -/
theorem sizeL_digits (l : Bs) (n : Nat) (hl : l.length ≤ 16) (hne : l ≠ []) (hg : hexGo 0 l = some n) (hn : n ≤ 9007199254740991) : sizeL l = (n, 0) := by
  have hc := cutC_none 59 l (fun x hx => (hex_ne x (hexGo_mem l 0 n hg x hx)).1)
  have hN : hexN l = some n := by unfold hexN; rw [if_neg hne]; exact hg
  unfold sizeL
  rw [hc]
  simp only
  rw [if_neg (by omega), if_pos (by rfl), hN]
  simp only
  rw [if_neg (by omega)]
/-- .. and with what stands behind a semicolon -/
theorem sizeL_more (l r : Bs) (n : Nat) (hl : l.length ≤ 16) (hne : l ≠ []) (hg : hexGo 0 l = some n) (hn : n ≤ 9007199254740991) : sizeL (l ++ 59 :: r) = if allL 1 r then (n, 0) else (0, 400) := by
  have hc := cutQ_at 59 l r (fun x hx => (hex_ne x (hexGo_mem l 0 n hg x hx)).1)
  have hN : hexN l = some n := by unfold hexN; rw [if_neg hne]; exact hg
  unfold sizeL
  rw [hc]
  simp only
  rw [if_neg (by omega), hN]
  simp only
  rw [if_neg (by omega : ¬ 9007199254740991 < n)]
theorem sizeL_hex (n : Nat) (h : n ≤ 9007199254740991) : sizeL (hexL n) = (n, 0) :=
  sizeL_digits _ n (Nat.le_trans (hexF_len hexc 13 n (by omega)) (by omega)) (hexF_ne _ _) (hexGo_F hexc hexD_c n n (Nat.le_refl _)) h

theorem stop_no (s : Dc) (hm : s.mode ≠ 5) (hb : s.bad = 0) : stopD s = false := by simp [stopD, hm, hb]
theorem stepD_0 (s : Dc) (c : UInt8) (h : s.mode = 0) : stepD s c = match addK s c with
    | 0 => addD s c
    | 1 => sizedD { s with line := [] } (txt s)
    | _ => { addD s c with bad := 400 } := by cases s; simp only at h; subst h; rfl
theorem stepD_1 (s : Dc) (c : UInt8) (h : s.mode = 1) : stepD s c = if 1 < s.left then { s with body := s.body ++ [c], left := s.left - 1 } else { s with body := s.body ++ [c], left := s.left - 1, mode := 2 } := by cases s; simp only at h; subst h; rfl
theorem stepD_2 (s : Dc) (c : UInt8) (h : s.mode = 2) : stepD s c = if c = 13 then { s with mode := 3 } else { s with bad := 400 } := by cases s; simp only at h; subst h; rfl
theorem stepD_3 (s : Dc) (c : UInt8) (h : s.mode = 3) : stepD s c = if c = 10 then { s with mode := 0 } else { s with bad := 400 } := by cases s; simp only at h; subst h; rfl
theorem stepD_4 (s : Dc) (c : UInt8) (h : s.mode = 4) : stepD s c = match addK s c with
    | 0 => if s.H < s.head + 1 then { addD s c with head := s.head + 1, bad := 431 } else { addD s c with head := s.head + 1 }
    | 1 => if s.H < s.head + 1 then { addD s c with head := s.head + 1, bad := 431 } else trailD { s with head := s.head + 1, line := [] } (txt s)
    | _ => { addD s c with head := s.head + 1, bad := 400 } := by cases s; simp only at h; subst h; rfl

/-- a byte of a line that is not its end -/
theorem addK_0 (s : Dc) (c : UInt8) (hc : c ≠ 10) (hr : cr s.line = false) (hl : s.line.length + 1 < s.L) : addK s c = 0 := by
  unfold addK; rw [hr]; simp [hc]; omega
theorem addK_1 (s : Dc) (hr : cr s.line = true) : addK s 10 = 1 := by unfold addK; rw [hr]; rfl
theorem cr_snoc (p : Bs) (c : UInt8) : cr (p ++ [c]) = decide (c = 13) := by unfold cr; simp

/-- all of it is eaten, and s' is behind it -/
def Eats (s : Dc) (a : Bs) (s' : Dc) : Prop := feedD s a = (a.length, s')
theorem Eats.nil (s : Dc) : Eats s [] s := rfl
theorem Eats.append {s s' s'' : Dc} {a b : Bs} (h : Eats s a s') (h2 : Eats s' b s'') : Eats s (a ++ b) s'' := by
  unfold Eats at *
  rw [feedD_append, h]
  simp only [h2, List.length_append]
theorem Eats.one {s : Dc} {c : UInt8} (h : stopD s = false) : Eats s [c] (stepD s c) := by
  unfold Eats
  rw [feedD_cons s c [] h]
  rfl
theorem Eats.cons {s s' : Dc} {c : UInt8} {a : Bs} (h : stopD s = false) (h2 : Eats (stepD s c) a s') : Eats s (c :: a) s' := (Eats.one h).append h2

theorem eat_text : ∀ (t : Bs) (s : Dc) (p : Bs), s.mode = 0 → s.bad = 0 → (∀ c ∈ t, c ≠ 13 ∧ c ≠ 10) → cr p = false → p.length + t.length < s.L → Eats { s with line := p } t { s with line := p ++ t }
  | [], s, p, _, _, _, _, _ => by rw [List.append_nil]; exact Eats.nil _
  | c :: t, s, p, hm, hb, hc, hr, hl => by
    obtain ⟨h13, h10⟩ := hc c (by simp)
    rw [List.length_cons] at hl
    refine Eats.cons (stop_no _ (by simp only [hm]; decide) hb) ?_
    rw [stepD_0 _ _ (by exact hm), addK_0 _ _ h10 (by exact hr) (by simp only; omega)]
    have := eat_text t s (p ++ [c]) hm hb (fun x hx => hc x (by simp [hx])) (by rw [cr_snoc]; simp [h13]) (by simp; omega)
    rw [List.append_assoc, List.singleton_append] at this
    exact this
theorem eat_line (t : Bs) (s : Dc) (hm : s.mode = 0) (hb : s.bad = 0) (hn : s.line = []) (hc : ∀ c ∈ t, c ≠ 13 ∧ c ≠ 10) (hl : t.length + 1 < s.L) : Eats s (t ++ [13, 10]) (sizedD s t) := by
  have e : s = { s with line := [] } := by cases s; simp_all
  have h1 := eat_text t s [] hm hb hc rfl (by simp; omega)
  rw [← e, List.nil_append] at h1
  have hr : cr t = false := by
    unfold cr
    rw [decide_eq_false_iff_not]
    intro h
    exact (hc 13 (List.mem_of_getLast? h)).1 rfl
  refine h1.append (Eats.cons (stop_no _ (by simp only [hm]; decide) hb) ?_)
  rw [stepD_0 _ _ (by exact hm), addK_0 _ _ (by decide) (by exact hr) (by simp only; omega)]
  have h2 : Eats (addD { s with line := t } 13) [10] _ := Eats.one (stop_no _ (by simp only [addD, hm]; decide) hb)
  rw [stepD_0 _ _ (by exact hm), addK_1 _ (by unfold addD; rw [cr_snoc]; rfl)] at h2
  have h3 : txt (addD { s with line := t } 13) = t := by unfold txt addD; simp
  simp only [h3] at h2
  have h4 : ({ addD { s with line := t } 13 with line := [] } : Dc) = s := by unfold addD; exact e.symm
  rw [h4] at h2
  exact h2
theorem eat_text4 : ∀ (t : Bs) (s : Dc) (p : Bs) (h : Nat), s.mode = 4 → s.bad = 0 → (∀ c ∈ t, c ≠ 13 ∧ c ≠ 10) → cr p = false → p.length + t.length < s.L → h + t.length ≤ s.H → Eats { s with line := p, head := h } t { s with line := p ++ t, head := h + t.length }
  | [], s, p, h, _, _, _, _, _, _ => by rw [List.append_nil]; exact Eats.nil _
  | c :: t, s, p, h, hm, hb, hc, hr, hl, hh => by
    obtain ⟨h13, h10⟩ := hc c (by simp)
    rw [List.length_cons] at hl hh
    refine Eats.cons (stop_no _ (by simp only [hm]; decide) hb) ?_
    rw [stepD_4 _ _ (by exact hm), addK_0 _ _ h10 (by exact hr) (by simp only; omega)]
    simp only
    rw [if_neg (by omega)]
    have := eat_text4 t s (p ++ [c]) (h + 1) hm hb (fun x hx => hc x (by simp [hx])) (by rw [cr_snoc]; simp [h13]) (by simp; omega) (by omega)
    rw [List.append_assoc, List.singleton_append, show h + 1 + t.length = h + (c :: t).length by simp; omega] at this
    exact this
theorem eat_line4 (t : Bs) (s : Dc) (hm : s.mode = 4) (hb : s.bad = 0) (hn : s.line = []) (hc : ∀ c ∈ t, c ≠ 13 ∧ c ≠ 10) (hl : t.length + 1 < s.L) (hh : s.head + t.length + 2 ≤ s.H) : Eats s (t ++ [13, 10]) (trailD { s with head := s.head + t.length + 2 } t) := by
  have e : s = { s with line := [], head := s.head } := by cases s; simp_all
  have h1 := eat_text4 t s [] s.head hm hb hc rfl (by simp; omega) (by omega)
  rw [← e, List.nil_append] at h1
  have hr : cr t = false := by
    unfold cr
    rw [decide_eq_false_iff_not]
    intro h
    exact (hc 13 (List.mem_of_getLast? h)).1 rfl
  refine h1.append (Eats.cons (stop_no _ (by simp only [hm]; decide) hb) ?_)
  rw [stepD_4 _ _ (by exact hm), addK_0 _ _ (by decide) (by exact hr) (by simp only; omega)]
  simp only
  rw [if_neg (by omega)]
  have h2 : Eats { addD { s with line := t, head := s.head + t.length } 13 with head := s.head + t.length + 1 } [10] _ := Eats.one (stop_no _ (by simp only [addD, hm]; decide) hb)
  rw [stepD_4 _ _ (by exact hm), addK_1 _ (by unfold addD; rw [cr_snoc]; rfl)] at h2
  simp only at h2
  rw [if_neg (by simp only [addD]; omega)] at h2
  have h3 : txt ({ addD { s with line := t, head := s.head + t.length } 13 with head := s.head + t.length + 1 } : Dc) = t := by unfold txt addD; simp
  simp only [h3] at h2
  have h4 : ({ addD { s with line := t, head := s.head + t.length } 13 with head := s.head + t.length + 1 + 1, line := [] } : Dc) = { s with head := s.head + t.length + 2 } := by unfold addD; simp [hn]
  rw [h4] at h2
  exact h2
theorem eat_data : ∀ (d : Bs) (s : Dc), s.mode = 1 → s.bad = 0 → s.left = d.length → d ≠ [] → Eats s d { s with body := s.body ++ d, left := 0, mode := 2 }
  | [], s, _, _, _, h => absurd rfl h
  | c :: t, s, hm, hb, hl, _ => by
    rw [List.length_cons] at hl
    refine Eats.cons (stop_no _ (by rw [hm]; decide) hb) ?_
    rw [stepD_1 _ _ hm]
    cases t with
    | nil =>
      rw [if_neg (by rw [hl]; simp)]
      have : s.left - 1 = 0 := by rw [hl]; rfl
      rw [this]
      exact Eats.nil _
    | cons a u =>
      rw [if_pos (by rw [hl]; simp)]
      have := eat_data (a :: u) { s with body := s.body ++ [c], left := s.left - 1 } hm hb (by simp only; omega) (by simp)
      simp only [List.append_assoc, List.singleton_append] at this
      exact this
theorem eat_chunk (d : Bs) (s : Dc) (hm : s.mode = 0) (hb : s.bad = 0) (hn : s.line = []) (hd : d ≠ []) (hz : d.length ≤ 9007199254740991) (hl : (hexL d.length).length + 1 < s.L) (hr : s.body.length + d.length ≤ s.M) :
    Eats s (hexL d.length ++ [13, 10] ++ d ++ [13, 10]) { s with body := s.body ++ d, left := 0 } := by
  have hd0 : 0 < d.length := List.length_pos_iff.2 hd
  have h1 := eat_line (hexL d.length) s hm hb hn (fun c hc => (hex_ne c (hexGo_mem _ 0 d.length (hexGo_F hexc hexD_c _ _ (Nat.le_refl _)) c hc)).2) hl
  have h2 : sizedD s (hexL d.length) = { s with mode := 1, left := d.length } := by
    unfold sizedD
    rw [sizeL_hex _ hz]
    simp only
    rw [if_pos trivial, if_neg (by omega), if_neg (by omega)]
  rw [h2] at h1
  have h3 := eat_data d { s with mode := 1, left := d.length } rfl hb rfl hd
  refine (h1.append h3).append (Eats.cons (stop_no _ (by simp) hb) ?_)
  rw [stepD_2 _ _ rfl, if_pos rfl]
  have h4 : Eats ({ s with mode := 3, left := 0, body := s.body ++ d } : Dc) [10] _ := Eats.one (stop_no _ (by simp) hb)
  rw [stepD_3 _ _ rfl, if_pos rfl] at h4
  have h5 : ({ s with mode := 0, left := 0, body := s.body ++ d } : Dc) = { s with body := s.body ++ d, left := 0 } := by cases s; simp_all
  rw [← h5]
  exact h4

/-- content in chunks of k bytes -/
def chunksL (k : Nat) (l : Bs) : Bs :=
  if h : l = [] ∨ k = 0 then [] else hexL (l.take k).length ++ [13, 10] ++ l.take k ++ [13, 10] ++ chunksL k (l.drop k)
termination_by l.length
decreasing_by
  simp only [not_or] at h
  have := List.length_pos_iff.2 h.1
  simp; omega
theorem chunksL_nil (k : Nat) : chunksL k [] = [] := by rw [chunksL]; simp
theorem chunksL_cons (k : Nat) (l : Bs) (hl : l ≠ []) (hk : k ≠ 0) : chunksL k l = hexL (l.take k).length ++ [13, 10] ++ l.take k ++ [13, 10] ++ chunksL k (l.drop k) := by
  rw [chunksL, dif_neg (by simp [hl, hk])]
theorem eat_chunks (k : Nat) (hk : k ≠ 0) : ∀ (n : Nat) (l : Bs) (s : Dc), l.length ≤ n → s.mode = 0 → s.bad = 0 → s.line = [] → s.left = 0 → l.length < 256 → 3 < s.L → s.body.length + l.length ≤ s.M →
    Eats s (chunksL k l) { s with body := s.body ++ l }
  | 0, l, s, h, hm, hb, hn, h0, hl, hL, hM => by
    have : l = [] := List.eq_nil_of_length_eq_zero (by omega)
    subst this
    rw [chunksL_nil, List.append_nil]; exact Eats.nil _
  | n + 1, l, s, h, hm, hb, hn, h0, hl, hL, hM => by
    by_cases he : l = []
    · subst he
      rw [chunksL_nil, List.append_nil]; exact Eats.nil _
    · have hp := List.length_pos_iff.2 he
      rw [chunksL_cons k l he hk]
      have htl : (l.take k).length + (l.drop k).length = l.length := by rw [← List.length_append, List.take_append_drop]
      have hd : l.take k ≠ [] := by simp [he, hk]
      have hdp := List.length_pos_iff.2 hd
      have hx := hexF_len hexc 1 (l.take k).length (by omega)
      have h1 := eat_chunk (l.take k) s hm hb hn hd (by omega) (by show (hexF hexc _).length + 1 < _; omega) (by omega)
      have h2 := eat_chunks k hk n (l.drop k) { s with body := s.body ++ l.take k, left := 0 } (by omega) hm hb hn rfl (by omega) hL (by simp only [List.length_append]; omega)
      have h3 : ({ s with body := s.body ++ l.take k ++ l.drop k, left := 0 } : Dc) = { s with body := s.body ++ l } := by rw [List.append_assoc, List.take_append_drop]; cases s; simp_all
      have h4 := h1.append h2
      rw [← h3]; exact h4

/-- what Encode writes of a body, of these lines of trailers -/
def encL (k : Nat) (body lines : Bs) : Bs := chunksL k body ++ [48, 13, 10] ++ lines ++ [13, 10]
def sumF1 : Bs := [83, 117, 109, 58, 32, 49]
/-- the roomy limits -/
def roomD : Dc := newD 200 1000 30 1000
theorem eat_enc (k : Nat) (body : Bs) (hk : k ≠ 0 ∨ body = []) (hb : body.length ≤ 200) :
    Eats roomD (encL k body (sumF1 ++ [13, 10])) { roomD with mode := 5, body := body, head := 10, trl := [([83, 117, 109], [49])] } := by
  have h1 : Eats roomD (chunksL k body) { roomD with body := body } := by
    rcases hk with hk | rfl
    · exact eat_chunks k hk body.length body roomD (Nat.le_refl _) rfl rfl rfl rfl (by omega) (by decide) (by show 0 + body.length ≤ 1000; omega)
    · rw [chunksL_nil]; exact Eats.nil _
  have h2 : Eats { roomD with body := body } [48, 13, 10] { roomD with body := body, mode := 4 } := by
    have := eat_line [48] { roomD with body := body } rfl rfl rfl (by simp) (by show [48].length + 1 < 200; decide)
    have e : sizedD { roomD with body := body } [48] = { roomD with body := body, mode := 4 } := by
      unfold sizedD
      rw [show sizeL [48] = (0, 0) by decide]
      simp
    rw [e] at this; exact this
  have h3 : Eats { roomD with body := body, mode := 4 } (sumF1 ++ [13, 10]) { roomD with body := body, mode := 4, head := 8, trl := [([83, 117, 109], [49])] } := by
    have := eat_line4 sumF1 { roomD with body := body, mode := 4 } rfl rfl rfl (by decide) (by show sumF1.length + 1 < 200; decide) (by show 0 + sumF1.length + 2 ≤ 1000; decide)
    have e : trailD { roomD with body := body, mode := 4, head := 0 + sumF1.length + 2 } sumF1 = { roomD with body := body, mode := 4, head := 8, trl := [([83, 117, 109], [49])] } := by
      unfold trailD
      rw [if_neg (by decide), if_pos (by decide), if_neg (by show ¬ 30 ≤ 0; decide)]
      rfl
    have this : Eats { roomD with body := body, mode := 4 } (sumF1 ++ [13, 10]) (trailD { roomD with body := body, mode := 4, head := 0 + sumF1.length + 2 } sumF1) := this
    rw [e] at this; exact this
  have h4 : Eats { roomD with body := body, mode := 4, head := 8, trl := [([83, 117, 109], [49])] } [13, 10] { roomD with mode := 5, body := body, head := 10, trl := [([83, 117, 109], [49])] } := by
    have := eat_line4 [] { roomD with body := body, mode := 4, head := 8, trl := [([83, 117, 109], [49])] } rfl rfl rfl (by simp) (by show 0 + 1 < 200; decide) (by show 8 + 0 + 2 ≤ 1000; decide)
    exact this
  exact ((h1.append h2).append h3).append h4
/-- however what was written is divided: no flaw, and at the end it is all there -/
theorem cut_enc (s fin : Dc) (enc behind : Bs) (h : Eats s enc fin) (hf : stopD fin = true) (hb : fin.bad = 0) (p q : Bs) (hpq : p ++ q = enc ++ behind) :
    (feedD s p).2.bad = 0 ∧ ((feedD s p).2.mode = 5 → (feedD s p) = (enc.length, fin)) ∧ (stopD (feedD s p).2 = true → (feedD s p) = (enc.length, fin)) ∧ (q = [] → (feedD s p) = (enc.length, fin)) := by
  have hall : feedD s (p ++ q) = (enc.length, fin) := by
    rw [hpq, feedD_append, h]
    simp only [feedD_stop fin behind hf, Nat.add_zero]
  have hA := feedD_append p s q
  rw [hall] at hA
  have hstop : stopD (feedD s p).2 = true → feedD s p = (enc.length, fin) := by
    intro hs
    rw [feedD_stop _ q hs] at hA
    simp only [Nat.add_zero] at hA
    exact hA.symm
  refine ⟨?_, ?_, hstop, ?_⟩
  · by_cases h0 : (feedD s p).2.bad = 0
    · exact h0
    · have := hstop (by simp [stopD, h0])
      rw [this]; exact hb
  · intro hm; exact hstop (by simp [stopD, hm])
  · intro hq
    subst hq
    rw [List.append_nil] at hall
    exact hall
end Tk
end Go.Proofs.YtdlbmfgajgefdaaDoor
namespace Go.Proofs.YtdlbmfgajgefdaaDoor
namespace Tk

/-- the first line of a message, its error -/
def flS (M T : Bs) (s : Int) (R : Bs) (mi : Int) : Bs := if M = [] then (if T = [] then slS mi s R else []) else if s = 0 ∧ R = [] then rlS M T mi else []
def flE (M T : Bs) (s : Int) (R : Bs) (mi : Int) : Int := if M = [] then (if T = [] then slE mi s R else 4) else if s = 0 ∧ R = [] then rlE M T mi else 4
/-- a field says where the content ends -/
def endB (l : List (Bs × Bs)) : Bool := hasF l nmCL || hasF l nmTE
/-- the error of Check -/
def hdE (M T : Bs) (s : Int) (R : Bs) (mi : Int) (l tl : List (Bs × Bs)) : Int := if flE M T s R mi = 0 ∧ okFs l = true ∧ okFs tl = true then (if endB l = true then 6 else 0) else 4
/-- first line and fields -/
def hdS (M T : Bs) (s : Int) (R : Bs) (mi : Int) (l : List (Bs × Bs)) : Bs := flS M T s R mi ++ [13, 10] ++ linesF l
def lnL (n : Nat) : Bs := nmCL ++ [58, 32] ++ digL n ++ [13, 10]
def teL : Bs := nmTE ++ [58, 32] ++ chkB ++ [13, 10]
def poB : Bs := [80, 79, 83, 84]
def puB : Bs := [80, 85, 84]
def paB : Bs := [80, 65, 84, 67, 72]
def heB : Bs := [72, 69, 65, 68]
def hasC (M : Bs) : Bool := decide (M = poB) || decide (M = puB) || decide (M = paB)
def rqE (M : Bs) (e : Int) : Int := if e = 0 then (if M = [] then 4 else 0) else e
def rqS (M : Bs) (e : Int) (h B : Bs) : Bs := if rqE M e = 0 then h ++ (if B ≠ [] ∨ hasC M = true then lnL B.length else []) ++ [13, 10] ++ B else []
def anE (M : Bs) (e : Int) : Int := if e = 0 then (if M = [] then 0 else 4) else e
def anS (M : Bs) (e : Int) (h B : Bs) (s : Int) (meth : Bs) : Bs := if anE M e = 0 then h ++ (if bareB [] s = true then [] else if meth = heB ∧ B = [] then [] else lnL B.length) ++ [13, 10] ++ (if bareB [] s = true ∨ meth = heB then [] else B) else []
def ckE (mi : Int) (e : Int) (s : Int) : Int := if e = 0 then (if mi = 0 ∨ bareB [] s = true then 4 else 0) else e
def ckS (mi : Int) (e : Int) (h B : Bs) (s size : Int) (tl : List (Bs × Bs)) : Bs := if ckE mi e s = 0 then h ++ teL ++ [13, 10] ++ encL (if size < 1 then B.length else size.toNat) B (linesF tl) else []

theorem flE_two (M T : Bs) (s : Int) (R : Bs) (mi : Int) : (flE M T s R mi = 0) ∨ (flE M T s R mi = 4 ∧ flS M T s R mi = []) := by
  unfold flE flS slE slS rlE rlS
  split <;> split <;> (try split) <;> simp
theorem hdE_three (M T : Bs) (s : Int) (R : Bs) (mi : Int) (l tl : List (Bs × Bs)) : hdE M T s R mi l tl = 0 ∨ hdE M T s R mi l tl = 4 ∨ hdE M T s R mi l tl = 6 := by
  unfold hdE
  split
  · split <;> simp
  · simp
end Tk
end Go.Proofs.YtdlbmfgajgefdaaDoor
namespace Go.Proofs.YtdlbmfgajgefdaaDoor
open Go.RowKit
namespace Tk

def HasN (w : World) (g : Nat) (name : Bs) : Prop := w.cell? ⟨g, 0, none⟩ = some (.string (mkS name))
theorem HasN.lt {w : World} {g : Nat} {name : Bs} (h : HasN w g name) : g < w.heap.size := cell_lt (p := ⟨g, 0, none⟩) h
theorem HasN.later {w w' : World} {g : Nat} {name : Bs} (h : HasN w g name) (hb : Below w.heap.size w w') : HasN w' g name := (hb.cell (p := ⟨g, 0, none⟩) h.lt).trans h

/-- where the first field of this name is, or -1 -/
def idxF (name : Bs) (l : List (Bs × Bs)) : Int := if l.findIdx (isN name) < l.length then (l.findIdx (isN name) : Int) else -1
theorem idxF_hit (name : Bs) (l : List (Bs × Bs)) (i : Nat) (hi : i < l.length) (h1 : ∀ f ∈ l.take i, isN name f = false) (h2 : isN name (l.getD i ([], [])) = true) : l.findIdx (isN name) = i := by
  rw [List.findIdx_eq hi]
  refine ⟨by simpa [List.getD, hi] using h2, fun j hj => ?_⟩
  refine h1 _ ?_
  rw [List.mem_take_iff_getElem]
  exact ⟨j, by omega, rfl⟩
theorem idxF_no (name : Bs) (l : List (Bs × Bs)) (h1 : ∀ f ∈ l, isN name f = false) : l.findIdx (isN name) = l.length := by
  rw [List.findIdx_eq_length]; exact h1

end Tk
end Go.Proofs.YtdlbmfgajgefdaaDoor
namespace Go.Proofs.YtdlbmfgajgefdaaDoor
open Go.RowKit
namespace Tk

def fcells (l : List (Bs × Bs)) : List Value := l.flatMap fun f => [.string (mkS f.1), .string (mkS f.2)]
theorem fcells_len : ∀ l, (fcells l).length = l.length * 2
  | [] => rfl
  | f :: t => by
    have := fcells_len t
    unfold fcells at *
    rw [List.flatMap_cons, List.length_append, this]; simp; omega
theorem fcells_app (a b : List (Bs × Bs)) : fcells (a ++ b) = fcells a ++ fcells b := by simp [fcells]
theorem fcells_at : ∀ (l : List (Bs × Bs)) (j : Nat) (u : Value), (fcells l)[j]? = some u → ∃ i f, l[i]? = some f ∧ ((j = i * 2 ∧ u = .string (mkS f.1)) ∨ (j = i * 2 + 1 ∧ u = .string (mkS f.2)))
  | [], j, u, h => by simp [fcells] at h
  | f :: t, 0, u, h => by
    simp [fcells] at h
    exact ⟨0, f, rfl, .inl ⟨rfl, h.symm⟩⟩
  | f :: t, 1, u, h => by
    simp [fcells] at h
    exact ⟨0, f, rfl, .inr ⟨rfl, h.symm⟩⟩
  | f :: t, j + 2, u, h => by
    have h2 : (fcells t)[j]? = some u := by
      unfold fcells at *
      rw [List.flatMap_cons] at h
      simpa using h
    obtain ⟨i, g, hg, hj⟩ := fcells_at t j u h2
    refine ⟨i + 1, g, by simpa using hg, ?_⟩
    rcases hj with ⟨hj, hu⟩ | ⟨hj, hu⟩
    · exact .inl ⟨by omega, hu⟩
    · exact .inr ⟨by omega, hu⟩
theorem fcells_get : ∀ (l : List (Bs × Bs)) (j : Nat) (f : Bs × Bs), l[j]? = some f → (fcells l)[j * 2]? = some (.string (mkS f.1)) ∧ (fcells l)[j * 2 + 1]? = some (.string (mkS f.2))
  | [], j, f, h => by simp at h
  | g :: t, 0, f, h => by
    simp at h; subst h
    exact ⟨by simp [fcells], by simp [fcells]⟩
  | g :: t, j + 1, f, h => by
    have := fcells_get t j f (by simpa using h)
    unfold fcells at *
    rw [List.flatMap_cons, show (j + 1) * 2 = j * 2 + 2 by omega]
    constructor
    · simpa using this.1
    · simpa using this.2
theorem fcells_one (l : List (Bs × Bs)) : ∀ u ∈ fcells l, u.oneCell' = true := by
  intro u hu
  unfold fcells at hu
  rw [List.mem_flatMap] at hu
  obtain ⟨f, -, hf⟩ := hu
  simp at hf
  rcases hf with rfl | rfl <;> rfl

theorem fldInfo : (Tryd.prog.info? 24).map (fun i => (i.zero, i.size, i.bytes)) = some (some (.agg #[.string .empty, .string .empty]), 2, 32) := by kernel_rfl

theorem below_of_grownF {a b : World} {B : Nat} {v : Value} {n : Nat} {xs : List Value} {e : TypeId} (h : a.grownBy b v.ownBlock) (ho : a.ownsRow B e 2 v n xs) (hB : B ≤ a.heap.size) : Below B a b :=
  (Below.refl B a).grown h hB fun k hk => (ho.lt k hk).1

set_option maxRecDepth 100000 in
theorem joinF_run (w : World) (o : Oper) (a : Act) (K : Act → World → Prop) (Q : Exit → Act → World → Prop) (s x : Operand)
    (ho : o.op = .call { callee := .builtin .append, args := #[s, x], argTypes := #[25, 25] })
    (base : Nat) (v v2 : Value) (P R : List (Bs × Bs)) (hs : a.eval s = v) (hx : a.eval x = v2) (h1 : w.ownsRow base 24 2 v P.length (fcells P)) (h2 : IsFlds w v2 R) (hnl : ∀ n c, v2 = .slice none n c → c = 0)
    (hB : base ≤ w.heap.size) (hP : P.length ≤ 1048576) (hR : R.length ≤ 1048576)
    (h : ∀ v' w', w'.ownsRow base 24 2 v' (P ++ R).length (fcells (P ++ R)) → w.grownBy w' v.ownBlock → K (a.put o.dst v') w') : o.wp Tryd.prog a w K Q := by
  obtain ⟨i0, hi, hz0, hz1, hz2⟩ := info_parts fldInfo
  obtain ⟨ad, cap, rfl, hcap, hc⟩ := h2
  rcases ad with _ | ad
  · have hR0 : R = [] := by
      cases R with
      | nil => rfl
      | cons f t => obtain ⟨b, o, e, -⟩ := hc 0 f rfl; cases e
    subst hR0
    have hcap0 := hnl _ _ rfl
    subst hcap0
    have hrun := run_append_owned_none (P := Tryd.prog) (w := w) base 25 o.type 24 i0 2 Tryd.underlying25 hi v P.length (fcells P) h1
    unfold Oper.wp
    simp only [List.length_nil] at hx
    simp [execOp, ho, resolve, invoke, builtin, hs, hx, hrun, Result.andThen]
    exact h v w (by simpa using h1) ⟨rfl, rfl, rfl, Nat.le_refl _, fun _ _ _ => rfl⟩
  · refine wp_append_own (P := Tryd.prog) w s x 25 ho base 24 i0 (.agg #[.string .empty, .string .empty]) 2 32 Tryd.underlying25 hi hz0 hz1 hz2 rfl (by decide) v P.length (fcells P) hs h1 ad R.length cap (fcells R) hx (fcells_len R)
      (fun j u hj => ?_) (fcells_one R) (by unfold maxLen; omega) (by omega) hB ?_
    · obtain ⟨i, f, hf, hju⟩ := fcells_at R j u hj
      obtain ⟨b, o, e, g0, g1⟩ := hc i f hf
      injection e with e
      subst e
      rw [Go.WideShapes.add_plain]
      rcases hju with ⟨rfl, rfl⟩ | ⟨rfl, rfl⟩
      · exact g0
      · rw [← Nat.add_assoc]; exact g1
    · intro v' w' ho' hg' _
      refine h v' w' ?_ hg'
      rw [List.length_append, fcells_app]
      exact ho'

theorem joinF_guarded {ops : Array Oper} {rest : List Oper} {w : World} {o : Oper} {a : Act} {Q : Exit → Act → World → Prop} (hw : Region.wanted o (yielded ops a.tmps) = true) (s x : Operand)
    (ho : o.op = .call { callee := .builtin .append, args := #[s, x], argTypes := #[25, 25] })
    (base : Nat) (v v2 : Value) (P R : List (Bs × Bs)) (hs : a.eval s = v) (hx : a.eval x = v2) (h1 : w.ownsRow base 24 2 v P.length (fcells P)) (h2 : IsFlds w v2 R) (hnl : ∀ n c, v2 = .slice none n c → c = 0)
    (hB : base ≤ w.heap.size) (hP : P.length ≤ 1048576) (hR : R.length ≤ 1048576)
    (h : ∀ v' w', w'.ownsRow base 24 2 v' (P ++ R).length (fcells (P ++ R)) → w.grownBy w' v.ownBlock → wpList Tryd.prog ops Q rest (a.put o.dst v') w') : wpList Tryd.prog ops Q (o :: rest) a w :=
  BigFrame.wpList_want hw fun K hK => joinF_run w o a K Q s x ho base v v2 P R hs hx h1 h2 hnl hB hP hR fun v' w' a b => hK _ _ (h v' w' a b)

theorem isFlds_own {w : World} {base : Nat} {v : Value} {l : List (Bs × Bs)} (h : w.ownsRow base 24 2 v l.length (fcells l)) : IsFlds w v l := by
  rcases h.2 with ⟨hv, hn⟩ | ⟨g, cap, cur, hv, hb, hg, hcap, -⟩
  · exact ⟨none, 0, by rw [hv, hn], by omega, fun j t hj => by simp [List.eq_nil_of_length_eq_zero hn] at hj⟩
  · refine ⟨some ⟨g, 0, none⟩, cap, hv, hcap, fun j f hj => ⟨g, 0, rfl, ?_, ?_⟩⟩
    · have := h.cells (g := g) (by rw [hv]; rfl) (j * 2) (.string (mkS f.1)) (fcells_get l j f hj).1
      rw [Go.WideShapes.add_plain] at this
      exact this
    · have := h.cells (g := g) (by rw [hv]; rfl) (j * 2 + 1) (.string (mkS f.2)) (fcells_get l j f hj).2
      rw [Go.WideShapes.add_plain, ← Nat.add_assoc] at this
      exact this

end Tk
end Go.Proofs.YtdlbmfgajgefdaaDoor
namespace Go.Proofs.YtdlbmfgajgefdaaDoor
open Go.RowKit
namespace Tk

theorem fcells_put : ∀ (a : List (Bs × Bs)) (f : Bs × Bs) (b : List (Bs × Bs)) (n x : Bs), ((fcells (a ++ f :: b)).set (a.length * 2) (.string (mkS n))).set (a.length * 2 + 1) (.string (mkS x)) = fcells (a ++ (n, x) :: b)
  | [], f, b, n, x => by simp [fcells]
  | g :: a, f, b, n, x => by
    have := fcells_put a f b n x
    unfold fcells at *
    rw [List.cons_append, List.cons_append, List.flatMap_cons, List.flatMap_cons, List.length_cons, show (a.length + 1) * 2 = a.length * 2 + 2 by omega]
    simpa using this
theorem fcells_mid (a : List (Bs × Bs)) (f : Bs × Bs) (b : List (Bs × Bs)) : (fcells (a ++ f :: b))[a.length * 2]? = some (.string (mkS f.1)) ∧ (fcells (a ++ f :: b))[a.length * 2 + 1]? = some (.string (mkS f.2)) :=
  fcells_get _ _ _ (by simp)
theorem made_fcells (n : Nat) : (madeCells #[Value.string .empty, Value.string .empty] (n * 2)).toList = fcells (List.replicate n ([], [])) := by
  apply List.ext_getElem?
  intro j
  by_cases hj : j < n * 2
  · have hl : (madeCells #[Value.string .empty, Value.string .empty] (n * 2)).toList[j]? = some (.string (mkS [])) := by
      rcases Nat.mod_two_eq_zero_or_one j with h | h <;> simp [madeCells, hj, h] <;> rfl
    rw [hl]
    rcases Nat.mod_two_eq_zero_or_one j with h | h
    · obtain ⟨t, rfl⟩ : ∃ t, j = t * 2 := ⟨j / 2, by omega⟩
      exact (fcells_get (List.replicate n ([], [])) t ([], []) (by rw [List.getElem?_replicate, if_pos (by omega)])).1.symm
    · obtain ⟨t, rfl⟩ : ∃ t, j = t * 2 + 1 := ⟨j / 2, by omega⟩
      exact (fcells_get (List.replicate n ([], [])) t ([], []) (by rw [List.getElem?_replicate, if_pos (by omega)])).2.symm
  · rw [List.getElem?_eq_none (by simp [madeCells]; omega), List.getElem?_eq_none (by rw [fcells_len]; simp; omega)]

theorem own_keep2f {w w' : World} {B : Nat} {v : Value} {n : Nat} {xs : List Value} {e : TypeId} (h : w.ownsRow B e 2 v n xs) (hb : Below w.heap.size w w') : w'.ownsRow B e 2 v n xs :=
  World.ownsRow.kept h (row := none) ⟨hb.os, hb.tape, hb.output, hb.size, fun k hk _ => hb.block k hk⟩ (by cases h : v.ownBlock <;> simp)
theorem own_put2 {w : World} {B g cap n : Nat} {a b : List (Bs × Bs)} {f : Bs × Bs} (h : w.ownsRow B 24 2 (.slice (some ⟨g, 0, none⟩) n cap) n (fcells (a ++ f :: b))) (s x : Bs) :
    ((w.setCell ⟨g, a.length * 2, none⟩ (.string (mkS s))).setCell ⟨g, a.length * 2 + 1, none⟩ (.string (mkS x))).ownsRow B 24 2 (.slice (some ⟨g, 0, none⟩) n cap) n (fcells (a ++ (s, x) :: b)) := by
  have h1 := (h.stored (a.length * 2) (.string (mkS s))).1
  have h2 := (h1.stored (a.length * 2 + 1) (.string (mkS x))).1
  rw [fcells_put] at h2
  exact h2

def OwnPost (l : List (Bs × Bs)) (w : World) (e : Ending) (w' : World) : Prop :=
  ∃ v', e = .returned v' ∧ w'.ownsRow w.heap.size 24 2 v' l.length (fcells l) ∧ Below w.heap.size w w'

end Tk
end Go.Proofs.YtdlbmfgajgefdaaDoor
namespace Go.Proofs.YtdlbmfgajgefdaaDoor
open Go.RowKit
namespace Tk

theorem isFlds_nil_cap {w : World} {v : Value} {B n : Nat} {xs : List Value} {e : TypeId} (h : w.ownsRow B e 2 v n xs) : ∀ m c, v = .slice none m c → c = 0 := by
  rintro m c rfl
  rcases h.2 with ⟨hv, -⟩ | ⟨g, cap, cur, hv, _⟩
  · injection hv
  · injection hv with e1; cases e1

/-- the cells that clear writes into n fields -/
def zeros2 (n : Nat) : List Value := (Builtin.zeroCells #[.string .empty, .string .empty] n).toList
theorem zeros2_len (n : Nat) : (zeros2 n).length = n * 2 := by simp [zeros2, Builtin.zeroCells]
theorem zeros2_one (n : Nat) : ∀ u ∈ zeros2 n, u.oneCell' = true := by
  intro u hu
  simp [zeros2, Builtin.zeroCells] at hu
  obtain ⟨j, -, rfl⟩ := hu
  rcases Nat.mod_two_eq_zero_or_one j with h | h <;> simp [h] <;> rfl
theorem run_clear2 (w : World) (ty : TypeId) (b o n c : Nat) (hn : 0 < n) (hc : ∀ j, j < n * 2 → (w.cell? ⟨b, o + j, none⟩).isSome = true) (hf : ∀ j, j < n * 2 → w.frozen? ⟨b, o + j, none⟩ = false) :
    (Builtin.clear_ #[25] ty #[.slice (some ⟨b, o, none⟩) n c]).run Tryd.prog w = .ok (.tuple #[]) (w.setCells b o (zeros2 n)) := by
  have hst := run_storeCells_cells (P := Tryd.prog) b o (zeros2 n) 0 w (by rw [zeros2_len]; simpa using hc) (by rw [zeros2_len]; simpa using hf) (zeros2_one n)
  simp only [Nat.add_zero] at hst
  obtain ⟨m, rfl⟩ : ∃ m, n = m + 1 := ⟨n - 1, by omega⟩
  have hst2 : (storeCells ⟨b, o, none⟩ (Builtin.zeroCells (Value.agg #[Value.string ⟨#[]⟩, Value.string ⟨#[]⟩]).cells (m + 1)).toList).run Tryd.prog w = .ok () (w.setCells b o (zeros2 (m + 1))) := hst
  simp [Builtin.clear_, run_underlying Tryd.underlying25]
  rw [hst2]
  rfl
theorem below_setC {B b : Nat} {a : World} (hb : B ≤ b) : ∀ (vs : List Value) (o : Nat) (w : World), Below B a w → Below B a (w.setCells b o vs)
  | [], _, _, h => h
  | v :: vs, o, _, h => below_setC hb vs (o + 1) _ (h.setCell (p := ⟨b, o, none⟩) hb v)
end Tk
end Go.Proofs.YtdlbmfgajgefdaaDoor
namespace Go.Proofs.YtdlbmfgajgefdaaDoor
open Go.RowKit
namespace Tk

/-- the fields of other names -/
def delF (name : Bs) (l : List (Bs × Bs)) : List (Bs × Bs) := l.filter fun f => !isN name f
theorem delF_snoc (name : Bs) (l : List (Bs × Bs)) (f : Bs × Bs) : delF name (l ++ [f]) = delF name l ++ (if isN name f then [] else [f]) := by
  unfold delF
  cases h : isN name f <;> simp [h]
theorem delF_all (name : Bs) (l : List (Bs × Bs)) (h : ∀ f ∈ l, isN name f = false) : delF name l = l := by
  unfold delF
  rw [List.filter_eq_self]
  intro f hf
  rw [h f hf]; rfl
theorem delF_len (name : Bs) (l : List (Bs × Bs)) : (delF name l).length ≤ l.length := List.length_filter_le _ _
theorem find_hit (name : Bs) (l : List (Bs × Bs)) (h : l.findIdx (isN name) < l.length) : isN name (l.getD (l.findIdx (isN name)) ([], [])) = true := by
  have := List.findIdx_getElem (w := h)
  simpa [List.getD, h] using this
theorem find_before (name : Bs) (l : List (Bs × Bs)) : ∀ f ∈ l.take (l.findIdx (isN name)), isN name f = false := by
  intro f hf
  rw [List.mem_take_iff_getElem] at hf
  obtain ⟨j, hj, rfl⟩ := hf
  have := List.not_of_lt_findIdx (p := isN name) (xs := l) (i := j) (by omega)
  simpa using this
theorem find_none (name : Bs) (l : List (Bs × Bs)) (h : ¬ l.findIdx (isN name) < l.length) : ∀ f ∈ l, isN name f = false := by
  have : l.findIdx (isN name) = l.length := by
    have := List.findIdx_le_length (p := isN name) (xs := l); omega
  rwa [List.findIdx_eq_length] at this

/-- what DeleteFunc has done when it has gone through j fields and kept i -/
def Half (wr : World) (B gr cap : Nat) (name : Bs) (l : List (Bs × Bs)) (i j : Nat) : Prop :=
  ∃ K R : List (Bs × Bs), K = delF name (l.take j) ∧ K.length = i ∧ R.length = j - i ∧ wr.ownsRow B 24 2 (.slice (some ⟨gr, 0, none⟩) l.length cap) l.length (fcells (K ++ R ++ l.drop j))

def DelPost (B : Nat) (name : Bs) (l : List (Bs × Bs)) (w : World) (e : Ending) (w' : World) : Prop :=
  ∃ v', e = .returned v' ∧ IsFlds w' v' (delF name l) ∧ Below B w w'

end Tk
end Go.Proofs.YtdlbmfgajgefdaaDoor
namespace Go.Proofs.YtdlbmfgajgefdaaDoor
open Go.RowKit
namespace Tk

theorem own_base {w : World} {B B2 n : Nat} {v : Value} {xs : List Value} {e : TypeId} (h : w.ownsRow B e 2 v n xs) (hb : B2 ≤ B) : w.ownsRow B2 e 2 v n xs := by
  refine ⟨h.1, ?_⟩
  rcases h.2 with h2 | ⟨g, cap, cur, hv, hge, h2⟩
  · exact .inl h2
  · exact .inr ⟨g, cap, cur, hv, Nat.le_trans hb hge, h2⟩
theorem ownBlock_lt {w : World} {B n : Nat} {v : Value} {xs : List Value} {e : TypeId} (h : w.ownsRow B e 2 v n xs) : v.ownBlock ≠ some w.heap.size := by
  intro hh
  have := (h.lt _ hh).2
  omega

end Tk
end Go.Proofs.YtdlbmfgajgefdaaDoor
namespace Go.Proofs.YtdlbmfgajgefdaaDoor
open Go.RowKit
namespace Tk

theorem noStand : Tryd.prog.stoodInHeld 24 = false := by kernel_rfl
theorem field_eql (W : World) (a b c d : ByteArray) : (binOp .eql 24 (.agg #[.string a, .string b]) (.agg #[.string c, .string d])).run Tryd.prog W = .ok (.bool (a.toList == c.toList && b.toList == d.toList)) W := by
  rw [run_eql_struct, run_equalIn_agg _ _ _ _ _ (by simp [Program.fieldsOf, Tryd.underlying24]) noStand]
  simp [Program.fieldsOf, Tryd.underlying24, Op.eqFields, go_sem]
  by_cases h1 : a.toList = c.toList <;> by_cases h2 : b.toList = d.toList <;> simp [h1, h2]

/-- may the fields be gone through: so many bytes together -/
def lfGo (b : Nat) : Nat → List (Bs × Bs) → Bool
  | _, [] => true
  | n, f :: t => if b < n + f.1.length + f.2.length then false else lfGo b (n + f.1.length + f.2.length) t
def lightF (l : List (Bs × Bs)) : Bool := decide (l.length ≤ 30) && lfGo 600 0 l
theorem lfGo_sum (b : Nat) : ∀ (l : List (Bs × Bs)) (n : Nat), n ≤ b → lfGo b n l = true → n + sumF l ≤ b + 4 * l.length
  | [], n, hn, _ => by simp [sumF]; exact hn
  | f :: t, n, hn, h => by
    unfold lfGo at h
    split at h
    · cases h
    · have := lfGo_sum b t (n + f.1.length + f.2.length) (by omega) h
      unfold sumF; simp only [List.length_cons]; omega
theorem lightF_parts (l : List (Bs × Bs)) (h : lightF l = true) : l.length ≤ 30 ∧ sumF l ≤ 720 := by
  unfold lightF at h
  rw [Bool.and_eq_true, decide_eq_true_eq] at h
  have := lfGo_sum 600 l 0 (by omega) h.2
  exact ⟨h.1, by omega⟩

theorem ex_line1 : lnN [65, 58, 32, 32, 98, 32] = [65] ∧ lnV [65, 58, 32, 32, 98, 32] = [98] ∧ lnE [65, 58, 32, 32, 98, 32] = 0 := by decide +kernel
theorem ex_line2 : lnN [65, 32, 58, 32, 98] = [] ∧ lnV [65, 32, 58, 32, 98] = [] ∧ lnE [65, 32, 58, 32, 98] = 4 := by decide +kernel
def Yes2 (w : World) (r : Ending) (w' : World) : Prop := r = .returned (.bool true) ∧ Below w.heap.size w w'

end Tk
end Go.Proofs.YtdlbmfgajgefdaaDoor
namespace Go.Proofs.YtdlbmfgajgefdaaDoor
open Go.RowKit
namespace Tk

def setF (name x : Bs) (l : List (Bs × Bs)) : List (Bs × Bs) :=
  if l.findIdx (isN name) < l.length then l.take (l.findIdx (isN name)) ++ ((l.getD (l.findIdx (isN name)) ([], [])).1, x) :: delF name (l.drop (l.findIdx (isN name) + 1))
  else l ++ [(name, x)]

theorem isFlds_one2 {w : World} {b o c : Nat} {n x : Bs} (hc : 1 ≤ c) (h0 : w.cell? ⟨b, o, none⟩ = some (.string (mkS n))) (h1 : w.cell? ⟨b, o + 1, none⟩ = some (.string (mkS x))) : IsFlds w (.slice (some ⟨b, o, none⟩) 1 c) [(n, x)] := by
  refine ⟨_, c, rfl, hc, fun j f hj => ⟨b, o, rfl, ?_⟩⟩
  match j, hj with
  | 0, hj => simp at hj; subst hj; exact ⟨by simpa using h0, by simpa using h1⟩
theorem isFlds_lit (w : World) (n x : Bs) : IsFlds (w.alloc (Obj.cells #[.string (mkS n), .string (mkS x)] 24)) (.slice (some ⟨w.heap.size, 0, none⟩) 1 1) [(n, x)] := by
  have hN := Two.new w 24 (.string (mkS n)) (.string (mkS x))
  exact isFlds_one2 (b := w.heap.size) (o := 0) (c := 1) (n := n) (x := x) (Nat.le_refl _) hN.c0 hN.c1

/-- a part of a list of fields in memory -/
theorem isFlds_take {w : World} {b o c n : Nat} {l : List (Bs × Bs)} (h : IsFlds w (.slice (some ⟨b, o, none⟩) n c) l) (i : Nat) (hi : i ≤ l.length) : IsFlds w (.slice (some ⟨b, o, none⟩) i c) (l.take i) := by
  obtain ⟨a', c', e', hcap, hc⟩ := h
  injection e' with e1 e3 e2
  subst e1 e2 e3
  have hl : (l.take i).length = i := by simp; omega
  refine ⟨some ⟨b, o, none⟩, c, by rw [hl], by rw [hl]; omega, fun j f hj => ?_⟩
  have hji : j < i := by
    have := (List.getElem?_eq_some_iff.1 hj).1
    rw [hl] at this; exact this
  rw [List.getElem?_take, if_pos hji] at hj
  exact hc j f hj
theorem isFlds_drop {w : World} {b o c n : Nat} {l : List (Bs × Bs)} (h : IsFlds w (.slice (some ⟨b, o, none⟩) n c) l) (i : Nat) (hi : i ≤ l.length) : IsFlds w (.slice (some ⟨b, o + i * 2, none⟩) (l.length - i) (c - i)) (l.drop i) := by
  obtain ⟨a', c', e', hcap, hc⟩ := h
  injection e' with e1 e3 e2
  subst e1 e2 e3
  have hl : (l.drop i).length = l.length - i := by simp
  refine ⟨some ⟨b, o + i * 2, none⟩, c - i, by rw [hl], by rw [hl]; omega, fun j f hj => ?_⟩
  rw [List.getElem?_drop] at hj
  obtain ⟨b', o', e, h0, h1⟩ := hc (i + j) f hj
  injection e with e
  injection e with e1 e2
  subst e1 e2
  exact ⟨b, o + i * 2, rfl, by rw [← h0]; congr 2; omega, by rw [← h1]; congr 2; omega⟩

theorem step_joinF {ops : Array Oper} {w w0 : World} {o : Oper} {a : Act} {K : Act → World → Prop} {Q : Exit → Act → World → Prop} {E : Prop} (hgd : o.guard = none) (s x : Operand)
    (ho : o.op = .call { callee := .builtin .append, args := #[s, x], argTypes := #[25, 25] })
    (base : Nat) (v v2 : Value) (P R : List (Bs × Bs)) (hs : a.eval s = v) (hx : a.eval x = v2) (h1 : w.ownsRow base 24 2 v P.length (fcells P)) (h2 : IsFlds w v2 R) (hnl : ∀ n c, v2 = .slice none n c → c = 0)
    (hB : base ≤ w.heap.size) (hP : P.length ≤ 1048576) (hR : R.length ≤ 1048576) (p : Addr) (u : Value) (_hp : p.block < base) (hcell : ∀ W, Below base w0 W → W.cell? p = some u) (hb : Below base w0 w)
    (h : ∀ v' w', w'.ownsRow base 24 2 v' (P ++ R).length (fcells (P ++ R)) → Below base w0 w' → w'.cell? p = some u → K (a.put o.dst v') w') :
    if Region.wanted o (yielded ops a.tmps) = true then Oper.wp Tryd.prog o a w K Q else E := by
  have hw : Region.wanted o (yielded ops a.tmps) = true := by simp [Region.wanted, hgd]
  rw [if_pos hw]
  refine joinF_run w o a K Q s x ho base v v2 P R hs hx h1 h2 hnl hB hP hR fun v' w' h3 h4 => ?_
  have hb2 := hb.trans (below_of_grownF h4 h1 hB)
  exact h v' w' h3 hb2 (hcell _ hb2)

end Tk
end Go.Proofs.YtdlbmfgajgefdaaDoor
namespace Go.Proofs.YtdlbmfgajgefdaaDoor
open Go.RowKit
namespace Tk

set_option maxHeartbeats 4000000 in
set_option maxRecDepth 100000 in
theorem join_none (c : Nat) (a : Option Addr) (sep : ByteArray) (w : World) :
    Calls Tryd.prog 78 #[.slice a 0 c, .string sep] w fun e w' => e = .returned (.string ⟨#[]⟩) ∧ Below w.heap.size w w' := by
  go_enter Tryd.func78, Tryd.ntmps78
  go_wp2_with fail
  go_ret
  exact ⟨rfl, Below.refl _ _⟩

set_option maxHeartbeats 4000000 in
set_option maxRecDepth 100000 in
theorem join_one (g c : Nat) (s sep : ByteArray) (w : World) (h : w.cell? ⟨g, 0, none⟩ = some (.string s)) :
    Calls Tryd.prog 78 #[.slice (some ⟨g, 0, none⟩) 1 c, .string sep] w fun e w' => e = .returned (.string s) ∧ Below w.heap.size w w' := by
  go_enter Tryd.func78, Tryd.ntmps78
  go_wp2_with fail
  go_ret
  exact ⟨rfl, Below.refl _ _⟩

/-- what Get tells of at most one value -/
def getS : List Bs → Bs
  | [x] => x
  | _ => []

set_option maxHeartbeats 4000000 in
set_option maxRecDepth 100000 in
theorem fget_one (v : Value) (l : List (Bs × Bs)) (name : Bs) (w : World) (hs : IsFlds w v l) (hz : ∀ f ∈ l, f.1.length ≤ 1099511627776 ∧ f.2.length ≤ 1099511627776) (hn : name.length ≤ 1099511627776) (hl : l.length ≤ 1048576)
    (h1 : (allF l name).length ≤ 1) :
    Calls Tryd.prog 60 #[v, .string (mkS name)] w fun e w' => e = .returned (.tuple #[.string (mkS (getS (allF l name))), .bool (decide (0 < (allF l name).length))]) ∧ Below w.heap.size w w' := by
  have HA := Lib.hid (fall_any v l name w hs hz hn hl)
  unfold ListPost at HA
  obtain ⟨a, cap, rfl⟩ : ∃ a cap, v = .slice a l.length cap := by obtain ⟨a, c, h, -⟩ := hs; exact ⟨a, c, h⟩
  clear hs hz
  generalize allF l name = P at *
  go_enter Tryd.func60, Tryd.ntmps60
  go_wp2_with fail
  refine HA.out.mono ?_
  rintro e w1 ⟨v1, rfl, ho, hb⟩
  have HB := Lib.hid hb
  rcases P with _ | ⟨x, P⟩
  · obtain ⟨a1, c1, rfl⟩ : ∃ a c, v1 = .slice a 0 c := by
      rcases ho.2 with ⟨hv, hn⟩ | ⟨g, cap, cur, hv, _⟩
      · exact ⟨none, 0, hv⟩
      · exact ⟨_, _, hv⟩
    clear ho hb
    go_wp2_with fail
    refine (join_none c1 a1 _ w1).mono ?_
    rintro e w2 ⟨rfl, hb⟩
    have HB2 := Lib.hid (HB.out.trans (hb.mono HB.out.size))
    clear hb
    go_wp2_with fail
    go_ret2
    exact ⟨rfl, HB2.out⟩
  · have hP : P = [] := by
      simp at h1
      exact h1
    subst hP
    obtain ⟨g, c1, rfl⟩ : ∃ g c, v1 = .slice (some ⟨g, 0, none⟩) 1 c := by
      rcases ho.2 with ⟨hv, hn⟩ | ⟨g, cap, cur, hv, _⟩
      · simp at hn
      · exact ⟨_, _, hv⟩
    have hc : w1.cell? ⟨g, 0, none⟩ = some (.string (mkS x)) := ho.cellAt 0 (by decide)
    clear ho hb
    go_wp2_with fail
    refine (join_one g c1 _ _ w1 hc).mono ?_
    rintro e w2 ⟨rfl, hb⟩
    have HB2 := Lib.hid (HB.out.trans (hb.mono HB.out.size))
    clear hb
    go_wp2_with fail
    go_ret2
    exact ⟨rfl, HB2.out⟩
end Tk
end Go.Proofs.YtdlbmfgajgefdaaDoor
namespace Go.Proofs.YtdlbmfgajgefdaaDoor
open Go.RowKit
namespace Tk

theorem allF_app (a b : List (Bs × Bs)) (name : Bs) : allF (a ++ b) name = allF a name ++ allF b name := by unfold allF; simp
theorem allF_none (l : List (Bs × Bs)) (name : Bs) (h : ∀ f ∈ l, isN name f = false) : allF l name = [] := by
  unfold allF
  rw [List.filter_eq_nil_iff.2 (fun f hf => by rw [h f hf]; simp)]; rfl
theorem allF_del (name : Bs) (l : List (Bs × Bs)) : allF (delF name l) name = [] := by
  refine allF_none _ _ fun f hf => ?_
  have := (List.mem_filter.1 hf).2
  simpa using this
theorem isN_other {name other : Bs} (h : lowL name ≠ lowL other) (f : Bs × Bs) (hf : isN other f = true) : isN name f = false := by
  unfold isN at *
  simp only [decide_eq_true_eq, decide_eq_false_iff_not] at *
  intro e; exact h (by rw [← e, ← hf])
theorem allF_del_other {name other : Bs} (h : lowL name ≠ lowL other) (l : List (Bs × Bs)) : allF (delF name l) other = allF l other := by
  unfold allF delF
  rw [List.filter_filter]
  congr 1
  apply List.filter_congr
  intro f _
  cases hf : isN other f
  · simp
  · simp [isN_other h f hf]
theorem delF_app (name : Bs) (a b : List (Bs × Bs)) : delF name (a ++ b) = delF name a ++ delF name b := by unfold delF; simp
theorem delF_del (name : Bs) (l : List (Bs × Bs)) : delF name (delF name l) = delF name l :=
  delF_all name _ fun f hf => by
    have := (List.mem_filter.1 hf).2
    simpa using this
theorem isN_eq (name : Bs) (f : Bs × Bs) (x : Bs) : isN name (f.1, x) = isN name f := rfl
theorem isN_self (name x : Bs) : isN name (name, x) = true := by simp [isN]

/-- a list with a field of this name, cut at the first of them -/
theorem cut_at (name : Bs) (l : List (Bs × Bs)) (h : l.findIdx (isN name) < l.length) :
    ∃ a f b, l = a ++ f :: b ∧ (∀ g ∈ a, isN name g = false) ∧ isN name f = true ∧ ∀ x, setF name x l = a ++ (f.1, x) :: delF name b := by
  refine ⟨l.take (l.findIdx (isN name)), l.getD (l.findIdx (isN name)) ([], []), l.drop (l.findIdx (isN name) + 1), ?_, find_before name l, find_hit name l h, fun x => ?_⟩
  · have : l.drop (l.findIdx (isN name)) = l.getD (l.findIdx (isN name)) ([], []) :: l.drop (l.findIdx (isN name) + 1) := by rw [List.drop_eq_getElem_cons h]; simp [List.getD, h]
    rw [← this, List.take_append_drop]
  · unfold setF; rw [if_pos h]

theorem allF_cons (f : Bs × Bs) (b : List (Bs × Bs)) (name : Bs) : allF (f :: b) name = (if isN name f then [f.2] else []) ++ allF b name := by
  unfold allF
  cases h : isN name f <;> simp [h]
theorem delF_cons (f : Bs × Bs) (b : List (Bs × Bs)) (name : Bs) : delF name (f :: b) = (if isN name f then [] else [f]) ++ delF name b := by
  unfold delF
  cases h : isN name f <;> simp [h]

theorem set_all (name x : Bs) (l : List (Bs × Bs)) : allF (setF name x l) name = [x] := by
  by_cases h : l.findIdx (isN name) < l.length
  · obtain ⟨a, f, b, -, ha, hf, hs⟩ := cut_at name l h
    rw [hs, allF_app, allF_none a name ha, allF_cons, isN_eq, hf, allF_del]; rfl
  · unfold setF
    rw [if_neg h, allF_app, allF_none l name (find_none name l h), allF_cons, isN_self]; rfl
theorem set_del (name x : Bs) (l : List (Bs × Bs)) : delF name (setF name x l) = delF name l := by
  by_cases h : l.findIdx (isN name) < l.length
  · obtain ⟨a, f, b, hl, ha, hf, hs⟩ := cut_at name l h
    rw [hs, hl, delF_app, delF_app, delF_cons, delF_cons, isN_eq, hf, delF_del]; rfl
  · unfold setF
    rw [if_neg h, delF_app, delF_cons, isN_self]
    show delF name l ++ ([] ++ delF name []) = delF name l
    simp [delF]
theorem set_len (name x : Bs) (l : List (Bs × Bs)) : (setF name x l).length = (delF name l).length + 1 := by
  by_cases h : l.findIdx (isN name) < l.length
  · obtain ⟨a, f, b, hl, ha, hf, hs⟩ := cut_at name l h
    rw [hs, hl, delF_app, delF_cons, hf, delF_all name a ha]; simp; omega
  · unfold setF
    rw [if_neg h, delF_all name l (find_none name l h)]; simp
theorem set_other {name other : Bs} (hne : lowL name ≠ lowL other) (x : Bs) (l : List (Bs × Bs)) : allF (setF name x l) other = allF l other := by
  have hno : ∀ f, isN name f = true → isN other f = false := fun f hf => isN_other (Ne.symm hne) f hf
  by_cases h : l.findIdx (isN name) < l.length
  · obtain ⟨a, f, b, hl, ha, hf, hs⟩ := cut_at name l h
    rw [hs, hl, allF_app, allF_app, allF_cons, allF_cons, isN_eq, hno f hf, allF_del_other hne]; rfl
  · unfold setF
    rw [if_neg h, allF_app, allF_cons, hno _ (isN_self name x)]
    simp [allF]
theorem del_set (name x : Bs) (l : List (Bs × Bs)) : setF name x (delF name l) = delF name l ++ [(name, x)] := by
  unfold setF
  rw [if_neg]
  intro h
  have h1 := find_hit name _ h
  have h2 := (List.mem_filter.1 (show (delF name l).getD ((delF name l).findIdx (isN name)) ([], []) ∈ delF name l by simp [List.getD, h])).2
  rw [h1] at h2
  cases h2
theorem sameFs_refl : ∀ l : List (Bs × Bs), sameFs l l = true
  | [] => rfl
  | f :: t => by rw [sameFs, sameFs_refl t]; simp [eqF]
end Tk
end Go.Proofs.YtdlbmfgajgefdaaDoor
namespace Go.Proofs.YtdlbmfgajgefdaaDoor
namespace Tk

/-- Connection, Via, Host, Content-Length, Expect -/
def cnB : Bs := [67, 111, 110, 110, 101, 99, 116, 105, 111, 110]
def viB : Bs := [86, 105, 97]
def hoB : Bs := [72, 111, 115, 116]
def clB : Bs := [67, 111, 110, 116, 101, 110, 116, 45, 76, 101, 110, 103, 116, 104]
def exB : Bs := [69, 120, 112, 101, 99, 116]
/-- the seven names -/
def hopN : List Bs := [[67, 111, 110, 110, 101, 99, 116, 105, 111, 110], [75, 101, 101, 112, 45, 65, 108, 105, 118, 101], [80, 114, 111, 120, 121, 45, 67, 111, 110, 110, 101, 99, 116, 105, 111, 110], [84, 69], [84, 114, 97, 105, 108, 101, 114], [84, 114, 97, 110, 115, 102, 101, 114, 45, 69, 110, 99, 111, 100, 105, 110, 103], [85, 112, 103, 114, 97, 100, 101]]
def hopL : List Bs := hopN.map lowL
def isHop (n : Bs) : Bool := decide (lowL n ∈ hopL)
/-- is the name of this field, in small letters, in the set? -/
def inS (S : List Bs) (f : Bs × Bs) : Bool := decide (lowL f.1 ∈ S)
/-- the fields whose names are not in the set -/
def wipe (S : List Bs) (l : List (Bs × Bs)) : List (Bs × Bs) := l.filter fun f => !inS S f
/-- what Connection names, in small letters -/
def optS (l : List (Bs × Bs)) : List Bs := (listF l cnB).map lowL
def goneS (more : List Bs) (l : List (Bs × Bs)) : List Bs := hopL ++ optS l ++ more.map lowL
def withL (more : List Bs) (l : List (Bs × Bs)) : List (Bs × Bs) := wipe (goneS more l) l
def stripL (l : List (Bs × Bs)) : List (Bs × Bs) := withL [] l
def digI (n : Int) : Bs := Lib.itoa n
def viaS (minor : Int) (name : Bs) : Bs := [49, 46] ++ digI minor ++ [32] ++ name
def viaV (l : List (Bs × Bs)) (minor : Int) (name : Bs) : Bs := if 0 < (allF l viB).length then joinB (allF l viB) ++ [44, 32] ++ viaS minor name else viaS minor name
def viaL (l : List (Bs × Bs)) (minor : Int) (name : Bs) : List (Bs × Bs) := setF viB (viaV l minor name) l
def hosL (l : List (Bs × Bs)) : List (Bs × Bs) := if 0 < (allF l hoB).length then l else l ++ [(hoB, [])]
def keptL (m : Bs) (l : List (Bs × Bs)) : List (Bs × Bs) := if m = [] then withL [clB] l else hosL (withL [clB, exB] l)
def forwL (m : Bs) (l : List (Bs × Bs)) (minor : Int) (name : Bs) : List (Bs × Bs) := viaL (keptL m l) minor name
def clsB : Bs := [99, 108, 111, 115, 101]
def kalB : Bs := [107, 101, 101, 112, 45, 97, 108, 105, 118, 101]
def closesB (l : List (Bs × Bs)) (minor : Int) : Bool := decide (clsB ∈ optS l) || (decide (minor = 0) && !decide (kalB ∈ optS l))

theorem hop_low : ∀ x ∈ hopL, lowL x = x := by decide
theorem cn_hop : lowL cnB ∈ hopL := by decide
theorem vi_hop : lowL viB ∉ hopL := by decide
theorem ho_hop : lowL hoB ∉ hopL := by decide
theorem vi_ho : lowL viB ≠ lowL hoB := by decide
theorem vi_cl : lowL viB ≠ lowL clB := by decide
theorem vi_ex : lowL viB ≠ lowL exB := by decide
theorem ho_cl : lowL hoB ≠ lowL clB := by decide
theorem ho_ex : lowL hoB ≠ lowL exB := by decide

theorem wipe_snoc (S : List Bs) (l : List (Bs × Bs)) (f : Bs × Bs) : wipe S (l ++ [f]) = wipe S l ++ (if inS S f then [] else [f]) := by
  unfold wipe
  cases h : inS S f <;> simp [h]
theorem wipe_app (S : List Bs) (a b : List (Bs × Bs)) : wipe S (a ++ b) = wipe S a ++ wipe S b := by unfold wipe; simp
theorem wipe_all (S : List Bs) (l : List (Bs × Bs)) (h : ∀ f ∈ l, inS S f = false) : wipe S l = l := by
  unfold wipe
  rw [List.filter_eq_self]
  intro f hf
  rw [h f hf]; rfl
theorem wipe_len (S : List Bs) (l : List (Bs × Bs)) : (wipe S l).length ≤ l.length := List.length_filter_le _ _
theorem wipe_mem (S : List Bs) (l : List (Bs × Bs)) (f : Bs × Bs) (h : f ∈ wipe S l) : f ∈ l ∧ lowL f.1 ∉ S := by
  have h2 := List.mem_filter.1 h
  refine ⟨h2.1, fun e => ?_⟩
  have := h2.2
  unfold inS at this
  rw [decide_eq_true e] at this
  cases this
theorem wipe_wipe (S T : List Bs) (l : List (Bs × Bs)) : wipe S (wipe T l) = wipe (T ++ S) l := by
  unfold wipe
  rw [List.filter_filter]
  apply List.filter_congr
  intro f _
  unfold inS
  rw [Bool.eq_iff_iff]
  simp [and_comm]
theorem wipe_congr (S T : List Bs) (l : List (Bs × Bs)) (h : ∀ x, x ∈ S ↔ x ∈ T) : wipe S l = wipe T l := by
  unfold wipe
  apply List.filter_congr
  intro f _
  unfold inS
  congr 2
  exact propext (h _)
theorem del_wipe (name : Bs) (l : List (Bs × Bs)) : delF name l = wipe [lowL name] l := by
  unfold delF wipe
  apply List.filter_congr
  intro f _
  unfold isN inS
  simp
theorem allF_wipe (S : List Bs) (l : List (Bs × Bs)) (name : Bs) : allF (wipe S l) name = if lowL name ∈ S then [] else allF l name := by
  unfold allF wipe
  rw [List.filter_filter]
  by_cases h : lowL name ∈ S
  · rw [if_pos h, List.filter_eq_nil_iff.2]; rfl
    intro f _
    unfold isN inS
    by_cases e : lowL f.1 = lowL name
    · simp [e, h]
    · simp [e]
  · rw [if_neg h]
    congr 1
    apply List.filter_congr
    intro f _
    unfold isN inS
    by_cases e : lowL f.1 = lowL name
    · simp [e, h]
    · simp [e]
theorem listF_wipe (S : List Bs) (l : List (Bs × Bs)) (name : Bs) (h : lowL name ∈ S) : listF (wipe S l) name = [] := by
  unfold listF; rw [allF_wipe, if_pos h]; rfl
theorem gone_hop (more : List Bs) (l : List (Bs × Bs)) (x : Bs) (h : x ∈ hopL) : x ∈ goneS more l := by unfold goneS; simp [h]
theorem opt_with (more : List Bs) (l : List (Bs × Bs)) : optS (withL more l) = [] := by
  unfold optS withL
  rw [listF_wipe _ _ _ (gone_hop more l _ cn_hop)]; rfl
theorem strip_strip (l : List (Bs × Bs)) : stripL (stripL l) = stripL l := by
  refine wipe_all _ _ fun f hf => ?_
  have h := (wipe_mem _ _ _ hf).2
  unfold inS goneS
  unfold goneS at h
  rw [show stripL l = withL [] l from rfl, opt_with]
  simp only [List.map_nil, List.append_nil] at *
  simp only [List.mem_append, not_or] at h
  simp [h.1]
theorem strip_all (l : List (Bs × Bs)) (name : Bs) : allF (stripL l) name = if lowL name ∈ hopL ∨ lowL name ∈ optS l then [] else allF l name := by
  unfold stripL withL
  rw [allF_wipe]
  unfold goneS
  simp
theorem strip_len (l : List (Bs × Bs)) : (stripL l).length ≤ l.length := wipe_len _ _
/-- what Forward leaves, in the document's steps -/
theorem with_one (a : Bs) (l : List (Bs × Bs)) : withL [a] l = delF a (stripL l) := by
  rw [del_wipe]
  unfold stripL withL
  rw [wipe_wipe]
  apply wipe_congr
  intro x
  unfold goneS
  simp
theorem with_two (a b : Bs) (l : List (Bs × Bs)) : withL [a, b] l = delF b (delF a (stripL l)) := by
  rw [del_wipe, del_wipe]
  unfold stripL withL
  rw [wipe_wipe, wipe_wipe]
  apply wipe_congr
  intro x
  unfold goneS
  simp

/-! ### what is passed on -/
theorem set_mem (name x : Bs) (l : List (Bs × Bs)) (f : Bs × Bs) (h : f ∈ setF name x l) : lowL f.1 = lowL name ∨ f ∈ l := by
  by_cases hc : l.findIdx (isN name) < l.length
  · obtain ⟨a, g, b, hl, ha, hg, hs⟩ := cut_at name l hc
    rw [hs] at h
    rw [hl]
    rcases List.mem_append.1 h with h | h
    · exact .inr (by simp [h])
    · rcases List.mem_cons.1 h with h | h
      · left
        rw [h]
        exact of_decide_eq_true hg
      · exact .inr (by simp [(List.mem_filter.1 h).1])
  · unfold setF at h
    rw [if_neg hc] at h
    rcases List.mem_append.1 h with h | h
    · exact .inr h
    · left
      rw [List.mem_singleton] at h
      rw [h]
theorem hos_mem (l : List (Bs × Bs)) (f : Bs × Bs) (h : f ∈ hosL l) : f ∈ l ∨ f = (hoB, []) := by
  unfold hosL at h
  split at h
  · exact .inl h
  · simpa using h
theorem forw_mem (m : Bs) (l : List (Bs × Bs)) (minor : Int) (p : Bs) (f : Bs × Bs) (h : f ∈ forwL m l minor p) :
    lowL f.1 = lowL viB ∨ (m ≠ [] ∧ lowL f.1 = lowL hoB) ∨ (lowL f.1 ∉ hopL ∧ lowL f.1 ∉ optS l ∧ lowL f.1 ≠ lowL clB ∧ (m ≠ [] → lowL f.1 ≠ lowL exB)) := by
  rcases set_mem _ _ _ _ h with h | h
  · exact .inl h
  unfold keptL at h
  by_cases hm : m = []
  · rw [if_pos hm] at h
    have h2 := (wipe_mem _ _ _ h).2
    unfold goneS at h2
    simp only [List.map_cons, List.map_nil, List.mem_append, List.mem_cons, List.not_mem_nil, or_false, not_or] at h2
    exact .inr (.inr ⟨h2.1.1, h2.1.2, h2.2, fun e => absurd hm e⟩)
  · rw [if_neg hm] at h
    rcases hos_mem _ _ h with h | h
    · have h2 := (wipe_mem _ _ _ h).2
      unfold goneS at h2
      simp only [List.map_cons, List.map_nil, List.mem_append, List.mem_cons, List.not_mem_nil, or_false, not_or] at h2
      exact .inr (.inr ⟨h2.1.1, h2.1.2, h2.2.1, fun _ => h2.2.2⟩)
    · exact .inr (.inl ⟨hm, by rw [h]⟩)
theorem forw_hop (m : Bs) (l : List (Bs × Bs)) (minor : Int) (p : Bs) (f : Bs × Bs) (h : f ∈ forwL m l minor p) : isHop f.1 = false := by
  unfold isHop
  rw [decide_eq_false_iff_not]
  rcases forw_mem m l minor p f h with h | ⟨-, h⟩ | h
  · rw [h]; exact vi_hop
  · rw [h]; exact ho_hop
  · exact h.1
theorem allF_pos (l : List (Bs × Bs)) (name : Bs) (h : 0 < (allF l name).length) : ∃ f ∈ l, lowL f.1 = lowL name := by
  unfold allF at h
  rw [List.length_map] at h
  obtain ⟨f, hf⟩ := List.exists_mem_of_length_pos h
  have := List.mem_filter.1 hf
  exact ⟨f, this.1, of_decide_eq_true this.2⟩
/-- a field that Connection named is not passed on, but for the proxy's own -/
theorem forw_named (m : Bs) (l : List (Bs × Bs)) (minor : Int) (p x : Bs) (hx : x ∈ listF l cnB) (h : 0 < (allF (forwL m l minor p) x).length) : lowL x = lowL viB ∨ (m ≠ [] ∧ lowL x = lowL hoB) := by
  obtain ⟨f, hf, he⟩ := allF_pos _ _ h
  have ho : lowL x ∈ optS l := List.mem_map.2 ⟨x, hx, rfl⟩
  rcases forw_mem m l minor p f hf with h | ⟨h1, h⟩ | h
  · exact .inl (by rw [← he, h])
  · exact .inr ⟨h1, by rw [← he, h]⟩
  · rw [he] at h
    exact absurd ho h.2.1
theorem forw_opt (m : Bs) (l : List (Bs × Bs)) (minor : Int) (p : Bs) : optS (forwL m l minor p) = [] := by
  unfold optS listF
  rw [allF_none]; rfl
  intro f hf
  have h := forw_hop m l minor p f hf
  unfold isHop at h
  rw [decide_eq_false_iff_not] at h
  unfold isN
  rw [decide_eq_false_iff_not]
  intro e
  rw [e] at h
  exact h cn_hop
theorem hos_has (l : List (Bs × Bs)) : 0 < (allF (hosL l) hoB).length := by
  unfold hosL
  split
  · assumption
  · rw [allF_app, allF_cons, isN_self, List.length_append]; simp; omega
/-- what is passed on again is passed on as it is -/
theorem forw_kept (m : Bs) (l : List (Bs × Bs)) (minor : Int) (p : Bs) : keptL m (forwL m l minor p) = forwL m l minor p := by
  have hm := forw_mem m l minor p
  have ho := forw_opt m l minor p
  have hin : ∀ (more : List Bs), (∀ x ∈ more, x = clB ∨ (m ≠ [] ∧ x = exB)) → withL more (forwL m l minor p) = forwL m l minor p := by
    intro more hmore
    refine wipe_all _ _ fun f hf => ?_
    unfold inS goneS
    rw [ho, decide_eq_false_iff_not]
    simp only [List.mem_append, List.not_mem_nil, or_false, not_or]
    have hno := forw_hop m l minor p f hf
    unfold isHop at hno
    rw [decide_eq_false_iff_not] at hno
    refine ⟨hno, fun h => ?_⟩
    rw [List.mem_map] at h
    obtain ⟨x, hx, e⟩ := h
    rcases hmore x hx with rfl | ⟨hne, rfl⟩
    · rcases hm f hf with h | ⟨-, h⟩ | h
      · exact vi_cl (h ▸ e.symm)
      · exact ho_cl (h ▸ e.symm)
      · exact h.2.2.1 e.symm
    · rcases hm f hf with h | ⟨-, h⟩ | h
      · exact vi_ex (h ▸ e.symm)
      · exact ho_ex (h ▸ e.symm)
      · exact h.2.2.2 hne e.symm
  unfold keptL
  by_cases hmm : m = []
  · rw [if_pos hmm]
    exact hin [clB] (by simp)
  · rw [if_neg hmm, hin [clB, exB] (by intro x hx; simp at hx; rcases hx with rfl | rfl; exact .inl rfl; exact .inr ⟨hmm, rfl⟩)]
    unfold hosL
    rw [if_pos]
    unfold forwL viaL
    rw [set_other vi_ho]
    unfold keptL
    rw [if_neg hmm]
    exact hos_has _
theorem forw_via (m : Bs) (l : List (Bs × Bs)) (minor : Int) (p : Bs) : allF (forwL m l minor p) viB = [viaV (keptL m l) minor p] := set_all _ _ _
theorem joinB_one (x : Bs) : joinB [x] = x := by unfold joinB Lib.join; simp [List.intercalate]
/-- passed on twice: one more name in Via .. -/
theorem forw_twice (m : Bs) (l : List (Bs × Bs)) (minor : Int) (p q : Bs) : joinB (allF (forwL m (forwL m l minor p) 1 q) viB) = joinB (allF (forwL m l minor p) viB) ++ ([44, 32] ++ viaS 1 q) := by
  rw [forw_via, joinB_one]
  unfold viaV
  rw [forw_kept, forw_via, if_pos (by simp), joinB_one, List.append_assoc]
/-- .. and otherwise the same -/
theorem forw_same (m : Bs) (l : List (Bs × Bs)) (minor : Int) (p q : Bs) : delF viB (forwL m (forwL m l minor p) 1 q) = delF viB (forwL m l minor p) := by
  show delF viB (setF viB (viaV (keptL m (forwL m l minor p)) 1 q) (keptL m (forwL m l minor p))) = _
  rw [forw_kept, set_del]
theorem via_has (m : Bs) (l : List (Bs × Bs)) (minor : Int) (p : Bs) : 0 < (allF (forwL m l minor p) viB).length := by rw [forw_via]; simp

/-! ### one more name in Connection -/
theorem strip_more (l : List (Bs × Bs)) (c y : Bs) (names : List Bs) (hc : lowL c = lowL cnB) (hy : splitL y = names) : stripL (l ++ [(c, y)]) = wipe (names.map lowL) (stripL l) := by
  have ho : optS (l ++ [(c, y)]) = optS l ++ names.map lowL := by
    unfold optS listF
    rw [allF_app, allF_cons, show isN cnB (c, y) = true from decide_eq_true hc]
    simp [allF, hy]
  unfold stripL withL goneS
  rw [ho, wipe_app, wipe_wipe]
  rw [show wipe (hopL ++ (optS l ++ names.map lowL) ++ List.map lowL []) [(c, y)] = [] by
    unfold wipe
    rw [List.filter_eq_nil_iff]
    intro f hf
    rw [List.mem_singleton] at hf
    subst hf
    unfold inS
    have : lowL c ∈ hopL := by rw [hc]; exact cn_hop
    simp [this]]
  rw [List.append_nil]
  apply wipe_congr
  intro x
  simp
end Tk
end Go.Proofs.YtdlbmfgajgefdaaDoor
namespace Go.Proofs.YtdlbmfgajgefdaaDoor
open Go.RowKit
namespace Tk

/-- the byte at place t when the first i are in small letters -/
def mixAt (l : Bs) (i t : Nat) : UInt8 := if t < i then lowB (l.getD t 0) else l.getD t 0

theorem bytesRow_at (s : ByteArray) (cap t : Nat) (h : t < s.size) : (bytesRow s cap)[t]? = some (.int .u8 (((bs s).getD t 0).toNat : Int)) := by
  unfold bytesRow
  rw [Array.getElem?_append_left (by simpa using h), Array.getElem?_map]
  have e : (bs s).getD t 0 = s.data[t]'h := by rw [getD_bs s t h]; rfl
  rw [e, Array.getElem?_eq_getElem h]; rfl

end Tk
end Go.Proofs.YtdlbmfgajgefdaaDoor
namespace Go.Proofs.YtdlbmfgajgefdaaDoor
open Go.RowKit Go.Maps Go.WideMaps
namespace Tk

theorem strKey : Maps.Keyed Tryd.prog 9 := string_keyed Tryd.underlying9
theorem keyIs (x : Bs) (h : x.length ≤ 1099511627776) : keyOf Tryd.prog 9 (.string (mkS x)) = some (.string x) := by
  have h := keyOf_string_mk Tryd.underlying9 (s := mkS x) (by rw [size_mkS]; simp only [maxLen]; omega)
  rw [h]; exact congrArg (fun y => some (Lit.string y)) (bs_mkS x)

/-- block b is a map to nothing whose keys are these names -/
def SetIs (w : World) (b : Nat) (S : List Bs) : Prop :=
  ∃ D : DataW Unit, w.ownsMap Tryd.prog 9 (unitElem (H := Unit)) b S.length D ∧ Maps.IsMap D ∧ ∀ x : Bs, Maps.has D (.string x) = decide (x ∈ S)
theorem SetIs.made (w : World) : SetIs (w.alloc (.map #[] 0)) w.heap.size [] :=
  ⟨.map [], World.ownsMap_made _ _ _ _, Maps.isMap_empty, fun x => by simp [Maps.has_eq]⟩
theorem SetIs.lt {w : World} {b : Nat} {S : List Bs} (h : SetIs w b S) : b < w.heap.size := by
  obtain ⟨D, h, -⟩ := h
  exact h.lt
theorem SetIs.kept {w w' : World} {b : Nat} {S : List Bs} {r : Option Nat} (h : SetIs w b S) (hg : w.grownBy w' r) (hr : some b ≠ r) : SetIs w' b S := by
  obtain ⟨D, h1, h2⟩ := h
  exact ⟨D, h1.kept hg hr, h2⟩
theorem grown_below {w w' : World} (h : Below w.heap.size w w') (r : Option Nat) : w.grownBy w' r := ⟨h.os, h.tape, h.output, h.size, fun k hk _ => h.block k hk⟩
theorem SetIs.later {w w' : World} {b : Nat} {S : List Bs} (h : SetIs w b S) (hb : Below w.heap.size w w') : SetIs w' b S := h.kept (grown_below hb none) (by simp)
theorem SetIs.more {w' : World} {b : Nat} {S : List Bs} {x : Bs} {D : DataW Unit} (hI : Maps.IsMap D) (hH : ∀ x : Bs, Maps.has D (.string x) = decide (x ∈ S))
    (h : w'.ownsMap Tryd.prog 9 (unitElem (H := Unit)) b (S.length + 1) (D.put (.string x) (.agg []))) : SetIs w' b (S ++ [x]) := by
  refine ⟨_, by rw [List.length_append]; exact h, hI.put _ _, fun y => ?_⟩
  by_cases e : y = x
  · subst e
    rw [Maps.has_put_same hI (by simp [WideAt.IsKeyLit]), decide_eq_true (by simp)]
  · rw [Maps.has_put_other (fun h => e (by injection h)), hH]
    simp [e]
theorem SetIs.cong {w : World} {b : Nat} {S T : List Bs} (h : SetIs w b S) (e : S = T) : SetIs w b T := e ▸ h
theorem grown_trans {a b c : World} {r : Option Nat} (h : a.grownBy b r) (k : b.grownBy c r) : a.grownBy c r :=
  ⟨k.os.trans h.os, k.tape.trans h.tape, k.output.trans h.output, Nat.le_trans h.size k.size, fun i hi hne => (k.block i (Nat.lt_of_lt_of_le hi h.size) hne).trans (h.block i hi hne)⟩
theorem grown_refl (a : World) (r : Option Nat) : a.grownBy a r := ⟨rfl, rfl, rfl, Nat.le_refl _, fun _ _ _ => rfl⟩
theorem below_of_set {a b : World} {B k : Nat} (h : a.grownBy b (some k)) (hk : B ≤ k) (hB : B ≤ a.heap.size) : Below B a b :=
  ⟨h.os, h.tape, h.output, h.size, fun i hi => h.block i (by omega) (by intro e; injection e with e; omega)⟩
theorem isStrs_grown {a b : World} {r : Option Nat} {v : Value} {l : List Bs} (h : IsStrs a v l) (hg : a.grownBy b r) (hr : ∀ k, r = some k → v.ownBlock ≠ some k) : IsStrs b v l := by
  obtain ⟨ad, c, rfl, hc⟩ := h
  refine ⟨ad, c, rfl, fun j t hj => ?_⟩
  obtain ⟨k, o, rfl, hcell⟩ := hc j t hj
  refine ⟨k, o, rfl, hg.cell hcell fun e => hr k e.symm rfl⟩

end Tk
end Go.Proofs.YtdlbmfgajgefdaaDoor
namespace Go.Proofs.YtdlbmfgajgefdaaDoor
open Go.RowKit
namespace Tk

/-- the box that it holds: a set -/
def HasM (w : World) (g b : Nat) (S : List Bs) : Prop := w.cell? ⟨g, 0, none⟩ = some (.map (some b)) ∧ SetIs w b S
theorem HasM.later {w w' : World} {g b : Nat} {S : List Bs} (h : HasM w g b S) (hb : Below w.heap.size w w') : HasM w' g b S := ⟨(hb.cell (p := ⟨g, 0, none⟩) (cell_lt (p := ⟨g, 0, none⟩) h.1)).trans h.1, h.2.later hb⟩

/-- where the first field of this name is, or -1 -/
def idxS (S : List Bs) (l : List (Bs × Bs)) : Int := if l.findIdx (inS S) < l.length then (l.findIdx (inS S) : Int) else -1
theorem idxS_hit (S : List Bs) (l : List (Bs × Bs)) (i : Nat) (hi : i < l.length) (h1 : ∀ f ∈ l.take i, inS S f = false) (h2 : inS S (l.getD i ([], [])) = true) : l.findIdx (inS S) = i := by
  rw [List.findIdx_eq hi]
  refine ⟨by simpa [List.getD, hi] using h2, fun j hj => ?_⟩
  refine h1 _ ?_
  rw [List.mem_take_iff_getElem]
  exact ⟨j, by omega, rfl⟩
theorem idxS_no (S : List Bs) (l : List (Bs × Bs)) (h1 : ∀ f ∈ l, inS S f = false) : l.findIdx (inS S) = l.length := by
  rw [List.findIdx_eq_length]; exact h1

end Tk
end Go.Proofs.YtdlbmfgajgefdaaDoor
namespace Go.Proofs.YtdlbmfgajgefdaaDoor
open Go.RowKit
namespace Tk

theorem SetIs.setCell {w : World} {b : Nat} {S : List Bs} (h : SetIs w b S) {a : Addr} (ha : b ≠ a.block) (u : Value) : SetIs (w.setCell a u) b S := by
  obtain ⟨D, h1, h2⟩ := h
  exact ⟨D, h1.setCell ha u, h2⟩
/-- the first fields of a row of one's own -/
theorem own_prefix {w : World} {B gr cap n : Nat} {K R : List (Bs × Bs)} (h : w.ownsRow B 24 2 (.slice (some ⟨gr, 0, none⟩) n cap) n (fcells (K ++ R))) : w.ownsRow B 24 2 (.slice (some ⟨gr, 0, none⟩) K.length cap) K.length (fcells K) := by
  have hn : K.length ≤ n := by
    have := h.1
    rw [fcells_len, List.length_append] at this; omega
  refine ⟨fcells_len K, .inr ?_⟩
  rcases h.2 with ⟨hv, -⟩ | ⟨g, c, cur, hv, hb, hg, hnc, hcm, hcs, ht⟩
  · injection hv with e1; cases e1
  · simp only [Value.slice.injEq, Option.some.injEq, Addr.mk.injEq, and_true, true_and] at hv
    obtain ⟨rfl, rfl⟩ := hv
    refine ⟨gr, cap, cur, rfl, hb, hg, by omega, hcm, hcs, ?_⟩
    have e : cur.toList.take (K.length * 2) = (cur.toList.take (n * 2)).take (K.length * 2) := by rw [List.take_take, Nat.min_eq_left (by omega)]
    rw [e, ht, show fcells (K ++ R) = fcells K ++ fcells R by simp [fcells], List.take_left' (fcells_len K)]
theorem own_setCs {B gr cap n : Nat} {xs : List Value} {e : TypeId} {k : Nat} : ∀ {w : World}, w.ownsRow B e k (.slice (some ⟨gr, 0, none⟩) n cap) n xs → ∀ (vs : List Value) (o : Nat), xs.length ≤ o → (w.setCells gr o vs).ownsRow B e k (.slice (some ⟨gr, 0, none⟩) n cap) n xs
  | _, h, [], _, _ => h
  | w, h, v :: vs, o, ho => by
    have h1 := (h.stored o v).1
    rw [List.set_eq_of_length_le ho] at h1
    exact own_setCs h1 vs (o + 1) (by omega)

theorem findS_hit (S : List Bs) (l : List (Bs × Bs)) (h : l.findIdx (inS S) < l.length) : inS S (l.getD (l.findIdx (inS S)) ([], [])) = true := by
  have := List.findIdx_getElem (w := h)
  simpa [List.getD, h] using this
theorem findS_before (S : List Bs) (l : List (Bs × Bs)) : ∀ f ∈ l.take (l.findIdx (inS S)), inS S f = false := by
  intro f hf
  rw [List.mem_take_iff_getElem] at hf
  obtain ⟨j, hj, rfl⟩ := hf
  have := List.not_of_lt_findIdx (p := inS S) (xs := l) (i := j) (by omega)
  simpa using this
theorem findS_none (S : List Bs) (l : List (Bs × Bs)) (h : ¬ l.findIdx (inS S) < l.length) : ∀ f ∈ l, inS S f = false := by
  have : l.findIdx (inS S) = l.length := by
    have := List.findIdx_le_length (p := inS S) (xs := l); omega
  rwa [List.findIdx_eq_length] at this

/-- what DeleteFunc has done when it has gone through j fields and kept i -/
def HalfS (wr : World) (B gr cap : Nat) (S : List Bs) (l : List (Bs × Bs)) (i j : Nat) : Prop :=
  ∃ K R : List (Bs × Bs), K = wipe S (l.take j) ∧ K.length = i ∧ R.length = j - i ∧ wr.ownsRow B 24 2 (.slice (some ⟨gr, 0, none⟩) l.length cap) l.length (fcells (K ++ R ++ l.drop j))

def WipePost (B : Nat) (S : List Bs) (l : List (Bs × Bs)) (w : World) (e : Ending) (w' : World) : Prop :=
  ∃ v', e = .returned v' ∧ w'.ownsRow B 24 2 v' (wipe S l).length (fcells (wipe S l)) ∧ Below B w w'

end Tk
end Go.Proofs.YtdlbmfgajgefdaaDoor
