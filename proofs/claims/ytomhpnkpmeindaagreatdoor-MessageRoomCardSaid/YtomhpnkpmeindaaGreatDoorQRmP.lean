/- message: requests of so many bytes and fields (plain facts). -/
import Derived.Test.YtomhpnkpmeindaaGreatDoorQJ
namespace Go.Proofs.YtomhpnkpmeindaaGreatDoor
namespace Tk

/-- l, so often -/
def rep : Nat → Bs → Bs
  | 0, _ => []
  | n + 1, l => l ++ rep n l
theorem rep_add (l : Bs) : ∀ a b, rep (a + b) l = rep a l ++ rep b l
  | 0, b => by simp [rep]
  | a + 1, b => by rw [show a + 1 + b = (a + b) + 1 by omega]; show l ++ rep (a + b) l = (l ++ rep a l) ++ rep b l; rw [rep_add l a b, List.append_assoc]
theorem rep_snoc (l : Bs) (a : Nat) : rep (a + 1) l = rep a l ++ l := by rw [rep_add l a 1]; simp [rep]
theorem rep_len (l : Bs) : ∀ a, (rep a l).length = a * l.length
  | 0 => by simp [rep]
  | a + 1 => by show (l ++ rep a l).length = _; rw [List.length_append, rep_len l a, Nat.succ_mul]; omega
theorem rep_one (c : UInt8) : ∀ a, rep a [c] = List.replicate a c
  | 0 => rfl
  | a + 1 => by show [c] ++ rep a [c] = _; rw [rep_one c a]; rfl
def putB : Bs := [80, 85, 84, 32, 47, 32, 72, 84, 84, 80, 47, 49, 46, 49, 13, 10, 72, 111, 115, 116, 58, 32, 97, 13, 10]
def fldB : Bs := [65, 58, 32, 49, 13, 10]
def chB : Bs := [49, 13, 10, 120, 13, 10]
def rmHead (j : Nat) : Bs := putB ++ rep j fldB
def digN (n : Nat) : Bs := if n < 10 then [(48 + n).toUInt8] else [(48 + n / 10).toUInt8, (48 + n % 10).toUInt8]
def rmCLh (n : Nat) : Bs := [67, 111, 110, 116, 101, 110, 116, 45, 76, 101, 110, 103, 116, 104, 58, 32] ++ digN n ++ [13, 10, 13, 10]
def rmTE : Bs := [84, 114, 97, 110, 115, 102, 101, 114, 45, 69, 110, 99, 111, 100, 105, 110, 103, 58, 32, 99, 104, 117, 110, 107, 101, 100, 13, 10, 13, 10]
open Go.RowKit
/-- behind the head's lines -/
def hdS (C n j : Nat) : Pr := { L := 100, H := 400, C := C, M := n, mode := 3, left := 25 + 6 * j, head := 25 + 6 * j, msg := { m := [80, 85, 84], t := [47], mi := 1, f := ([72, 111, 115, 116], [97]) :: List.replicate j ([65], [49]) } }
theorem head_put (C n : Nat) (hC : 1 ≤ C) : goP (newP 100 400 C n false) putB = ([], hdS C n 0) := by
  obtain ⟨c, rfl⟩ : ∃ c, C = c + 1 := ⟨C - 1, by omega⟩
  kernel_rfl
theorem head_fld (C n : Nat) : ∀ j, j < 11 → j + 2 ≤ C → goP (hdS C n j) fldB = ([], hdS C n (j + 1)) := by
  intro j hj hC
  obtain ⟨c, rfl⟩ : ∃ c, C = c + (j + 2) := ⟨C - (j + 2), by omega⟩
  rcases (show j = 0 ∨ j = 1 ∨ j = 2 ∨ j = 3 ∨ j = 4 ∨ j = 5 ∨ j = 6 ∨ j = 7 ∨ j = 8 ∨ j = 9 ∨ j = 10 by omega) with rfl | rfl | rfl | rfl | rfl | rfl | rfl | rfl | rfl | rfl | rfl
  all_goals kernel_rfl
/-- behind the line of the coding -/
def teS (C n j : Nat) : Pr := { hdS C n j with mode := 6, kind := 3, left := 25 + 6 * j + 30, head := 25 + 6 * j + 30, dc := newD 100 400 C n, msg := { m := [80, 85, 84], t := [47], mi := 1, f := ([72, 111, 115, 116], [97]) :: List.replicate j ([65], [49]) ++ [([84, 114, 97, 110, 115, 102, 101, 114, 45, 69, 110, 99, 111, 100, 105, 110, 103], [99, 104, 117, 110, 107, 101, 100])] } }
theorem head_te (C n : Nat) : ∀ j, j < 12 → j + 2 ≤ C → goP (hdS C n j) rmTE = ([], teS C n j) := by
  intro j hj hC
  obtain ⟨c, rfl⟩ : ∃ c, C = c + (j + 2) := ⟨C - (j + 2), by omega⟩
  rcases (show j = 0 ∨ j = 1 ∨ j = 2 ∨ j = 3 ∨ j = 4 ∨ j = 5 ∨ j = 6 ∨ j = 7 ∨ j = 8 ∨ j = 9 ∨ j = 10 ∨ j = 11 by omega) with rfl | rfl | rfl | rfl | rfl | rfl | rfl | rfl | rfl | rfl | rfl | rfl
  all_goals kernel_rfl
theorem head_all (C n : Nat) : ∀ j, j < 12 → j + 1 ≤ C → goP (newP 100 400 C n false) (rmHead j) = ([], hdS C n j)
  | 0, _, hC => by unfold rmHead; rw [show rep 0 fldB = [] from rfl, List.append_nil]; exact head_put C n hC
  | j + 1, hj, hC => by
    have ih := head_all C n j (by omega) (by omega)
    unfold rmHead at *
    rw [rep_snoc, ← List.append_assoc, goP_append, ih]
    simp only [head_fld C n j (by omega) (by omega), List.append_nil]
-- the line of a length
def c1 (j n : Nat) : Bool :=
  let r := goP (hdS (j + 2) n j) (rmCLh n)
  r.1.isEmpty && decide (r.2.mode = 4) && decide (r.2.bad = 0) && decide (r.2.len = n) && decide (r.2.body = []) && !r.2.rsp
def c3 (j n : Nat) : Bool := let r := goP (hdS (j + 2) (n - 1) j) (rmCLh n); r.1.isEmpty && decide (r.2.bad = 413)
def c4 (j n : Nat) : Bool := let r := goP (hdS (j + 1) n j) (rmCLh n); r.1.isEmpty && decide (r.2.bad = 431)
set_option maxRecDepth 100000 in
theorem c1_all : ∀ j < 12, ∀ n < 60, c1 j (n + 1) = true := by decide +kernel
set_option maxRecDepth 100000 in
theorem c3_all : ∀ j < 12, ∀ n < 60, c3 j (n + 1) = true := by decide +kernel
set_option maxRecDepth 100000 in
theorem c4_all : ∀ j < 12, ∀ n < 60, c4 j (n + 1) = true := by decide +kernel
end Tk
end Go.Proofs.YtomhpnkpmeindaaGreatDoor
