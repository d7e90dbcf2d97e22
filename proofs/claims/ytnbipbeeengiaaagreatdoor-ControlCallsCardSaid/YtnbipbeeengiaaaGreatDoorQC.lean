/- CtP, put together. -/
import Derived.Test.YtnbipbeeengiaaaGreatDoorQA
import Derived.Test.YtnbipbeeengiaaaGreatDoorQB
import Derived.Lib.Join
namespace Go.Proofs.YtnbipbeeengiaaaGreatDoor
open Go.RowKit
namespace Tk

/-- a directive: its name in small letters, its text, whether it has one -/
abbrev Dir := Bs × Bs × Bool
def unqT (t : Bs) : Bs := if unqOk t = true then unq (t.drop 1) else t
def tokB (n : Bs) : Bool := !n.isEmpty && allL 2 n
def dirOf (p : Bs) : List Dir := if tokB (cutL 61 p).1 = true then [(lowL (cutL 61 p).1, unqT (cutL 61 p).2.1, (cutL 61 p).2.2)] else []
def dirsV (v : Bs) : List Dir := (splitL v).flatMap dirOf
def dirsL (l : List Bs) : List Dir := l.flatMap dirsV
def mxD : Int := 2147483648
def secN (t : Bs) : Int := if (numL t).2 = 0 then min ((numL t).1 : Int) mxD else if (numL t).2 = 3 then mxD else -1
def leastI (a n : Int) : Int := if n = -1 then a else if a = -1 ∨ n < a then n else a
def staleN (t : Bs) (h : Bool) : Int := if h = true then secN t else mxD

def dn0 : Bs := [109, 97, 120, 45, 97, 103, 101]
def dn1 : Bs := [115, 45, 109, 97, 120, 97, 103, 101]
def dn2 : Bs := [109, 97, 120, 45, 115, 116, 97, 108, 101]
def dn3 : Bs := [109, 105, 110, 45, 102, 114, 101, 115, 104]
def dn4 : Bs := [115, 116, 97, 108, 101, 45, 119, 104, 105, 108, 101, 45, 114, 101, 118, 97, 108, 105, 100, 97, 116, 101]
def dn5 : Bs := [115, 116, 97, 108, 101, 45, 105, 102, 45, 101, 114, 114, 111, 114]
def dn6 : Bs := [110, 111, 45, 99, 97, 99, 104, 101]
def dn7 : Bs := [110, 111, 45, 115, 116, 111, 114, 101]
def dn8 : Bs := [110, 111, 45, 116, 114, 97, 110, 115, 102, 111, 114, 109]
def dn9 : Bs := [111, 110, 108, 121, 45, 105, 102, 45, 99, 97, 99, 104, 101, 100]
def dn10 : Bs := [109, 117, 115, 116, 45, 114, 101, 118, 97, 108, 105, 100, 97, 116, 101]
def dn11 : Bs := [112, 114, 111, 120, 121, 45, 114, 101, 118, 97, 108, 105, 100, 97, 116, 101]
def dn12 : Bs := [109, 117, 115, 116, 45, 117, 110, 100, 101, 114, 115, 116, 97, 110, 100]
def dn13 : Bs := [112, 117, 98, 108, 105, 99]
def dn14 : Bs := [112, 114, 105, 118, 97, 116, 101]

/-- a control: six numbers, nine truths -/
structure Ctl where
  a0 : Int
  a1 : Int
  a2 : Int
  a3 : Int
  a4 : Int
  a5 : Int
  b0 : Bool
  b1 : Bool
  b2 : Bool
  b3 : Bool
  b4 : Bool
  b5 : Bool
  b6 : Bool
  b7 : Bool
  b8 : Bool
  deriving DecidableEq
def noneC : Ctl := ⟨-1, -1, -1, -1, -1, -1, false, false, false, false, false, false, false, false, false⟩
def joinC (x y : Ctl) : Ctl := ⟨leastI x.a0 y.a0, leastI x.a1 y.a1, max x.a2 y.a2, leastI x.a3 y.a3, leastI x.a4 y.a4, leastI x.a5 y.a5, x.b0 || y.b0, x.b1 || y.b1, x.b2 || y.b2, x.b3 || y.b3, x.b4 || y.b4, x.b5 || y.b5, x.b6 || y.b6, x.b7 || y.b7, x.b8 || y.b8⟩
/-- what a directive of the k-th name does -/
def set0 (c : Ctl) (t : Bs) (_h : Bool) : Ctl := { c with a0 := leastI c.a0 (max (secN t) 0) }
def set1 (c : Ctl) (t : Bs) (_h : Bool) : Ctl := { c with a1 := leastI c.a1 (max (secN t) 0) }
def set2 (c : Ctl) (t : Bs) (h : Bool) : Ctl := { c with a2 := max c.a2 (staleN t h) }
def set3 (c : Ctl) (t : Bs) (_h : Bool) : Ctl := { c with a3 := leastI c.a3 (secN t) }
def set4 (c : Ctl) (t : Bs) (_h : Bool) : Ctl := { c with a4 := leastI c.a4 (secN t) }
def set5 (c : Ctl) (t : Bs) (_h : Bool) : Ctl := { c with a5 := leastI c.a5 (secN t) }
def set6 (c : Ctl) (_t : Bs) (_h : Bool) : Ctl := { c with b0 := true }
def set7 (c : Ctl) (_t : Bs) (_h : Bool) : Ctl := { c with b1 := true }
def set8 (c : Ctl) (_t : Bs) (_h : Bool) : Ctl := { c with b2 := true }
def set9 (c : Ctl) (_t : Bs) (_h : Bool) : Ctl := { c with b3 := true }
def set10 (c : Ctl) (_t : Bs) (_h : Bool) : Ctl := { c with b4 := true }
def set11 (c : Ctl) (_t : Bs) (_h : Bool) : Ctl := { c with b5 := true }
def set12 (c : Ctl) (_t : Bs) (_h : Bool) : Ctl := { c with b6 := true }
def set13 (c : Ctl) (_t : Bs) (_h : Bool) : Ctl := { c with b7 := true }
def set14 (c : Ctl) (_t : Bs) (_h : Bool) : Ctl := { c with b8 := true }
def setC (c : Ctl) (d : Dir) : Ctl :=
  if d.1 = dn0 then set0 c d.2.1 d.2.2
  else if d.1 = dn1 then set1 c d.2.1 d.2.2
  else if d.1 = dn2 then set2 c d.2.1 d.2.2
  else if d.1 = dn3 then set3 c d.2.1 d.2.2
  else if d.1 = dn4 then set4 c d.2.1 d.2.2
  else if d.1 = dn5 then set5 c d.2.1 d.2.2
  else if d.1 = dn6 then set6 c d.2.1 d.2.2
  else if d.1 = dn7 then set7 c d.2.1 d.2.2
  else if d.1 = dn8 then set8 c d.2.1 d.2.2
  else if d.1 = dn9 then set9 c d.2.1 d.2.2
  else if d.1 = dn10 then set10 c d.2.1 d.2.2
  else if d.1 = dn11 then set11 c d.2.1 d.2.2
  else if d.1 = dn12 then set12 c d.2.1 d.2.2
  else if d.1 = dn13 then set13 c d.2.1 d.2.2
  else if d.1 = dn14 then set14 c d.2.1 d.2.2
  else c
theorem setC0 (c : Ctl) (t : Bs) (h : Bool) : setC c (dn0, t, h) = set0 c t h := by
  have e : ∀ n : Bs, n = dn0 → setC c (n, t, h) = set0 c t h := by
    intro n hn
    have h0 : ∀ m : Bs, dn0 ≠ m → n ≠ m := fun m hm e => hm (hn.symm.trans e)
    unfold setC
    rw [if_pos (show n = dn0 from hn)]
  exact e _ rfl
theorem setC1 (c : Ctl) (t : Bs) (h : Bool) : setC c (dn1, t, h) = set1 c t h := by
  have e : ∀ n : Bs, n = dn1 → setC c (n, t, h) = set1 c t h := by
    intro n hn
    have h0 : ∀ m : Bs, dn1 ≠ m → n ≠ m := fun m hm e => hm (hn.symm.trans e)
    unfold setC
    rw [if_neg (show ¬ n = dn0 from h0 _ (by decide)), if_pos (show n = dn1 from hn)]
  exact e _ rfl
theorem setC2 (c : Ctl) (t : Bs) (h : Bool) : setC c (dn2, t, h) = set2 c t h := by
  have e : ∀ n : Bs, n = dn2 → setC c (n, t, h) = set2 c t h := by
    intro n hn
    have h0 : ∀ m : Bs, dn2 ≠ m → n ≠ m := fun m hm e => hm (hn.symm.trans e)
    unfold setC
    rw [if_neg (show ¬ n = dn0 from h0 _ (by decide)), if_neg (show ¬ n = dn1 from h0 _ (by decide)), if_pos (show n = dn2 from hn)]
  exact e _ rfl
theorem setC3 (c : Ctl) (t : Bs) (h : Bool) : setC c (dn3, t, h) = set3 c t h := by
  have e : ∀ n : Bs, n = dn3 → setC c (n, t, h) = set3 c t h := by
    intro n hn
    have h0 : ∀ m : Bs, dn3 ≠ m → n ≠ m := fun m hm e => hm (hn.symm.trans e)
    unfold setC
    rw [if_neg (show ¬ n = dn0 from h0 _ (by decide)), if_neg (show ¬ n = dn1 from h0 _ (by decide)), if_neg (show ¬ n = dn2 from h0 _ (by decide)), if_pos (show n = dn3 from hn)]
  exact e _ rfl
theorem setC4 (c : Ctl) (t : Bs) (h : Bool) : setC c (dn4, t, h) = set4 c t h := by
  have e : ∀ n : Bs, n = dn4 → setC c (n, t, h) = set4 c t h := by
    intro n hn
    have h0 : ∀ m : Bs, dn4 ≠ m → n ≠ m := fun m hm e => hm (hn.symm.trans e)
    unfold setC
    rw [if_neg (show ¬ n = dn0 from h0 _ (by decide)), if_neg (show ¬ n = dn1 from h0 _ (by decide)), if_neg (show ¬ n = dn2 from h0 _ (by decide)), if_neg (show ¬ n = dn3 from h0 _ (by decide)), if_pos (show n = dn4 from hn)]
  exact e _ rfl
theorem setC5 (c : Ctl) (t : Bs) (h : Bool) : setC c (dn5, t, h) = set5 c t h := by
  have e : ∀ n : Bs, n = dn5 → setC c (n, t, h) = set5 c t h := by
    intro n hn
    have h0 : ∀ m : Bs, dn5 ≠ m → n ≠ m := fun m hm e => hm (hn.symm.trans e)
    unfold setC
    rw [if_neg (show ¬ n = dn0 from h0 _ (by decide)), if_neg (show ¬ n = dn1 from h0 _ (by decide)), if_neg (show ¬ n = dn2 from h0 _ (by decide)), if_neg (show ¬ n = dn3 from h0 _ (by decide)), if_neg (show ¬ n = dn4 from h0 _ (by decide)), if_pos (show n = dn5 from hn)]
  exact e _ rfl
theorem setC6 (c : Ctl) (t : Bs) (h : Bool) : setC c (dn6, t, h) = set6 c t h := by
  have e : ∀ n : Bs, n = dn6 → setC c (n, t, h) = set6 c t h := by
    intro n hn
    have h0 : ∀ m : Bs, dn6 ≠ m → n ≠ m := fun m hm e => hm (hn.symm.trans e)
    unfold setC
    rw [if_neg (show ¬ n = dn0 from h0 _ (by decide)), if_neg (show ¬ n = dn1 from h0 _ (by decide)), if_neg (show ¬ n = dn2 from h0 _ (by decide)), if_neg (show ¬ n = dn3 from h0 _ (by decide)), if_neg (show ¬ n = dn4 from h0 _ (by decide)), if_neg (show ¬ n = dn5 from h0 _ (by decide)), if_pos (show n = dn6 from hn)]
  exact e _ rfl
theorem setC7 (c : Ctl) (t : Bs) (h : Bool) : setC c (dn7, t, h) = set7 c t h := by
  have e : ∀ n : Bs, n = dn7 → setC c (n, t, h) = set7 c t h := by
    intro n hn
    have h0 : ∀ m : Bs, dn7 ≠ m → n ≠ m := fun m hm e => hm (hn.symm.trans e)
    unfold setC
    rw [if_neg (show ¬ n = dn0 from h0 _ (by decide)), if_neg (show ¬ n = dn1 from h0 _ (by decide)), if_neg (show ¬ n = dn2 from h0 _ (by decide)), if_neg (show ¬ n = dn3 from h0 _ (by decide)), if_neg (show ¬ n = dn4 from h0 _ (by decide)), if_neg (show ¬ n = dn5 from h0 _ (by decide)), if_neg (show ¬ n = dn6 from h0 _ (by decide)), if_pos (show n = dn7 from hn)]
  exact e _ rfl
theorem setC8 (c : Ctl) (t : Bs) (h : Bool) : setC c (dn8, t, h) = set8 c t h := by
  have e : ∀ n : Bs, n = dn8 → setC c (n, t, h) = set8 c t h := by
    intro n hn
    have h0 : ∀ m : Bs, dn8 ≠ m → n ≠ m := fun m hm e => hm (hn.symm.trans e)
    unfold setC
    rw [if_neg (show ¬ n = dn0 from h0 _ (by decide)), if_neg (show ¬ n = dn1 from h0 _ (by decide)), if_neg (show ¬ n = dn2 from h0 _ (by decide)), if_neg (show ¬ n = dn3 from h0 _ (by decide)), if_neg (show ¬ n = dn4 from h0 _ (by decide)), if_neg (show ¬ n = dn5 from h0 _ (by decide)), if_neg (show ¬ n = dn6 from h0 _ (by decide)), if_neg (show ¬ n = dn7 from h0 _ (by decide)), if_pos (show n = dn8 from hn)]
  exact e _ rfl
theorem setC9 (c : Ctl) (t : Bs) (h : Bool) : setC c (dn9, t, h) = set9 c t h := by
  have e : ∀ n : Bs, n = dn9 → setC c (n, t, h) = set9 c t h := by
    intro n hn
    have h0 : ∀ m : Bs, dn9 ≠ m → n ≠ m := fun m hm e => hm (hn.symm.trans e)
    unfold setC
    rw [if_neg (show ¬ n = dn0 from h0 _ (by decide)), if_neg (show ¬ n = dn1 from h0 _ (by decide)), if_neg (show ¬ n = dn2 from h0 _ (by decide)), if_neg (show ¬ n = dn3 from h0 _ (by decide)), if_neg (show ¬ n = dn4 from h0 _ (by decide)), if_neg (show ¬ n = dn5 from h0 _ (by decide)), if_neg (show ¬ n = dn6 from h0 _ (by decide)), if_neg (show ¬ n = dn7 from h0 _ (by decide)), if_neg (show ¬ n = dn8 from h0 _ (by decide)), if_pos (show n = dn9 from hn)]
  exact e _ rfl
theorem setC10 (c : Ctl) (t : Bs) (h : Bool) : setC c (dn10, t, h) = set10 c t h := by
  have e : ∀ n : Bs, n = dn10 → setC c (n, t, h) = set10 c t h := by
    intro n hn
    have h0 : ∀ m : Bs, dn10 ≠ m → n ≠ m := fun m hm e => hm (hn.symm.trans e)
    unfold setC
    rw [if_neg (show ¬ n = dn0 from h0 _ (by decide)), if_neg (show ¬ n = dn1 from h0 _ (by decide)), if_neg (show ¬ n = dn2 from h0 _ (by decide)), if_neg (show ¬ n = dn3 from h0 _ (by decide)), if_neg (show ¬ n = dn4 from h0 _ (by decide)), if_neg (show ¬ n = dn5 from h0 _ (by decide)), if_neg (show ¬ n = dn6 from h0 _ (by decide)), if_neg (show ¬ n = dn7 from h0 _ (by decide)), if_neg (show ¬ n = dn8 from h0 _ (by decide)), if_neg (show ¬ n = dn9 from h0 _ (by decide)), if_pos (show n = dn10 from hn)]
  exact e _ rfl
theorem setC11 (c : Ctl) (t : Bs) (h : Bool) : setC c (dn11, t, h) = set11 c t h := by
  have e : ∀ n : Bs, n = dn11 → setC c (n, t, h) = set11 c t h := by
    intro n hn
    have h0 : ∀ m : Bs, dn11 ≠ m → n ≠ m := fun m hm e => hm (hn.symm.trans e)
    unfold setC
    rw [if_neg (show ¬ n = dn0 from h0 _ (by decide)), if_neg (show ¬ n = dn1 from h0 _ (by decide)), if_neg (show ¬ n = dn2 from h0 _ (by decide)), if_neg (show ¬ n = dn3 from h0 _ (by decide)), if_neg (show ¬ n = dn4 from h0 _ (by decide)), if_neg (show ¬ n = dn5 from h0 _ (by decide)), if_neg (show ¬ n = dn6 from h0 _ (by decide)), if_neg (show ¬ n = dn7 from h0 _ (by decide)), if_neg (show ¬ n = dn8 from h0 _ (by decide)), if_neg (show ¬ n = dn9 from h0 _ (by decide)), if_neg (show ¬ n = dn10 from h0 _ (by decide)), if_pos (show n = dn11 from hn)]
  exact e _ rfl
theorem setC12 (c : Ctl) (t : Bs) (h : Bool) : setC c (dn12, t, h) = set12 c t h := by
  have e : ∀ n : Bs, n = dn12 → setC c (n, t, h) = set12 c t h := by
    intro n hn
    have h0 : ∀ m : Bs, dn12 ≠ m → n ≠ m := fun m hm e => hm (hn.symm.trans e)
    unfold setC
    rw [if_neg (show ¬ n = dn0 from h0 _ (by decide)), if_neg (show ¬ n = dn1 from h0 _ (by decide)), if_neg (show ¬ n = dn2 from h0 _ (by decide)), if_neg (show ¬ n = dn3 from h0 _ (by decide)), if_neg (show ¬ n = dn4 from h0 _ (by decide)), if_neg (show ¬ n = dn5 from h0 _ (by decide)), if_neg (show ¬ n = dn6 from h0 _ (by decide)), if_neg (show ¬ n = dn7 from h0 _ (by decide)), if_neg (show ¬ n = dn8 from h0 _ (by decide)), if_neg (show ¬ n = dn9 from h0 _ (by decide)), if_neg (show ¬ n = dn10 from h0 _ (by decide)), if_neg (show ¬ n = dn11 from h0 _ (by decide)), if_pos (show n = dn12 from hn)]
  exact e _ rfl
theorem setC13 (c : Ctl) (t : Bs) (h : Bool) : setC c (dn13, t, h) = set13 c t h := by
  have e : ∀ n : Bs, n = dn13 → setC c (n, t, h) = set13 c t h := by
    intro n hn
    have h0 : ∀ m : Bs, dn13 ≠ m → n ≠ m := fun m hm e => hm (hn.symm.trans e)
    unfold setC
    rw [if_neg (show ¬ n = dn0 from h0 _ (by decide)), if_neg (show ¬ n = dn1 from h0 _ (by decide)), if_neg (show ¬ n = dn2 from h0 _ (by decide)), if_neg (show ¬ n = dn3 from h0 _ (by decide)), if_neg (show ¬ n = dn4 from h0 _ (by decide)), if_neg (show ¬ n = dn5 from h0 _ (by decide)), if_neg (show ¬ n = dn6 from h0 _ (by decide)), if_neg (show ¬ n = dn7 from h0 _ (by decide)), if_neg (show ¬ n = dn8 from h0 _ (by decide)), if_neg (show ¬ n = dn9 from h0 _ (by decide)), if_neg (show ¬ n = dn10 from h0 _ (by decide)), if_neg (show ¬ n = dn11 from h0 _ (by decide)), if_neg (show ¬ n = dn12 from h0 _ (by decide)), if_pos (show n = dn13 from hn)]
  exact e _ rfl
theorem setC14 (c : Ctl) (t : Bs) (h : Bool) : setC c (dn14, t, h) = set14 c t h := by
  have e : ∀ n : Bs, n = dn14 → setC c (n, t, h) = set14 c t h := by
    intro n hn
    have h0 : ∀ m : Bs, dn14 ≠ m → n ≠ m := fun m hm e => hm (hn.symm.trans e)
    unfold setC
    rw [if_neg (show ¬ n = dn0 from h0 _ (by decide)), if_neg (show ¬ n = dn1 from h0 _ (by decide)), if_neg (show ¬ n = dn2 from h0 _ (by decide)), if_neg (show ¬ n = dn3 from h0 _ (by decide)), if_neg (show ¬ n = dn4 from h0 _ (by decide)), if_neg (show ¬ n = dn5 from h0 _ (by decide)), if_neg (show ¬ n = dn6 from h0 _ (by decide)), if_neg (show ¬ n = dn7 from h0 _ (by decide)), if_neg (show ¬ n = dn8 from h0 _ (by decide)), if_neg (show ¬ n = dn9 from h0 _ (by decide)), if_neg (show ¬ n = dn10 from h0 _ (by decide)), if_neg (show ¬ n = dn11 from h0 _ (by decide)), if_neg (show ¬ n = dn12 from h0 _ (by decide)), if_neg (show ¬ n = dn13 from h0 _ (by decide)), if_pos (show n = dn14 from hn)]
  exact e _ rfl
def foldC (c : Ctl) (ds : List Dir) : Ctl := ds.foldl setC c
def parseL (l : List Bs) : Ctl := foldC noneC (dirsL l)
def oneC (d : Dir) : Ctl := setC noneC d
def vNc (a : Int) : Prop := -1 ≤ a ∧ a ≤ mxD
def vC (c : Ctl) : Prop := vNc c.a0 ∧ vNc c.a1 ∧ vNc c.a2 ∧ vNc c.a3 ∧ vNc c.a4 ∧ vNc c.a5
instance (a : Int) : Decidable (vNc a) := by unfold vNc; infer_instance
instance (c : Ctl) : Decidable (vC c) := by unfold vC; infer_instance

theorem secN_v (t : Bs) : vNc (secN t) := by
  unfold vNc secN mxD
  split
  · omega
  · split <;> omega
theorem staleN_v (t : Bs) (h : Bool) : vNc (staleN t h) := by
  unfold staleN; split
  · exact secN_v t
  · unfold vNc mxD; omega
theorem maxN_v {a : Int} (h : vNc a) : vNc (max a 0) := by unfold vNc mxD at *; omega
theorem least_v {a b : Int} (h : vNc a) (k : vNc b) : vNc (leastI a b) := by
  unfold leastI
  split
  · exact h
  · split <;> assumption
theorem max_v {a b : Int} (h : vNc a) (k : vNc b) : vNc (max a b) := by unfold vNc mxD at *; omega
theorem least_none (a : Int) : leastI a (-1) = a := by simp [leastI]
theorem least_none' (a : Int) : leastI (-1) a = a := by
  unfold leastI
  split
  · simp [*]
  · simp
theorem least_self (a : Int) : leastI a a = a := by
  unfold leastI
  split
  · rfl
  · split <;> rfl
theorem least_comm (a b : Int) : leastI a b = leastI b a := by unfold leastI; split <;> split <;> (try split) <;> omega
theorem least_or (a b : Int) : leastI a b = a ∧ (b = -1 ∨ (a ≠ -1 ∧ a ≤ b)) ∨ leastI a b = b ∧ b ≠ -1 ∧ (a = -1 ∨ b < a) := by
  unfold leastI
  split
  · left; omega
  · split
    · right; omega
    · left; omega
theorem least_assoc (a b c : Int) : leastI (leastI a b) c = leastI a (leastI b c) := by
  have h1 := least_or a b
  have h2 := least_or b c
  have h3 := least_or (leastI a b) c
  have h4 := least_or a (leastI b c)
  omega
theorem max_none {a : Int} (h : vNc a) : max a (-1) = a := by unfold vNc at h; omega
theorem none_max {a : Int} (h : vNc a) : max (-1) a = a := by unfold vNc at h; omega
theorem v_none : vC noneC := by decide

theorem v_join {x y : Ctl} (h : vC x) (k : vC y) : vC (joinC x y) := by
  obtain ⟨h0, h1, h2, h3, h4, h5⟩ := h; obtain ⟨k0, k1, k2, k3, k4, k5⟩ := k
  exact ⟨least_v h0 k0, least_v h1 k1, max_v h2 k2, least_v h3 k3, least_v h4 k4, least_v h5 k5⟩
theorem Ctl.eq {x y : Ctl} (ha0 : x.a0 = y.a0) (ha1 : x.a1 = y.a1) (ha2 : x.a2 = y.a2) (ha3 : x.a3 = y.a3) (ha4 : x.a4 = y.a4) (ha5 : x.a5 = y.a5) (hb0 : x.b0 = y.b0) (hb1 : x.b1 = y.b1) (hb2 : x.b2 = y.b2) (hb3 : x.b3 = y.b3) (hb4 : x.b4 = y.b4) (hb5 : x.b5 = y.b5) (hb6 : x.b6 = y.b6) (hb7 : x.b7 = y.b7) (hb8 : x.b8 = y.b8) : x = y := by cases x; cases y; simp only at *; subst_vars; rfl
theorem join_comm (x y : Ctl) : joinC x y = joinC y x := by
  exact Ctl.eq (least_comm _ _) (least_comm _ _) (Int.max_comm _ _) (least_comm _ _) (least_comm _ _) (least_comm _ _) (Bool.or_comm _ _) (Bool.or_comm _ _) (Bool.or_comm _ _) (Bool.or_comm _ _) (Bool.or_comm _ _) (Bool.or_comm _ _) (Bool.or_comm _ _) (Bool.or_comm _ _) (Bool.or_comm _ _)
theorem join_assoc (x y z : Ctl) : joinC (joinC x y) z = joinC x (joinC y z) := by
  exact Ctl.eq (least_assoc _ _ _) (least_assoc _ _ _) (Int.max_assoc _ _ _) (least_assoc _ _ _) (least_assoc _ _ _) (least_assoc _ _ _) (Bool.or_assoc _ _ _) (Bool.or_assoc _ _ _) (Bool.or_assoc _ _ _) (Bool.or_assoc _ _ _) (Bool.or_assoc _ _ _) (Bool.or_assoc _ _ _) (Bool.or_assoc _ _ _) (Bool.or_assoc _ _ _) (Bool.or_assoc _ _ _)
theorem join_self (x : Ctl) : joinC x x = x := Ctl.eq (least_self _) (least_self _) (Int.max_self _) (least_self _) (least_self _) (least_self _) (Bool.or_self _) (Bool.or_self _) (Bool.or_self _) (Bool.or_self _) (Bool.or_self _) (Bool.or_self _) (Bool.or_self _) (Bool.or_self _) (Bool.or_self _)
theorem join_none {x : Ctl} (h : vC x) : joinC x noneC = x := Ctl.eq (least_none _) (least_none _) (max_none h.2.2.1) (least_none _) (least_none _) (least_none _) (Bool.or_false _) (Bool.or_false _) (Bool.or_false _) (Bool.or_false _) (Bool.or_false _) (Bool.or_false _) (Bool.or_false _) (Bool.or_false _) (Bool.or_false _)
theorem none_join {x : Ctl} (h : vC x) : joinC noneC x = x := Ctl.eq (least_none' _) (least_none' _) (none_max h.2.2.1) (least_none' _) (least_none' _) (least_none' _) (Bool.false_or _) (Bool.false_or _) (Bool.false_or _) (Bool.false_or _) (Bool.false_or _) (Bool.false_or _) (Bool.false_or _) (Bool.false_or _) (Bool.false_or _)
theorem set0_join {c : Ctl} (t : Bs) (h : Bool) (h0 : vC c) : set0 c t h = joinC c (set0 noneC t h) := Ctl.eq (by show leastI c.a0 (max (secN t) 0) = leastI c.a0 (leastI (-1) (max (secN t) 0)); rw [least_none']) (least_none _).symm (max_none h0.2.2.1).symm (least_none _).symm (least_none _).symm (least_none _).symm (Bool.or_false _).symm (Bool.or_false _).symm (Bool.or_false _).symm (Bool.or_false _).symm (Bool.or_false _).symm (Bool.or_false _).symm (Bool.or_false _).symm (Bool.or_false _).symm (Bool.or_false _).symm
theorem set1_join {c : Ctl} (t : Bs) (h : Bool) (h0 : vC c) : set1 c t h = joinC c (set1 noneC t h) := Ctl.eq (least_none _).symm (by show leastI c.a1 (max (secN t) 0) = leastI c.a1 (leastI (-1) (max (secN t) 0)); rw [least_none']) (max_none h0.2.2.1).symm (least_none _).symm (least_none _).symm (least_none _).symm (Bool.or_false _).symm (Bool.or_false _).symm (Bool.or_false _).symm (Bool.or_false _).symm (Bool.or_false _).symm (Bool.or_false _).symm (Bool.or_false _).symm (Bool.or_false _).symm (Bool.or_false _).symm
theorem set2_join {c : Ctl} (t : Bs) (h : Bool) (_h0 : vC c) : set2 c t h = joinC c (set2 noneC t h) := Ctl.eq (least_none _).symm (least_none _).symm (by show max c.a2 (staleN t h) = max c.a2 (max (-1) (staleN t h)); rw [none_max (staleN_v t h)]) (least_none _).symm (least_none _).symm (least_none _).symm (Bool.or_false _).symm (Bool.or_false _).symm (Bool.or_false _).symm (Bool.or_false _).symm (Bool.or_false _).symm (Bool.or_false _).symm (Bool.or_false _).symm (Bool.or_false _).symm (Bool.or_false _).symm
theorem set3_join {c : Ctl} (t : Bs) (h : Bool) (h0 : vC c) : set3 c t h = joinC c (set3 noneC t h) := Ctl.eq (least_none _).symm (least_none _).symm (max_none h0.2.2.1).symm (by show leastI c.a3 (secN t) = leastI c.a3 (leastI (-1) (secN t)); rw [least_none']) (least_none _).symm (least_none _).symm (Bool.or_false _).symm (Bool.or_false _).symm (Bool.or_false _).symm (Bool.or_false _).symm (Bool.or_false _).symm (Bool.or_false _).symm (Bool.or_false _).symm (Bool.or_false _).symm (Bool.or_false _).symm
theorem set4_join {c : Ctl} (t : Bs) (h : Bool) (h0 : vC c) : set4 c t h = joinC c (set4 noneC t h) := Ctl.eq (least_none _).symm (least_none _).symm (max_none h0.2.2.1).symm (least_none _).symm (by show leastI c.a4 (secN t) = leastI c.a4 (leastI (-1) (secN t)); rw [least_none']) (least_none _).symm (Bool.or_false _).symm (Bool.or_false _).symm (Bool.or_false _).symm (Bool.or_false _).symm (Bool.or_false _).symm (Bool.or_false _).symm (Bool.or_false _).symm (Bool.or_false _).symm (Bool.or_false _).symm
theorem set5_join {c : Ctl} (t : Bs) (h : Bool) (h0 : vC c) : set5 c t h = joinC c (set5 noneC t h) := Ctl.eq (least_none _).symm (least_none _).symm (max_none h0.2.2.1).symm (least_none _).symm (least_none _).symm (by show leastI c.a5 (secN t) = leastI c.a5 (leastI (-1) (secN t)); rw [least_none']) (Bool.or_false _).symm (Bool.or_false _).symm (Bool.or_false _).symm (Bool.or_false _).symm (Bool.or_false _).symm (Bool.or_false _).symm (Bool.or_false _).symm (Bool.or_false _).symm (Bool.or_false _).symm
theorem set6_join {c : Ctl} (t : Bs) (h : Bool) (h0 : vC c) : set6 c t h = joinC c (set6 noneC t h) := Ctl.eq (least_none _).symm (least_none _).symm (max_none h0.2.2.1).symm (least_none _).symm (least_none _).symm (least_none _).symm (by show true = (c.b0 || true); rw [Bool.or_true]) (Bool.or_false _).symm (Bool.or_false _).symm (Bool.or_false _).symm (Bool.or_false _).symm (Bool.or_false _).symm (Bool.or_false _).symm (Bool.or_false _).symm (Bool.or_false _).symm
theorem set7_join {c : Ctl} (t : Bs) (h : Bool) (h0 : vC c) : set7 c t h = joinC c (set7 noneC t h) := Ctl.eq (least_none _).symm (least_none _).symm (max_none h0.2.2.1).symm (least_none _).symm (least_none _).symm (least_none _).symm (Bool.or_false _).symm (by show true = (c.b1 || true); rw [Bool.or_true]) (Bool.or_false _).symm (Bool.or_false _).symm (Bool.or_false _).symm (Bool.or_false _).symm (Bool.or_false _).symm (Bool.or_false _).symm (Bool.or_false _).symm
theorem set8_join {c : Ctl} (t : Bs) (h : Bool) (h0 : vC c) : set8 c t h = joinC c (set8 noneC t h) := Ctl.eq (least_none _).symm (least_none _).symm (max_none h0.2.2.1).symm (least_none _).symm (least_none _).symm (least_none _).symm (Bool.or_false _).symm (Bool.or_false _).symm (by show true = (c.b2 || true); rw [Bool.or_true]) (Bool.or_false _).symm (Bool.or_false _).symm (Bool.or_false _).symm (Bool.or_false _).symm (Bool.or_false _).symm (Bool.or_false _).symm
theorem set9_join {c : Ctl} (t : Bs) (h : Bool) (h0 : vC c) : set9 c t h = joinC c (set9 noneC t h) := Ctl.eq (least_none _).symm (least_none _).symm (max_none h0.2.2.1).symm (least_none _).symm (least_none _).symm (least_none _).symm (Bool.or_false _).symm (Bool.or_false _).symm (Bool.or_false _).symm (by show true = (c.b3 || true); rw [Bool.or_true]) (Bool.or_false _).symm (Bool.or_false _).symm (Bool.or_false _).symm (Bool.or_false _).symm (Bool.or_false _).symm
theorem set10_join {c : Ctl} (t : Bs) (h : Bool) (h0 : vC c) : set10 c t h = joinC c (set10 noneC t h) := Ctl.eq (least_none _).symm (least_none _).symm (max_none h0.2.2.1).symm (least_none _).symm (least_none _).symm (least_none _).symm (Bool.or_false _).symm (Bool.or_false _).symm (Bool.or_false _).symm (Bool.or_false _).symm (by show true = (c.b4 || true); rw [Bool.or_true]) (Bool.or_false _).symm (Bool.or_false _).symm (Bool.or_false _).symm (Bool.or_false _).symm
theorem set11_join {c : Ctl} (t : Bs) (h : Bool) (h0 : vC c) : set11 c t h = joinC c (set11 noneC t h) := Ctl.eq (least_none _).symm (least_none _).symm (max_none h0.2.2.1).symm (least_none _).symm (least_none _).symm (least_none _).symm (Bool.or_false _).symm (Bool.or_false _).symm (Bool.or_false _).symm (Bool.or_false _).symm (Bool.or_false _).symm (by show true = (c.b5 || true); rw [Bool.or_true]) (Bool.or_false _).symm (Bool.or_false _).symm (Bool.or_false _).symm
theorem set12_join {c : Ctl} (t : Bs) (h : Bool) (h0 : vC c) : set12 c t h = joinC c (set12 noneC t h) := Ctl.eq (least_none _).symm (least_none _).symm (max_none h0.2.2.1).symm (least_none _).symm (least_none _).symm (least_none _).symm (Bool.or_false _).symm (Bool.or_false _).symm (Bool.or_false _).symm (Bool.or_false _).symm (Bool.or_false _).symm (Bool.or_false _).symm (by show true = (c.b6 || true); rw [Bool.or_true]) (Bool.or_false _).symm (Bool.or_false _).symm
theorem set13_join {c : Ctl} (t : Bs) (h : Bool) (h0 : vC c) : set13 c t h = joinC c (set13 noneC t h) := Ctl.eq (least_none _).symm (least_none _).symm (max_none h0.2.2.1).symm (least_none _).symm (least_none _).symm (least_none _).symm (Bool.or_false _).symm (Bool.or_false _).symm (Bool.or_false _).symm (Bool.or_false _).symm (Bool.or_false _).symm (Bool.or_false _).symm (Bool.or_false _).symm (by show true = (c.b7 || true); rw [Bool.or_true]) (Bool.or_false _).symm
theorem set14_join {c : Ctl} (t : Bs) (h : Bool) (h0 : vC c) : set14 c t h = joinC c (set14 noneC t h) := Ctl.eq (least_none _).symm (least_none _).symm (max_none h0.2.2.1).symm (least_none _).symm (least_none _).symm (least_none _).symm (Bool.or_false _).symm (Bool.or_false _).symm (Bool.or_false _).symm (Bool.or_false _).symm (Bool.or_false _).symm (Bool.or_false _).symm (Bool.or_false _).symm (Bool.or_false _).symm (by show true = (c.b8 || true); rw [Bool.or_true])
theorem set_join {c : Ctl} (d : Dir) (h : vC c) : setC c d = joinC c (oneC d) := by
  unfold oneC setC
  by_cases e0 : d.1 = dn0
  · rw [if_pos e0, if_pos e0]; exact set0_join _ _ h
  rw [if_neg e0, if_neg e0]
  by_cases e1 : d.1 = dn1
  · rw [if_pos e1, if_pos e1]; exact set1_join _ _ h
  rw [if_neg e1, if_neg e1]
  by_cases e2 : d.1 = dn2
  · rw [if_pos e2, if_pos e2]; exact set2_join _ _ h
  rw [if_neg e2, if_neg e2]
  by_cases e3 : d.1 = dn3
  · rw [if_pos e3, if_pos e3]; exact set3_join _ _ h
  rw [if_neg e3, if_neg e3]
  by_cases e4 : d.1 = dn4
  · rw [if_pos e4, if_pos e4]; exact set4_join _ _ h
  rw [if_neg e4, if_neg e4]
  by_cases e5 : d.1 = dn5
  · rw [if_pos e5, if_pos e5]; exact set5_join _ _ h
  rw [if_neg e5, if_neg e5]
  by_cases e6 : d.1 = dn6
  · rw [if_pos e6, if_pos e6]; exact set6_join _ _ h
  rw [if_neg e6, if_neg e6]
  by_cases e7 : d.1 = dn7
  · rw [if_pos e7, if_pos e7]; exact set7_join _ _ h
  rw [if_neg e7, if_neg e7]
  by_cases e8 : d.1 = dn8
  · rw [if_pos e8, if_pos e8]; exact set8_join _ _ h
  rw [if_neg e8, if_neg e8]
  by_cases e9 : d.1 = dn9
  · rw [if_pos e9, if_pos e9]; exact set9_join _ _ h
  rw [if_neg e9, if_neg e9]
  by_cases e10 : d.1 = dn10
  · rw [if_pos e10, if_pos e10]; exact set10_join _ _ h
  rw [if_neg e10, if_neg e10]
  by_cases e11 : d.1 = dn11
  · rw [if_pos e11, if_pos e11]; exact set11_join _ _ h
  rw [if_neg e11, if_neg e11]
  by_cases e12 : d.1 = dn12
  · rw [if_pos e12, if_pos e12]; exact set12_join _ _ h
  rw [if_neg e12, if_neg e12]
  by_cases e13 : d.1 = dn13
  · rw [if_pos e13, if_pos e13]; exact set13_join _ _ h
  rw [if_neg e13, if_neg e13]
  by_cases e14 : d.1 = dn14
  · rw [if_pos e14, if_pos e14]; exact set14_join _ _ h
  rw [if_neg e14, if_neg e14]
  exact (join_none h).symm
theorem v_set0 (t : Bs) (h : Bool) : vC (set0 noneC t h) := ⟨least_v (by decide) (maxN_v (secN_v t)), (by decide : vNc (-1)), (by decide : vNc (-1)), (by decide : vNc (-1)), (by decide : vNc (-1)), (by decide : vNc (-1))⟩
theorem v_set1 (t : Bs) (h : Bool) : vC (set1 noneC t h) := ⟨(by decide : vNc (-1)), least_v (by decide) (maxN_v (secN_v t)), (by decide : vNc (-1)), (by decide : vNc (-1)), (by decide : vNc (-1)), (by decide : vNc (-1))⟩
theorem v_set2 (t : Bs) (h : Bool) : vC (set2 noneC t h) := ⟨(by decide : vNc (-1)), (by decide : vNc (-1)), max_v (by decide) (staleN_v t h), (by decide : vNc (-1)), (by decide : vNc (-1)), (by decide : vNc (-1))⟩
theorem v_set3 (t : Bs) (h : Bool) : vC (set3 noneC t h) := ⟨(by decide : vNc (-1)), (by decide : vNc (-1)), (by decide : vNc (-1)), least_v (by decide) (secN_v t), (by decide : vNc (-1)), (by decide : vNc (-1))⟩
theorem v_set4 (t : Bs) (h : Bool) : vC (set4 noneC t h) := ⟨(by decide : vNc (-1)), (by decide : vNc (-1)), (by decide : vNc (-1)), (by decide : vNc (-1)), least_v (by decide) (secN_v t), (by decide : vNc (-1))⟩
theorem v_set5 (t : Bs) (h : Bool) : vC (set5 noneC t h) := ⟨(by decide : vNc (-1)), (by decide : vNc (-1)), (by decide : vNc (-1)), (by decide : vNc (-1)), (by decide : vNc (-1)), least_v (by decide) (secN_v t)⟩
theorem v_set6 (t : Bs) (h : Bool) : vC (set6 noneC t h) := ⟨(by decide : vNc (-1)), (by decide : vNc (-1)), (by decide : vNc (-1)), (by decide : vNc (-1)), (by decide : vNc (-1)), (by decide : vNc (-1))⟩
theorem v_set7 (t : Bs) (h : Bool) : vC (set7 noneC t h) := ⟨(by decide : vNc (-1)), (by decide : vNc (-1)), (by decide : vNc (-1)), (by decide : vNc (-1)), (by decide : vNc (-1)), (by decide : vNc (-1))⟩
theorem v_set8 (t : Bs) (h : Bool) : vC (set8 noneC t h) := ⟨(by decide : vNc (-1)), (by decide : vNc (-1)), (by decide : vNc (-1)), (by decide : vNc (-1)), (by decide : vNc (-1)), (by decide : vNc (-1))⟩
theorem v_set9 (t : Bs) (h : Bool) : vC (set9 noneC t h) := ⟨(by decide : vNc (-1)), (by decide : vNc (-1)), (by decide : vNc (-1)), (by decide : vNc (-1)), (by decide : vNc (-1)), (by decide : vNc (-1))⟩
theorem v_set10 (t : Bs) (h : Bool) : vC (set10 noneC t h) := ⟨(by decide : vNc (-1)), (by decide : vNc (-1)), (by decide : vNc (-1)), (by decide : vNc (-1)), (by decide : vNc (-1)), (by decide : vNc (-1))⟩
theorem v_set11 (t : Bs) (h : Bool) : vC (set11 noneC t h) := ⟨(by decide : vNc (-1)), (by decide : vNc (-1)), (by decide : vNc (-1)), (by decide : vNc (-1)), (by decide : vNc (-1)), (by decide : vNc (-1))⟩
theorem v_set12 (t : Bs) (h : Bool) : vC (set12 noneC t h) := ⟨(by decide : vNc (-1)), (by decide : vNc (-1)), (by decide : vNc (-1)), (by decide : vNc (-1)), (by decide : vNc (-1)), (by decide : vNc (-1))⟩
theorem v_set13 (t : Bs) (h : Bool) : vC (set13 noneC t h) := ⟨(by decide : vNc (-1)), (by decide : vNc (-1)), (by decide : vNc (-1)), (by decide : vNc (-1)), (by decide : vNc (-1)), (by decide : vNc (-1))⟩
theorem v_set14 (t : Bs) (h : Bool) : vC (set14 noneC t h) := ⟨(by decide : vNc (-1)), (by decide : vNc (-1)), (by decide : vNc (-1)), (by decide : vNc (-1)), (by decide : vNc (-1)), (by decide : vNc (-1))⟩
theorem v_one (d : Dir) : vC (oneC d) := by
  unfold oneC setC
  by_cases e0 : d.1 = dn0
  · rw [if_pos e0]; exact v_set0 _ _
  rw [if_neg e0]
  by_cases e1 : d.1 = dn1
  · rw [if_pos e1]; exact v_set1 _ _
  rw [if_neg e1]
  by_cases e2 : d.1 = dn2
  · rw [if_pos e2]; exact v_set2 _ _
  rw [if_neg e2]
  by_cases e3 : d.1 = dn3
  · rw [if_pos e3]; exact v_set3 _ _
  rw [if_neg e3]
  by_cases e4 : d.1 = dn4
  · rw [if_pos e4]; exact v_set4 _ _
  rw [if_neg e4]
  by_cases e5 : d.1 = dn5
  · rw [if_pos e5]; exact v_set5 _ _
  rw [if_neg e5]
  by_cases e6 : d.1 = dn6
  · rw [if_pos e6]; exact v_set6 _ _
  rw [if_neg e6]
  by_cases e7 : d.1 = dn7
  · rw [if_pos e7]; exact v_set7 _ _
  rw [if_neg e7]
  by_cases e8 : d.1 = dn8
  · rw [if_pos e8]; exact v_set8 _ _
  rw [if_neg e8]
  by_cases e9 : d.1 = dn9
  · rw [if_pos e9]; exact v_set9 _ _
  rw [if_neg e9]
  by_cases e10 : d.1 = dn10
  · rw [if_pos e10]; exact v_set10 _ _
  rw [if_neg e10]
  by_cases e11 : d.1 = dn11
  · rw [if_pos e11]; exact v_set11 _ _
  rw [if_neg e11]
  by_cases e12 : d.1 = dn12
  · rw [if_pos e12]; exact v_set12 _ _
  rw [if_neg e12]
  by_cases e13 : d.1 = dn13
  · rw [if_pos e13]; exact v_set13 _ _
  rw [if_neg e13]
  by_cases e14 : d.1 = dn14
  · rw [if_pos e14]; exact v_set14 _ _
  rw [if_neg e14]
  exact v_none

theorem v_setC {c : Ctl} (d : Dir) (h : vC c) : vC (setC c d) := by rw [set_join d h]; exact v_join h (v_one d)
theorem v_fold : ∀ (ds : List Dir) {c : Ctl}, vC c → vC (foldC c ds)
  | [], _, h => h
  | d :: t, _, h => v_fold t (v_setC d h)
theorem fold_join : ∀ (ds : List Dir) {c : Ctl}, vC c → foldC c ds = joinC c (foldC noneC ds)
  | [], c, h => (join_none h).symm
  | d :: t, c, h => by
    have e1 : foldC c (d :: t) = foldC (setC c d) t := rfl
    have e2 : foldC noneC (d :: t) = foldC (setC noneC d) t := rfl
    rw [e1, e2, fold_join t (v_setC d h), fold_join t (v_setC d v_none), set_join d h, set_join d v_none, none_join (v_one d)]
    exact join_assoc _ _ _
theorem foldC_one (c : Ctl) (d : Dir) : foldC c [d] = setC c d := rfl
theorem fold_app (c : Ctl) (a b : List Dir) : foldC c (a ++ b) = foldC (foldC c a) b := List.foldl_append
theorem v_parse (l : List Bs) : vC (parseL l) := v_fold _ v_none
theorem dirs_app (l m : List Bs) : dirsL (l ++ m) = dirsL l ++ dirsL m := List.flatMap_append
theorem parse_app (l m : List Bs) : parseL (l ++ m) = joinC (parseL l) (parseL m) := by
  unfold parseL
  rw [dirs_app, fold_app]
  exact fold_join _ (v_fold _ v_none)

/-! what a control says -/
def numP (n : Bs) (a : Int) : List Bs := if a < 0 then [] else [n ++ [61] ++ digL a.toNat]
def staP (a : Int) : List Bs := if a < 0 then [] else if a = mxD then [dn2] else [dn2 ++ [61] ++ digL a.toNat]
def flgP (n : Bs) (b : Bool) : List Bs := if b = true then [n] else []
def numD (n : Bs) (a : Int) : List Dir := if a < 0 then [] else [(n, digL a.toNat, true)]
def staD (a : Int) : List Dir := if a < 0 then [] else if a = mxD then [(dn2, [], false)] else [(dn2, digL a.toNat, true)]
def flgD (n : Bs) (b : Bool) : List Dir := if b = true then [(n, [], false)] else []
def partsC (c : Ctl) : List Bs := numP dn0 c.a0 ++ numP dn1 c.a1 ++ staP c.a2 ++ numP dn3 c.a3 ++ numP dn4 c.a4 ++ numP dn5 c.a5 ++ flgP dn6 c.b0 ++ flgP dn7 c.b1 ++ flgP dn8 c.b2 ++ flgP dn9 c.b3 ++ flgP dn10 c.b4 ++ flgP dn11 c.b5 ++ flgP dn12 c.b6 ++ flgP dn13 c.b7 ++ flgP dn14 c.b8
def dirsC (c : Ctl) : List Dir := numD dn0 c.a0 ++ numD dn1 c.a1 ++ staD c.a2 ++ numD dn3 c.a3 ++ numD dn4 c.a4 ++ numD dn5 c.a5 ++ flgD dn6 c.b0 ++ flgD dn7 c.b1 ++ flgD dn8 c.b2 ++ flgD dn9 c.b3 ++ flgD dn10 c.b4 ++ flgD dn11 c.b5 ++ flgD dn12 c.b6 ++ flgD dn13 c.b7 ++ flgD dn14 c.b8
def textC (c : Ctl) : Bs := Lib.join (partsC c) [44, 32]

def plainP (p : Bs) : Prop := p ≠ [] ∧ ∀ x ∈ p, x ≠ 44 ∧ x ≠ 34 ∧ x ≠ 32 ∧ x ≠ 9
theorem ctrim_as (l : Bs) (h : ∀ c ∈ l, c ≠ 32 ∧ c ≠ 9) : trimL l = l := by
  have dw : ∀ l : Bs, (∀ c ∈ l, c ≠ 32 ∧ c ≠ 9) → l.dropWhile (fun b => [32, 9].contains b) = l := by
    intro l h
    cases l with
    | nil => rfl
    | cons c t =>
      have hc := h c (by simp)
      rw [List.dropWhile_cons, if_neg (by simp [hc.1, hc.2])]
  unfold trimL Lib.trimS Lib.trimLeftS Lib.trimRightS
  rw [dw l.reverse (fun c hc => h c (by simpa using hc)), List.reverse_reverse, dw l h]
theorem ctrim_front (l : Bs) (h : ∀ c ∈ l, c ≠ 32 ∧ c ≠ 9) : trimL (32 :: l) = l := by
  have dw : ∀ l : Bs, (∀ c ∈ l, c ≠ 32 ∧ c ≠ 9) → l.dropWhile (fun b => [32, 9].contains b) = l := by
    intro l h
    cases l with
    | nil => rfl
    | cons c t =>
      have hc := h c (by simp)
      rw [List.dropWhile_cons, if_neg (by simp [hc.1, hc.2])]
  unfold trimL Lib.trimS Lib.trimLeftS Lib.trimRightS
  cases l with
  | nil => rfl
  | cons a t =>
    have hlast : ((32 :: a :: t).reverse).dropWhile (fun b => [32, 9].contains b) = (32 :: a :: t).reverse := by
      have e : (32 :: a :: t).reverse = (a :: t).reverse ++ [32] := by simp
      rw [e]
      cases hr : (a :: t).reverse with
      | nil => simp at hr
      | cons z r =>
        have hz := h z (by rw [← List.mem_reverse, hr]; simp)
        rw [List.cons_append, List.dropWhile_cons, if_neg (by simp [hz.1, hz.2])]
    rw [hlast, List.reverse_reverse, List.dropWhile_cons, if_pos (by decide), dw _ h]
theorem cspl_plain : ∀ (l cur : Bs), (∀ c ∈ l, c ≠ 44 ∧ c ≠ 34) → spl 0 cur l = [cur ++ l]
  | [], cur, _ => by simp [spl]
  | c :: t, cur, h => by
    have hc := h c (by simp)
    rw [spl, if_neg hc.1, if_neg hc.2, cspl_plain t (cur ++ [c]) fun d hd => h d (by simp [hd])]
    simp
theorem cspl_comma : ∀ (l cur r : Bs), (∀ c ∈ l, c ≠ 44 ∧ c ≠ 34) → spl 0 cur (l ++ 44 :: r) = (cur ++ l) :: spl 0 [] r
  | [], cur, r, _ => by rw [List.nil_append, spl, if_pos rfl, List.append_nil]
  | c :: t, cur, r, h => by
    have hc := h c (by simp)
    rw [List.cons_append, spl, if_neg hc.1, if_neg hc.2, cspl_comma t (cur ++ [c]) r fun d hd => h d (by simp [hd])]
    simp
theorem add_plain (p : Bs) (h : p ≠ []) : addP p = [p] := by unfold addP; rw [if_neg h]
/-- behind a comma and a blank -/
theorem parts_tail : ∀ (P : List Bs) (p : Bs), (∀ q ∈ p :: P, plainP q) → parts (spl 0 [] (32 :: (p ++ Lib.joinTail [44, 32] P))) = p :: P
  | [], p, h => by
    have hp := h p (by simp)
    have e : Lib.joinTail [44, 32] [] = [] := rfl
    rw [e, List.append_nil, cspl_plain _ _ (by
      intro c hc
      rcases List.mem_cons.1 hc with rfl | hc
      · decide
      · exact ⟨(hp.2 c hc).1, (hp.2 c hc).2.1⟩), parts_one, List.nil_append, ctrim_front p (fun c hc => (hp.2 c hc).2.2), add_plain p hp.1]
  | q :: P, p, h => by
    have hp := h p (by simp)
    have e : Lib.joinTail [44, 32] (q :: P) = 44 :: 32 :: (q ++ Lib.joinTail [44, 32] P) := rfl
    rw [e, ← List.cons_append, cspl_comma _ _ _ (by
      intro c hc
      rcases List.mem_cons.1 hc with rfl | hc
      · decide
      · exact ⟨(hp.2 c hc).1, (hp.2 c hc).2.1⟩), parts_cons, List.nil_append, ctrim_front p (fun c hc => (hp.2 c hc).2.2), add_plain p hp.1, parts_tail P q (fun x hx => h x (by simp at hx ⊢; right; exact hx))]
    rfl
theorem split_joined2 (P : List Bs) (h : ∀ q ∈ P, plainP q) : splitL (Lib.join P [44, 32]) = P := by
  cases P with
  | nil => rfl
  | cons p P =>
    have hp := h p (by simp)
    rw [Lib.join_cons]
    unfold splitL
    cases P with
    | nil =>
      have e : Lib.joinTail [44, 32] [] = [] := rfl
      rw [e, List.append_nil, cspl_plain _ _ (fun c hc => ⟨(hp.2 c hc).1, (hp.2 c hc).2.1⟩), parts_one, List.nil_append, ctrim_as p (fun c hc => (hp.2 c hc).2.2), add_plain p hp.1]
    | cons q P =>
      have e : Lib.joinTail [44, 32] (q :: P) = 44 :: 32 :: (q ++ Lib.joinTail [44, 32] P) := rfl
      rw [e, cspl_comma _ _ _ (fun c hc => ⟨(hp.2 c hc).1, (hp.2 c hc).2.1⟩), parts_cons, List.nil_append, ctrim_as p (fun c hc => (hp.2 c hc).2.2), add_plain p hp.1, parts_tail P q (fun x hx => h x (by simp at hx ⊢; right; exact hx))]
      rfl

theorem dig_plain (k : Nat) : ∀ x ∈ digL k, x ≠ 44 ∧ x ≠ 34 ∧ x ≠ 32 ∧ x ≠ 9 ∧ x ≠ 61 := by
  intro x hx
  have h := digL_digits k k (Nat.le_refl _) x hx
  unfold isDig at h
  refine ⟨?_, ?_, ?_, ?_, ?_⟩ <;> (rintro rfl; revert h; decide)
def nameB (n : Bs) : Bool := tokB n && decide (lowL n = n) && n.all (fun x => x != 44 && x != 34 && x != 32 && x != 9 && x != 61)
theorem name_plainC {n : Bs} (h : nameB n = true) : ∀ x ∈ n, x ≠ 44 ∧ x ≠ 34 ∧ x ≠ 32 ∧ x ≠ 9 ∧ x ≠ 61 := by
  unfold nameB at h
  rw [Bool.and_eq_true, List.all_eq_true] at h
  intro x hx
  have := h.2 x hx
  simp at this
  exact ⟨this.1.1.1.1, this.1.1.1.2, this.1.1.2, this.1.2, this.2⟩
theorem name_tok {n : Bs} (h : nameB n = true) : tokB n = true := by unfold nameB at h; simp at h; exact h.1.1
theorem name_lowC {n : Bs} (h : nameB n = true) : lowL n = n := by unfold nameB at h; simp at h; exact h.1.2
theorem name_ne {n : Bs} (h : nameB n = true) : n ≠ [] := by
  have := name_tok h
  unfold tokB at this
  intro e; rw [e] at this; exact absurd this (by decide)
theorem ccut_none (c : UInt8) (l : Bs) (h : ∀ x ∈ l, x ≠ c) : cutL c l = (l, [], false) := by
  unfold cutL
  rw [if_neg]
  simp
  exact fun e => h c e rfl
theorem ccut_at (c : UInt8) : ∀ (a b : Bs), (∀ x ∈ a, x ≠ c) → cutL c (a ++ [c] ++ b) = (a, b, true) := by
  intro a b h
  unfold cutL
  have e0 : (a ++ [c] ++ b).contains c = true := by simp
  have e1 : ∀ a : Bs, (∀ x ∈ a, x ≠ c) → (a ++ [c] ++ b).takeWhile (· != c) = a ∧ (a ++ [c] ++ b).dropWhile (· != c) = c :: b := by
    intro a
    induction a with
    | nil => intro _; simp
    | cons y t ih =>
      intro h
      obtain ⟨i1, i2⟩ := ih (fun x hx => h x (by simp [hx]))
      have hy : (y != c) = true := by simp [h y (by simp)]
      constructor
      · rw [List.cons_append, List.cons_append, List.takeWhile_cons, if_pos hy, i1]
      · rw [List.cons_append, List.cons_append, List.dropWhile_cons, if_pos hy, i2]
  rw [if_pos e0, (e1 a h).1, (e1 a h).2]
  rfl
theorem unqT_dig (k : Nat) : unqT (digL k) = digL k := by
  unfold unqT
  rw [if_neg]
  intro h
  unfold unqOk at h
  rw [Bool.and_eq_true, Bool.and_eq_true, decide_eq_true_eq] at h
  have h1 := h.1.1
  cases hd : digL k with
  | nil => rw [hd] at h1; simp at h1
  | cons x t =>
    rw [hd] at h1
    simp at h1
    exact (dig_plain k x (by rw [hd]; simp)).2.1 h1
theorem dirOf_num {n : Bs} (h : nameB n = true) (k : Nat) : dirOf (n ++ [61] ++ digL k) = [(n, digL k, true)] := by
  unfold dirOf
  rw [ccut_at 61 n (digL k) (fun x hx => (name_plainC h x hx).2.2.2.2), if_pos (name_tok h), name_lowC h, unqT_dig]
theorem dirOf_flag {n : Bs} (h : nameB n = true) : dirOf n = [(n, [], false)] := by
  unfold dirOf
  rw [ccut_none 61 n (fun x hx => (name_plainC h x hx).2.2.2.2), if_pos (name_tok h), name_lowC h]
  rfl
theorem plain_name {n : Bs} (h : nameB n = true) : plainP n := ⟨name_ne h, fun x hx => ⟨(name_plainC h x hx).1, (name_plainC h x hx).2.1, (name_plainC h x hx).2.2.1, (name_plainC h x hx).2.2.2.1⟩⟩
theorem plain_num {n : Bs} (h : nameB n = true) (k : Nat) : plainP (n ++ [61] ++ digL k) := by
  refine ⟨by simp, fun x hx => ?_⟩
  rw [List.append_assoc, List.mem_append] at hx
  rcases hx with hx | hx
  · exact (plain_name h).2 x hx
  · rcases List.mem_cons.1 hx with rfl | hx
    · decide
    · have := dig_plain k x hx
      exact ⟨this.1, this.2.1, this.2.2.1, this.2.2.2.1⟩
theorem numP_ok {n : Bs} (h : nameB n = true) (a : Int) : (∀ q ∈ numP n a, plainP q) ∧ (numP n a).flatMap dirOf = numD n a := by
  unfold numP numD
  split
  · exact ⟨by simp, rfl⟩
  · refine ⟨by intro q hq; rw [List.mem_singleton] at hq; subst hq; exact plain_num h _, ?_⟩
    rw [List.flatMap_cons, dirOf_num h]; rfl
theorem flgP_ok {n : Bs} (h : nameB n = true) (b : Bool) : (∀ q ∈ flgP n b, plainP q) ∧ (flgP n b).flatMap dirOf = flgD n b := by
  unfold flgP flgD
  split
  · refine ⟨by intro q hq; rw [List.mem_singleton] at hq; subst hq; exact plain_name h, ?_⟩
    rw [List.flatMap_cons, dirOf_flag h]; rfl
  · exact ⟨by simp, rfl⟩
theorem staP_ok (a : Int) : (∀ q ∈ staP a, plainP q) ∧ (staP a).flatMap dirOf = staD a := by
  have h : nameB dn2 = true := by decide +kernel
  unfold staP staD
  split
  · exact ⟨by simp, rfl⟩
  · split
    · refine ⟨by intro q hq; rw [List.mem_singleton] at hq; subst hq; exact plain_name h, ?_⟩
      rw [List.flatMap_cons, dirOf_flag h]; rfl
    · refine ⟨by intro q hq; rw [List.mem_singleton] at hq; subst hq; exact plain_num h _, ?_⟩
      rw [List.flatMap_cons, dirOf_num h]; rfl
def segOk (P : List Bs) (D : List Dir) : Prop := (∀ q ∈ P, plainP q) ∧ P.flatMap dirOf = D
theorem segOk.app {P Q : List Bs} {D E : List Dir} (h : segOk P D) (k : segOk Q E) : segOk (P ++ Q) (D ++ E) :=
  ⟨fun q hq => (List.mem_append.1 hq).elim (h.1 q) (k.1 q), by rw [List.flatMap_append, h.2, k.2]⟩
theorem parts_ok (c : Ctl) : segOk (partsC c) (dirsC c) := (((((((((((((((show segOk _ _ from (numP_ok (by decide +kernel) c.a0)).app (show segOk _ _ from (numP_ok (by decide +kernel) c.a1))).app (show segOk _ _ from (staP_ok c.a2))).app (show segOk _ _ from (numP_ok (by decide +kernel) c.a3))).app (show segOk _ _ from (numP_ok (by decide +kernel) c.a4))).app (show segOk _ _ from (numP_ok (by decide +kernel) c.a5))).app (show segOk _ _ from (flgP_ok (by decide +kernel) c.b0))).app (show segOk _ _ from (flgP_ok (by decide +kernel) c.b1))).app (show segOk _ _ from (flgP_ok (by decide +kernel) c.b2))).app (show segOk _ _ from (flgP_ok (by decide +kernel) c.b3))).app (show segOk _ _ from (flgP_ok (by decide +kernel) c.b4))).app (show segOk _ _ from (flgP_ok (by decide +kernel) c.b5))).app (show segOk _ _ from (flgP_ok (by decide +kernel) c.b6))).app (show segOk _ _ from (flgP_ok (by decide +kernel) c.b7))).app (show segOk _ _ from (flgP_ok (by decide +kernel) c.b8)))
theorem dirs_text (c : Ctl) : dirsV (textC c) = dirsC c := by
  unfold dirsV textC
  rw [split_joined2 _ (parts_ok c).1, (parts_ok c).2]
theorem sec_dig {a : Int} (h : vNc a) (h0 : ¬ a < 0) : secN (digL a.toNat) = a := by
  unfold vNc mxD at h
  have e := num_zeros 0 a.toNat
  rw [List.replicate_zero, List.nil_append, if_neg (by unfold maxN; omega)] at e
  unfold secN mxD
  rw [e, if_pos rfl]
  omega
theorem numD_fold {n : Bs} {f : Ctl → Ctl} {a : Int} (h : vNc a) (c : Ctl) (hn : a = -1 → f c = c) (hs : ¬ a < 0 → setC c (n, digL a.toNat, true) = f c) : foldC c (numD n a) = f c := by
  unfold numD
  split
  · rename_i h2
    have : a = -1 := by unfold vNc at h; omega
    exact (hn this).symm
  · rename_i h2
    exact hs h2

theorem seg0 (x0 : Int) (x1 : Int) (x2 : Int) (x3 : Int) (x4 : Int) (x5 : Int) (x6 : Bool) (x7 : Bool) (x8 : Bool) (x9 : Bool) (x10 : Bool) (x11 : Bool) (x12 : Bool) (x13 : Bool) (x14 : Bool) (h : vNc x0) : foldC ⟨-1, x1, x2, x3, x4, x5, x6, x7, x8, x9, x10, x11, x12, x13, x14⟩ (numD dn0 x0) = ⟨x0, x1, x2, x3, x4, x5, x6, x7, x8, x9, x10, x11, x12, x13, x14⟩ := by
  unfold numD
  split
  · rename_i h2
    obtain rfl : x0 = -1 := by unfold vNc at h; omega
    rfl
  · rename_i h2
    rw [foldC_one, setC0]
    unfold set0
    simp only [sec_dig h h2, least_none']
    rw [show max x0 0 = x0 by omega]
theorem seg1 (x0 : Int) (x1 : Int) (x2 : Int) (x3 : Int) (x4 : Int) (x5 : Int) (x6 : Bool) (x7 : Bool) (x8 : Bool) (x9 : Bool) (x10 : Bool) (x11 : Bool) (x12 : Bool) (x13 : Bool) (x14 : Bool) (h : vNc x1) : foldC ⟨x0, -1, x2, x3, x4, x5, x6, x7, x8, x9, x10, x11, x12, x13, x14⟩ (numD dn1 x1) = ⟨x0, x1, x2, x3, x4, x5, x6, x7, x8, x9, x10, x11, x12, x13, x14⟩ := by
  unfold numD
  split
  · rename_i h2
    obtain rfl : x1 = -1 := by unfold vNc at h; omega
    rfl
  · rename_i h2
    rw [foldC_one, setC1]
    unfold set1
    simp only [sec_dig h h2, least_none']
    rw [show max x1 0 = x1 by omega]
theorem seg2 (x0 : Int) (x1 : Int) (x2 : Int) (x3 : Int) (x4 : Int) (x5 : Int) (x6 : Bool) (x7 : Bool) (x8 : Bool) (x9 : Bool) (x10 : Bool) (x11 : Bool) (x12 : Bool) (x13 : Bool) (x14 : Bool) (h : vNc x2) : foldC ⟨x0, x1, -1, x3, x4, x5, x6, x7, x8, x9, x10, x11, x12, x13, x14⟩ (staD x2) = ⟨x0, x1, x2, x3, x4, x5, x6, x7, x8, x9, x10, x11, x12, x13, x14⟩ := by
  unfold staD
  split
  · rename_i h2
    obtain rfl : x2 = -1 := by unfold vNc at h; omega
    rfl
  · rename_i h2
    split
    · rename_i h3
      subst h3
      rfl
    · rw [foldC_one, setC2]
      unfold set2 staleN
      simp only [sec_dig h h2, if_true, none_max h]
theorem seg3 (x0 : Int) (x1 : Int) (x2 : Int) (x3 : Int) (x4 : Int) (x5 : Int) (x6 : Bool) (x7 : Bool) (x8 : Bool) (x9 : Bool) (x10 : Bool) (x11 : Bool) (x12 : Bool) (x13 : Bool) (x14 : Bool) (h : vNc x3) : foldC ⟨x0, x1, x2, -1, x4, x5, x6, x7, x8, x9, x10, x11, x12, x13, x14⟩ (numD dn3 x3) = ⟨x0, x1, x2, x3, x4, x5, x6, x7, x8, x9, x10, x11, x12, x13, x14⟩ := by
  unfold numD
  split
  · rename_i h2
    obtain rfl : x3 = -1 := by unfold vNc at h; omega
    rfl
  · rename_i h2
    rw [foldC_one, setC3]
    unfold set3
    simp only [sec_dig h h2, least_none']
theorem seg4 (x0 : Int) (x1 : Int) (x2 : Int) (x3 : Int) (x4 : Int) (x5 : Int) (x6 : Bool) (x7 : Bool) (x8 : Bool) (x9 : Bool) (x10 : Bool) (x11 : Bool) (x12 : Bool) (x13 : Bool) (x14 : Bool) (h : vNc x4) : foldC ⟨x0, x1, x2, x3, -1, x5, x6, x7, x8, x9, x10, x11, x12, x13, x14⟩ (numD dn4 x4) = ⟨x0, x1, x2, x3, x4, x5, x6, x7, x8, x9, x10, x11, x12, x13, x14⟩ := by
  unfold numD
  split
  · rename_i h2
    obtain rfl : x4 = -1 := by unfold vNc at h; omega
    rfl
  · rename_i h2
    rw [foldC_one, setC4]
    unfold set4
    simp only [sec_dig h h2, least_none']
theorem seg5 (x0 : Int) (x1 : Int) (x2 : Int) (x3 : Int) (x4 : Int) (x5 : Int) (x6 : Bool) (x7 : Bool) (x8 : Bool) (x9 : Bool) (x10 : Bool) (x11 : Bool) (x12 : Bool) (x13 : Bool) (x14 : Bool) (h : vNc x5) : foldC ⟨x0, x1, x2, x3, x4, -1, x6, x7, x8, x9, x10, x11, x12, x13, x14⟩ (numD dn5 x5) = ⟨x0, x1, x2, x3, x4, x5, x6, x7, x8, x9, x10, x11, x12, x13, x14⟩ := by
  unfold numD
  split
  · rename_i h2
    obtain rfl : x5 = -1 := by unfold vNc at h; omega
    rfl
  · rename_i h2
    rw [foldC_one, setC5]
    unfold set5
    simp only [sec_dig h h2, least_none']
theorem seg6 (x0 : Int) (x1 : Int) (x2 : Int) (x3 : Int) (x4 : Int) (x5 : Int) (x6 : Bool) (x7 : Bool) (x8 : Bool) (x9 : Bool) (x10 : Bool) (x11 : Bool) (x12 : Bool) (x13 : Bool) (x14 : Bool) : foldC ⟨x0, x1, x2, x3, x4, x5, false, x7, x8, x9, x10, x11, x12, x13, x14⟩ (flgD dn6 x6) = ⟨x0, x1, x2, x3, x4, x5, x6, x7, x8, x9, x10, x11, x12, x13, x14⟩ := by
  cases x6
  · rfl
  · unfold flgD
    rw [if_pos rfl, foldC_one, setC6]
    rfl
theorem seg7 (x0 : Int) (x1 : Int) (x2 : Int) (x3 : Int) (x4 : Int) (x5 : Int) (x6 : Bool) (x7 : Bool) (x8 : Bool) (x9 : Bool) (x10 : Bool) (x11 : Bool) (x12 : Bool) (x13 : Bool) (x14 : Bool) : foldC ⟨x0, x1, x2, x3, x4, x5, x6, false, x8, x9, x10, x11, x12, x13, x14⟩ (flgD dn7 x7) = ⟨x0, x1, x2, x3, x4, x5, x6, x7, x8, x9, x10, x11, x12, x13, x14⟩ := by
  cases x7
  · rfl
  · unfold flgD
    rw [if_pos rfl, foldC_one, setC7]
    rfl
theorem seg8 (x0 : Int) (x1 : Int) (x2 : Int) (x3 : Int) (x4 : Int) (x5 : Int) (x6 : Bool) (x7 : Bool) (x8 : Bool) (x9 : Bool) (x10 : Bool) (x11 : Bool) (x12 : Bool) (x13 : Bool) (x14 : Bool) : foldC ⟨x0, x1, x2, x3, x4, x5, x6, x7, false, x9, x10, x11, x12, x13, x14⟩ (flgD dn8 x8) = ⟨x0, x1, x2, x3, x4, x5, x6, x7, x8, x9, x10, x11, x12, x13, x14⟩ := by
  cases x8
  · rfl
  · unfold flgD
    rw [if_pos rfl, foldC_one, setC8]
    rfl
theorem seg9 (x0 : Int) (x1 : Int) (x2 : Int) (x3 : Int) (x4 : Int) (x5 : Int) (x6 : Bool) (x7 : Bool) (x8 : Bool) (x9 : Bool) (x10 : Bool) (x11 : Bool) (x12 : Bool) (x13 : Bool) (x14 : Bool) : foldC ⟨x0, x1, x2, x3, x4, x5, x6, x7, x8, false, x10, x11, x12, x13, x14⟩ (flgD dn9 x9) = ⟨x0, x1, x2, x3, x4, x5, x6, x7, x8, x9, x10, x11, x12, x13, x14⟩ := by
  cases x9
  · rfl
  · unfold flgD
    rw [if_pos rfl, foldC_one, setC9]
    rfl
theorem seg10 (x0 : Int) (x1 : Int) (x2 : Int) (x3 : Int) (x4 : Int) (x5 : Int) (x6 : Bool) (x7 : Bool) (x8 : Bool) (x9 : Bool) (x10 : Bool) (x11 : Bool) (x12 : Bool) (x13 : Bool) (x14 : Bool) : foldC ⟨x0, x1, x2, x3, x4, x5, x6, x7, x8, x9, false, x11, x12, x13, x14⟩ (flgD dn10 x10) = ⟨x0, x1, x2, x3, x4, x5, x6, x7, x8, x9, x10, x11, x12, x13, x14⟩ := by
  cases x10
  · rfl
  · unfold flgD
    rw [if_pos rfl, foldC_one, setC10]
    rfl
theorem seg11 (x0 : Int) (x1 : Int) (x2 : Int) (x3 : Int) (x4 : Int) (x5 : Int) (x6 : Bool) (x7 : Bool) (x8 : Bool) (x9 : Bool) (x10 : Bool) (x11 : Bool) (x12 : Bool) (x13 : Bool) (x14 : Bool) : foldC ⟨x0, x1, x2, x3, x4, x5, x6, x7, x8, x9, x10, false, x12, x13, x14⟩ (flgD dn11 x11) = ⟨x0, x1, x2, x3, x4, x5, x6, x7, x8, x9, x10, x11, x12, x13, x14⟩ := by
  cases x11
  · rfl
  · unfold flgD
    rw [if_pos rfl, foldC_one, setC11]
    rfl
theorem seg12 (x0 : Int) (x1 : Int) (x2 : Int) (x3 : Int) (x4 : Int) (x5 : Int) (x6 : Bool) (x7 : Bool) (x8 : Bool) (x9 : Bool) (x10 : Bool) (x11 : Bool) (x12 : Bool) (x13 : Bool) (x14 : Bool) : foldC ⟨x0, x1, x2, x3, x4, x5, x6, x7, x8, x9, x10, x11, false, x13, x14⟩ (flgD dn12 x12) = ⟨x0, x1, x2, x3, x4, x5, x6, x7, x8, x9, x10, x11, x12, x13, x14⟩ := by
  cases x12
  · rfl
  · unfold flgD
    rw [if_pos rfl, foldC_one, setC12]
    rfl
theorem seg13 (x0 : Int) (x1 : Int) (x2 : Int) (x3 : Int) (x4 : Int) (x5 : Int) (x6 : Bool) (x7 : Bool) (x8 : Bool) (x9 : Bool) (x10 : Bool) (x11 : Bool) (x12 : Bool) (x13 : Bool) (x14 : Bool) : foldC ⟨x0, x1, x2, x3, x4, x5, x6, x7, x8, x9, x10, x11, x12, false, x14⟩ (flgD dn13 x13) = ⟨x0, x1, x2, x3, x4, x5, x6, x7, x8, x9, x10, x11, x12, x13, x14⟩ := by
  cases x13
  · rfl
  · unfold flgD
    rw [if_pos rfl, foldC_one, setC13]
    rfl
theorem seg14 (x0 : Int) (x1 : Int) (x2 : Int) (x3 : Int) (x4 : Int) (x5 : Int) (x6 : Bool) (x7 : Bool) (x8 : Bool) (x9 : Bool) (x10 : Bool) (x11 : Bool) (x12 : Bool) (x13 : Bool) (x14 : Bool) : foldC ⟨x0, x1, x2, x3, x4, x5, x6, x7, x8, x9, x10, x11, x12, x13, false⟩ (flgD dn14 x14) = ⟨x0, x1, x2, x3, x4, x5, x6, x7, x8, x9, x10, x11, x12, x13, x14⟩ := by
  cases x14
  · rfl
  · unfold flgD
    rw [if_pos rfl, foldC_one, setC14]
    rfl
theorem fold_dirs (c : Ctl) (h : vC c) : foldC noneC (dirsC c) = c := by
  obtain ⟨x0, x1, x2, x3, x4, x5, x6, x7, x8, x9, x10, x11, x12, x13, x14⟩ := c
  obtain ⟨h0, h1, h2, h3, h4, h5⟩ := h
  unfold dirsC noneC
  simp only [fold_app]
  rw [seg0 x0 (-1) (-1) (-1) (-1) (-1) false false false false false false false false false h0, seg1 x0 x1 (-1) (-1) (-1) (-1) false false false false false false false false false h1, seg2 x0 x1 x2 (-1) (-1) (-1) false false false false false false false false false h2, seg3 x0 x1 x2 x3 (-1) (-1) false false false false false false false false false h3, seg4 x0 x1 x2 x3 x4 (-1) false false false false false false false false false h4, seg5 x0 x1 x2 x3 x4 x5 false false false false false false false false false h5, seg6 x0 x1 x2 x3 x4 x5 x6 false false false false false false false false, seg7 x0 x1 x2 x3 x4 x5 x6 x7 false false false false false false false, seg8 x0 x1 x2 x3 x4 x5 x6 x7 x8 false false false false false false, seg9 x0 x1 x2 x3 x4 x5 x6 x7 x8 x9 false false false false false, seg10 x0 x1 x2 x3 x4 x5 x6 x7 x8 x9 x10 false false false false, seg11 x0 x1 x2 x3 x4 x5 x6 x7 x8 x9 x10 x11 false false false, seg12 x0 x1 x2 x3 x4 x5 x6 x7 x8 x9 x10 x11 x12 false false, seg13 x0 x1 x2 x3 x4 x5 x6 x7 x8 x9 x10 x11 x12 x13 false, seg14 x0 x1 x2 x3 x4 x5 x6 x7 x8 x9 x10 x11 x12 x13 x14]
theorem parse_text (c : Ctl) (h : vC c) : parseL [textC c] = c := by
  unfold parseL dirsL
  rw [List.flatMap_cons, List.flatMap_nil, List.append_nil, dirs_text]
  exact fold_dirs c h
theorem parse_texts (a b : Ctl) (h : vC a) (k : vC b) : parseL [textC a, textC b] = joinC a b := by
  have := parse_app [textC a] [textC b]
  rw [parse_text a h, parse_text b k] at this
  exact this
end Tk
end Go.Proofs.YtnbipbeeengiaaaGreatDoor
