/- field.Line: the field of a line, or that it is none. -/
import Derived.Test.YtajmheblbnodjaaDoorFldB
namespace Go.Proofs.YtajmheblbnodjaaDoor
open Go.RowKit
namespace Tk

def lnN (l : Bs) : Bs := if lineOk l then lineN l else []
def lnV (l : Bs) : Bs := if lineOk l then lineV l else []
def lnE (l : Bs) : Int := if lineOk l then 0 else 4
def LinePost (l : Bs) (w : World) (e : Ending) (w' : World) : Prop := e = .returned (.tuple #[.agg #[.string (mkS (lnN l)), .string (mkS (lnV l))], .int .i64 (lnE l)]) ∧ Below w.heap.size w w'
theorem ln_ok (l : Bs) (h : lineOk l = true) : lnN l = lineN l ∧ lnV l = lineV l ∧ lnE l = 0 := by unfold lnN lnV lnE; rw [h]; exact ⟨rfl, rfl, rfl⟩
theorem ln_no (l : Bs) (h : lineOk l = false) : lnN l = [] ∧ lnV l = [] ∧ lnE l = 4 := by unfold lnN lnV lnE; rw [h]; exact ⟨rfl, rfl, rfl⟩

theorem cut_len1 (c : UInt8) (l : Bs) : (cutL c l).1.length ≤ l.length := by
  unfold cutL
  split
  · exact (List.takeWhile_sublist (· != c) (l := l)).length_le
  · exact Nat.le_refl _
theorem cut_len2 (c : UInt8) (l : Bs) : (cutL c l).2.1.length ≤ l.length := by
  unfold cutL
  split
  · refine Nat.le_trans (by simp) ((List.dropWhile_sublist (· != c) (l := l)).length_le)
  · simp

/-- a block of two cells of the call's own, and what becomes of it -/
def Two (w : World) (g : Nat) (T : TypeId) (a b : Value) : Prop := w.heap[g]? = some (.cells #[a, b] T (0, 0))
theorem Two.new (w : World) (T : TypeId) (a b : Value) : Two (w.alloc (.cells #[a, b] T)) w.heap.size T a b := heap_alloc_last w _
theorem Two.later {w w' : World} {g : Nat} {T : TypeId} {a b : Value} (h : Two w g T a b) (hb : Below w.heap.size w w') : Two w' g T a b := by
  unfold Two at *
  have hlt : g < w.heap.size := (Array.getElem?_eq_some_iff.1 h).1
  rw [hb.block g hlt]; exact h
theorem Two.draws {w : World} {g : Nat} {T : TypeId} {a b : Value} (h : Two w g T a b) (n : Nat) : Two (w.drewN n) g T a b := h
theorem Two.lt {w : World} {g : Nat} {T : TypeId} {a b : Value} (h : Two w g T a b) : g < w.heap.size := (Array.getElem?_eq_some_iff.1 h).1
theorem Two.c0 {w : World} {g : Nat} {T : TypeId} {a b : Value} (h : Two w g T a b) : w.cell? ⟨g, 0, none⟩ = some a := by rw [Lib.cell_of_heap h]; rfl
theorem Two.c1 {w : World} {g : Nat} {T : TypeId} {a b : Value} (h : Two w g T a b) : w.cell? ⟨g, 1, none⟩ = some b := by rw [Lib.cell_of_heap h]; rfl
theorem Two.f0 {w : World} {g : Nat} {T : TypeId} {a b : Value} (h : Two w g T a b) : w.frozen? ⟨g, 0, none⟩ = false := Lib.frozen_of_heap h 0
theorem Two.f1 {w : World} {g : Nat} {T : TypeId} {a b : Value} (h : Two w g T a b) : w.frozen? ⟨g, 1, none⟩ = false := Lib.frozen_of_heap h 1

theorem Two.set {w : World} {g : Nat} {T : TypeId} {a b : Value} (h : Two w g T a b) (a' b' : Value) (o : Obj) :
    (((w.setCell ⟨g, 0, none⟩ a').setCell ⟨g, 1, none⟩ b').alloc o).cell? ⟨g, 0, none⟩ = some a' ∧ (((w.setCell ⟨g, 0, none⟩ a').setCell ⟨g, 1, none⟩ b').alloc o).cell? ⟨g, 1, none⟩ = some b' := by
  have hlt : g < ((w.setCell ⟨g, 0, none⟩ a').setCell ⟨g, 1, none⟩ b').heap.size := by simpa using h.lt
  have h1 : (w.setCell ⟨g, 0, none⟩ a').cell? ⟨g, 1, none⟩ = some b := by
    rw [World.cell?_setCell_other (w := w) (a := ⟨g, 0, none⟩) (b := ⟨g, 1, none⟩) (h := by intro e; injection e with _ e2; cases e2)]; exact h.c1
  constructor
  · rw [World.cell?_alloc_lt _ _ _ hlt, World.cell?_setCell_other (w := w.setCell ⟨g, 0, none⟩ a') (a := ⟨g, 1, none⟩) (b := ⟨g, 0, none⟩) (h := by intro e; injection e with _ e2; cases e2)]
    exact World.cell?_setCell_same _ _ _ h.c0
  · rw [World.cell?_alloc_lt _ _ _ hlt]
    exact World.cell?_setCell_same _ _ _ h1
theorem Two.put {w : World} {g : Nat} {T : TypeId} {a b : Value} (h : Two w g T a b) (a' b' : Value) :
    ((w.setCell ⟨g, 0, none⟩ a').setCell ⟨g, 1, none⟩ b').cell? ⟨g, 0, none⟩ = some a' ∧ ((w.setCell ⟨g, 0, none⟩ a').setCell ⟨g, 1, none⟩ b').cell? ⟨g, 1, none⟩ = some b' := by
  have h1 : (w.setCell ⟨g, 0, none⟩ a').cell? ⟨g, 1, none⟩ = some b := by
    rw [World.cell?_setCell_other (w := w) (a := ⟨g, 0, none⟩) (b := ⟨g, 1, none⟩) (h := by intro e; injection e with _ e2; cases e2)]; exact h.c1
  constructor
  · rw [World.cell?_setCell_other (w := w.setCell ⟨g, 0, none⟩ a') (a := ⟨g, 1, none⟩) (b := ⟨g, 0, none⟩) (h := by intro e; injection e with _ e2; cases e2)]
    exact World.cell?_setCell_same _ _ _ h.c0
  · exact World.cell?_setCell_same _ _ _ h1
theorem Two.below {w0 w : World} {B g : Nat} {T : TypeId} {a b : Value} (hb : Below B w0 w) (h : Two w g T a b) (hg : B ≤ g) (a' b' : Value) (o : Obj) : Below B w0 (((w.setCell ⟨g, 0, none⟩ a').setCell ⟨g, 1, none⟩ b').alloc o) :=
  ((hb.setCell (p := ⟨g, 0, none⟩) hg _).setCell (p := ⟨g, 1, none⟩) hg _).alloc (by have := h.lt; simp; omega) _

end Tk
end Go.Proofs.YtajmheblbnodjaaDoor
