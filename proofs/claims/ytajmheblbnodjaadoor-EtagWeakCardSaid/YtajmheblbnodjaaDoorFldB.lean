/- field.chars, field.Check. -/
import Derived.Test.YtajmheblbnodjaaDoorFldA
import Derived.Test.YtajmheblbnodjaaDoorTrm
import Derived.Deep.RegionHeld3
import Derived.Deep.RegionWith
namespace Go.Proofs.YtajmheblbnodjaaDoor
open Go.RowKit
namespace Tk

def okE (n v : Bs) : Int := if okF n v then 0 else 4
theorem okE_ok (n v : Bs) (h : okF n v = true) : okE n v = 0 := by unfold okE; rw [h]; rfl
theorem okE_no (n v : Bs) (h : okF n v = false) : okE n v = 4 := by unfold okE; rw [h]; rfl
theorem beq_bs (a : Bs) (s : ByteArray) : ((mkS a).toList == s.toList) = decide (a = bs s) := by
  rw [toList_bs, toList_bs, bs_mkS]
  by_cases h : a = bs s <;> simp [h]

/-- what a call keeps: all below B, one cell, and that the cell's block is there -/
theorem keep_cell {P : Program} {f : FuncId} {args : Array Value} {W w0 : World} {r : Ending} {B : Nat} (h : Calls P f args W fun e w' => e = r ∧ Below W.heap.size W w') (p : Addr) (u : Value) (hB : Below B w0 W) (hs : B ≤ W.heap.size) (hc : W.cell? p = some u) (hp : p.block < W.heap.size) :
    Calls P f args W fun e w' => e = r ∧ Below B w0 w' ∧ B ≤ w'.heap.size ∧ w'.cell? p = some u ∧ p.block < w'.heap.size :=
  h.mono fun _ _ h => ⟨h.1, hB.trans (h.2.mono hs), Nat.le_trans hs h.2.size, (h.2.cell hp).trans hc, Nat.lt_of_lt_of_le hp h.2.size⟩

theorem cell_new (w : World) (a b : Value) (T : TypeId) : (w.alloc (.cells #[a, b] T)).cell? ⟨w.heap.size, 0, none⟩ = some a ∧ (w.alloc (.cells #[a, b] T)).cell? ⟨w.heap.size, 1, none⟩ = some b := by
  constructor <;> (rw [Lib.cell_of_heap (heap_alloc_last w _)]; rfl)

end Tk
end Go.Proofs.YtajmheblbnodjaaDoor
