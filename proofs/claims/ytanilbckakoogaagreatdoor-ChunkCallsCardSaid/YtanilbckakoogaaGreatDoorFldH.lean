/- field.named and slices.IndexFunc over it. -/
import Derived.Test.YtanilbckakoogaaGreatDoorFldG
namespace Go.Proofs.YtanilbckakoogaaGreatDoor
open Go.RowKit
namespace Tk

def HasN (w : World) (g : Nat) (name : Bs) : Prop := w.cell? ⟨g, 0, none⟩ = some (.string (mkS name))
theorem HasN.lt {w : World} {g : Nat} {name : Bs} (h : HasN w g name) : g < w.heap.size := cell_lt (p := ⟨g, 0, none⟩) h
theorem HasN.later {w w' : World} {g : Nat} {name : Bs} (h : HasN w g name) (hb : Below w.heap.size w w') : HasN w' g name := (hb.cell (p := ⟨g, 0, none⟩) h.lt).trans h

/-- where the first field of this name is, or -1 -/
def idxF (name : Bs) (l : List (Bs × Bs)) : Int := if l.findIdx (isN name) < l.length then (l.findIdx (isN name) : Int) else -1
theorem idxF_hit (name : Bs) (l : List (Bs × Bs)) (i : Nat) (hi : i < l.length) (h1 : ∀ f ∈ l.take i, isN name f = false) (h2 : isN name (l.getD i ([], [])) = true) : l.findIdx (isN name) = i := by
  rw [List.findIdx_eq hi]
  refine ⟨by simpa [List.getD, hi] using h2, fun j hj => ?_⟩
  refine h1 _ ?_
  rw [List.mem_take_iff_getElem]
  exact ⟨j, by omega, rfl⟩
theorem idxF_no (name : Bs) (l : List (Bs × Bs)) (h1 : ∀ f ∈ l, isN name f = false) : l.findIdx (isN name) = l.length := by
  rw [List.findIdx_eq_length]; exact h1

end Tk
end Go.Proofs.YtanilbckakoogaaGreatDoor
