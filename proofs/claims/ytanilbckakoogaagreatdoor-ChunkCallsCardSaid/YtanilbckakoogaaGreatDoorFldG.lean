/- field.own, field.All: the values of a name. -/
import Derived.Test.YtanilbckakoogaaGreatDoorFldS
import Derived.Test.YtanilbckakoogaaGreatDoorStr
namespace Go.Proofs.YtanilbckakoogaaGreatDoor
open Go.RowKit
namespace Tk

def isN (name : Bs) (f : Bs × Bs) : Bool := decide (lowL f.1 = lowL name)
def allF (l : List (Bs × Bs)) (name : Bs) : List Bs := (l.filter (isN name)).map (·.2)
theorem allF_snoc (l : List (Bs × Bs)) (f : Bs × Bs) (name : Bs) : allF (l ++ [f]) name = allF l name ++ (if isN name f then [f.2] else []) := by
  unfold allF
  cases h : isN name f <;> simp [h]
theorem allF_len (l : List (Bs × Bs)) (name : Bs) : (allF l name).length ≤ l.length := by
  unfold allF; rw [List.length_map]; exact List.length_filter_le _ _

end Tk
end Go.Proofs.YtanilbckakoogaaGreatDoor
