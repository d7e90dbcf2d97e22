/- strings.Builder.WriteString of this program: a builder of one's own takes a text more. -/
import Derived.Test.YtajmheblbnodjaaDoorBld
namespace Go.Proofs.YtajmheblbnodjaaDoor
open Go.RowKit
namespace Tk

theorem cells_str (l : Bs) (s : ByteArray) : Lib.byteCells (l ++ bs s) = Lib.byteCells l ++ Lib.strCells s := by
  simp [Lib.byteCells, Lib.strCells, bs]

/-- blocks other than b that hold no bytes stay -/
def Others (b : Nat) (w w' : World) : Prop := ∀ (k : Nat) (cs : Array Value) (T : TypeId) (fr : Nat × Nat), w.heap[k]? = some (.cells cs T fr) → T ≠ 5 → k ≠ b → w'.heap[k]? = some (.cells cs T fr)

end Tk
end Go.Proofs.YtajmheblbnodjaaDoor
