/- Rows of several cells, loaded and stored whole, in regions that draw. -/
import Derived.Test.YtajmheblbnodjaaDoorBx0
import Derived.Deep.RegionHeld3
import Derived.Deep.RegionWith
namespace Go.Proofs.YtajmheblbnodjaaDoor
open Go.RowKit
namespace Tk

theorem exec_loadE {P : Program} {ρ : Operand → Value} {o : Oper} {w : World} (ty : TypeId) (x : Operand) (ho : o.op = .load ty x) (g : Nat) (t : TypeId) (cs : Array Value) (fr : Nat × Nat) (d : TypeDesc)
    (hx : ρ x = .pointer (some ⟨g, 0, none⟩)) (hg : w.heap[g]? = some (.cells cs t fr)) (hu : P.underlying ty = some d) (hd : (match d with | .struct _ | .array _ _ => true | _ => false) = true) (hi : (P.info? ty).map (·.size) = some cs.size) :
    (execOp ρ o).run P w = .ok (.value (.agg cs)) w := by
  have hrun := run_loadVar_row (P := P) w g t ty cs fr d hg hu hd hi
  simp [execOp, ho, hx, Instr.loadAt, Instr.sureAddr, hrun, Result.andThen]
end Tk
end Go.Proofs.YtajmheblbnodjaaDoor
