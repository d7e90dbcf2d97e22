/- token.all: each byte of a text can stand where those of a kind can. -/
import Derived.Test.YtajmheblbnodjaaDoorKin
namespace Go.Proofs.YtajmheblbnodjaaDoor
open Go.RowKit
namespace Tk

def allL (k : Int) (l : Bs) : Bool := l.all fun c => decide (k ≤ kindOf c.toNat)

theorem allL_cons (k : Int) (c : UInt8) (t : Bs) : allL k (c :: t) = (decide (k ≤ kindOf c.toNat) && allL k t) := rfl
theorem allL_append (k : Int) (a b : Bs) : allL k (a ++ b) = (allL k a && allL k b) := by unfold allL; rw [List.all_append]
theorem k92 : decide (1 ≤ kindOf (92 : UInt8).toNat) = true := by decide
theorem k34 : decide (1 ≤ kindOf (34 : UInt8).toNat) = true := by decide

theorem kindL_size : (kindL.map (Value.int .u8)).toArray.size = 256 := by kernel_rfl
theorem kindL_one : (kindL.map (Value.int .u8)).toArray.all (·.oneCell') = true := by kernel_rfl
theorem kindL_at (c : UInt8) : (kindL.map (Value.int .u8)).toArray[c.toNat]? = some (.int .u8 (kindOf c.toNat)) := by
  have h : c.toNat < 256 := c.toNat_lt
  simp [kindL, h]

end Tk
end Go.Proofs.YtajmheblbnodjaaDoor
