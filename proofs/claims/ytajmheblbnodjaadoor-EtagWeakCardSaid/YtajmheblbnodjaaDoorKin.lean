/- token.kinds, token.all: which bytes stand where. -/
import Derived.Test.YtajmheblbnodjaaDoorCln
import Derived.Great.BuildSlice
import Derived.Deep.WholeRow
namespace Go.Proofs.YtajmheblbnodjaaDoor
open Go.RowKit
namespace Tk

/-- the kind of each byte, by ranges -/
def kindOf (c : Nat) : Int :=
  if c = 9 then 1 else if c < 32 then 0 else if 128 ≤ c then 1 else if c = 127 then 0
  else if [32, 34, 40, 41, 44, 47, 58, 59, 60, 61, 62, 63, 64, 91, 92, 93, 123, 125].contains c then 1 else 2
def kindL : List Int := (List.range 256).map kindOf

/-- 256 kinds, none said -/
def zk : Array Value := Array.replicate 256 (.int .u8 0)
end Tk
end Go.Proofs.YtajmheblbnodjaaDoor
