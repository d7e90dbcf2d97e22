/- token.lower, token.Same. -/
import Derived.Test.YtanilbckakoogaaGreatDoorCln
namespace Go.Proofs.YtanilbckakoogaaGreatDoor
open Go.RowKit
namespace Tk

end Tk
end Go.Proofs.YtanilbckakoogaaGreatDoor
