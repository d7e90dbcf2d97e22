/- strings.Builder of this program: a builder of one's own. -/
import Derived.Test.YtajmheblbnodjaaDoorTok0
import Derived.Test.YtajmheblbnodjaaDoorBase
import Derived.Shelf.Strings.Builder1
namespace Go.Proofs.YtajmheblbnodjaaDoor
open Go.RowKit
namespace Tk

theorem byteInf : (Tryd.prog.info? 5).map (fun i => (i.zero, i.size, i.bytes)) = some (some (.int .u8 0), 1, 1) := by kernel_rfl

end Tk
end Go.Proofs.YtajmheblbnodjaaDoor
