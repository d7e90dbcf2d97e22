/- token.closing. -/
import Derived.Test.YtdpfeedpnnicjaaDoorTrm
namespace Go.Proofs.YtdpfeedpnnicjaaDoor
open Go.RowKit
namespace Tk

end Tk
end Go.Proofs.YtdpfeedpnnicjaaDoor
