/- token.Token. -/
import Derived.Test.YtajmheblbnodjaaDoorAll
namespace Go.Proofs.YtajmheblbnodjaaDoor
open Go.RowKit
namespace Tk

end Tk
end Go.Proofs.YtajmheblbnodjaaDoor
