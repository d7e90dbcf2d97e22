/- token.Token, token.Char, field.chars, field.Check. -/
import Derived.Test.YtajmheblbnodjaaDoorCut
import Derived.Test.YtajmheblbnodjaaDoorTkA
namespace Go.Proofs.YtajmheblbnodjaaDoor
open Go.RowKit
namespace Tk

end Tk
end Go.Proofs.YtajmheblbnodjaaDoor
