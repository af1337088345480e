/- What the document's Block, xored and Sum of layer 3 answer. -/
import Derived.Test.YtedidoeoomijjaaDoorSuiteD4
import Derived.Test.YtedidoeoomijjaaDoorHmacBlock
import Derived.Test.YtedidoeoomijjaaDoorSuiteD5
import Derived.Test.YtedidoeoomijjaaDoorShaRefSum
namespace Go.Proofs.YtedidoeoomijjaaDoor.Pl
open Go.RowKit

end Go.Proofs.YtedidoeoomijjaaDoor.Pl
