/- What the document's suites make of texts, hashes and tags, where its sums are known. -/
import Derived.Test.YtbhcjdpachboaaaDoorSuiteRefB
namespace Go.Proofs.YtbhcjdpachboaaaDoor.Pl
open Go.RowKit

end Go.Proofs.YtbhcjdpachboaaaDoor.Pl
