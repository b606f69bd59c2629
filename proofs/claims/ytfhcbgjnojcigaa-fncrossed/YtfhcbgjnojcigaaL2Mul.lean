/- The specification's product of numbers of any size: l2Mul. -/
import Derived.Test.YtfhcbgjnojcigaaEq
import Derived.Test.YtfhcbgjnojcigaaMulW
import Derived.Test.YtfhcbgjnojcigaaSAdd
import Derived.Test.YtfhcbgjnojcigaaSNum
import Derived.Deep.RegionHeld3
namespace Go.Proofs.Ytfhcbgjnojcigaa
open Go.RowKit

end Go.Proofs.Ytfhcbgjnojcigaa
