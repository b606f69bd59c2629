/- The specification's sums of numbers: l1Add. -/
import Derived.Test.YtfhcbgjnojcigaaSMag
import Derived.Test.YtfhcbgjnojcigaaSCmp
import Derived.Test.YtfhcbgjnojcigaaSNum
import Derived.Test.YtfhcbgjnojcigaaEq
namespace Go.Proofs.Ytfhcbgjnojcigaa
open Go.RowKit

end Go.Proofs.Ytfhcbgjnojcigaa
