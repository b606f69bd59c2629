/- The specification's division bit by bit: l1DivMag. -/
import Derived.Test.YtfhcbgjnojcigaaWindow
import Derived.Test.YtfhcbgjnojcigaaSReach
import Derived.Test.YtfhcbgjnojcigaaAddI
namespace Go.Proofs.Ytfhcbgjnojcigaa
open Go.RowKit

end Go.Proofs.Ytfhcbgjnojcigaa
