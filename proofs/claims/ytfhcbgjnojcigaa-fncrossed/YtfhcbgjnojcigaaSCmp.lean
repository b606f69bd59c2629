/- The specification's comparing of limbs: spec.l1CmpMag. -/
import Derived.Test.YtfhcbgjnojcigaaBase
import Derived.Test.YtfhcbgjnojcigaaEq
namespace Go.Proofs.Ytfhcbgjnojcigaa
open Go.RowKit

end Go.Proofs.Ytfhcbgjnojcigaa
