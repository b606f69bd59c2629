/- The specification's division bit by bit: l1DivMag. -/
import Derived.Test.YtfddiojcahbkfaaWindow
import Derived.Test.YtfddiojcahbkfaaSReach
import Derived.Test.YtfddiojcahbkfaaAddI
namespace Go.Proofs.Ytfddiojcahbkfaa
open Go.RowKit

end Go.Proofs.Ytfddiojcahbkfaa
