/- The specification's product of numbers of any size: l2Mul. -/
import Derived.Test.YtccdihglpobnmaaDoorEq
import Derived.Test.YtccdihglpobnmaaDoorMulW
import Derived.Test.YtccdihglpobnmaaDoorSAdd
import Derived.Test.YtccdihglpobnmaaDoorSNum
import Derived.Deep.RegionHeld3
namespace Go.Proofs.YtccdihglpobnmaaDoor
open Go.RowKit

end Go.Proofs.YtccdihglpobnmaaDoor
