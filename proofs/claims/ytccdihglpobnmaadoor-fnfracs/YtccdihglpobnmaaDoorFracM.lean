/- The laws' marks on a fraction. -/
import Derived.Test.YtccdihglpobnmaaDoorEq
namespace Go.Proofs.YtccdihglpobnmaaDoor
open Go.RowKit

end Go.Proofs.YtccdihglpobnmaaDoor
