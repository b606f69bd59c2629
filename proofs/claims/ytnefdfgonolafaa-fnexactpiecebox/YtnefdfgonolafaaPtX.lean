/- Between two, and ranges that meet. -/
import Derived.Test.YtnefdfgonolafaaPtW
namespace Go.Proofs.Ytnefdfgonolafaa
open Go.RowKit

end Go.Proofs.Ytnefdfgonolafaa
