/- Between two, and ranges that meet. -/
import Derived.Test.YtfooeoibjbopjaaPtW
namespace Go.Proofs.Ytfooeoibjbopjaa
open Go.RowKit

end Go.Proofs.Ytfooeoibjbopjaa
