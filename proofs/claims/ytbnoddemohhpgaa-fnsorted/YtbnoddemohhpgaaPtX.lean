/- Between two, and ranges that meet. -/
import Derived.Test.YtbnoddemohhpgaaPtW
namespace Go.Proofs.Ytbnoddemohhpgaa
open Go.RowKit

end Go.Proofs.Ytbnoddemohhpgaa
