/- Between two, and ranges that meet. -/
import Derived.Test.YtokmphhpnoochanPtW
namespace Go.Proofs.Ytokmphhpnoochan
open Go.RowKit

end Go.Proofs.Ytokmphhpnoochan
