/- Squares and products of ways. -/
import Derived.Test.YtokmphhpnoochamPtW
namespace Go.Proofs.Ytokmphhpnoocham
open Go.RowKit

end Go.Proofs.Ytokmphhpnoocham
