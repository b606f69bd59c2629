/- Between two, and ranges that meet. -/
import Derived.Test.YtceeokcjdekklaaPtW
namespace Go.Proofs.Ytceeokcjdekklaa
open Go.RowKit

end Go.Proofs.Ytceeokcjdekklaa
