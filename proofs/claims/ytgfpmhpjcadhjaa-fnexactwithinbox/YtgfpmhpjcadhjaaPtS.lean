/- Squares and products of ways. -/
import Derived.Test.YtgfpmhpjcadhjaaPtG
namespace Go.Proofs.Ytgfpmhpjcadhjaa
open Go.RowKit

end Go.Proofs.Ytgfpmhpjcadhjaa
