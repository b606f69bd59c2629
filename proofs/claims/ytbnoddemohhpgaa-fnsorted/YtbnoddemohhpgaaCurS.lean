/- The place of a cell on the curve: the specification's. -/
import Derived.Test.YtbnoddemohhpgaaCurveM
import Derived.Test.YtbnoddemohhpgaaPtW
namespace Go.Proofs.Ytbnoddemohhpgaa
open Go.RowKit

end Go.Proofs.Ytbnoddemohhpgaa
