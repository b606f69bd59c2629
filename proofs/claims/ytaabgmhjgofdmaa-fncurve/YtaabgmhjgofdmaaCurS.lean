/- The place of a cell on the curve: the specification's. -/
import Derived.Test.YtaabgmhjgofdmaaCurveM
import Derived.Test.YtaabgmhjgofdmaaPtW
namespace Go.Proofs.Ytaabgmhjgofdmaa
open Go.RowKit

end Go.Proofs.Ytaabgmhjgofdmaa
