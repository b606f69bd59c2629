/- The specification's comparing of limbs: spec.l1CmpMag. -/
import Derived.Test.YtmdbndooigcflaaBase
import Derived.Test.YtmdbndooigcflaaEq
namespace Go.Proofs.Ytmdbndooigcflaa
open Go.RowKit

end Go.Proofs.Ytmdbndooigcflaa
