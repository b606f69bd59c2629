/- The specification's sums of numbers: l1Add. -/
import Derived.Test.YtmdbndooigcflaaSMag
import Derived.Test.YtmdbndooigcflaaSCmp
import Derived.Test.YtmdbndooigcflaaSNum
import Derived.Test.YtmdbndooigcflaaEq
namespace Go.Proofs.Ytmdbndooigcflaa
open Go.RowKit

end Go.Proofs.Ytmdbndooigcflaa
