/- The specification's l1Num: noughts on top are cut off, what is left is copied. -/
import Derived.Test.YtgfiegkaloicpaaNums
import Derived.Laws.AppendOwnNone
namespace Go.Proofs.Ytgfiegkaloicpaa
open Go.RowKit

end Go.Proofs.Ytgfiegkaloicpaa
