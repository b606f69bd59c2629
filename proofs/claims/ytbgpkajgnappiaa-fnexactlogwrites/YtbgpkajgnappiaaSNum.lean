/- The specification's l1Num: noughts on top are cut off, what is left is copied. -/
import Derived.Test.YtbgpkajgnappiaaEq
import Derived.Laws.AppendOwnNone
namespace Go.Proofs.Ytbgpkajgnappiaa
open Go.RowKit

end Go.Proofs.Ytbgpkajgnappiaa
