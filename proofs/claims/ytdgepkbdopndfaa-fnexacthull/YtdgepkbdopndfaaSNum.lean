/- The specification's l1Num: noughts on top are cut off, what is left is copied. -/
import Derived.Test.YtdgepkbdopndfaaNums
import Derived.Laws.AppendOwnNone
namespace Go.Proofs.Ytdgepkbdopndfaa
open Go.RowKit

end Go.Proofs.Ytdgepkbdopndfaa
