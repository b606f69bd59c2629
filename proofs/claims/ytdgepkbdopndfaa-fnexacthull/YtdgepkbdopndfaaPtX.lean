/- Between two, and ranges that meet. -/
import Derived.Test.YtdgepkbdopndfaaPtW
namespace Go.Proofs.Ytdgepkbdopndfaa
open Go.RowKit

end Go.Proofs.Ytdgepkbdopndfaa
