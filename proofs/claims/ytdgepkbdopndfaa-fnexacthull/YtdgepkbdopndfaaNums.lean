/- The laws' helpers on numbers: their copies, their sizes, whether two are equal, their marks. -/
import Derived.Test.YtdgepkbdopndfaaEq
namespace Go.Proofs.Ytdgepkbdopndfaa
open Go.RowKit

theorem infoU : (Try.prog.info? 62).map (fun i => (i.zero, i.size, i.bytes)) = some (some (.int .u32 0), 1, 4) := by kernel_rfl

end Go.Proofs.Ytdgepkbdopndfaa
