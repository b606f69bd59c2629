/- The laws' helpers on numbers: their copies, their sizes, whether two are equal, their marks. -/
import Derived.Test.YtgfiegkaloicpaaEq
namespace Go.Proofs.Ytgfiegkaloicpaa
open Go.RowKit

theorem infoU : (Try.prog.info? 138).map (fun i => (i.zero, i.size, i.bytes)) = some (some (.int .u32 0), 1, 4) := by kernel_rfl

end Go.Proofs.Ytgfiegkaloicpaa
