import Derived.Test.YtccdihglpobnmaaDoorProg
import Derived.Test.YtccdihglpobnmaaDoorBase
import Derived.WalkKit
import Derived.WalkSpells
import Derived.WalkLawsBesides
import Derived.BigQuiet
import Derived.Deep.QuietTactic
/- The laws' helpers on slices of limbs: two that read the same are told to be equal; marking a slice and asking for the marks. -/
namespace Go.Proofs.YtccdihglpobnmaaDoor
open Go.RowKit

end Go.Proofs.YtccdihglpobnmaaDoor

/- The laws' helpers on numbers: their copies, their sizes, whether two are equal, their marks. -/
namespace Go.Proofs.YtccdihglpobnmaaDoor
open Go.RowKit

theorem infoU : (Tryd.prog.info? 59).map (fun i => (i.zero, i.size, i.bytes)) = some (some (.int .u32 0), 1, 4) := by kernel_rfl

end Go.Proofs.YtccdihglpobnmaaDoor
