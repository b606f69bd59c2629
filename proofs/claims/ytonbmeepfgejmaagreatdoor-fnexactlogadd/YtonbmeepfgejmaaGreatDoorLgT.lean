/- The laws' copy of a log. -/
import Derived.Test.YtonbmeepfgejmaaGreatDoorQuR
import Derived.Test.YtonbmeepfgejmaaGreatDoorProg
namespace Go.Proofs.YtonbmeepfgejmaaGreatDoor
open Go.RowKit

set_option maxRecDepth 20000 in
set_option maxHeartbeats 1000000 in
theorem toLog_any (F L X E : Int) (w : World) :
    Calls Tryz.prog 7 #[.agg #[.int .i64 F, .int .i64 L, .int .i64 X, .int .i64 E]] w fun e w' => e = .returned (.agg #[.int .i64 F, .int .i64 L, .int .i64 X, .int .i64 E]) ∧ Below w.heap.size w w' := by
  go_enter Tryz.func7, Tryz.ntmps7
  go_wp2
  exact bodyPost_ret (v := .agg #[.int .i64 F, .int .i64 L, .int .i64 X, .int .i64 E]) (by simp [results, Tryz.results7, go_sem]) rfl ⟨rfl, below3 _ _ _ _⟩
end Go.Proofs.YtonbmeepfgejmaaGreatDoor
