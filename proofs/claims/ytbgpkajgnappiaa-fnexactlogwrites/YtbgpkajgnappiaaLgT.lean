/- The laws' copy of a log. -/
import Derived.Test.YtbgpkajgnappiaaBase
import Derived.Test.YtbgpkajgnappiaaProg
namespace Go.Proofs.Ytbgpkajgnappiaa
open Go.RowKit

set_option maxRecDepth 20000 in
set_option maxHeartbeats 1000000 in
theorem toLog_any (F L X E : Int) (w : World) :
    Calls Try.prog 5 #[.agg #[.int .i64 F, .int .i64 L, .int .i64 X, .int .i64 E]] w fun e w' => e = .returned (.agg #[.int .i64 F, .int .i64 L, .int .i64 X, .int .i64 E]) ∧ Below w.heap.size w w' := by
  go_enter Try.func5, Try.ntmps5
  go_wp2
  exact bodyPost_ret (v := .agg #[.int .i64 F, .int .i64 L, .int .i64 X, .int .i64 E]) (by simp [results, Try.results5, go_sem]) rfl ⟨rfl, below3 _ _ _ _⟩
end Go.Proofs.Ytbgpkajgnappiaa
