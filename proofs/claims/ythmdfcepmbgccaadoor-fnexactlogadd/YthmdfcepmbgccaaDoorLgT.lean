/- The laws' copy of a log. -/
import Derived.Test.YthmdfcepmbgccaaDoorQuR
import Derived.Test.YthmdfcepmbgccaaDoorProg
namespace Go.Proofs.YthmdfcepmbgccaaDoor
open Go.RowKit

set_option maxRecDepth 20000 in
set_option maxHeartbeats 1000000 in
theorem toLog_any (F L X E : Int) (w : World) :
    Calls Tryd.prog 8 #[.agg #[.int .i64 F, .int .i64 L, .int .i64 X, .int .i64 E]] w fun e w' => e = .returned (.agg #[.int .i64 F, .int .i64 L, .int .i64 X, .int .i64 E]) ∧ Below w.heap.size w w' := by
  go_enter Tryd.func8, Tryd.ntmps8
  go_wp2
  exact bodyPost_ret (v := .agg #[.int .i64 F, .int .i64 L, .int .i64 X, .int .i64 E]) (by simp [results, Tryd.results8, go_sem]) rfl ⟨rfl, below3 _ _ _ _⟩
end Go.Proofs.YthmdfcepmbgccaaDoor
