/- The law on CurveKey: at every argument the program's CurveKey is the specification's; it writes into no argument. -/
import Derived.Test.YtfooeoibjbopjaaBoxP
import Derived.Test.YtfooeoibjbopjaaCurK
import Derived.Test.YtfooeoibjbopjaaCurJ
namespace Go.Proofs.Ytfooeoibjbopjaa
open Go.RowKit

set_option maxRecDepth 20000 in
set_option maxHeartbeats 4000000 in
theorem lawCurveKey (a b c d : Int) (w : World) :
    Calls Try.prog 5 #[.agg #[.int .i64 a, .int .i64 b, .int .i64 c, .int .i64 d]] w fun e w' => e = .returned (.bool true) ∧ Below w.heap.size w w' := by
  have k0 := bcB w a b c d 33
  have B0 := below1 w (.cells #[.int .i64 a, .int .i64 b, .int .i64 c, .int .i64 d] 33)
  go_enter Try.func5, Try.ntmps5
  go_wp2_with fail
  generalize (w.alloc (.cells #[.int .i64 a, .int .i64 b, .int .i64 c, .int .i64 d] 33)) = W0 at *
  have B : Below W0.heap.size W0 W0 := Below.refl _ _
  have K := k0
  obtain ⟨k1, k2, k3, k4⟩ := k0
  go_wp2_with (first | (go_at_call 13; refine (toBox_any _ _ _ _ _).mono ?_; rintro e w1 ⟨rfl, hb⟩; replace B := B.trans (hb.mono B.size); clear hb; obtain ⟨k1, k2, k3, k4⟩ := bkB B K) | (go_at_call 12; refine (specCurveKey _ _ _ _ _).mono ?_; rintro e w1 ⟨rfl, hb⟩; replace B := B.trans (hb.mono B.size); clear hb; obtain ⟨k1, k2, k3, k4⟩ := bkB B K) | (go_at_call 14; refine (implCurveKey _ _ _ _ _).mono ?_; rintro e w1 ⟨rfl, hb⟩; replace B := B.trans (hb.mono B.size); clear hb; obtain ⟨k1, k2, k3, k4⟩ := bkB B K))
  go_ret
  exact ⟨rfl, B0.trans (B.mono B0.size)⟩
end Go.Proofs.Ytfooeoibjbopjaa
