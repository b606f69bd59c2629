/- The law on CurveOf: at every argument the program's CurveOf is the specification's; it writes into no argument. -/
import Derived.Test.YtfooeoibjbopjaaPtB
import Derived.Test.YtfooeoibjbopjaaCurT
import Derived.Test.YtfooeoibjbopjaaCurI
namespace Go.Proofs.Ytfooeoibjbopjaa
open Go.RowKit

set_option maxHeartbeats 2000000 in
theorem lawCurveOf (x1 y1 : Int) (w : World) :
    Calls Try.prog 3 #[.agg #[.int .i64 x1, .int .i64 y1]] w fun e w' => e = .returned (.bool true) ∧ Below w.heap.size w w' := by
  have k0 := ptbox1 w x1 y1 23
  have B0 := ptbelow1 w x1 y1 23
  go_enter Try.func3, Try.ntmps3
  go_wp2_with fail
  generalize (w.alloc (.cells #[.int .i64 x1, .int .i64 y1] 23)) = W0 at *
  have B : Below W0.heap.size W0 W0 := Below.refl _ _
  have K := k0
  obtain ⟨k1, k2⟩ := k0
  go_wp2_with (first
    | (go_at_call 7; refine (toPt_any _ _ _).mono ?_; rintro e w1 ⟨rfl, hb⟩; replace B := B.trans (hb.mono B.size); clear hb; obtain ⟨k1, k2⟩ := ptkeep1 K B)
    | (go_at_call 6; refine (specCurveOf _ _ _).mono ?_; rintro e w1 ⟨rfl, hb⟩; replace B := B.trans (hb.mono B.size); clear hb; obtain ⟨k1, k2⟩ := ptkeep1 K B)
    | (go_at_call 8; refine (implCurveOf _ _ _).mono ?_; rintro e w1 ⟨rfl, hb⟩; replace B := B.trans (hb.mono B.size); clear hb; obtain ⟨k1, k2⟩ := ptkeep1 K B))
  go_ret
  exact ⟨rfl, B0.trans (B.mono B0.size)⟩
end Go.Proofs.Ytfooeoibjbopjaa
