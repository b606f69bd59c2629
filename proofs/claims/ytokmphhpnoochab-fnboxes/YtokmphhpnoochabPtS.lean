/- Squares and products of ways. -/
import Derived.Test.YtokmphhpnoochabPtW
namespace Go.Proofs.Ytokmphhpnoochab
open Go.RowKit

theorem along_any (x1 y1 x2 y2 : Int) (w : World) (h1 : Dif x1) (h2 : Dif y1) (h3 : Dif x2) (h4 : Dif y2) :
    Calls Try.prog 54 #[.agg #[.int .i64 x1, .int .i64 y1], .agg #[.int .i64 x2, .int .i64 y2]] w fun e w' => e = .returned (.int .i64 (x1 * x2 + y1 * y2)) ∧ Below w.heap.size w w' := by
  obtain ⟨a1, b1⟩ := h1.mul h3
  obtain ⟨a2, b2⟩ := h2.mul h4
  go_enter Try.func54, Try.ntmps54
  go_wp2
  go_ret
  exact ⟨rfl, below2 _ _ _⟩

end Go.Proofs.Ytokmphhpnoochab
