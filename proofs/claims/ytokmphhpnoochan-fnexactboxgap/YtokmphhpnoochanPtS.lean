/- Squares and products of ways. -/
import Derived.Test.YtokmphhpnoochanPtW
namespace Go.Proofs.Ytokmphhpnoochan
open Go.RowKit

theorem along_any (x1 y1 x2 y2 : Int) (w : World) (h1 : Dif x1) (h2 : Dif y1) (h3 : Dif x2) (h4 : Dif y2) :
    Calls Try.prog 23 #[.agg #[.int .i64 x1, .int .i64 y1], .agg #[.int .i64 x2, .int .i64 y2]] w fun e w' => e = .returned (.int .i64 (x1 * x2 + y1 * y2)) ∧ Below w.heap.size w w' := by
  obtain ⟨a1, b1⟩ := h1.mul h3
  obtain ⟨a2, b2⟩ := h2.mul h4
  go_enter Try.func23, Try.ntmps23
  go_wp2
  go_ret
  exact ⟨rfl, below2 _ _ _⟩

theorem l3Square_any (x1 y1 x2 y2 : Int) (w : World) (h1 : Crd x1) (h2 : Crd y1) (h3 : Crd x2) (h4 : Crd y2) :
    Calls Try.prog 19 #[.agg #[.int .i64 x1, .int .i64 y1], .agg #[.int .i64 x2, .int .i64 y2]] w fun e w' => e = .returned (.int .i64 ((x1 - x2) * (x1 - x2) + (y1 - y2) * (y1 - y2))) ∧ Below w.heap.size w w' := by
  obtain ⟨p1, q1⟩ := (h1.dif h3).mul (h1.dif h3)
  obtain ⟨p2, q2⟩ := (h2.dif h4).mul (h2.dif h4)
  obtain ⟨a1, b1⟩ := h1
  obtain ⟨a2, b2⟩ := h2
  obtain ⟨a3, b3⟩ := h3
  obtain ⟨a4, b4⟩ := h4
  go_enter Try.func19, Try.ntmps19
  go_wp2
  go_ret
  exact ⟨rfl, below2 _ _ _⟩

end Go.Proofs.Ytokmphhpnoochan
