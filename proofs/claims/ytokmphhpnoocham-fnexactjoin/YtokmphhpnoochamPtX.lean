/- Between two, and ranges that meet. -/
import Derived.Test.YtokmphhpnoochamPtW
namespace Go.Proofs.Ytokmphhpnoocham
open Go.RowKit

theorem rangesMeet_any (a b c d : Int) (w : World) :
    Calls Try.prog 29 #[.int .i64 a, .int .i64 b, .int .i64 c, .int .i64 d] w fun e w' => e = .returned (.bool (rng a b c d)) ∧ w' = w := by
  have H : Hid (rng a b c d = (decide (min a b ≤ max c d) && decide (min c d ≤ max a b))) := (rfl : rng a b c d = _)
  by_cases h1 : a ≤ b <;> by_cases h2 : c ≤ d
  all_goals
    go_enter Try.func29, Try.ntmps29
    go_wp2
  all_goals
    go_ret
    exact ⟨ret_bool (by rw [H.out, Bool.eq_iff_iff]; simp; omega), rfl⟩
end Go.Proofs.Ytokmphhpnoocham
