/- Between two, and ranges that meet. -/
import Derived.Test.YtfddiojcahbkfanPtW
namespace Go.Proofs.Ytfddiojcahbkfan
open Go.RowKit

theorem l3Between_any (a b x : Int) (w : World) :
    Calls Try.prog 87 #[.int .i64 a, .int .i64 b, .int .i64 x] w fun e w' => e = .returned (.bool (btw a b x)) ∧ w' = w := by
  have H : Hid (btw a b x = (inB x a b || inB x b a)) := (rfl : btw a b x = _)
  cases h1 : inB x a b
  all_goals
    go_enter Try.func87, Try.ntmps87
    go_wp2_with (go_at_call 65; refine (l1In_any _ _ _ _).mono ?_; rintro e w' ⟨rfl, rfl⟩; try rw [h1])
    go_ret
    exact ⟨by rw [H.out, h1]; simp, rfl⟩

theorem rangesMeet_any (a b c d : Int) (w : World) :
    Calls Try.prog 98 #[.int .i64 a, .int .i64 b, .int .i64 c, .int .i64 d] w fun e w' => e = .returned (.bool (rng a b c d)) ∧ w' = w := by
  have H : Hid (rng a b c d = (decide (min a b ≤ max c d) && decide (min c d ≤ max a b))) := (rfl : rng a b c d = _)
  by_cases h1 : a ≤ b <;> by_cases h2 : c ≤ d
  all_goals
    go_enter Try.func98, Try.ntmps98
    go_wp2
  all_goals
    go_ret
    exact ⟨ret_bool (by rw [H.out, Bool.eq_iff_iff]; simp; omega), rfl⟩
end Go.Proofs.Ytfddiojcahbkfan
