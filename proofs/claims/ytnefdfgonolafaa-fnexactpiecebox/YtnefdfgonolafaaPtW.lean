/- Points: which are right, what they are taken as; the ways between them. -/
import Derived.Test.YtnefdfgonolafaaBase
import Derived.Test.YtnefdfgonolafaaPtG
import Derived.Test.YtnefdfgonolafaaProg
import Derived.Deep.RegionHeld3
namespace Go.Proofs.Ytnefdfgonolafaa
open Go.RowKit

/-- Right, by both coordinates. -/
def ptOk (x y : Int) : Bool := inB x (-10000000) 10000000 && inB y (-10000000) 10000000
/-- What a coordinate is taken as. -/
def tX (x y : Int) : Int := if ptOk x y then x else 0
def tY (x y : Int) : Int := if ptOk x y then y else 0
/-- Within the limit. -/
def Crd (n : Int) : Prop := -10000000 ≤ n ∧ n ≤ 10000000
theorem inB_true {x lo hi : Int} : inB x lo hi = true ↔ lo ≤ x ∧ x ≤ hi := by simp [inB]
theorem tX_crd (x y : Int) : Crd (tX x y) := by
  unfold tX Crd
  by_cases h : ptOk x y = true
  · rw [if_pos h]; unfold ptOk at h; rw [Bool.and_eq_true, inB_true, inB_true] at h; omega
  · rw [if_neg h]; omega
theorem tY_crd (x y : Int) : Crd (tY x y) := by
  unfold tY Crd
  by_cases h : ptOk x y = true
  · rw [if_pos h]; unfold ptOk at h; rw [Bool.and_eq_true, inB_true, inB_true] at h; omega
  · rw [if_neg h]; omega

theorem coordOk_any (n : Int) (w : World) :
    Calls Try.prog 50 #[.int .i64 n] w fun e w' => e = .returned (.bool (inB n (-10000000) 10000000)) ∧ w' = w := by
  by_cases h1 : -10000000 ≤ n <;> by_cases h2 : n ≤ 10000000
  all_goals
    have E : inB n (-10000000) 10000000 = (decide (-10000000 ≤ n) && decide (n ≤ 10000000)) := rfl
    have H : Hid (inB n (-10000000) 10000000 = (decide (-10000000 ≤ n) && decide (n ≤ 10000000))) := E
    clear E
    go_enter Try.func50, Try.ntmps50
    go_wp2
    go_ret
    exact ⟨by rw [H.out]; simp [h1, h2], rfl⟩

theorem l1In_any (n lo hi : Int) (w : World) :
    Calls Try.prog 25 #[.int .i64 n, .int .i64 lo, .int .i64 hi] w fun e w' => e = .returned (.bool (inB n lo hi)) ∧ w' = w := by
  have H : Hid (inB n lo hi = (decide (lo ≤ n) && decide (n ≤ hi))) := (rfl : inB n lo hi = _)
  by_cases h1 : lo ≤ n <;> by_cases h2 : n ≤ hi
  all_goals
    go_enter Try.func25, Try.ntmps25
    go_wp2
    go_ret
    exact ⟨by rw [H.out]; simp [h1, h2], rfl⟩

theorem implPtOk (x y : Int) (w : World) :
    Calls Try.prog 33 #[.agg #[.int .i64 x, .int .i64 y]] w fun e w' => e = .returned (.bool (ptOk x y)) ∧ Below w.heap.size w w' := by
  have H : Hid (ptOk x y = (inB x (-10000000) 10000000 && inB y (-10000000) 10000000)) := (rfl : ptOk x y = _)
  cases h1 : inB x (-10000000) 10000000
  all_goals
    go_enter Try.func33, Try.ntmps33
    go_wp2_with (go_at_call 50; refine (coordOk_any _ _).mono ?_; rintro e w' ⟨rfl, rfl⟩; try rw [h1])
    go_ret
    exact ⟨by rw [H.out, h1]; simp, below1 _ _⟩

/-- Between two coordinates. -/
def Dif (n : Int) : Prop := -20000000 ≤ n ∧ n ≤ 20000000
theorem Crd.dif {a b : Int} (h : Crd a) (k : Crd b) : Dif (a - b) := by unfold Crd at h k; unfold Dif; omega
theorem Dif.mul {a b : Int} (h : Dif a) (k : Dif b) : -400000000000000 ≤ a * b ∧ a * b ≤ 400000000000000 := by
  unfold Dif at h k
  have h1 := Int.mul_nonneg (show 0 ≤ 20000000 - a by omega) (show 0 ≤ 20000000 - b by omega)
  have h2 := Int.mul_nonneg (show 0 ≤ 20000000 + a by omega) (show 0 ≤ 20000000 + b by omega)
  have h3 := Int.mul_nonneg (show 0 ≤ 20000000 - a by omega) (show 0 ≤ 20000000 + b by omega)
  have h4 := Int.mul_nonneg (show 0 ≤ 20000000 + a by omega) (show 0 ≤ 20000000 - b by omega)
  grind

theorem sgn1_neg {n : Int} (h : n < 0) : sgn1 n = -1 := by unfold sgn1; rw [if_neg (by omega), if_pos h]
theorem sgn1_pos {n : Int} (h : 0 < n) : sgn1 n = 1 := by unfold sgn1; rw [if_pos h]
theorem sgn1_cases (n : Int) : sgn1 n = -1 ∨ sgn1 n = 0 ∨ sgn1 n = 1 := by
  rcases Int.lt_trichotomy n 0 with h | h | h
  · exact .inl (sgn1_neg h)
  · subst h; exact .inr (.inl rfl)
  · exact .inr (.inr (sgn1_pos h))
theorem ret_bool {a b : Bool} (h : a = b) : Ending.returned (.bool a) = .returned (.bool b) := by rw [h]

end Go.Proofs.Ytnefdfgonolafaa
