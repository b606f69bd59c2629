/- Lowest of both. -/
import Derived.Test.YtfddiojcahbkfaaFTake
import Derived.Test.YtfddiojcahbkfaaSLow
namespace Go.Proofs.Ytfddiojcahbkfaa
open Go.RowKit

theorem fD_gt (g : Bool) (xs : List Int) (h : Bool) (ys : List Int) : 0 < fD g xs h ys := by
  unfold fD
  split
  · next e =>
    unfold fOk at e
    simp only [Bool.and_eq_true, decide_eq_true_eq] at e
    have := e.2
    unfold cmpZ at this
    split at this
    · omega
    · split at this <;> omega
  · decide
theorem gcd_mg (x y : Int) : Int.gcd (mg x) (mg y) = Int.gcd x y := by
  unfold mg
  split <;> split <;> simp
theorem low_parts {n d : Int} {u1 u2 : List Int} (v1 : val u1 = mg n) (v2 : val u2 = mg d) (hd : 0 < d) : sg (decide (n < 0)) (val u1) / (Int.gcd (val u1) (val u2) : Int) = n / (Int.gcd n d : Int) ∧ val u2 / (Int.gcd (val u1) (val u2) : Int) = d / (Int.gcd n d : Int) ∧ u2 ≠ [] := by
  have e2 : mg d = d := by unfold mg; rw [if_neg (by omega)]
  refine ⟨?_, ?_, ?_⟩
  · rw [v1, v2, gcd_mg]
    congr 1
    unfold sg mg
    by_cases h : n < 0 <;> simp [h]
  · rw [v1, v2, gcd_mg, e2]
  · rintro rfl
    rw [e2] at v2
    simp only [val] at v2
    omega

end Go.Proofs.Ytfddiojcahbkfaa
