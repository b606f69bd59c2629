/- CurveOf of the specification: a point's place on the curve. -/
import Derived.Test.YtbnoddemohhpgaaCurS
import Derived.Test.YtbnoddemohhpgaaTree
namespace Go.Proofs.Ytbnoddemohhpgaa
open Go.RowKit

/-- A point's place on the curve, -1 where it is none. -/
def cvOf (x y : Int) : Int := if ptOk x y then hOf 25 (x + 10000000) (y + 10000000) else -1
theorem cvCrd {x y : Int} (h : ptOk x y = true) : (-10000000 ≤ x ∧ x ≤ 10000000) ∧ (-10000000 ≤ y ∧ y ≤ 10000000) := by
  unfold ptOk inB at h
  simp only [Bool.and_eq_true, decide_eq_true_eq] at h
  omega
end Go.Proofs.Ytbnoddemohhpgaa
