/- Whether a point is one of a shape's: of both (pointShape, Has). -/
import Derived.Test.YthafhfdhahbdoaaMeetS
import Derived.Test.YthafhfdhahbdoaaPtSh
namespace Go.Proofs.Ythafhfdhahbdoaa
open Go.RowKit

theorem good_pt (x y : Int) : goodB 1 [[(x, y)]] = ptOk x y := by
  rw [good_form (by decide)]
  simp [formB, rowsBad, rowF, rowBad, ptBad, rowA, ptA, mostN, leastN, sevN, inB]
def hasP (n : Int) (rs : List (List (Int × Int))) (p : Int × Int) : Bool := (decide (n = 5) && decide (locI rs p ≠ 0)) || onQ (segL n rs) p
theorem meet_pt (n : Int) (rs : List (List (Int × Int))) (p : Int × Int) : meetS n rs 1 [[p]] = hasP n rs p := by
  have e1 : segL 1 [[p]] = [(p, p)] := rfl
  have e2 : anyQ (segL n rs) [(p, p)] = onQ (segL n rs) p := by
    unfold anyQ onQ anyE mtS
    simp only [List.any_cons, List.any_nil, Bool.or_false, met_point]
  have e3 : hasL rs [[p]].flatten = decide (locI rs p ≠ 0) := by simp [hasL]
  unfold meetS hasP
  rw [e1, e2, e3, decide_eq_false (p := (1 : Int) = 5) (by decide), Bool.false_and, Bool.false_or, Bool.or_comm]
/-- What Has answers. -/
def hsV (n : Int) (rs : List (List (Int × Int))) (x y : Int) : Bool := (goodB n rs && ptOk x y) && hasP n rs (x, y)
theorem hs_same (n : Int) (rs : List (List (Int × Int))) (x y : Int) : smV n rs 1 [[(x, y)]] = hsV n rs x y := by
  unfold smV hsV
  rw [good_pt, meet_pt]
end Go.Proofs.Ythafhfdhahbdoaa
