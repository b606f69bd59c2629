/- Boxes in boxes, areas, margins, gaps. -/
import Derived.Test.YthompofbdjdloaaGreatBoxO
import Derived.Test.YthompofbdjdloaaGreatPtS
namespace Go.Proofs.YthompofbdjdloaaGreat
open Go.RowKit

def insd (a b c d m n r s : Int) : Bool := boxOk a b c d && (inX m n r s a b && inX m n r s c d)
def area (a b c d : Int) : Int := if boxOk a b c d then (c - a) * (d - b) else 0
def marg (a b c d : Int) : Int := if boxOk a b c d then (c - a) + (d - b) else 0
def wide (a b c d : Int) : Int := if boxOk a b c d then c - a else 0
def high (a b c d : Int) : Int := if boxOk a b c d then d - b else 0

theorem wide_dif (a b c d : Int) : Dif (wide a b c d) := by
  unfold wide
  cases h : boxOk a b c d
  · simp [Dif]
  · obtain ⟨q1, q2, q3, q4⟩ := boxOk_crd h
    simpa using q3.dif q1
theorem high_dif (a b c d : Int) : Dif (high a b c d) := by
  unfold high
  cases h : boxOk a b c d
  · simp [Dif]
  · obtain ⟨q1, q2, q3, q4⟩ := boxOk_crd h
    simpa using q4.dif q2
theorem area_is (a b c d : Int) : area a b c d = wide a b c d * high a b c d := by unfold area wide high; cases boxOk a b c d <;> simp
theorem marg_is (a b c d : Int) : marg a b c d = wide a b c d + high a b c d := by unfold marg wide high; cases boxOk a b c d <;> simp

end Go.Proofs.YthompofbdjdloaaGreat
