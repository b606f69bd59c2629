/- A box that takes another one in; the program's Join. -/
import Derived.Test.YtgfpmhpjcadhjaaBoxJ
namespace Go.Proofs.Ytgfpmhpjcadhjaa
open Go.RowKit

def jA (a b c d m n r s : Int) : Int := if boxOk m n r s then (if boxOk a b c d then min a m else m) else a
def jB (a b c d m n r s : Int) : Int := if boxOk m n r s then (if boxOk a b c d then min b n else n) else b
def jC (a b c d m n r s : Int) : Int := if boxOk m n r s then (if boxOk a b c d then max c r else r) else c
def jD (a b c d m n r s : Int) : Int := if boxOk m n r s then (if boxOk a b c d then max d s else s) else d
def oA (a b c d m n r s : Int) : Int := if boxOk a b c d || boxOk m n r s then jA a b c d m n r s else 0
def oB (a b c d m n r s : Int) : Int := if boxOk a b c d || boxOk m n r s then jB a b c d m n r s else 0
def oC (a b c d m n r s : Int) : Int := if boxOk a b c d || boxOk m n r s then jC a b c d m n r s else 0
def oD (a b c d m n r s : Int) : Int := if boxOk a b c d || boxOk m n r s then jD a b c d m n r s else 0
theorem crd_boxOk {a b c d : Int} (h1 : Crd a) (h2 : Crd b) (h3 : Crd c) (h4 : Crd d) (h5 : a ≤ c) (h6 : b ≤ d) : boxOk a b c d = true := by
  unfold boxOk ptOk
  simp only [Bool.and_eq_true, inB_true, decide_eq_true_eq]
  exact ⟨⟨h1, h2⟩, ⟨h3, h4⟩, h5, h6⟩
theorem crd_min {a b : Int} (h : Crd a) (k : Crd b) : Crd (min a b) := by unfold Crd at *; omega
theorem crd_max {a b : Int} (h : Crd a) (k : Crd b) : Crd (max a b) := by unfold Crd at *; omega
theorem joined_ok (a b c d m n r s : Int) : boxOk (jA a b c d m n r s) (jB a b c d m n r s) (jC a b c d m n r s) (jD a b c d m n r s) = (boxOk a b c d || boxOk m n r s) := by
  unfold jA jB jC jD
  cases h1 : boxOk a b c d <;> cases h2 : boxOk m n r s
  · simpa using h1
  · simpa using h2
  · simpa using h1
  · obtain ⟨p1, p2, p3, p4⟩ := boxOk_crd h1
    obtain ⟨q1, q2, q3, q4⟩ := boxOk_crd h2
    have := boxOk_le h1
    have := boxOk_le h2
    simp only [if_true, Bool.true_or]
    exact crd_boxOk (crd_min p1 q1) (crd_min p2 q2) (crd_max p3 q3) (crd_max p4 q4) (by omega) (by omega)
theorem grow_b {w w' : World} {row : Option Nat} (h : Below w.heap.size w w') : w.grownBy w' row := ⟨h.os, h.tape, h.output, h.size, fun k hk _ => h.block k hk⟩
theorem Box4.grown {lo p q : Nat} {w w' : World} {x0 x1 x2 x3 : Value} (h : Box4 lo w q x0 x1 x2 x3) (g : w.grownBy w' (some p)) (ne : q ≠ p) : Box4 lo w' q x0 x1 x2 x3 := by
  obtain ⟨hc, hf⟩ := grown_at g h.lt (by simpa using ne)
  exact ⟨(hc 0).trans h.c0, (hc 1).trans h.c1, (hc 2).trans h.c2, (hc 3).trans h.c3, fun o => (hf o).trans (h.fr o), h.lo⟩

end Go.Proofs.Ytgfpmhpjcadhjaa
