/- Overlaps, points in boxes, boxes in boxes. -/
import Derived.Test.YtilobdohoaoikaaBoxW
namespace Go.Proofs.Ytilobdohoaoikaa
open Go.RowKit

def ovl (a b c d m n r s : Int) : Bool := boxOk a b c d && (boxOk m n r s && (decide (a ≤ r) && (decide (m ≤ c) && (decide (b ≤ s) && decide (n ≤ d)))))
def inX (a b c d x y : Int) : Bool := boxOk a b c d && (ptOk x y && (inB x a c && inB y b d))
theorem boxOk_le {a b c d : Int} (h : boxOk a b c d = true) : a ≤ c ∧ b ≤ d := by unfold boxOk at h; simp at h; exact h.2.2
theorem boxOk_crd {a b c d : Int} (h : boxOk a b c d = true) : Crd a ∧ Crd b ∧ Crd c ∧ Crd d := by
  unfold boxOk ptOk at h
  simp only [Bool.and_eq_true, inB_true] at h
  unfold Crd
  omega
theorem ovl_rng (a b c d m n r s : Int) : ovl a b c d m n r s = (boxOk a b c d && (boxOk m n r s && (rng a c m r && rng b d n s))) := by
  unfold ovl
  cases h1 : boxOk a b c d
  · rfl
  · cases h2 : boxOk m n r s
    · rfl
    · have := boxOk_le h1
      have := boxOk_le h2
      rw [Bool.eq_iff_iff]
      simp [rng]
      omega
theorem boxOk_pt (x y : Int) : boxOk x y x y = ptOk x y := by unfold boxOk; cases ptOk x y <;> simp
theorem ovl_pt (a b c d x y : Int) : ovl a b c d x y x y = inX a b c d x y := by
  unfold ovl inX
  rw [boxOk_pt]
  cases h1 : boxOk a b c d
  · rfl
  · cases h2 : ptOk x y
    · rfl
    · rw [Bool.eq_iff_iff]
      simp [inB]
      omega

end Go.Proofs.Ytilobdohoaoikaa
