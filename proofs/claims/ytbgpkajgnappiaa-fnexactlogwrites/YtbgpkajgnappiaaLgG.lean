/- A number of four bytes, read. -/
import Derived.Test.YtbgpkajgnappiaaLgC
import Derived.BigRegion
namespace Go.Proofs.Ytbgpkajgnappiaa
open Go.RowKit

/-- The number that stands in four bytes. -/
def lgGet (bs : List Int) (k : Nat) : Int := bs[k]?.getD 0 + bs[k + 1]?.getD 0 * 256 + bs[k + 2]?.getD 0 * 65536 + bs[k + 3]?.getD 0 * 16777216
theorem u8At {bs : List Int} (h8 : ∀ x ∈ bs, 0 ≤ x ∧ x < 256) (k : Nat) : 0 ≤ bs[k]?.getD 0 ∧ bs[k]?.getD 0 < 256 := by
  by_cases h : k < bs.length
  · rw [List.getElem?_eq_getElem h]
    exact h8 _ (List.getElem_mem h)
  · rw [List.getElem?_eq_none (by omega)]
    simp

end Go.Proofs.Ytbgpkajgnappiaa
