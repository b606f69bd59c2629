/- The specification's l1Reaches: is a row, one limb longer, at least the other one? -/
import Derived.Test.YtfhcbgjnojcigaaBase
import Derived.Test.YtfhcbgjnojcigaaEq
namespace Go.Proofs.Ytfhcbgjnojcigaa
open Go.RowKit

theorem val_top {rs : List Int} {n : Nat} (h : rs.length = n + 1) : val rs = val (rs.take n) + 4294967296 ^ n * (rs[n]?.getD 0) := by
  have := val_take_succ rs n
  rw [← h, List.take_length] at this
  exact this

end Go.Proofs.Ytfhcbgjnojcigaa
