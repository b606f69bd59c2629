/- Whether an input is too long. -/
import Derived.Test.YtfdfcgjdigpofaaDoorBase
import Derived.Test.YtfdfcgjdigpofaaDoorProg
namespace Go.Proofs.YtfdfcgjdigpofaaDoor
open Go.RowKit

theorem bigB_any (a : Option Addr) (n cap : Nat) (w : World) :
    Calls Tryd.prog 4 #[.slice a n cap] w fun e w' => e = .returned (.bool (decide (1048576 < (n : Int)))) ∧ w' = w := by
  go_enter Tryd.func4, Tryd.ntmps4
  go_wp2
  go_ret
  exact ⟨rfl, rfl⟩
end Go.Proofs.YtfdfcgjdigpofaaDoor
