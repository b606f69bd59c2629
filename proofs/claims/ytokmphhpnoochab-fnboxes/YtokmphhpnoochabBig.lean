/- Whether an input is too long. -/
import Derived.Test.YtokmphhpnoochabBase
import Derived.Test.YtokmphhpnoochabProg
namespace Go.Proofs.Ytokmphhpnoochab
open Go.RowKit

theorem bigB_any (a : Option Addr) (n cap : Nat) (w : World) :
    Calls Try.prog 7 #[.slice a n cap] w fun e w' => e = .returned (.bool (decide (1048576 < (n : Int)))) ∧ w' = w := by
  go_enter Try.func7, Try.ntmps7
  go_wp2
  go_ret
  exact ⟨rfl, rfl⟩
end Go.Proofs.Ytokmphhpnoochab
