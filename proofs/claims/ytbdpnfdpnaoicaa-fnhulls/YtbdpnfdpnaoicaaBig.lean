/- Whether an input is too long. -/
import Derived.Test.YtbdpnfdpnaoicaaBase
import Derived.Test.YtbdpnfdpnaoicaaProg
namespace Go.Proofs.Ytbdpnfdpnaoicaa
open Go.RowKit

theorem bigB_any (a : Option Addr) (n cap : Nat) (w : World) :
    Calls Try.prog 4 #[.slice a n cap] w fun e w' => e = .returned (.bool (decide (1048576 < (n : Int)))) ∧ w' = w := by
  go_enter Try.func4, Try.ntmps4
  go_wp2
  go_ret
  exact ⟨rfl, rfl⟩
end Go.Proofs.Ytbdpnfdpnaoicaa
