/- How many are drawn: spec.l1Size. -/
import Derived.Test.YtbdpnfdpnaoicaaCurN
namespace Go.Proofs.Ytbdpnfdpnaoicaa
open Go.RowKit

theorem l1Size_any (a : Option Addr) (n cap : Nat) (w : World) (hm : n ≤ 1048576) :
    Calls Try.prog 15 #[.slice a n cap, .int .i64 20] w fun e w' => ∃ s : Int, e = .returned (.int .i64 s) ∧ 0 < s ∧ s ≤ 20 ∧ w' = w := by
  obtain ⟨q, hq⟩ : ∃ q : Int, (n : Int).tdiv 12 = q := ⟨_, rfl⟩
  have q0 : 0 ≤ q ∧ q ≤ 1048576 := by
    rw [← hq, Int.tdiv_eq_ediv_of_nonneg (by omega)]
    omega
  by_cases h : 20 < 3 + q
  · go_enter Try.func15, Try.ntmps15
    go_wp2
    go_ret
    exact ⟨20, rfl, by omega, by omega, rfl⟩
  · go_enter Try.func15, Try.ntmps15
    go_wp2
    go_ret
    exact ⟨3 + q, rfl, by omega, by omega, rfl⟩
end Go.Proofs.Ytbdpnfdpnaoicaa
