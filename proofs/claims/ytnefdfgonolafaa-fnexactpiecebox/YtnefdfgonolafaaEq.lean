/- The laws' helpers on slices of limbs: two that read the same are told to be equal; marking a slice and asking for the marks. -/
import Derived.Test.YtnefdfgonolafaaProg
import Derived.Test.YtnefdfgonolafaaBase
import Derived.WalkKit
import Derived.WalkSpells
import Derived.WalkLawsBesides
import Derived.BigQuiet
import Derived.Deep.QuietTactic
namespace Go.Proofs.Ytnefdfgonolafaa
open Go.RowKit

set_option maxHeartbeats 400000 in
theorem eqU (a b : Option Addr) (c d : Nat) (xs : List Int) (w : World) (h : Sees w a c xs) (k : Sees w b d xs) :
    Calls Try.prog 51 #[.slice a xs.length c, .slice b xs.length d] w fun e w' => e = .returned (.bool true) ∧ ∃ n, w' = w.drewN n := by
  have hm := h.max
  have hf := h.fits
  unfold maxLen at hm
  have hne : ((xs.length : Int) != (xs.length : Int)) = false := by simp
  go_enter Try.func51, Try.ntmps51
  go_wp2
  go_loopw [5] (fun i wr => ∃ j n : Nat, j ≤ xs.length ∧ i = .int .i64 j ∧ wr = w.drewN n) (fun i _ => xs.length - (intOf i).toNat)
  case atStart => exact ⟨0, 0, Nat.zero_le _, rfl, rfl⟩
  case round =>
    obtain ⟨j, n, hj, rfl, rfl⟩ := hrel
    by_cases hlt : j < xs.length
    · obtain ⟨b1, o1, rfl, hc1⟩ := h.cells (by intro e; simp [e] at hlt)
      obtain ⟨b2, o2, rfl, hc2⟩ := k.cells (by intro e; simp [e] at hlt)
      have g1 := hc1 j hlt
      have g2 := hc2 j hlt
      clear hc1 hc2 h k
      go_wp2
      go_quiet (fail)
      go_wp2
      go_roundw
      case rel => exact ⟨j + 1, _, by omega, by go_num, rfl⟩
      case measure => simp [intOf]; omega
    · go_wp2
      go_ret
      exact ⟨rfl, n, rfl⟩
end Go.Proofs.Ytnefdfgonolafaa
