/- What is negated: impl.negated. -/
import Derived.Test.YtnefdfgonolafaaTaken
namespace Go.Proofs.Ytnefdfgonolafaa
open Go.RowKit

theorem negatedC (g : Bool) (a : Option Addr) (c n : Nat) (w : World) (hn : n ≤ 9223372036854775807) :
    Calls Try.prog 31 #[.agg #[.bool g, .slice a n c]] w fun e w' => e = .returned (.agg #[.bool (!g && decide (0 < n)), .slice a n c]) ∧ Below w.heap.size w w' := by
  by_cases h0 : 0 < n
  · rw [decide_eq_true h0, Bool.and_true]
    have hp : (0 : Int) < n := by omega
    rcases g with _ | _
    · go_enter Try.func31, Try.ntmps31
      go_wp2
      exact bodyPost_ret (v := .agg #[.bool (!false), .slice a n c]) (by simp [results, Try.results31, go_sem]) rfl ⟨rfl, below2 _ _ _⟩
    · go_enter Try.func31, Try.ntmps31
      go_wp2
      exact bodyPost_ret (v := .agg #[.bool (!true), .slice a n c]) (by simp [results, Try.results31, go_sem]) rfl ⟨rfl, below2 _ _ _⟩
  · obtain rfl : n = 0 := by omega
    rcases g with _ | _
    · go_enter Try.func31, Try.ntmps31
      go_wp2
      exact bodyPost_ret (v := .agg #[.bool (!false && decide (0 < 0)), .slice a 0 c]) (by simp [results, Try.results31, go_sem]) rfl ⟨rfl, below2 _ _ _⟩
    · go_enter Try.func31, Try.ntmps31
      go_wp2
      exact bodyPost_ret (v := .agg #[.bool (!true && decide (0 < 0)), .slice a 0 c]) (by simp [results, Try.results31, go_sem]) rfl ⟨rfl, below2 _ _ _⟩
end Go.Proofs.Ytnefdfgonolafaa
