/- The sign that is taken: spec.l1Neg. -/
import Derived.Test.YtnefdfgonolafaaTaken
namespace Go.Proofs.Ytnefdfgonolafaa
open Go.RowKit

set_option maxHeartbeats 400000 in
theorem l1NegC (g : Bool) (a : Option Addr) (c : Nat) (xs : List Int) (w : World) (h : Sees w a c xs) :
    Calls Try.prog 42 #[.agg #[.bool g, .slice a xs.length c]] w fun e w' => e = .returned (.bool (tkG g xs)) ∧ Below w.heap.size w w' := by
  by_cases hk : okB g xs = true
  · have e1 : tkG g xs = g := by unfold tkG; rw [hk]; simp
    rw [e1]
    clear e1
    go_enter Try.func42, Try.ntmps42
    go_wp2_with fail
    refine (specOk g a c xs _ (h.below (below1 _ _))).mono ?_
    rintro e w1 ⟨rfl, hb⟩
    obtain ⟨q1, q2⟩ := at_block hb (b := w.heap.size) (by simp)
    have hB := (below1 _ _).trans (hb.mono (by simp))
    clear hb
    go_wp2
    go_ret
    exact ⟨rfl, hB⟩
  · have hk' : okB g xs = false := by simpa using hk
    have e1 : tkG g xs = false := by unfold tkG; rw [hk']; simp
    rw [e1]
    clear e1 hk
    go_enter Try.func42, Try.ntmps42
    go_wp2_with fail
    refine (specOk g a c xs _ (h.below (below1 _ _))).mono ?_
    rintro e w1 ⟨rfl, hb⟩
    have hB := (below1 _ _).trans (hb.mono (by simp))
    clear hb
    go_wp2
    go_ret
    exact ⟨rfl, hB⟩
end Go.Proofs.Ytnefdfgonolafaa
