/- The least number of which something holds: the measure of a loop that has none in its slots. -/
import Derived.Test.YthompofbdjdloaaGreatBase
namespace Go.Proofs.YthompofbdjdloaaGreat

/-- The least number of which this holds (0 where there is none). -/
noncomputable def leastN (p : Nat → Prop) : Nat := Classical.epsilon (fun k => p k ∧ ∀ j, p j → k ≤ j)
theorem least_ex {p : Nat → Prop} : ∀ k, p k → ∃ m, p m ∧ ∀ j, p j → m ≤ j := by
  intro k
  induction k using Nat.strongRecOn with
  | ind k ih =>
    intro h
    by_cases c : ∃ j, j < k ∧ p j
    · obtain ⟨j, hj, hp⟩ := c
      exact ih j hj hp
    · exact ⟨k, h, fun j hj => Nat.le_of_not_lt (fun e => c ⟨j, e, hj⟩)⟩
theorem least_at {p : Nat → Prop} (h : ∃ k, p k) : p (leastN p) ∧ ∀ j, p j → leastN p ≤ j := by
  obtain ⟨k, hk⟩ := h
  exact Classical.epsilon_spec (least_ex k hk)
theorem least_lt {p q : Nat → Prop} {k : Nat} (h : q k) (hk : k < leastN p) : leastN q < leastN p := Nat.lt_of_le_of_lt ((least_at ⟨k, h⟩).2 k h) hk

end Go.Proofs.YthompofbdjdloaaGreat
