/- What is known of a good shape: its kind, how many rows and points, its points. -/
import Derived.Test.YthafhfdhahbdoaaGoodS
import Derived.Test.YthafhfdhahbdoaaFigI
namespace Go.Proofs.Ythafhfdhahbdoaa
open Go.RowKit

theorem goodS_rows {k : Int} {rs : List (List (Int × Int))} (h : goodB k rs = true) : (1 ≤ k ∧ k ≤ 5) ∧ rs.length ≤ 12 ∧ ∀ i, i < rs.length → leastN k ≤ (rowA rs i).length ∧ 0 < (rowA rs i).length ∧ (rowA rs i).length ≤ 60 := by
  have hf : formB k rs = true := by
    unfold goodB goodTo at h
    rw [Bool.and_eq_true] at h
    exact h.1
  have hk : 1 ≤ k ∧ k ≤ 5 := by
    rcases Classical.em (1 ≤ k ∧ k ≤ 5) with c | c
    · exact c
    · have e : mostN k = -1 := by
        unfold mostN
        rw [if_neg (by omega), if_neg (by omega), if_neg (by omega), if_neg (by omega), if_neg (by omega)]
      unfold formB at hf
      rw [e] at hf
      simp at hf
  refine ⟨hk, ?_, fun i hi => ?_⟩
  · have e := hf
    unfold formB at e
    cases c : inB rs.length 1 12
    · rw [c] at e
      simp at e
    · have := inB_true.1 c
      omega
  · obtain ⟨h1, _⟩ := form_row hf hi
    have h2 := inB_true.1 h1
    have h3 : 1 ≤ leastN k ∧ mostN k ≤ 60 := by rcases kinds hk with rfl | rfl | rfl | rfl | rfl <;> decide
    omega
theorem goodS_ok {k : Int} {rs : List (List (Int × Int))} (h : goodB k rs = true) {i : Nat} (hi : i < rs.length) : okL (rowA rs i) = true := by
  have hf : formB k rs = true := by
    unfold goodB goodTo at h
    rw [Bool.and_eq_true] at h
    exact h.1
  exact (form_row hf hi).2
theorem goodS_some {k : Int} {rs : List (List (Int × Int))} (h : goodB k rs = true) : 0 < rs.length := by
  have hf : formB k rs = true := by
    unfold goodB goodTo at h
    rw [Bool.and_eq_true] at h
    exact h.1
  unfold formB at hf
  cases c : inB rs.length 1 12
  · rw [c] at hf
    simp at hf
  · have := inB_true.1 c
    omega
end Go.Proofs.Ythafhfdhahbdoaa
