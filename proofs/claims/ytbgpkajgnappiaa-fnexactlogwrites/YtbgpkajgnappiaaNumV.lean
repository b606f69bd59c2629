/- A right number at a value, with what it is. -/
import Derived.Test.YtbgpkajgnappiaaEq
namespace Go.Proofs.Ytbgpkajgnappiaa
open Go.RowKit

theorem tk_val {us : List Int} {n : Int} (hl : Lim us) (hn : Nrm us) (l : us.length ≤ 24) (hv : val us = mg n) : okB (decide (n < 0)) us = true ∧ tk (decide (n < 0)) us = n := by
  have ok : okB (decide (n < 0)) us = true := by
    unfold okB
    by_cases h0 : us.length = 0
    · rw [if_pos h0]
      obtain rfl : us = [] := List.eq_nil_of_length_eq_zero h0
      have : ¬ n < 0 := by
        intro h
        unfold mg at hv
        rw [if_pos h] at hv
        simp [val] at hv
        omega
      simp [this]
    · rw [if_neg h0]
      simp only [Bool.and_eq_true, decide_eq_true_eq, bne_iff_ne]
      refine ⟨l, ?_⟩
      have hlt : us.length - 1 < us.length := by omega
      rw [List.getElem?_eq_getElem hlt]
      exact last_of_Nrm hn _ (by rw [List.getLast?_eq_getElem?, List.getElem?_eq_getElem hlt]; rfl)
  refine ⟨ok, ?_⟩
  unfold tk tkG tkL
  rw [if_pos ok, ok, hv]
  unfold mg sg
  by_cases h : n < 0 <;> simp [h] <;> omega

/-- A number of at most 24 limbs. -/
structure NumV (w : World) (v : Value) (z : Int) : Prop where
  is' : ∃ a c us, v = .agg #[.bool (decide (z < 0)), .slice a us.length c] ∧ Sees w a c us ∧ Nrm us ∧ us.length ≤ 24 ∧ val us = mg z
theorem NumV.below {w w' : World} {v : Value} {z : Int} (h : NumV w v z) (hb : Below w.heap.size w w') : NumV w' v z := by
  obtain ⟨a, c, us, e, s, r⟩ := h.is'
  exact ⟨a, c, us, e, s.below hb, r⟩
theorem IsNum.numV {base : Nat} {w : World} {v : Value} {z : Int} (h : IsNum base w v z) (h1 : -(4294967296 ^ 24) < z) (h2 : z < 4294967296 ^ 24) : NumV w v z := by
  obtain ⟨a, c, us, e, o, n, hv⟩ := h
  refine ⟨a, c, us, e, o.toSees, n, len_le o.lim n ?_, hv⟩
  rw [hv]
  unfold mg
  split <;> omega
theorem ok_facts {g : Bool} {xs : List Int} (hl : Lim xs) (h : okB g xs = true) : g = decide (tk g xs < 0) ∧ Nrm xs ∧ xs.length ≤ 24 ∧ val xs = mg (tk g xs) := by
  have el : tkL g xs = xs := by unfold tkL; rw [if_pos h]
  have eg : tkG g xs = g := by unfold tkG; rw [h]; simp
  obtain ⟨_, n, l, z⟩ := tk_facts g xs hl
  rw [el] at n l z
  rw [eg] at z
  have hv : tk g xs = sg g (val xs) := by unfold tk; rw [eg, el]
  refine ⟨?_, n, l, by rw [hv, mg_sg (val_nonneg hl)]⟩
  rw [hv]
  by_cases e : xs = []
  · rw [z e, e]; rfl
  · have := val_pos hl n e
    unfold sg
    cases g
    · simp; omega
    · simp; omega
theorem tk_ne {g : Bool} {xs : List Int} (hl : Lim xs) : decide (tk g xs ≠ 0) = (okB g xs && decide (0 < xs.length)) := by
  cases h : okB g xs
  · have el : tkL g xs = [] := by unfold tkL; rw [if_neg (by rw [h]; decide)]
    have : tk g xs = 0 := by unfold tk; rw [el]; cases tkG g xs <;> rfl
    rw [this]; rfl
  · obtain ⟨_, n, _, hv⟩ := ok_facts hl h
    by_cases e : xs = []
    · rw [e] at hv ⊢
      have : tk g [] = 0 := by
        have h0 : mg (tk g []) = 0 := hv.symm
        unfold mg at h0
        split at h0 <;> omega
      rw [this]; rfl
    · have hp := val_pos hl n e
      have hlen := List.length_pos_iff.2 e
      have : tk g xs ≠ 0 := by
        intro z
        rw [z] at hv
        simp [mg] at hv
        omega
      simp [this, hlen]
theorem abs_lt {g : Bool} {xs : List Int} (hl : Lim xs) (h : okB g xs = true) : mg (tk g xs) < 4294967296 ^ xs.length := by
  rw [← (ok_facts hl h).2.2.2]; exact val_lt hl
theorem mg_nat (x : Int) : mg x = (x.natAbs : Int) := by unfold mg; split <;> omega
end Go.Proofs.Ytbgpkajgnappiaa
