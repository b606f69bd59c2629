/- A list is sorted in place, number by number (the specification's l15Rising): the mathematics. -/
import Derived.Test.YtdkhaghcnijilaaGreatIntsL
namespace Go.Proofs.YtdkhaghcnijilaaGreat
open Go.RowKit

def gI (l : List Int) (j : Nat) : Int := l[j]?.getD 0
theorem gI_get {l : List Int} {j : Nat} (h : j < l.length) : gI l j = l[j] := by unfold gI; rw [List.getElem?_eq_getElem h]; rfl
/-- Two neighbours change places. -/
def swp (l : List Int) (k : Nat) : List Int := (l.set k (gI l (k - 1))).set (k - 1) (gI l k)
theorem swp_len (l : List Int) (k : Nat) : (swp l k).length = l.length := by simp [swp]
theorem swp_perm {l : List Int} {k : Nat} (h0 : 0 < k) (h : k < l.length) : (swp l k).Perm l := by
  unfold swp
  rw [gI_get (show k - 1 < l.length by omega), gI_get h]
  exact List.set_set_perm h (by omega)
theorem swp_at {l : List Int} {k : Nat} (h0 : 0 < k) (h : k < l.length) (q : Nat) : gI (swp l k) q = if q = k - 1 then gI l k else if q = k then gI l (k - 1) else gI l q := by
  show (((l.set k (gI l (k - 1))).set (k - 1) (gI l k))[q]?).getD 0 = _
  rw [List.getElem?_set]
  by_cases e : k - 1 = q
  · rw [if_pos e, if_pos (by rw [List.length_set]; omega), if_pos e.symm]
    rfl
  · rw [if_neg e, if_neg (fun h => e h.symm), List.getElem?_set]
    by_cases e2 : k = q
    · rw [if_pos e2, if_pos (by omega), if_pos e2.symm]
      rfl
    · rw [if_neg e2, if_neg (fun h => e2 h.symm)]
      rfl
/-- The first i are sorted. -/
def Asc (l : List Int) (i : Nat) : Prop := ∀ p q, p < q → q < i → gI l p ≤ gI l q
/-- All up to i are sorted but the one at k, which is less than all behind it. -/
def Mid (l : List Int) (i k : Nat) : Prop := (∀ p q, p < q → q ≤ i → p ≠ k → q ≠ k → gI l p ≤ gI l q) ∧ ∀ q, k < q → q ≤ i → gI l k ≤ gI l q
theorem Asc.mid {l : List Int} {i : Nat} (h : Asc l i) : Mid l i i := ⟨fun p q h1 h2 _ h4 => h p q h1 (by omega), fun q h1 h2 => by omega⟩
theorem Mid.swp {l : List Int} {i k : Nat} (h : Mid l i k) (h0 : 0 < k) (hk : k ≤ i) (hi : i < l.length) (hg : gI l k < gI l (k - 1)) : Mid (swp l k) i (k - 1) := by
  have at' := swp_at (l := l) h0 (show k < l.length by omega)
  refine ⟨fun p q h1 h2 h3 h4 => ?_, fun q h1 h2 => ?_⟩
  · rw [at', at', if_neg h3, if_neg h4]
    by_cases e1 : p = k
    · rw [if_pos e1, if_neg (by omega)]
      exact h.1 (k - 1) q (by omega) h2 (by omega) (by omega)
    · rw [if_neg e1]
      by_cases e2 : q = k
      · rw [if_pos e2]
        exact h.1 p (k - 1) (by omega) (by omega) e1 (by omega)
      · rw [if_neg e2]
        exact h.1 p q h1 h2 e1 e2
  · rw [at', at', if_pos rfl, if_neg (by omega)]
    by_cases e2 : q = k
    · rw [if_pos e2]; omega
    · rw [if_neg e2]
      exact h.2 q (by omega) h2
theorem Mid.asc {l : List Int} {i k : Nat} (h : Mid l i k) (hk : k = 0 ∨ gI l (k - 1) ≤ gI l k) : Asc l (i + 1) := by
  intro p q h1 h2
  by_cases e1 : p = k
  · subst e1; exact h.2 q h1 (by omega)
  · by_cases e2 : q = k
    · subst e2
      rcases hk with c | c
      · omega
      · by_cases e3 : p = q - 1
        · rw [e3]; exact c
        · have := h.1 p (q - 1) (by omega) (by omega) e1 (by omega)
          omega
    · exact h.1 p q h1 (by omega) e1 e2
theorem Asc.pairwise {l : List Int} (h : Asc l l.length) : l.Pairwise (· ≤ ·) := by
  rw [List.pairwise_iff_getElem]
  intro i j hi hj hij
  have := h i j hij hj
  rw [gI_get hi, gI_get hj] at this
  exact this
/-- Lists of the same numbers that are sorted are the same. -/
theorem sorted_one {l l' : List Int} (p : l.Perm l') (h : l.Pairwise (· ≤ ·)) (h' : l'.Pairwise (· ≤ ·)) : l = l' :=
  List.Perm.eq_of_pairwise (le := (· ≤ ·)) (fun _ _ _ _ h1 h2 => Int.le_antisymm h1 h2) h h' p
end Go.Proofs.YtdkhaghcnijilaaGreat
