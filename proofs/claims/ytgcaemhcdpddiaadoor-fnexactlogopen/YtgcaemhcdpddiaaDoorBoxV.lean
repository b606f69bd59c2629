/- A variable of several cells. -/
import Derived.Test.YtgcaemhcdpddiaaDoorQuR
namespace Go.Proofs.YtgcaemhcdpddiaaDoor
open Go.RowKit

/-- A variable of several cells. -/
structure BoxL (lo : Nat) (w : World) (p : Nat) (xs : List Value) : Prop where
  c : ∀ i v, xs[i]? = some v → w.cell? ⟨p, i, none⟩ = some v
  fr : ∀ o, w.frozen? ⟨p, o, none⟩ = false
  lo : lo ≤ p
  lt : p < w.heap.size
theorem BoxL.new (w : World) {lo : Nat} (h : lo ≤ w.heap.size) (xs : List Value) (t : TypeId) : BoxL lo (w.alloc (.cells xs.toArray t)) w.heap.size xs :=
  ⟨fun i v hv => cell_new w xs.toArray t i (by simpa using hv), fun o => frozen_new _ _ _ o, h, by simp⟩
theorem BoxL.below {lo p : Nat} {w w' : World} {xs : List Value} (h : BoxL lo w p xs) (hb : Below w.heap.size w w') : BoxL lo w' p xs :=
  ⟨fun i v hv => bat hb (h.c i v hv), fun o => (hb.frozen (p := ⟨p, o, none⟩) h.lt).trans (h.fr o), h.lo, Nat.lt_of_lt_of_le h.lt hb.size⟩
theorem BoxL.put {lo p : Nat} {w : World} {xs : List Value} (h : BoxL lo w p xs) (i : Nat) (u : Value) (hi : i < xs.length) : BoxL lo (w.setCell ⟨p, i, none⟩ u) p (xs.set i u) := by
  refine ⟨fun j v hv => ?_, fun o => (World.frozen?_setCell ..).trans (h.fr o), h.lo, by simpa using h.lt⟩
  by_cases e : i = j
  · subst e
    rw [List.getElem?_set_self hi] at hv
    injection hv with hv
    subst hv
    exact cell_same (h.c i _ (List.getElem?_eq_getElem hi)) _
  · rw [List.getElem?_set_ne e] at hv
    exact (cell_other (.inr e) _).trans (h.c j v hv)
theorem BoxL.grown {lo p : Nat} {w w' : World} {xs : List Value} {row : Option Nat} (h : BoxL lo w p xs) (g : w.grownBy w' row) (ne : row ≠ some p) : BoxL lo w' p xs := by
  obtain ⟨hc, hf⟩ := grown_at g h.lt (by intro e; exact ne e.symm)
  exact ⟨fun i v hv => (hc i).trans (h.c i v hv), fun o => (hf o).trans (h.fr o), h.lo, Nat.lt_of_lt_of_le h.lt g.size⟩
theorem BoxL.far {lo p q : Nat} {w : World} {xs : List Value} (h : BoxL lo w p xs) (ne : p ≠ q) (o : Nat) (u : Value) : BoxL lo (w.setCell ⟨q, o, none⟩ u) p xs :=
  ⟨fun i v hv => (cell_other (.inl (Ne.symm ne)) u).trans (h.c i v hv), fun i => (World.frozen?_setCell ..).trans (h.fr i), h.lo, by simpa using h.lt⟩
end Go.Proofs.YtgcaemhcdpddiaaDoor
