/- The laws' helpers on disks: whether two are equal, their marks. -/
import Derived.Test.YtfdfcgjdigpofaaDoorQuR
import Derived.Test.YtfdfcgjdigpofaaDoorTree
import Derived.Deep.RegionHeld3
namespace Go.Proofs.YtfdfcgjdigpofaaDoor
open Go.RowKit

/-- Nothing of another block was written. -/
def ButQ (vs : List Value) (w w' : World) : Prop := w.heap.size ≤ w'.heap.size ∧ ∀ b, b < w.heap.size → (∀ u ∈ vs, u.ownBlock ≠ some b) → w'.heap[b]? = w.heap[b]?
/-- The first j writes are marked. -/
def mkQs (k : Int) (qs : List Wr) : Nat → List Wr
  | 0 => qs
  | j + 1 => (mkQs k qs j).set j (k + (uptoQ qs j : Nat), mkY (k + (uptoQ qs j : Nat) + 1) (wrN qs j).2.length)
theorem mkQs_len (k : Int) (qs : List Wr) (j : Nat) : (mkQs k qs j).length = qs.length := by
  induction j with
  | zero => rfl
  | succ j ih => simp only [mkQs, List.length_set, ih]
theorem mkQs_old (k : Int) (qs : List Wr) {j i : Nat} (h : j ≤ i) : wrN (mkQs k qs j) i = wrN qs i := by
  induction j with
  | zero => rfl
  | succ j ih => simp only [mkQs]; rw [wrN_set_other (by omega)]; exact ih (by omega)
theorem mkQs_new (k : Int) (qs : List Wr) {j i : Nat} (h : i < j) (hj : j ≤ qs.length) : wrN (mkQs k qs j) i = (k + (uptoQ qs i : Nat), mkY (k + (uptoQ qs i : Nat) + 1) (wrN qs i).2.length) := by
  induction j with
  | zero => omega
  | succ j ih =>
    simp only [mkQs]
    by_cases e : j = i
    · subst e
      rw [wrN_set_same (by rw [mkQs_len]; omega)]
    · rw [wrN_set_other e]
      exact ih (by omega) (by omega)

end Go.Proofs.YtfdfcgjdigpofaaDoor
