/- The specification's text of a number: spec.NumText. -/
import Derived.Test.YtdgepkbdopndfaaSNum
import Derived.Test.YtdgepkbdopndfaaSMag
import Derived.Test.YtdgepkbdopndfaaTaken
import Derived.Test.YtdgepkbdopndfaaDigs
import Derived.Test.YtdgepkbdopndfaaOwns
import Derived.Laws.AppendOwnNone
import Derived.Laws.IdiomStrings
import Derived.Deep.LoopGhost
namespace Go.Proofs.Ytdgepkbdopndfaa
open Go.RowKit

theorem infoB : (Try.prog.info? 5).map (fun i => (i.zero, i.size, i.bytes)) = some (some (.int .u8 0), 1, 1) := by kernel_rfl
/-- Bytes in a row of the call's own. -/
def RowB (base : Nat) (w : World) (v : Value) (ds : List Int) : Prop := w.ownsRow base 5 1 v ds.length (ds.map (Value.int .u8))
theorem ones8 (ys : List Int) : ∀ u ∈ ys.map (Value.int .u8), u.oneCell' = true := by
  intro u hu
  obtain ⟨y, _, rfl⟩ := List.mem_map.1 hu
  rfl
theorem one_new8 (w : World) (e : TypeId) (y : Int) : ∀ j u, ([y].map (Value.int .u8))[j]? = some u → (w.alloc (.cells #[.int .u8 y] e)).cell? ((⟨w.heap.size, 0, none⟩ : Addr).add j) = some u := by
  intro j u hu
  cases j with
  | zero =>
    simp at hu
    subst hu
    exact cell_new w #[.int .u8 y] e 0 rfl
  | succ j => simp at hu
theorem RowB.snoc {base n : Nat} {w : World} {v : Value} {ds : List Int} {y : Int} (h : w.ownsRow base 5 1 v (ds.length + 1) (ds.map (Value.int .u8) ++ [y].map (Value.int .u8))) (_ : n = 0) : RowB base w v (ds ++ [y]) := by
  unfold RowB
  rw [List.map_append, List.length_append]
  exact h

theorem okB_of {g : Bool} {xs : List Int} (h : tkL g xs ≠ []) : tkG g xs = g ∧ tkL g xs = xs := by
  unfold tkL at h ⊢
  unfold tkG
  by_cases k : okB g xs = true
  · rw [if_pos k, k]; simp
  · rw [if_neg k] at h; exact absurd rfl h

theorem Sees.allNews {w : World} {b off c : Nat} {xs : List Int} (h : Sees w (some ⟨b, off, none⟩) c xs) : ∀ j u, (xs.map (Value.int .u32))[j]? = some u → w.cell? ((⟨b, off, none⟩ : Addr).add j) = some u := by
  have := h.toCame.news (Nat.le_refl xs.length)
  rwa [List.take_length] at this

theorem ret_str {a b : ByteArray} (h : a = b) : Ending.returned (.string a) = .returned (.string b) := by rw [h]
theorem RowB.shape {base : Nat} {w : World} {v : Value} {ds : List Int} (h : RowB base w v ds) (hn : ds ≠ []) : ∃ q cap, v = .slice (some ⟨q, 0, none⟩) ds.length cap ∧ base ≤ q ∧ q < w.heap.size := by
  have hp : 0 < ds.length := List.length_pos_iff.2 hn
  rcases h.2 with ⟨_, h0⟩ | ⟨q, cap, cur, hv, hb, hh, _⟩
  · omega
  · refine ⟨q, cap, hv, hb, ?_⟩
    rcases Nat.lt_or_ge q w.heap.size with h1 | h1
    · exact h1
    · rw [Array.getElem?_eq_none h1] at hh; cases hh
theorem RowB.at' {base q cap : Nat} {w : World} {ds : List Int} (h : RowB base w (.slice (some ⟨q, 0, none⟩) ds.length cap) ds) {j : Nat} (hj : j < ds.length) : w.cell? ⟨q, j, none⟩ = some (.int .u8 (ds[j]?.getD 0)) := by
  rw [h.cellAt j (by omega), List.getElem?_map, List.getElem?_eq_getElem hj]
  rfl
theorem RowB.put {base q cap : Nat} {w : World} {ds : List Int} (h : RowB base w (.slice (some ⟨q, 0, none⟩) ds.length cap) ds) (j : Nat) (x : Int) : RowB base (w.setCell ⟨q, j, none⟩ (.int .u8 x)) (.slice (some ⟨q, 0, none⟩) (ds.set j x).length cap) (ds.set j x) := by
  have := (h.stored j (.int .u8 x)).1
  unfold RowB
  rw [List.length_set, List.map_set]
  exact this
theorem RowB.below {base : Nat} {w w' : World} {v : Value} {ds : List Int} (h : RowB base w v ds) (hb : Below w.heap.size w w') : RowB base w' v ds := owns_below h hb
end Go.Proofs.Ytdgepkbdopndfaa
