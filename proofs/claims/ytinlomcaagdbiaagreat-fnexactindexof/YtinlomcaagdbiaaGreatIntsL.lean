/- Lists of whole numbers: rows of a call's own, and the laws' helpers on them (eqIntS, markIntS, heldIntS). -/
import Derived.Test.YtinlomcaagdbiaaGreatRing
import Derived.Test.YtinlomcaagdbiaaGreatProg
import Derived.Laws.AppendOwnNone
import Derived.BigRegion
namespace Go.Proofs.YtinlomcaagdbiaaGreat
open Go.RowKit

theorem infoI : (Tryz.prog.info? 3).map (fun i => (i.zero, i.size, i.bytes)) = some (some (.int .i64 0), 1, 8) := by kernel_rfl
def RowI (base : Nat) (w : World) (v : Value) (ds : List Int) : Prop := w.ownsRow base 3 1 v ds.length (ds.map (Value.int .i64))
theorem onesI (ys : List Int) : ∀ u ∈ ys.map (Value.int .i64), u.oneCell' = true := by
 intro u hu
 obtain ⟨y, _, rfl⟩ := List.mem_map.1 hu
 rfl
theorem one_newI (w : World) (e : TypeId) (y : Int) : ∀ j u, ([y].map (Value.int .i64))[j]? = some u → (w.alloc (.cells #[.int .i64 y] e)).cell? ((⟨w.heap.size, 0, none⟩ : Addr).add j) = some u := by
 intro j u hu
 cases j with
 | zero =>
  simp at hu
  subst hu
  exact cell_new w #[.int .i64 y] e 0 rfl
 | succ j => simp at hu
theorem RowI.snoc {base n : Nat} {w : World} {v : Value} {ds : List Int} {y : Int} (h : w.ownsRow base 3 1 v (ds.length + 1) (ds.map (Value.int .i64) ++ [y].map (Value.int .i64))) (_ : n = 0) : RowI base w v (ds ++ [y]) := by
 unfold RowI
 rw [List.map_append, List.length_append]
 exact h

theorem RowI.shape {base : Nat} {w : World} {v : Value} {ds : List Int} (h : RowI base w v ds) (hn : ds ≠ []) : ∃ q cap, v = .slice (some ⟨q, 0, none⟩) ds.length cap ∧ base ≤ q ∧ q < w.heap.size := by
 have hp : 0 < ds.length := List.length_pos_iff.2 hn
 rcases h.2 with ⟨_, h0⟩ | ⟨q, cap, cur, hv, hb, hh, _⟩
 ·omega
 ·refine ⟨q, cap, hv, hb, ?_⟩
  rcases Nat.lt_or_ge q w.heap.size with h1 | h1
  ·exact h1
  ·rw [Array.getElem?_eq_none h1] at hh; cases hh
theorem RowI.at' {base q cap : Nat} {w : World} {ds : List Int} (h : RowI base w (.slice (some ⟨q, 0, none⟩) ds.length cap) ds) {j : Nat} (hj : j < ds.length) : w.cell? ⟨q, j, none⟩ = some (.int .i64 (ds[j]?.getD 0)) := by
 rw [h.cellAt j (by omega), List.getElem?_map, List.getElem?_eq_getElem hj]
 rfl
theorem RowI.put {base q cap : Nat} {w : World} {ds : List Int} (h : RowI base w (.slice (some ⟨q, 0, none⟩) ds.length cap) ds) (j : Nat) (x : Int) : RowI base (w.setCell ⟨q, j, none⟩ (.int .i64 x)) (.slice (some ⟨q, 0, none⟩) (ds.set j x).length cap) (ds.set j x) := by
 have := (h.stored j (.int .i64 x)).1
 unfold RowI
 rw [List.length_set, List.map_set]
 exact this
theorem RowI.below {base : Nat} {w w' : World} {v : Value} {ds : List Int} (h : RowI base w v ds) (hb : Below w.heap.size w w') : RowI base w' v ds := owns_below h hb
theorem RowI.shape' {base : Nat} {w : World} {v : Value} {ds : List Int} (h : RowI base w v ds) : ∃ a cap, v = .slice a ds.length cap ∧ ds.length ≤ cap ∧ cap ≤ maxLen := by
 rcases h.2 with ⟨hv, h0⟩ | ⟨q, cap, cur, hv, _, _, hf, hm, _⟩
 ·exact ⟨none, 0, by rw [hv, h0], by omega, by simp [maxLen]⟩
 ·exact ⟨_, cap, hv, hf, hm⟩
theorem RowI.nil (base : Nat) (w : World) : RowI base w (.slice none 0 0) [] := ⟨rfl, .inl ⟨rfl, rfl⟩⟩
theorem RowI.empty (w : World) {base : Nat} (h : base ≤ w.heap.size) : RowI base (w.alloc (.cells #[] 3)) (.slice (some ⟨w.heap.size, 0, none⟩) 0 0) [] :=
 ⟨rfl, .inr ⟨w.heap.size, 0, #[], rfl, h, heap_alloc_new _ _, Nat.le_refl _, by simp [maxLen], rfl, rfl⟩⟩
theorem RowI.at2 {base : Nat} {w : World} {a : Option Addr} {c : Nat} {ds : List Int} (h : RowI base w (.slice a ds.length c) ds) {j : Nat} (hj : j < ds.length) : ∃ q, a = some ⟨q, 0, none⟩ ∧ w.cell? ⟨q, j, none⟩ = some (.int .i64 (ds[j]?.getD 0)) ∧ base ≤ q := by
 obtain ⟨q, cap, e, hb, _⟩ := h.shape (by intro e; rw [e] at hj; simp at hj)
 injection e with e1 e2 e3
 subst e1 e3
 exact ⟨q, rfl, h.at' hj, hb⟩
theorem RowI.caps {base : Nat} {w : World} {a : Option Addr} {c : Nat} {ds : List Int} (h : RowI base w (.slice a ds.length c) ds) : ds.length ≤ c ∧ c ≤ maxLen := by
 obtain ⟨a', c', e, h1, h2⟩ := h.shape'
 injection e with e1 e2 e3
 subst e3
 exact ⟨h1, h2⟩

end Go.Proofs.YtinlomcaagdbiaaGreat
