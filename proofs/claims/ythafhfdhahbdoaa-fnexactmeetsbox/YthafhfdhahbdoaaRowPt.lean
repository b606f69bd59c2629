/- A row of points that a call owns; a point more behind it. -/
import Derived.Test.YthafhfdhahbdoaaPtG
import Derived.Test.YthafhfdhahbdoaaEq
import Derived.Laws.AppendOwnNone
namespace Go.Proofs.Ythafhfdhahbdoaa
open Go.RowKit

theorem infoPt : (Try.prog.info? 35).map (fun i => (i.zero, i.size, i.bytes)) = some (some (.agg #[.int .i64 0, .int .i64 0]), 2, 16) := by kernel_rfl
def ptC (ps : List (Int × Int)) : List Value := ps.flatMap fun p => [.int .i64 p.1, .int .i64 p.2]
theorem ptC_len (ps : List (Int × Int)) : (ptC ps).length = ps.length * 2 := by
  induction ps with
  | nil => rfl
  | cons p r ih => simp only [ptC, List.flatMap_cons, List.length_append, List.length_cons, List.length_nil] at *; omega
theorem ptC_append (ps qs : List (Int × Int)) : ptC (ps ++ qs) = ptC ps ++ ptC qs := by simp [ptC]
theorem ptC_at : ∀ (ps : List (Int × Int)) (j : Nat), j < ps.length → (ptC ps)[j * 2]? = some (.int .i64 (ps[j]?.getD (0, 0)).1) ∧ (ptC ps)[j * 2 + 1]? = some (.int .i64 (ps[j]?.getD (0, 0)).2)
  | [], j, h => absurd h (by simp)
  | p :: r, 0, _ => ⟨rfl, rfl⟩
  | p :: r, j + 1, h => by
    have ih := ptC_at r j (by simpa using h)
    have e : ptC (p :: r) = [.int .i64 p.1, .int .i64 p.2] ++ ptC r := rfl
    rw [e, show (j + 1) * 2 = 2 + j * 2 by omega, show 2 + j * 2 + 1 = 2 + (j * 2 + 1) by omega, List.getElem?_append_right (by simp), List.getElem?_append_right (by simp)]
    simpa using ih
theorem ptC_ones (ps : List (Int × Int)) : ∀ u ∈ ptC ps, u.oneCell' = true := by
  intro u hu
  simp only [ptC, List.mem_flatMap] at hu
  obtain ⟨p, _, h⟩ := hu
  simp only [List.mem_cons, List.not_mem_nil, or_false] at h
  rcases h with rfl | rfl <;> rfl
/-- Points in a row of their own. -/
def RowPt (base : Nat) (w : World) (v : Value) (ps : List (Int × Int)) : Prop := w.ownsRow base 35 2 v ps.length (ptC ps)
theorem RowPt.nil (base : Nat) (w : World) : RowPt base w (.slice none 0 0) [] := ⟨rfl, .inl ⟨rfl, rfl⟩⟩
theorem RowPt.empty (w : World) {base : Nat} (h : base ≤ w.heap.size) : RowPt base (w.alloc (.cells #[] 35)) (.slice (some ⟨w.heap.size, 0, none⟩) 0 0) [] :=
  ⟨rfl, .inr ⟨w.heap.size, 0, #[], rfl, h, heap_alloc_new _ _, Nat.le_refl _, by simp [maxLen], rfl, rfl⟩⟩
theorem RowPt.below {base : Nat} {w w' : World} {v : Value} {ps : List (Int × Int)} (h : RowPt base w v ps) (hb : Below w.heap.size w w') : RowPt base w' v ps := owns_below h hb
theorem RowPt.shape {base : Nat} {w : World} {v : Value} {ps : List (Int × Int)} (h : RowPt base w v ps) : ∃ a cap, v = .slice a ps.length cap ∧ ps.length ≤ cap ∧ cap ≤ maxLen := by
  rcases h.2 with ⟨hv, h0⟩ | ⟨q, cap, cur, hv, _, _, hf, hm, _⟩
  · exact ⟨none, 0, by rw [hv, h0], by omega, by simp [maxLen]⟩
  · exact ⟨_, cap, hv, hf, hm⟩
theorem RowPt.seesP {base : Nat} {w : World} {a : Option Addr} {cap : Nat} {ps : List (Int × Int)} (h : RowPt base w (.slice a ps.length cap) ps) : SeesP w a cap ps := by
  rcases h.2 with ⟨hv, h0⟩ | ⟨q, cap', cur, hv, hb, hh, hf, hm, hs, ht⟩
  · injection hv with h1 h2 h3
    subst h1 h3
    exact ⟨by omega, by simp [maxLen], fun hn => absurd (List.eq_nil_of_length_eq_zero h0) hn⟩
  · injection hv with h1 h2 h3
    subst h1 h3
    refine ⟨hf, hm, fun _ => ⟨q, 0, rfl, fun i hi => ?_⟩⟩
    have c : ∀ k u, (ptC ps)[k]? = some u → w.cell? ⟨q, 0 + k, none⟩ = some u := by
      intro k u hk
      rw [← ht] at hk
      have hk2 : k < ps.length * 2 := by
        have := (List.getElem?_eq_some_iff.mp hk).1
        rw [List.length_take] at this
        omega
      rw [List.getElem?_take_of_lt hk2] at hk
      rw [Nat.zero_add]
      exact (cell_of_row w q k _ _ _ hh).trans (by simpa using hk)
    obtain ⟨c1, c2⟩ := ptC_at ps i hi
    exact ⟨c _ _ c1, by have := c _ _ c2; rwa [← Nat.add_assoc] at this⟩
theorem RowPt.lo {base q cap : Nat} {w : World} {ps : List (Int × Int)} (h : RowPt base w (.slice (some ⟨q, 0, none⟩) ps.length cap) ps) : base ≤ q ∧ q < w.heap.size := World.ownsRow.lt h q rfl
theorem pt_new (w : World) (e : TypeId) (x y : Int) : ∀ j u, (ptC [(x, y)])[j]? = some u → (w.alloc (.cells #[.int .i64 x, .int .i64 y] e)).cell? ((⟨w.heap.size, 0, none⟩ : Addr).add j) = some u := by
  intro j u hu
  rcases j with _ | _ | j
  · simp [ptC] at hu; subst hu; exact cell_new w #[.int .i64 x, .int .i64 y] e 0 rfl
  · simp [ptC] at hu; subst hu; exact cell_new w #[.int .i64 x, .int .i64 y] e 1 rfl
  · simp [ptC] at hu
theorem RowPt.snoc {base : Nat} {w : World} {v : Value} {ps : List (Int × Int)} {x y : Int} (h : w.ownsRow base 35 2 v (ps.length + 1) (ptC ps ++ ptC [(x, y)])) : RowPt base w v (ps ++ [(x, y)]) := by
  unfold RowPt
  rw [ptC_append, List.length_append]
  exact h
end Go.Proofs.Ythafhfdhahbdoaa
