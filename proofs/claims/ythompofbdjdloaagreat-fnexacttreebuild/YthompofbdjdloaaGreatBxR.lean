/- Boxes in a row of a call's own. -/
import Derived.Test.YthompofbdjdloaaGreatBxsL
import Derived.Test.YthompofbdjdloaaGreatOwns
namespace Go.Proofs.YthompofbdjdloaaGreat
open Go.RowKit

def boxC (bs : List Bx) : List Value := bs.flatMap fun b => [.int .i64 b.1, .int .i64 b.2.1, .int .i64 b.2.2.1, .int .i64 b.2.2.2]
theorem boxC_append (ps qs : List Bx) : boxC (ps ++ qs) = boxC ps ++ boxC qs := by simp [boxC]
theorem boxC_at : ∀ (bs : List Bx) (j : Nat), j < bs.length → (boxC bs)[j * 4]? = some (.int .i64 (bxAt bs j).1) ∧ (boxC bs)[j * 4 + 1]? = some (.int .i64 (bxAt bs j).2.1) ∧ (boxC bs)[j * 4 + 2]? = some (.int .i64 (bxAt bs j).2.2.1) ∧ (boxC bs)[j * 4 + 3]? = some (.int .i64 (bxAt bs j).2.2.2)
  | [], j, h => absurd h (by simp)
  | p :: r, 0, _ => ⟨rfl, rfl, rfl, rfl⟩
  | p :: r, j + 1, h => by
    have ih := boxC_at r j (by simpa using h)
    have e : boxC (p :: r) = [.int .i64 p.1, .int .i64 p.2.1, .int .i64 p.2.2.1, .int .i64 p.2.2.2] ++ boxC r := rfl
    have eb : bxAt (p :: r) (j + 1) = bxAt r j := rfl
    rw [e, eb, show (j + 1) * 4 = 4 + j * 4 by omega, show 4 + j * 4 + 1 = 4 + (j * 4 + 1) by omega, show 4 + j * 4 + 2 = 4 + (j * 4 + 2) by omega, show 4 + j * 4 + 3 = 4 + (j * 4 + 3) by omega, List.getElem?_append_right (by simp), List.getElem?_append_right (by simp), List.getElem?_append_right (by simp), List.getElem?_append_right (by simp)]
    simpa using ih
theorem boxC_ones (bs : List Bx) : ∀ u ∈ boxC bs, u.oneCell' = true := by
  intro u hu
  simp only [boxC, List.mem_flatMap] at hu
  obtain ⟨p, _, h⟩ := hu
  simp only [List.mem_cons, List.not_mem_nil, or_false] at h
  rcases h with rfl | rfl | rfl | rfl <;> rfl
/-- Boxes in a row of their own. -/
def RowBx (base : Nat) (w : World) (v : Value) (bs : List Bx) : Prop := w.ownsRow base 28 4 v bs.length (boxC bs)
theorem RowBx.empty (w : World) {base : Nat} (h : base ≤ w.heap.size) : RowBx base (w.alloc (.cells #[] 28)) (.slice (some ⟨w.heap.size, 0, none⟩) 0 0) [] :=
  ⟨rfl, .inr ⟨w.heap.size, 0, #[], rfl, h, heap_alloc_new _ _, Nat.le_refl _, by simp [maxLen], rfl, rfl⟩⟩
theorem RowBx.snoc {base : Nat} {w : World} {v : Value} {bs : List Bx} {x : Bx} (h : w.ownsRow base 28 4 v (bs.length + 1) (boxC bs ++ boxC [x])) : RowBx base w v (bs ++ [x]) := by
  unfold RowBx
  rw [boxC_append, List.length_append]
  exact h
theorem RowBx.sees {base : Nat} {w : World} {v : Value} {bs : List Bx} (h : RowBx base w v bs) : ∃ a cap, v = .slice a bs.length cap ∧ SeesX w a cap bs := by
  rcases h.2 with ⟨hv, h0⟩ | ⟨q, cap', cur, hv, hb, hh, hf, hm, hs, ht⟩
  · exact ⟨none, 0, by rw [hv, h0], ⟨by omega, by simp [maxLen], fun hn => absurd (List.eq_nil_of_length_eq_zero h0) hn⟩⟩
  · refine ⟨_, cap', hv, hf, hm, fun _ => ⟨q, 0, rfl, fun i hi => ?_⟩⟩
    have c : ∀ k u, (boxC bs)[k]? = some u → w.cell? ⟨q, 0 + k, none⟩ = some u := by
      intro k u hk
      rw [← ht] at hk
      have hk2 : k < bs.length * 4 := by
        have := (List.getElem?_eq_some_iff.mp hk).1
        rw [List.length_take] at this
        omega
      rw [List.getElem?_take_of_lt hk2] at hk
      rw [Nat.zero_add]
      exact (cell_of_row w q k _ _ _ hh).trans (by simpa using hk)
    obtain ⟨c1, c2, c3, c4⟩ := boxC_at bs i hi
    exact ⟨c _ _ c1, by have := c _ _ c2; rwa [← Nat.add_assoc] at this, by have := c _ _ c3; rwa [← Nat.add_assoc] at this, by have := c _ _ c4; rwa [← Nat.add_assoc] at this⟩
theorem box_new (w : World) (e : TypeId) (x y u v : Int) : ∀ j z, (boxC [(x, y, u, v)])[j]? = some z → (w.alloc (.cells #[.int .i64 x, .int .i64 y, .int .i64 u, .int .i64 v] e)).cell? ((⟨w.heap.size, 0, none⟩ : Addr).add j) = some z := by
  intro j z hz
  rcases j with _ | _ | _ | _ | j
  · simp [boxC] at hz; subst hz; exact cell_new w #[.int .i64 x, .int .i64 y, .int .i64 u, .int .i64 v] e 0 rfl
  · simp [boxC] at hz; subst hz; exact cell_new w #[.int .i64 x, .int .i64 y, .int .i64 u, .int .i64 v] e 1 rfl
  · simp [boxC] at hz; subst hz; exact cell_new w #[.int .i64 x, .int .i64 y, .int .i64 u, .int .i64 v] e 2 rfl
  · simp [boxC] at hz; subst hz; exact cell_new w #[.int .i64 x, .int .i64 y, .int .i64 u, .int .i64 v] e 3 rfl
  · simp [boxC] at hz
theorem RowBx.kept {base : Nat} {w w' : World} {v : Value} {bs : List Bx} {row : Option Nat} (h : RowBx base w v bs) (g : w.grownBy w' row) (ne : ∀ k, row = some k → k < base) : RowBx base w' v bs := by
  refine World.ownsRow.kept h g ?_
  cases q : v.ownBlock with
  | none => exact .inl rfl
  | some k => exact .inr (fun e => by have := ne k e.symm; have := (World.ownsRow.lt h k q).1; omega)
end Go.Proofs.YthompofbdjdloaaGreat
