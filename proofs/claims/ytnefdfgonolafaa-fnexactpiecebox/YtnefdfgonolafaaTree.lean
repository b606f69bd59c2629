/- Variables that a region makes: what lies in them, what is put into them. -/
import Derived.Test.YtnefdfgonolafaaBase
namespace Go.Proofs.Ytnefdfgonolafaa
open Go.RowKit

theorem frozen_new (w : World) (c : Array Value) (t : TypeId) (o : Nat) : (w.alloc (.cells c t)).frozen? ⟨w.heap.size, o, none⟩ = false := by
  simp [go_sem]

theorem put_new2 {w : World} {p : Nat} {x0 x1 : Value} (h0 : w.cell? ⟨p, 0, none⟩ = some x0) (h1 : w.cell? ⟨p, 1, none⟩ = some x1) (u0 u1 : Value) :
    ((w.setCell ⟨p, 0, none⟩ u0).setCell ⟨p, 1, none⟩ u1).cell? ⟨p, 0, none⟩ = some u0 ∧ ((w.setCell ⟨p, 0, none⟩ u0).setCell ⟨p, 1, none⟩ u1).cell? ⟨p, 1, none⟩ = some u1 := by
  refine ⟨?_, ?_⟩
  · rw [World.cell?_setCell_other _ _ _ _ (by simp)]
    exact World.cell?_setCell_same _ _ _ h0
  · refine World.cell?_setCell_same (u := x1) _ _ _ ?_
    rw [World.cell?_setCell_other _ _ _ _ (by simp)]
    exact h1
theorem put_old2 {w : World} {b b' o : Nat} (h : b' ≠ b) (u0 u1 : Value) : ((w.setCell ⟨b, 0, none⟩ u0).setCell ⟨b, 1, none⟩ u1).cell? ⟨b', o, none⟩ = w.cell? ⟨b', o, none⟩ := cell_put h
theorem put_frozen2 {w : World} (b : Nat) (a : Addr) (u0 u1 : Value) : ((w.setCell ⟨b, 0, none⟩ u0).setCell ⟨b, 1, none⟩ u1).frozen? a = w.frozen? a := by
  rw [World.frozen?_setCell, World.frozen?_setCell]
theorem Own.put1 {base p : Nat} {w : World} {a : Option Addr} {c : Nat} {xs : List Int} (h : Own base w a c xs) (r : some p ≠ rowOf a xs) (o : Nat) (u : Value) : Own base (w.setCell ⟨p, o, none⟩ u) a c xs :=
  h.kept (grownBy_setCell (grownBy_refl w (some p)) rfl u) (fun b off ha hn e => by
    apply r
    unfold rowOf
    rw [if_neg hn, ha]
    simpa using e)
theorem Own.put2 {base p : Nat} {w : World} {a : Option Addr} {c : Nat} {xs : List Int} (h : Own base w a c xs) (r : some p ≠ rowOf a xs) (u0 u1 : Value) : Own base ((w.setCell ⟨p, 0, none⟩ u0).setCell ⟨p, 1, none⟩ u1) a c xs :=
  (h.put1 r 0 u0).put1 r 1 u1

theorem gt {l : List Oper} {i : Nat} {o : Oper} (h : l[i]? = some o) : l.toArray[i]? = some o := by simpa using h

/-- A variable of two cells that was made from block lo on. -/
structure Box2 (lo : Nat) (w : World) (p : Nat) (x0 x1 : Value) : Prop where
  c0 : w.cell? ⟨p, 0, none⟩ = some x0
  c1 : w.cell? ⟨p, 1, none⟩ = some x1
  fr : ∀ o, w.frozen? ⟨p, o, none⟩ = false
  lo : lo ≤ p
theorem Box2.new (w : World) {lo : Nat} (h : lo ≤ w.heap.size) (x0 x1 : Value) (t : TypeId) : Box2 lo (w.alloc (.cells #[x0, x1] t)) w.heap.size x0 x1 :=
  ⟨cell_new w #[x0, x1] t 0 rfl, cell_new w #[x0, x1] t 1 rfl, fun o => frozen_new _ _ _ o, h⟩
theorem Box2.lt {lo p : Nat} {w : World} {x0 x1 : Value} (h : Box2 lo w p x0 x1) : p < w.heap.size := World.block_lt_of_cell? _ _ h.c0
theorem Box2.below {lo p : Nat} {w w' : World} {x0 x1 : Value} (h : Box2 lo w p x0 x1) (hb : Below w.heap.size w w') : Box2 lo w' p x0 x1 :=
  ⟨bat hb h.c0, bat hb h.c1, fun o => (hb.frozen (p := ⟨p, o, none⟩) h.lt).trans (h.fr o), h.lo⟩
theorem Box2.put {lo p : Nat} {w : World} {x0 x1 : Value} (h : Box2 lo w p x0 x1) (u0 u1 : Value) : Box2 lo ((w.setCell ⟨p, 0, none⟩ u0).setCell ⟨p, 1, none⟩ u1) p u0 u1 :=
  ⟨(put_new2 h.c0 h.c1 u0 u1).1, (put_new2 h.c0 h.c1 u0 u1).2, fun o => (put_frozen2 p _ u0 u1).trans (h.fr o), h.lo⟩
theorem Box2.old {lo p q : Nat} {w : World} {x0 x1 : Value} (h : Box2 lo w q x0 x1) (ne : q ≠ p) (u0 u1 : Value) : Box2 lo ((w.setCell ⟨p, 0, none⟩ u0).setCell ⟨p, 1, none⟩ u1) q x0 x1 :=
  ⟨(put_old2 ne u0 u1).trans h.c0, (put_old2 ne u0 u1).trans h.c1, fun o => (put_frozen2 p _ u0 u1).trans (h.fr o), h.lo⟩
theorem Box2.chain {b : Nat} {W w : World} {p : Nat} {x0 x1 : Value} (N : Below b W w) (h : Box2 b w p x0 x1) (u0 u1 : Value) : Below b W ((w.setCell ⟨p, 0, none⟩ u0).setCell ⟨p, 1, none⟩ u1) :=
  (N.setCell (p := ⟨p, 0, none⟩) h.lo u0).setCell (p := ⟨p, 1, none⟩) h.lo u1

/-- A variable of four cells. -/
structure Box4 (lo : Nat) (w : World) (p : Nat) (x0 x1 x2 x3 : Value) : Prop where
  c0 : w.cell? ⟨p, 0, none⟩ = some x0
  c1 : w.cell? ⟨p, 1, none⟩ = some x1
  c2 : w.cell? ⟨p, 2, none⟩ = some x2
  c3 : w.cell? ⟨p, 3, none⟩ = some x3
  fr : ∀ o, w.frozen? ⟨p, o, none⟩ = false
  lo : lo ≤ p
theorem Box4.new (w : World) {lo : Nat} (h : lo ≤ w.heap.size) (x0 x1 x2 x3 : Value) (t : TypeId) : Box4 lo (w.alloc (.cells #[x0, x1, x2, x3] t)) w.heap.size x0 x1 x2 x3 :=
  ⟨cell_new w #[x0, x1, x2, x3] t 0 rfl, cell_new w #[x0, x1, x2, x3] t 1 rfl, cell_new w #[x0, x1, x2, x3] t 2 rfl, cell_new w #[x0, x1, x2, x3] t 3 rfl, fun o => frozen_new _ _ _ o, h⟩
theorem Box4.lt {lo p : Nat} {w : World} {x0 x1 x2 x3 : Value} (h : Box4 lo w p x0 x1 x2 x3) : p < w.heap.size := World.block_lt_of_cell? _ _ h.c0
theorem Box4.below {lo p : Nat} {w w' : World} {x0 x1 x2 x3 : Value} (h : Box4 lo w p x0 x1 x2 x3) (hb : Below w.heap.size w w') : Box4 lo w' p x0 x1 x2 x3 :=
  ⟨bat hb h.c0, bat hb h.c1, bat hb h.c2, bat hb h.c3, fun o => (hb.frozen (p := ⟨p, o, none⟩) h.lt).trans (h.fr o), h.lo⟩
theorem cell_same {w : World} {p o : Nat} {x : Value} (h : w.cell? ⟨p, o, none⟩ = some x) (u : Value) : (w.setCell ⟨p, o, none⟩ u).cell? ⟨p, o, none⟩ = some u := World.cell?_setCell_same _ _ _ h
theorem cell_other {w : World} {p o q i : Nat} (h : p ≠ q ∨ o ≠ i) (u : Value) : (w.setCell ⟨p, o, none⟩ u).cell? ⟨q, i, none⟩ = w.cell? ⟨q, i, none⟩ :=
  World.cell?_setCell_other _ _ _ _ (by intro e; simp only [Addr.mk.injEq] at e; rcases h with h | h <;> exact h (by simp [e]))
theorem Box4.put {lo p : Nat} {w : World} {x0 x1 x2 x3 : Value} (h : Box4 lo w p x0 x1 x2 x3) (u0 u1 u2 u3 : Value) : Box4 lo ((((w.setCell ⟨p, 0, none⟩ u0).setCell ⟨p, 1, none⟩ u1).setCell ⟨p, 2, none⟩ u2).setCell ⟨p, 3, none⟩ u3) p u0 u1 u2 u3 := by
  refine ⟨?_, ?_, ?_, ?_, fun o => ?_, h.lo⟩
  · rw [cell_other (.inr (by decide)), cell_other (.inr (by decide)), cell_other (.inr (by decide))]; exact cell_same h.c0 u0
  · rw [cell_other (.inr (by decide)), cell_other (.inr (by decide))]; exact cell_same ((cell_other (.inr (by decide)) u0).trans h.c1) u1
  · rw [cell_other (.inr (by decide))]; exact cell_same (((cell_other (.inr (by decide)) u1).trans (cell_other (.inr (by decide)) u0)).trans h.c2) u2
  · exact cell_same ((((cell_other (.inr (by decide)) u2).trans (cell_other (.inr (by decide)) u1)).trans (cell_other (.inr (by decide)) u0)).trans h.c3) u3
  · rw [World.frozen?_setCell, World.frozen?_setCell, World.frozen?_setCell, World.frozen?_setCell]; exact h.fr o
theorem Box4.old {lo p q : Nat} {w : World} {x0 x1 x2 x3 : Value} (h : Box4 lo w q x0 x1 x2 x3) (ne : q ≠ p) (u0 u1 u2 u3 : Value) : Box4 lo ((((w.setCell ⟨p, 0, none⟩ u0).setCell ⟨p, 1, none⟩ u1).setCell ⟨p, 2, none⟩ u2).setCell ⟨p, 3, none⟩ u3) q x0 x1 x2 x3 := by
  have e : ∀ o, ((((w.setCell ⟨p, 0, none⟩ u0).setCell ⟨p, 1, none⟩ u1).setCell ⟨p, 2, none⟩ u2).setCell ⟨p, 3, none⟩ u3).cell? ⟨q, o, none⟩ = w.cell? ⟨q, o, none⟩ := fun o => by
    rw [cell_other (.inl ne.symm), cell_other (.inl ne.symm), cell_other (.inl ne.symm), cell_other (.inl ne.symm)]
  refine ⟨(e 0).trans h.c0, (e 1).trans h.c1, (e 2).trans h.c2, (e 3).trans h.c3, fun o => ?_, h.lo⟩
  rw [World.frozen?_setCell, World.frozen?_setCell, World.frozen?_setCell, World.frozen?_setCell]; exact h.fr o
theorem Box4.chain {b : Nat} {W w : World} {p : Nat} {x0 x1 x2 x3 : Value} (N : Below b W w) (h : Box4 b w p x0 x1 x2 x3) (u0 u1 u2 u3 : Value) : Below b W ((((w.setCell ⟨p, 0, none⟩ u0).setCell ⟨p, 1, none⟩ u1).setCell ⟨p, 2, none⟩ u2).setCell ⟨p, 3, none⟩ u3) :=
  (((N.setCell (p := ⟨p, 0, none⟩) h.lo u0).setCell (p := ⟨p, 1, none⟩) h.lo u1).setCell (p := ⟨p, 2, none⟩) h.lo u2).setCell (p := ⟨p, 3, none⟩) h.lo u3
theorem Own.put4 {base p : Nat} {w : World} {a : Option Addr} {c : Nat} {xs : List Int} (h : Own base w a c xs) (r : some p ≠ rowOf a xs) (u0 u1 u2 u3 : Value) : Own base ((((w.setCell ⟨p, 0, none⟩ u0).setCell ⟨p, 1, none⟩ u1).setCell ⟨p, 2, none⟩ u2).setCell ⟨p, 3, none⟩ u3) a c xs :=
  (((h.put1 r 0 u0).put1 r 1 u1).put1 r 2 u2).put1 r 3 u3
end Go.Proofs.Ytnefdfgonolafaa
