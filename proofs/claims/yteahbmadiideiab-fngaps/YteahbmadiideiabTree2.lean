/- A variable of four cells, beside one of two. -/
import Derived.Test.YteahbmadiideiabTree
namespace Go.Proofs.Yteahbmadiideiab
open Go.RowKit

theorem Box4.oldx {lo p q : Nat} {w : World} {x0 x1 x2 x3 : Value} (h : Box4 lo w q x0 x1 x2 x3) (ne : q ≠ p) (u0 u1 : Value) : Box4 lo ((w.setCell ⟨p, 0, none⟩ u0).setCell ⟨p, 1, none⟩ u1) q x0 x1 x2 x3 :=
  ⟨(put_old2 ne u0 u1).trans h.c0, (put_old2 ne u0 u1).trans h.c1, (put_old2 ne u0 u1).trans h.c2, (put_old2 ne u0 u1).trans h.c3, fun o => (put_frozen2 p _ u0 u1).trans (h.fr o), h.lo⟩
theorem Box2.both {lo p : Nat} {w : World} {x0 x1 : Value} (h : Box2 lo w p x0 x1) : w.cell? ⟨p, 0, none⟩ = some x0 ∧ w.cell? ⟨p, 1, none⟩ = some x1 := ⟨h.c0, h.c1⟩
end Go.Proofs.Yteahbmadiideiab
