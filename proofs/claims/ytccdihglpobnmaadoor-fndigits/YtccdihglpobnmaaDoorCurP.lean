/- A point that is drawn. -/
import Derived.Test.YtccdihglpobnmaaDoorCurN
namespace Go.Proofs.YtccdihglpobnmaaDoor
open Go.RowKit

theorem Box2.put0 {lo p : Nat} {w : World} {x0 x1 : Value} (h : Box2 lo w p x0 x1) (u : Value) : Box2 lo (w.setCell ⟨p, 0, none⟩ u) p u x1 :=
  ⟨cell_same h.c0 u, (cell_other (.inr (by decide)) u).trans h.c1, fun o => (World.frozen?_setCell ..).trans (h.fr o), h.lo⟩
theorem Box2.put1 {lo p : Nat} {w : World} {x0 x1 : Value} (h : Box2 lo w p x0 x1) (u : Value) : Box2 lo (w.setCell ⟨p, 1, none⟩ u) p x0 u :=
  ⟨(cell_other (.inr (by decide)) u).trans h.c0, cell_same h.c1 u, fun o => (World.frozen?_setCell ..).trans (h.fr o), h.lo⟩
theorem Box2.far {lo p q : Nat} {w : World} {x0 x1 : Value} (h : Box2 lo w q x0 x1) (ne : q ≠ p) (o : Nat) (u : Value) : Box2 lo (w.setCell ⟨p, o, none⟩ u) q x0 x1 :=
  ⟨(cell_other (.inl (Ne.symm ne)) u).trans h.c0, (cell_other (.inl (Ne.symm ne)) u).trans h.c1, fun i => (World.frozen?_setCell ..).trans (h.fr i), h.lo⟩

end Go.Proofs.YtccdihglpobnmaaDoor
