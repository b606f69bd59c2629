/- Four points that are drawn. -/
import Derived.Test.YtbnoddemohhpgaaCurP
import Derived.Test.YtbnoddemohhpgaaHeldQ
import Derived.Test.YtbnoddemohhpgaaPtW
import Derived.Test.YtbnoddemohhpgaaKeep2
import Derived.Deep.DeepCutAuto
namespace Go.Proofs.Ytbnoddemohhpgaa
open Go.RowKit

theorem zboxes (w : World) : Box2 w.heap.size ((((w.alloc (.cells #[.int .i64 0, .int .i64 0] 31)).alloc (.cells #[.int .i64 0, .int .i64 0] 31)).alloc (.cells #[.int .i64 0, .int .i64 0] 31)).alloc (.cells #[.int .i64 0, .int .i64 0] 31)) (w.heap.size) (.int .i64 0) (.int .i64 0) ∧ Box2 w.heap.size ((((w.alloc (.cells #[.int .i64 0, .int .i64 0] 31)).alloc (.cells #[.int .i64 0, .int .i64 0] 31)).alloc (.cells #[.int .i64 0, .int .i64 0] 31)).alloc (.cells #[.int .i64 0, .int .i64 0] 31)) (w.heap.size + 1) (.int .i64 0) (.int .i64 0) ∧ Box2 w.heap.size ((((w.alloc (.cells #[.int .i64 0, .int .i64 0] 31)).alloc (.cells #[.int .i64 0, .int .i64 0] 31)).alloc (.cells #[.int .i64 0, .int .i64 0] 31)).alloc (.cells #[.int .i64 0, .int .i64 0] 31)) (w.heap.size + 1 + 1) (.int .i64 0) (.int .i64 0) ∧ Box2 w.heap.size ((((w.alloc (.cells #[.int .i64 0, .int .i64 0] 31)).alloc (.cells #[.int .i64 0, .int .i64 0] 31)).alloc (.cells #[.int .i64 0, .int .i64 0] 31)).alloc (.cells #[.int .i64 0, .int .i64 0] 31)) (w.heap.size + 1 + 1 + 1) (.int .i64 0) (.int .i64 0) := by
  refine ⟨?_, ?_, ?_, ?_⟩
  · exact (((Box2.new w (Nat.le_refl _) (.int .i64 0) (.int .i64 0) 31).below (below1 _ _)).below (below1 _ _)).below (below1 _ _)
  · have this : Box2 w.heap.size ((((w.alloc (.cells #[.int .i64 0, .int .i64 0] 31)).alloc (.cells #[.int .i64 0, .int .i64 0] 31)).alloc (.cells #[.int .i64 0, .int .i64 0] 31)).alloc (.cells #[.int .i64 0, .int .i64 0] 31)) (w.alloc (.cells #[.int .i64 0, .int .i64 0] 31)).heap.size (.int .i64 0) (.int .i64 0) := ((Box2.new (w.alloc (.cells #[.int .i64 0, .int .i64 0] 31)) (lo := w.heap.size) (by simp) (.int .i64 0) (.int .i64 0) 31).below (below1 _ _)).below (below1 _ _)
    rwa [World.size_alloc] at this
  · have this : Box2 w.heap.size ((((w.alloc (.cells #[.int .i64 0, .int .i64 0] 31)).alloc (.cells #[.int .i64 0, .int .i64 0] 31)).alloc (.cells #[.int .i64 0, .int .i64 0] 31)).alloc (.cells #[.int .i64 0, .int .i64 0] 31)) ((w.alloc (.cells #[.int .i64 0, .int .i64 0] 31)).alloc (.cells #[.int .i64 0, .int .i64 0] 31)).heap.size (.int .i64 0) (.int .i64 0) := (Box2.new ((w.alloc (.cells #[.int .i64 0, .int .i64 0] 31)).alloc (.cells #[.int .i64 0, .int .i64 0] 31)) (lo := w.heap.size) (by simp; omega) (.int .i64 0) (.int .i64 0) 31).below (below1 _ _)
    rwa [World.size_alloc, World.size_alloc] at this
  · have this := Box2.new (((w.alloc (.cells #[.int .i64 0, .int .i64 0] 31)).alloc (.cells #[.int .i64 0, .int .i64 0] 31)).alloc (.cells #[.int .i64 0, .int .i64 0] 31)) (lo := w.heap.size) (by simp; omega) (.int .i64 0) (.int .i64 0) 31
    rwa [World.size_alloc, World.size_alloc, World.size_alloc] at this
theorem Cur.put2 {w : World} {p n cap q : Nat} {a : Option Addr} (h : Cur w p a n cap) (hq : q ≠ p) (hb : ∀ b off, a = some ⟨b, off, none⟩ → 0 < n → b ≠ q) (u0 u1 : Value) : Cur ((w.setCell ⟨q, 0, none⟩ u0).setCell ⟨q, 1, none⟩ u1) p a n cap := (h.put hq hb 0 u0).put hq hb 1 u1
theorem grown_of_belowF {w w' : World} {row : Option Nat} (h : Below w.heap.size w w') : w.grownBy w' row := by
  obtain ⟨h1, h2, h3, h4, h5⟩ := h
  exact ⟨h1, h2, h3, h4, fun i hi _ => h5 i hi⟩
theorem grown_put2 {w w1 : World} {row : Option Nat} (h : w.grownBy w1 row) {q : Nat} (hq : w.heap.size ≤ q) (u0 u1 : Value) : w.grownBy ((w1.setCell ⟨q, 0, none⟩ u0).setCell ⟨q, 1, none⟩ u1) row := grown_new (grown_new h hq 0 u0) hq 1 u1

end Go.Proofs.Ytbnoddemohhpgaa
