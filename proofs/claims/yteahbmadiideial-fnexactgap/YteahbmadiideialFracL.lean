/- The laws' helpers on fractions: their sizes, their copies, whether two are equal. -/
import Derived.Test.YteahbmadiideialNums
namespace Go.Proofs.Yteahbmadiideial
open Go.RowKit

theorem fvar_new (w : World) (g g' : Bool) (a a' : Option Addr) (n n' c c' : Nat) (T : TypeId) :
    (w.alloc (.cells #[.bool g, .slice a n c, .bool g', .slice a' n' c'] T)).cell? ⟨w.heap.size, 0, none⟩ = some (.bool g) ∧ (w.alloc (.cells #[.bool g, .slice a n c, .bool g', .slice a' n' c'] T)).cell? ⟨w.heap.size, 1, none⟩ = some (.slice a n c) ∧
    (w.alloc (.cells #[.bool g, .slice a n c, .bool g', .slice a' n' c'] T)).cell? ⟨w.heap.size, 2, none⟩ = some (.bool g') ∧ (w.alloc (.cells #[.bool g, .slice a n c, .bool g', .slice a' n' c'] T)).cell? ⟨w.heap.size, 3, none⟩ = some (.slice a' n' c') :=
  ⟨cell_new w _ T 0 rfl, cell_new w _ T 1 rfl, cell_new w _ T 2 rfl, cell_new w _ T 3 rfl⟩

set_option maxHeartbeats 400000 in
theorem eqF (g h : Bool) (a a' b b' : Option Addr) (c c' d d' : Nat) (xs ys : List Int) (w : World) (h1 : Sees w a c xs) (h2 : Sees w a' c' xs) (k1 : Sees w b d ys) (k2 : Sees w b' d' ys) :
    Calls Try.prog 14 #[.agg #[.bool g, .slice a xs.length c, .bool h, .slice b ys.length d], .agg #[.bool g, .slice a' xs.length c', .bool h, .slice b' ys.length d']] w fun e w' => e = .returned (.bool true) ∧ Below w.heap.size w w' := by
  go_enter Try.func14, Try.ntmps14
  go_wp2_with fail
  refine (eqN g a a' c c' xs _ (h1.below (below2 _ _ _)) (h2.below (below2 _ _ _))).mono ?_
  rintro e w1 ⟨rfl, hb⟩
  obtain ⟨q1, _⟩ := at_block hb (b := w.heap.size) (by simp; omega)
  obtain ⟨q2, _⟩ := at_block hb (b := w.heap.size + 1) (by simp)
  have B := (below2 w (.cells #[.bool g, .slice a xs.length c, .bool h, .slice b ys.length d] 34) (.cells #[.bool g, .slice a' xs.length c', .bool h, .slice b' ys.length d'] 34)).trans (hb.mono (by simp; omega))
  clear hb
  go_wp2_with fail
  refine (eqN h b b' d d' ys _ (k1.below B) (k2.below B)).mono ?_
  rintro e w2 ⟨rfl, hb⟩
  have B2 := B.trans (hb.mono B.size)
  go_wp2
  go_ret
  exact ⟨rfl, B2⟩

end Go.Proofs.Yteahbmadiideial
