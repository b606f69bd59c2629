/- Three points that were handed in, in their boxes, and the answer's box. -/
import Derived.Test.YteahbmadiideiabPtH
import Derived.Test.YteahbmadiideiabGapM
import Derived.Test.YteahbmadiideiabTree2
import Derived.Test.YteahbmadiideiabKeep
namespace Go.Proofs.Yteahbmadiideiab
open Go.RowKit

theorem gboxes (x1 y1 x2 y2 x3 y3 : Int) (w : World) :
    Box2 w.heap.size ((((w.alloc (.cells #[.int .i64 x1, .int .i64 y1] 25)).alloc (.cells #[.int .i64 x2, .int .i64 y2] 25)).alloc (.cells #[.int .i64 x3, .int .i64 y3] 25)).alloc (.cells #[.bool false, .slice none 0 0, .bool false, .slice none 0 0] 32)) (w.heap.size) (.int .i64 x1) (.int .i64 y1) ∧ Box2 w.heap.size ((((w.alloc (.cells #[.int .i64 x1, .int .i64 y1] 25)).alloc (.cells #[.int .i64 x2, .int .i64 y2] 25)).alloc (.cells #[.int .i64 x3, .int .i64 y3] 25)).alloc (.cells #[.bool false, .slice none 0 0, .bool false, .slice none 0 0] 32)) (w.heap.size + 1) (.int .i64 x2) (.int .i64 y2) ∧ Box2 w.heap.size ((((w.alloc (.cells #[.int .i64 x1, .int .i64 y1] 25)).alloc (.cells #[.int .i64 x2, .int .i64 y2] 25)).alloc (.cells #[.int .i64 x3, .int .i64 y3] 25)).alloc (.cells #[.bool false, .slice none 0 0, .bool false, .slice none 0 0] 32)) (w.heap.size + 1 + 1) (.int .i64 x3) (.int .i64 y3) ∧ Box4 w.heap.size ((((w.alloc (.cells #[.int .i64 x1, .int .i64 y1] 25)).alloc (.cells #[.int .i64 x2, .int .i64 y2] 25)).alloc (.cells #[.int .i64 x3, .int .i64 y3] 25)).alloc (.cells #[.bool false, .slice none 0 0, .bool false, .slice none 0 0] 32)) (w.heap.size + 1 + 1 + 1) (.bool false) (.slice none 0 0) (.bool false) (.slice none 0 0) ∧ Below w.heap.size w ((((w.alloc (.cells #[.int .i64 x1, .int .i64 y1] 25)).alloc (.cells #[.int .i64 x2, .int .i64 y2] 25)).alloc (.cells #[.int .i64 x3, .int .i64 y3] 25)).alloc (.cells #[.bool false, .slice none 0 0, .bool false, .slice none 0 0] 32)) := by
  refine ⟨?_, ?_, ?_, ?_, below4 _ _ _ _ _⟩
  · exact (((Box2.new w (Nat.le_refl _) (.int .i64 x1) (.int .i64 y1) 25).below (below1 _ _)).below (below1 _ _)).below (below1 _ _)
  · have this : Box2 w.heap.size ((((w.alloc (.cells #[.int .i64 x1, .int .i64 y1] 25)).alloc (.cells #[.int .i64 x2, .int .i64 y2] 25)).alloc (.cells #[.int .i64 x3, .int .i64 y3] 25)).alloc (.cells #[.bool false, .slice none 0 0, .bool false, .slice none 0 0] 32)) (w.alloc (.cells #[.int .i64 x1, .int .i64 y1] 25)).heap.size (.int .i64 x2) (.int .i64 y2) := (((Box2.new (w.alloc (.cells #[.int .i64 x1, .int .i64 y1] 25)) (lo := w.heap.size) (by simp) (.int .i64 x2) (.int .i64 y2) 25).below (below1 _ _)).below (below1 _ _))
    rwa [World.size_alloc] at this
  · have this : Box2 w.heap.size ((((w.alloc (.cells #[.int .i64 x1, .int .i64 y1] 25)).alloc (.cells #[.int .i64 x2, .int .i64 y2] 25)).alloc (.cells #[.int .i64 x3, .int .i64 y3] 25)).alloc (.cells #[.bool false, .slice none 0 0, .bool false, .slice none 0 0] 32)) ((w.alloc (.cells #[.int .i64 x1, .int .i64 y1] 25)).alloc (.cells #[.int .i64 x2, .int .i64 y2] 25)).heap.size (.int .i64 x3) (.int .i64 y3) := ((Box2.new ((w.alloc (.cells #[.int .i64 x1, .int .i64 y1] 25)).alloc (.cells #[.int .i64 x2, .int .i64 y2] 25)) (lo := w.heap.size) (by simp; omega) (.int .i64 x3) (.int .i64 y3) 25).below (below1 _ _))
    rwa [World.size_alloc, World.size_alloc] at this
  · have := (Box4.new (((w.alloc (.cells #[.int .i64 x1, .int .i64 y1] 25)).alloc (.cells #[.int .i64 x2, .int .i64 y2] 25)).alloc (.cells #[.int .i64 x3, .int .i64 y3] 25)) (lo := w.heap.size) (by simp; omega) (.bool false) (.slice none 0 0) (.bool false) (.slice none 0 0) 32)
    rwa [World.size_alloc, World.size_alloc, World.size_alloc] at this
end Go.Proofs.Yteahbmadiideiab
