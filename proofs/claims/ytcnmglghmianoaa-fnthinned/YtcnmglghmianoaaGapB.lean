/- Three points that were handed in, in their boxes, and the answer's box. -/
import Derived.Test.YtcnmglghmianoaaPtH
import Derived.Test.YtcnmglghmianoaaPtG
import Derived.Test.YtcnmglghmianoaaBase
namespace Go.Proofs.Ytcnmglghmianoaa
open Go.RowKit

theorem gboxes (x1 y1 x2 y2 x3 y3 : Int) (w : World) :
    Box2 w.heap.size ((((w.alloc (.cells #[.int .i64 x1, .int .i64 y1] 31)).alloc (.cells #[.int .i64 x2, .int .i64 y2] 31)).alloc (.cells #[.int .i64 x3, .int .i64 y3] 31)).alloc (.cells #[.bool false, .slice none 0 0, .bool false, .slice none 0 0] 37)) (w.heap.size) (.int .i64 x1) (.int .i64 y1) ∧ Box2 w.heap.size ((((w.alloc (.cells #[.int .i64 x1, .int .i64 y1] 31)).alloc (.cells #[.int .i64 x2, .int .i64 y2] 31)).alloc (.cells #[.int .i64 x3, .int .i64 y3] 31)).alloc (.cells #[.bool false, .slice none 0 0, .bool false, .slice none 0 0] 37)) (w.heap.size + 1) (.int .i64 x2) (.int .i64 y2) ∧ Box2 w.heap.size ((((w.alloc (.cells #[.int .i64 x1, .int .i64 y1] 31)).alloc (.cells #[.int .i64 x2, .int .i64 y2] 31)).alloc (.cells #[.int .i64 x3, .int .i64 y3] 31)).alloc (.cells #[.bool false, .slice none 0 0, .bool false, .slice none 0 0] 37)) (w.heap.size + 1 + 1) (.int .i64 x3) (.int .i64 y3) ∧ Box4 w.heap.size ((((w.alloc (.cells #[.int .i64 x1, .int .i64 y1] 31)).alloc (.cells #[.int .i64 x2, .int .i64 y2] 31)).alloc (.cells #[.int .i64 x3, .int .i64 y3] 31)).alloc (.cells #[.bool false, .slice none 0 0, .bool false, .slice none 0 0] 37)) (w.heap.size + 1 + 1 + 1) (.bool false) (.slice none 0 0) (.bool false) (.slice none 0 0) ∧ Below w.heap.size w ((((w.alloc (.cells #[.int .i64 x1, .int .i64 y1] 31)).alloc (.cells #[.int .i64 x2, .int .i64 y2] 31)).alloc (.cells #[.int .i64 x3, .int .i64 y3] 31)).alloc (.cells #[.bool false, .slice none 0 0, .bool false, .slice none 0 0] 37)) := by
  refine ⟨?_, ?_, ?_, ?_, below4 _ _ _ _ _⟩
  · exact (((Box2.new w (Nat.le_refl _) (.int .i64 x1) (.int .i64 y1) 31).below (below1 _ _)).below (below1 _ _)).below (below1 _ _)
  · have this : Box2 w.heap.size ((((w.alloc (.cells #[.int .i64 x1, .int .i64 y1] 31)).alloc (.cells #[.int .i64 x2, .int .i64 y2] 31)).alloc (.cells #[.int .i64 x3, .int .i64 y3] 31)).alloc (.cells #[.bool false, .slice none 0 0, .bool false, .slice none 0 0] 37)) (w.alloc (.cells #[.int .i64 x1, .int .i64 y1] 31)).heap.size (.int .i64 x2) (.int .i64 y2) := (((Box2.new (w.alloc (.cells #[.int .i64 x1, .int .i64 y1] 31)) (lo := w.heap.size) (by simp) (.int .i64 x2) (.int .i64 y2) 31).below (below1 _ _)).below (below1 _ _))
    rwa [World.size_alloc] at this
  · have this : Box2 w.heap.size ((((w.alloc (.cells #[.int .i64 x1, .int .i64 y1] 31)).alloc (.cells #[.int .i64 x2, .int .i64 y2] 31)).alloc (.cells #[.int .i64 x3, .int .i64 y3] 31)).alloc (.cells #[.bool false, .slice none 0 0, .bool false, .slice none 0 0] 37)) ((w.alloc (.cells #[.int .i64 x1, .int .i64 y1] 31)).alloc (.cells #[.int .i64 x2, .int .i64 y2] 31)).heap.size (.int .i64 x3) (.int .i64 y3) := ((Box2.new ((w.alloc (.cells #[.int .i64 x1, .int .i64 y1] 31)).alloc (.cells #[.int .i64 x2, .int .i64 y2] 31)) (lo := w.heap.size) (by simp; omega) (.int .i64 x3) (.int .i64 y3) 31).below (below1 _ _))
    rwa [World.size_alloc, World.size_alloc] at this
  · have := (Box4.new (((w.alloc (.cells #[.int .i64 x1, .int .i64 y1] 31)).alloc (.cells #[.int .i64 x2, .int .i64 y2] 31)).alloc (.cells #[.int .i64 x3, .int .i64 y3] 31)) (lo := w.heap.size) (by simp; omega) (.bool false) (.slice none 0 0) (.bool false) (.slice none 0 0) 37)
    rwa [World.size_alloc, World.size_alloc, World.size_alloc] at this
theorem sqq_le {x y : Int} (hx : Dif x) (hy : Dif y) : sqq x y ≤ 800000000000000 := by
  have h1 := hx.mul hx
  have h2 := hy.mul hy
  unfold sqq
  omega
theorem r_bound (ux uy vx vy : Int) (h1 : Dif ux) (h2 : Dif uy) (h3 : Dif vx) (h4 : Dif vy) (h5 : Dif (vx - ux)) (h6 : Dif (vy - uy)) : rN ux uy vx vy < 4294967296 ^ 4 ∧ rD ux uy vx vy < 4294967296 ^ 2 := by
  have e4 : (4294967296 : Int) ^ 4 = 340282366920938463463374607431768211456 := by decide
  have e2 : (4294967296 : Int) ^ 2 = 18446744073709551616 := by decide
  have s1 := sqq_le h3 h4
  have s2 := sqq_le h5 h6
  have s3 := sqq_le h1 h2
  have q1 := h1.mul h4
  have q2 := h2.mul h3
  obtain ⟨cr, hcr⟩ : ∃ z, ux * vy - uy * vx = z := ⟨_, rfl⟩
  have b1 : -800000000000000 ≤ cr ∧ cr ≤ 800000000000000 := by omega
  have q3 := Int.mul_nonneg (show 0 ≤ 800000000000000 - cr by omega) (show 0 ≤ 800000000000000 + cr by omega)
  have q4 : (800000000000000 - cr) * (800000000000000 + cr) = 640000000000000000000000000000 - cr * cr := by grind
  unfold rN rD
  rw [hcr, e4, e2]
  constructor
  · split
    · omega
    · split
      · omega
      · omega
  · split
    · omega
    · split
      · omega
      · omega
end Go.Proofs.Ytcnmglghmianoaa
