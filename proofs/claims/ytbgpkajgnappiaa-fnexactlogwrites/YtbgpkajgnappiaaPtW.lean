import Derived.Test.YtbgpkajgnappiaaBase
import Derived.Test.YtbgpkajgnappiaaPtG
import Derived.Test.YtbgpkajgnappiaaProg
import Derived.Deep.RegionHeld3
/- Points: which are right, what they are taken as; the ways between them. -/
namespace Go.Proofs.Ytbgpkajgnappiaa
open Go.RowKit

/-- Right, by both coordinates. -/
def ptOk (x y : Int) : Bool := inB x (-10000000) 10000000 && inB y (-10000000) 10000000
/-- What a coordinate is taken as. -/
def tX (x y : Int) : Int := if ptOk x y then x else 0
def tY (x y : Int) : Int := if ptOk x y then y else 0
/-- Within the limit. -/
def Crd (n : Int) : Prop := -10000000 ≤ n ∧ n ≤ 10000000
theorem inB_true {x lo hi : Int} : inB x lo hi = true ↔ lo ≤ x ∧ x ≤ hi := by simp [inB]
theorem tX_crd (x y : Int) : Crd (tX x y) := by
  unfold tX Crd
  by_cases h : ptOk x y = true
  · rw [if_pos h]; unfold ptOk at h; rw [Bool.and_eq_true, inB_true, inB_true] at h; omega
  · rw [if_neg h]; omega
theorem tY_crd (x y : Int) : Crd (tY x y) := by
  unfold tY Crd
  by_cases h : ptOk x y = true
  · rw [if_pos h]; unfold ptOk at h; rw [Bool.and_eq_true, inB_true, inB_true] at h; omega
  · rw [if_neg h]; omega

theorem l1In_any (n lo hi : Int) (w : World) :
    Calls Try.prog 24 #[.int .i64 n, .int .i64 lo, .int .i64 hi] w fun e w' => e = .returned (.bool (inB n lo hi)) ∧ w' = w := by
  have H : Hid (inB n lo hi = (decide (lo ≤ n) && decide (n ≤ hi))) := (rfl : inB n lo hi = _)
  by_cases h1 : lo ≤ n <;> by_cases h2 : n ≤ hi
  all_goals
    go_enter Try.func24, Try.ntmps24
    go_wp2
    go_ret
    exact ⟨by rw [H.out]; simp [h1, h2], rfl⟩

/-- Between two coordinates. -/
def Dif (n : Int) : Prop := -20000000 ≤ n ∧ n ≤ 20000000
theorem Crd.dif {a b : Int} (h : Crd a) (k : Crd b) : Dif (a - b) := by unfold Crd at h k; unfold Dif; omega
theorem Dif.mul {a b : Int} (h : Dif a) (k : Dif b) : -400000000000000 ≤ a * b ∧ a * b ≤ 400000000000000 := by
  unfold Dif at h k
  have h1 := Int.mul_nonneg (show 0 ≤ 20000000 - a by omega) (show 0 ≤ 20000000 - b by omega)
  have h2 := Int.mul_nonneg (show 0 ≤ 20000000 + a by omega) (show 0 ≤ 20000000 + b by omega)
  have h3 := Int.mul_nonneg (show 0 ≤ 20000000 - a by omega) (show 0 ≤ 20000000 + b by omega)
  have h4 := Int.mul_nonneg (show 0 ≤ 20000000 + a by omega) (show 0 ≤ 20000000 - b by omega)
  grind

theorem sgn1_neg {n : Int} (h : n < 0) : sgn1 n = -1 := by unfold sgn1; rw [if_neg (by omega), if_pos h]
theorem sgn1_pos {n : Int} (h : 0 < n) : sgn1 n = 1 := by unfold sgn1; rw [if_pos h]
theorem sgn1_cases (n : Int) : sgn1 n = -1 ∨ sgn1 n = 0 ∨ sgn1 n = 1 := by
  rcases Int.lt_trichotomy n 0 with h | h | h
  · exact .inl (sgn1_neg h)
  · subst h; exact .inr (.inl rfl)
  · exact .inr (.inr (sgn1_pos h))
theorem ret_bool {a b : Bool} (h : a = b) : Ending.returned (.bool a) = .returned (.bool b) := by rw [h]

end Go.Proofs.Ytbgpkajgnappiaa

/- Between two, and ranges that meet. -/
namespace Go.Proofs.Ytbgpkajgnappiaa
open Go.RowKit

end Go.Proofs.Ytbgpkajgnappiaa

/- Boxes of points in memory: what lies in them stays there. -/
namespace Go.Proofs.Ytbgpkajgnappiaa
open Go.RowKit

theorem ptbox1 (w : World) (x1 y1 : Int) (t : TypeId) : (w.alloc (.cells #[.int .i64 x1, .int .i64 y1] t)).cell? ⟨w.heap.size, 0, none⟩ = some (.int .i64 x1) ∧ (w.alloc (.cells #[.int .i64 x1, .int .i64 y1] t)).cell? ⟨w.heap.size, 1, none⟩ = some (.int .i64 y1) := by
  refine ⟨?_, ?_⟩ <;> simp [go_sem]
theorem ptkeep1 {W w' : World} {b : Nat} {x1 y1 : Int} (k : W.cell? ⟨b, 0, none⟩ = some (.int .i64 x1) ∧ W.cell? ⟨b, 1, none⟩ = some (.int .i64 y1)) (B : Below W.heap.size W w') : w'.cell? ⟨b, 0, none⟩ = some (.int .i64 x1) ∧ w'.cell? ⟨b, 1, none⟩ = some (.int .i64 y1) :=
  ⟨bat B k.1, bat B k.2⟩
theorem ptbelow1 (w : World) (x1 y1 : Int) (t : TypeId) : Below w.heap.size w (w.alloc (.cells #[.int .i64 x1, .int .i64 y1] t)) := below1 _ _
theorem ptbox2 (w : World) (x1 y1 x2 y2 : Int) (t : TypeId) : ((w.alloc (.cells #[.int .i64 x1, .int .i64 y1] t)).alloc (.cells #[.int .i64 x2, .int .i64 y2] t)).cell? ⟨w.heap.size, 0, none⟩ = some (.int .i64 x1) ∧ ((w.alloc (.cells #[.int .i64 x1, .int .i64 y1] t)).alloc (.cells #[.int .i64 x2, .int .i64 y2] t)).cell? ⟨w.heap.size, 1, none⟩ = some (.int .i64 y1) ∧ ((w.alloc (.cells #[.int .i64 x1, .int .i64 y1] t)).alloc (.cells #[.int .i64 x2, .int .i64 y2] t)).cell? ⟨w.heap.size + 1, 0, none⟩ = some (.int .i64 x2) ∧ ((w.alloc (.cells #[.int .i64 x1, .int .i64 y1] t)).alloc (.cells #[.int .i64 x2, .int .i64 y2] t)).cell? ⟨w.heap.size + 1, 1, none⟩ = some (.int .i64 y2) := by
  refine ⟨?_, ?_, ?_, ?_⟩ <;> simp [go_sem]
theorem ptkeep2 {W w' : World} {b : Nat} {x1 y1 x2 y2 : Int} (k : W.cell? ⟨b, 0, none⟩ = some (.int .i64 x1) ∧ W.cell? ⟨b, 1, none⟩ = some (.int .i64 y1) ∧ W.cell? ⟨b + 1, 0, none⟩ = some (.int .i64 x2) ∧ W.cell? ⟨b + 1, 1, none⟩ = some (.int .i64 y2)) (B : Below W.heap.size W w') : w'.cell? ⟨b, 0, none⟩ = some (.int .i64 x1) ∧ w'.cell? ⟨b, 1, none⟩ = some (.int .i64 y1) ∧ w'.cell? ⟨b + 1, 0, none⟩ = some (.int .i64 x2) ∧ w'.cell? ⟨b + 1, 1, none⟩ = some (.int .i64 y2) :=
  ⟨bat B k.1, bat B k.2.1, bat B k.2.2.1, bat B k.2.2.2⟩
theorem ptbelow2 (w : World) (x1 y1 x2 y2 : Int) (t : TypeId) : Below w.heap.size w ((w.alloc (.cells #[.int .i64 x1, .int .i64 y1] t)).alloc (.cells #[.int .i64 x2, .int .i64 y2] t)) := below2 _ _ _
theorem ptbox3 (w : World) (x1 y1 x2 y2 x3 y3 : Int) (t : TypeId) : (((w.alloc (.cells #[.int .i64 x1, .int .i64 y1] t)).alloc (.cells #[.int .i64 x2, .int .i64 y2] t)).alloc (.cells #[.int .i64 x3, .int .i64 y3] t)).cell? ⟨w.heap.size, 0, none⟩ = some (.int .i64 x1) ∧ (((w.alloc (.cells #[.int .i64 x1, .int .i64 y1] t)).alloc (.cells #[.int .i64 x2, .int .i64 y2] t)).alloc (.cells #[.int .i64 x3, .int .i64 y3] t)).cell? ⟨w.heap.size, 1, none⟩ = some (.int .i64 y1) ∧ (((w.alloc (.cells #[.int .i64 x1, .int .i64 y1] t)).alloc (.cells #[.int .i64 x2, .int .i64 y2] t)).alloc (.cells #[.int .i64 x3, .int .i64 y3] t)).cell? ⟨w.heap.size + 1, 0, none⟩ = some (.int .i64 x2) ∧ (((w.alloc (.cells #[.int .i64 x1, .int .i64 y1] t)).alloc (.cells #[.int .i64 x2, .int .i64 y2] t)).alloc (.cells #[.int .i64 x3, .int .i64 y3] t)).cell? ⟨w.heap.size + 1, 1, none⟩ = some (.int .i64 y2) ∧ (((w.alloc (.cells #[.int .i64 x1, .int .i64 y1] t)).alloc (.cells #[.int .i64 x2, .int .i64 y2] t)).alloc (.cells #[.int .i64 x3, .int .i64 y3] t)).cell? ⟨w.heap.size + 1 + 1, 0, none⟩ = some (.int .i64 x3) ∧ (((w.alloc (.cells #[.int .i64 x1, .int .i64 y1] t)).alloc (.cells #[.int .i64 x2, .int .i64 y2] t)).alloc (.cells #[.int .i64 x3, .int .i64 y3] t)).cell? ⟨w.heap.size + 1 + 1, 1, none⟩ = some (.int .i64 y3) := by
  refine ⟨?_, ?_, ?_, ?_, ?_, ?_⟩ <;> simp [go_sem]
theorem ptkeep3 {W w' : World} {b : Nat} {x1 y1 x2 y2 x3 y3 : Int} (k : W.cell? ⟨b, 0, none⟩ = some (.int .i64 x1) ∧ W.cell? ⟨b, 1, none⟩ = some (.int .i64 y1) ∧ W.cell? ⟨b + 1, 0, none⟩ = some (.int .i64 x2) ∧ W.cell? ⟨b + 1, 1, none⟩ = some (.int .i64 y2) ∧ W.cell? ⟨b + 1 + 1, 0, none⟩ = some (.int .i64 x3) ∧ W.cell? ⟨b + 1 + 1, 1, none⟩ = some (.int .i64 y3)) (B : Below W.heap.size W w') : w'.cell? ⟨b, 0, none⟩ = some (.int .i64 x1) ∧ w'.cell? ⟨b, 1, none⟩ = some (.int .i64 y1) ∧ w'.cell? ⟨b + 1, 0, none⟩ = some (.int .i64 x2) ∧ w'.cell? ⟨b + 1, 1, none⟩ = some (.int .i64 y2) ∧ w'.cell? ⟨b + 1 + 1, 0, none⟩ = some (.int .i64 x3) ∧ w'.cell? ⟨b + 1 + 1, 1, none⟩ = some (.int .i64 y3) :=
  ⟨bat B k.1, bat B k.2.1, bat B k.2.2.1, bat B k.2.2.2.1, bat B k.2.2.2.2.1, bat B k.2.2.2.2.2⟩
theorem ptbelow3 (w : World) (x1 y1 x2 y2 x3 y3 : Int) (t : TypeId) : Below w.heap.size w (((w.alloc (.cells #[.int .i64 x1, .int .i64 y1] t)).alloc (.cells #[.int .i64 x2, .int .i64 y2] t)).alloc (.cells #[.int .i64 x3, .int .i64 y3] t)) := below3 _ _ _ _
theorem ptbox4 (w : World) (x1 y1 x2 y2 x3 y3 x4 y4 : Int) (t : TypeId) : ((((w.alloc (.cells #[.int .i64 x1, .int .i64 y1] t)).alloc (.cells #[.int .i64 x2, .int .i64 y2] t)).alloc (.cells #[.int .i64 x3, .int .i64 y3] t)).alloc (.cells #[.int .i64 x4, .int .i64 y4] t)).cell? ⟨w.heap.size, 0, none⟩ = some (.int .i64 x1) ∧ ((((w.alloc (.cells #[.int .i64 x1, .int .i64 y1] t)).alloc (.cells #[.int .i64 x2, .int .i64 y2] t)).alloc (.cells #[.int .i64 x3, .int .i64 y3] t)).alloc (.cells #[.int .i64 x4, .int .i64 y4] t)).cell? ⟨w.heap.size, 1, none⟩ = some (.int .i64 y1) ∧ ((((w.alloc (.cells #[.int .i64 x1, .int .i64 y1] t)).alloc (.cells #[.int .i64 x2, .int .i64 y2] t)).alloc (.cells #[.int .i64 x3, .int .i64 y3] t)).alloc (.cells #[.int .i64 x4, .int .i64 y4] t)).cell? ⟨w.heap.size + 1, 0, none⟩ = some (.int .i64 x2) ∧ ((((w.alloc (.cells #[.int .i64 x1, .int .i64 y1] t)).alloc (.cells #[.int .i64 x2, .int .i64 y2] t)).alloc (.cells #[.int .i64 x3, .int .i64 y3] t)).alloc (.cells #[.int .i64 x4, .int .i64 y4] t)).cell? ⟨w.heap.size + 1, 1, none⟩ = some (.int .i64 y2) ∧ ((((w.alloc (.cells #[.int .i64 x1, .int .i64 y1] t)).alloc (.cells #[.int .i64 x2, .int .i64 y2] t)).alloc (.cells #[.int .i64 x3, .int .i64 y3] t)).alloc (.cells #[.int .i64 x4, .int .i64 y4] t)).cell? ⟨w.heap.size + 1 + 1, 0, none⟩ = some (.int .i64 x3) ∧ ((((w.alloc (.cells #[.int .i64 x1, .int .i64 y1] t)).alloc (.cells #[.int .i64 x2, .int .i64 y2] t)).alloc (.cells #[.int .i64 x3, .int .i64 y3] t)).alloc (.cells #[.int .i64 x4, .int .i64 y4] t)).cell? ⟨w.heap.size + 1 + 1, 1, none⟩ = some (.int .i64 y3) ∧ ((((w.alloc (.cells #[.int .i64 x1, .int .i64 y1] t)).alloc (.cells #[.int .i64 x2, .int .i64 y2] t)).alloc (.cells #[.int .i64 x3, .int .i64 y3] t)).alloc (.cells #[.int .i64 x4, .int .i64 y4] t)).cell? ⟨w.heap.size + 1 + 1 + 1, 0, none⟩ = some (.int .i64 x4) ∧ ((((w.alloc (.cells #[.int .i64 x1, .int .i64 y1] t)).alloc (.cells #[.int .i64 x2, .int .i64 y2] t)).alloc (.cells #[.int .i64 x3, .int .i64 y3] t)).alloc (.cells #[.int .i64 x4, .int .i64 y4] t)).cell? ⟨w.heap.size + 1 + 1 + 1, 1, none⟩ = some (.int .i64 y4) := by
  refine ⟨?_, ?_, ?_, ?_, ?_, ?_, ?_, ?_⟩ <;> simp [go_sem]
theorem ptkeep4 {W w' : World} {b : Nat} {x1 y1 x2 y2 x3 y3 x4 y4 : Int} (k : W.cell? ⟨b, 0, none⟩ = some (.int .i64 x1) ∧ W.cell? ⟨b, 1, none⟩ = some (.int .i64 y1) ∧ W.cell? ⟨b + 1, 0, none⟩ = some (.int .i64 x2) ∧ W.cell? ⟨b + 1, 1, none⟩ = some (.int .i64 y2) ∧ W.cell? ⟨b + 1 + 1, 0, none⟩ = some (.int .i64 x3) ∧ W.cell? ⟨b + 1 + 1, 1, none⟩ = some (.int .i64 y3) ∧ W.cell? ⟨b + 1 + 1 + 1, 0, none⟩ = some (.int .i64 x4) ∧ W.cell? ⟨b + 1 + 1 + 1, 1, none⟩ = some (.int .i64 y4)) (B : Below W.heap.size W w') : w'.cell? ⟨b, 0, none⟩ = some (.int .i64 x1) ∧ w'.cell? ⟨b, 1, none⟩ = some (.int .i64 y1) ∧ w'.cell? ⟨b + 1, 0, none⟩ = some (.int .i64 x2) ∧ w'.cell? ⟨b + 1, 1, none⟩ = some (.int .i64 y2) ∧ w'.cell? ⟨b + 1 + 1, 0, none⟩ = some (.int .i64 x3) ∧ w'.cell? ⟨b + 1 + 1, 1, none⟩ = some (.int .i64 y3) ∧ w'.cell? ⟨b + 1 + 1 + 1, 0, none⟩ = some (.int .i64 x4) ∧ w'.cell? ⟨b + 1 + 1 + 1, 1, none⟩ = some (.int .i64 y4) :=
  ⟨bat B k.1, bat B k.2.1, bat B k.2.2.1, bat B k.2.2.2.1, bat B k.2.2.2.2.1, bat B k.2.2.2.2.2.1, bat B k.2.2.2.2.2.2.1, bat B k.2.2.2.2.2.2.2⟩
theorem ptbelow4 (w : World) (x1 y1 x2 y2 x3 y3 x4 y4 : Int) (t : TypeId) : Below w.heap.size w ((((w.alloc (.cells #[.int .i64 x1, .int .i64 y1] t)).alloc (.cells #[.int .i64 x2, .int .i64 y2] t)).alloc (.cells #[.int .i64 x3, .int .i64 y3] t)).alloc (.cells #[.int .i64 x4, .int .i64 y4] t)) := below4 _ _ _ _ _
end Go.Proofs.Ytbgpkajgnappiaa

/- Boxes: which are right; their memory. -/
namespace Go.Proofs.Ytbgpkajgnappiaa
open Go.RowKit

/-- Right, by all coordinates. -/
def boxOk (a b c d : Int) : Bool := ptOk a b && (ptOk c d && (decide (a ≤ c) && decide (b ≤ d)))
theorem bcB (w : World) (a b c d : Int) (ta : TypeId) :
    (w.alloc (.cells #[.int .i64 a, .int .i64 b, .int .i64 c, .int .i64 d] ta)).cell? ⟨w.heap.size, 0, none⟩ = some (.int .i64 a) ∧ (w.alloc (.cells #[.int .i64 a, .int .i64 b, .int .i64 c, .int .i64 d] ta)).cell? ⟨w.heap.size, 1, none⟩ = some (.int .i64 b) ∧ (w.alloc (.cells #[.int .i64 a, .int .i64 b, .int .i64 c, .int .i64 d] ta)).cell? ⟨w.heap.size, 2, none⟩ = some (.int .i64 c) ∧ (w.alloc (.cells #[.int .i64 a, .int .i64 b, .int .i64 c, .int .i64 d] ta)).cell? ⟨w.heap.size, 3, none⟩ = some (.int .i64 d) := by
  refine ⟨?_, ?_, ?_, ?_⟩ <;> simp [go_sem]
theorem bkB {W w' : World} {p : Nat} {a b c d : Int} (B : Below W.heap.size W w')
    (k : W.cell? ⟨p, 0, none⟩ = some (.int .i64 a) ∧ W.cell? ⟨p, 1, none⟩ = some (.int .i64 b) ∧ W.cell? ⟨p, 2, none⟩ = some (.int .i64 c) ∧ W.cell? ⟨p, 3, none⟩ = some (.int .i64 d)) :
    w'.cell? ⟨p, 0, none⟩ = some (.int .i64 a) ∧ w'.cell? ⟨p, 1, none⟩ = some (.int .i64 b) ∧ w'.cell? ⟨p, 2, none⟩ = some (.int .i64 c) ∧ w'.cell? ⟨p, 3, none⟩ = some (.int .i64 d) :=
  ⟨bat B k.1, bat B k.2.1, bat B k.2.2.1, bat B k.2.2.2⟩

theorem bcBB (w : World) (a b c d m n r s : Int) (ta tm : TypeId) :
    ((w.alloc (.cells #[.int .i64 a, .int .i64 b, .int .i64 c, .int .i64 d] ta)).alloc (.cells #[.int .i64 m, .int .i64 n, .int .i64 r, .int .i64 s] tm)).cell? ⟨w.heap.size, 0, none⟩ = some (.int .i64 a) ∧ ((w.alloc (.cells #[.int .i64 a, .int .i64 b, .int .i64 c, .int .i64 d] ta)).alloc (.cells #[.int .i64 m, .int .i64 n, .int .i64 r, .int .i64 s] tm)).cell? ⟨w.heap.size, 1, none⟩ = some (.int .i64 b) ∧ ((w.alloc (.cells #[.int .i64 a, .int .i64 b, .int .i64 c, .int .i64 d] ta)).alloc (.cells #[.int .i64 m, .int .i64 n, .int .i64 r, .int .i64 s] tm)).cell? ⟨w.heap.size, 2, none⟩ = some (.int .i64 c) ∧ ((w.alloc (.cells #[.int .i64 a, .int .i64 b, .int .i64 c, .int .i64 d] ta)).alloc (.cells #[.int .i64 m, .int .i64 n, .int .i64 r, .int .i64 s] tm)).cell? ⟨w.heap.size, 3, none⟩ = some (.int .i64 d) ∧ ((w.alloc (.cells #[.int .i64 a, .int .i64 b, .int .i64 c, .int .i64 d] ta)).alloc (.cells #[.int .i64 m, .int .i64 n, .int .i64 r, .int .i64 s] tm)).cell? ⟨w.heap.size + 1, 0, none⟩ = some (.int .i64 m) ∧ ((w.alloc (.cells #[.int .i64 a, .int .i64 b, .int .i64 c, .int .i64 d] ta)).alloc (.cells #[.int .i64 m, .int .i64 n, .int .i64 r, .int .i64 s] tm)).cell? ⟨w.heap.size + 1, 1, none⟩ = some (.int .i64 n) ∧ ((w.alloc (.cells #[.int .i64 a, .int .i64 b, .int .i64 c, .int .i64 d] ta)).alloc (.cells #[.int .i64 m, .int .i64 n, .int .i64 r, .int .i64 s] tm)).cell? ⟨w.heap.size + 1, 2, none⟩ = some (.int .i64 r) ∧ ((w.alloc (.cells #[.int .i64 a, .int .i64 b, .int .i64 c, .int .i64 d] ta)).alloc (.cells #[.int .i64 m, .int .i64 n, .int .i64 r, .int .i64 s] tm)).cell? ⟨w.heap.size + 1, 3, none⟩ = some (.int .i64 s) := by
  refine ⟨?_, ?_, ?_, ?_, ?_, ?_, ?_, ?_⟩ <;> simp [go_sem]
theorem bkBB {W w' : World} {p : Nat} {a b c d m n r s : Int} (B : Below W.heap.size W w')
    (k : W.cell? ⟨p, 0, none⟩ = some (.int .i64 a) ∧ W.cell? ⟨p, 1, none⟩ = some (.int .i64 b) ∧ W.cell? ⟨p, 2, none⟩ = some (.int .i64 c) ∧ W.cell? ⟨p, 3, none⟩ = some (.int .i64 d) ∧ W.cell? ⟨p + 1, 0, none⟩ = some (.int .i64 m) ∧ W.cell? ⟨p + 1, 1, none⟩ = some (.int .i64 n) ∧ W.cell? ⟨p + 1, 2, none⟩ = some (.int .i64 r) ∧ W.cell? ⟨p + 1, 3, none⟩ = some (.int .i64 s)) :
    w'.cell? ⟨p, 0, none⟩ = some (.int .i64 a) ∧ w'.cell? ⟨p, 1, none⟩ = some (.int .i64 b) ∧ w'.cell? ⟨p, 2, none⟩ = some (.int .i64 c) ∧ w'.cell? ⟨p, 3, none⟩ = some (.int .i64 d) ∧ w'.cell? ⟨p + 1, 0, none⟩ = some (.int .i64 m) ∧ w'.cell? ⟨p + 1, 1, none⟩ = some (.int .i64 n) ∧ w'.cell? ⟨p + 1, 2, none⟩ = some (.int .i64 r) ∧ w'.cell? ⟨p + 1, 3, none⟩ = some (.int .i64 s) :=
  ⟨bat B k.1, bat B k.2.1, bat B k.2.2.1, bat B k.2.2.2.1, bat B k.2.2.2.2.1, bat B k.2.2.2.2.2.1, bat B k.2.2.2.2.2.2.1, bat B k.2.2.2.2.2.2.2⟩

theorem bcBP (w : World) (a b c d x y : Int) (ta tx : TypeId) :
    ((w.alloc (.cells #[.int .i64 a, .int .i64 b, .int .i64 c, .int .i64 d] ta)).alloc (.cells #[.int .i64 x, .int .i64 y] tx)).cell? ⟨w.heap.size, 0, none⟩ = some (.int .i64 a) ∧ ((w.alloc (.cells #[.int .i64 a, .int .i64 b, .int .i64 c, .int .i64 d] ta)).alloc (.cells #[.int .i64 x, .int .i64 y] tx)).cell? ⟨w.heap.size, 1, none⟩ = some (.int .i64 b) ∧ ((w.alloc (.cells #[.int .i64 a, .int .i64 b, .int .i64 c, .int .i64 d] ta)).alloc (.cells #[.int .i64 x, .int .i64 y] tx)).cell? ⟨w.heap.size, 2, none⟩ = some (.int .i64 c) ∧ ((w.alloc (.cells #[.int .i64 a, .int .i64 b, .int .i64 c, .int .i64 d] ta)).alloc (.cells #[.int .i64 x, .int .i64 y] tx)).cell? ⟨w.heap.size, 3, none⟩ = some (.int .i64 d) ∧ ((w.alloc (.cells #[.int .i64 a, .int .i64 b, .int .i64 c, .int .i64 d] ta)).alloc (.cells #[.int .i64 x, .int .i64 y] tx)).cell? ⟨w.heap.size + 1, 0, none⟩ = some (.int .i64 x) ∧ ((w.alloc (.cells #[.int .i64 a, .int .i64 b, .int .i64 c, .int .i64 d] ta)).alloc (.cells #[.int .i64 x, .int .i64 y] tx)).cell? ⟨w.heap.size + 1, 1, none⟩ = some (.int .i64 y) := by
  refine ⟨?_, ?_, ?_, ?_, ?_, ?_⟩ <;> simp [go_sem]
theorem bkBP {W w' : World} {p : Nat} {a b c d x y : Int} (B : Below W.heap.size W w')
    (k : W.cell? ⟨p, 0, none⟩ = some (.int .i64 a) ∧ W.cell? ⟨p, 1, none⟩ = some (.int .i64 b) ∧ W.cell? ⟨p, 2, none⟩ = some (.int .i64 c) ∧ W.cell? ⟨p, 3, none⟩ = some (.int .i64 d) ∧ W.cell? ⟨p + 1, 0, none⟩ = some (.int .i64 x) ∧ W.cell? ⟨p + 1, 1, none⟩ = some (.int .i64 y)) :
    w'.cell? ⟨p, 0, none⟩ = some (.int .i64 a) ∧ w'.cell? ⟨p, 1, none⟩ = some (.int .i64 b) ∧ w'.cell? ⟨p, 2, none⟩ = some (.int .i64 c) ∧ w'.cell? ⟨p, 3, none⟩ = some (.int .i64 d) ∧ w'.cell? ⟨p + 1, 0, none⟩ = some (.int .i64 x) ∧ w'.cell? ⟨p + 1, 1, none⟩ = some (.int .i64 y) :=
  ⟨bat B k.1, bat B k.2.1, bat B k.2.2.1, bat B k.2.2.2.1, bat B k.2.2.2.2.1, bat B k.2.2.2.2.2⟩

theorem bcPP (w : World) (a b c d : Int) (ta tc : TypeId) :
    ((w.alloc (.cells #[.int .i64 a, .int .i64 b] ta)).alloc (.cells #[.int .i64 c, .int .i64 d] tc)).cell? ⟨w.heap.size, 0, none⟩ = some (.int .i64 a) ∧ ((w.alloc (.cells #[.int .i64 a, .int .i64 b] ta)).alloc (.cells #[.int .i64 c, .int .i64 d] tc)).cell? ⟨w.heap.size, 1, none⟩ = some (.int .i64 b) ∧ ((w.alloc (.cells #[.int .i64 a, .int .i64 b] ta)).alloc (.cells #[.int .i64 c, .int .i64 d] tc)).cell? ⟨w.heap.size + 1, 0, none⟩ = some (.int .i64 c) ∧ ((w.alloc (.cells #[.int .i64 a, .int .i64 b] ta)).alloc (.cells #[.int .i64 c, .int .i64 d] tc)).cell? ⟨w.heap.size + 1, 1, none⟩ = some (.int .i64 d) := by
  refine ⟨?_, ?_, ?_, ?_⟩ <;> simp [go_sem]
theorem bkPP {W w' : World} {p : Nat} {a b c d : Int} (B : Below W.heap.size W w')
    (k : W.cell? ⟨p, 0, none⟩ = some (.int .i64 a) ∧ W.cell? ⟨p, 1, none⟩ = some (.int .i64 b) ∧ W.cell? ⟨p + 1, 0, none⟩ = some (.int .i64 c) ∧ W.cell? ⟨p + 1, 1, none⟩ = some (.int .i64 d)) :
    w'.cell? ⟨p, 0, none⟩ = some (.int .i64 a) ∧ w'.cell? ⟨p, 1, none⟩ = some (.int .i64 b) ∧ w'.cell? ⟨p + 1, 0, none⟩ = some (.int .i64 c) ∧ w'.cell? ⟨p + 1, 1, none⟩ = some (.int .i64 d) :=
  ⟨bat B k.1, bat B k.2.1, bat B k.2.2.1, bat B k.2.2.2⟩

def eqP (a b c d : Int) : Bool := decide (a = c) && decide (b = d)
theorem eqP_refl (a b : Int) : eqP a b a b = true := by simp [eqP]
def eqX (a b c d m n r s : Int) : Bool := eqP a b m n && eqP c d r s
theorem eqX_refl (a b c d : Int) : eqX a b c d a b c d = true := by simp [eqX, eqP]
theorem ret_int {a b : Int} (h : a = b) : Ending.returned (.int .i64 a) = .returned (.int .i64 b) := by rw [h]
theorem l4Min_any (a b : Int) (w : World) :
    Calls Try.prog 15 #[.int .i64 a, .int .i64 b] w fun e w' => e = .returned (.int .i64 (min a b)) ∧ w' = w := by
  go_enter Try.func15, Try.ntmps15
  go_wp2
  all_goals
    go_ret
    exact ⟨ret_int (by omega), rfl⟩

theorem Box4.putLo {lo p : Nat} {w : World} {x0 x1 x2 x3 : Value} (h : Box4 lo w p x0 x1 x2 x3) (u0 u1 : Value) : Box4 lo ((w.setCell ⟨p, 0, none⟩ u0).setCell ⟨p, 1, none⟩ u1) p u0 u1 x2 x3 :=
  ⟨(put_new2 h.c0 h.c1 u0 u1).1, (put_new2 h.c0 h.c1 u0 u1).2, (cell_other (.inr (by decide)) u1).trans ((cell_other (.inr (by decide)) u0).trans h.c2), (cell_other (.inr (by decide)) u1).trans ((cell_other (.inr (by decide)) u0).trans h.c3), fun o => (put_frozen2 p _ u0 u1).trans (h.fr o), h.lo⟩
theorem Box4.putHi {lo p : Nat} {w : World} {x0 x1 x2 x3 : Value} (h : Box4 lo w p x0 x1 x2 x3) (u0 u1 : Value) : Box4 lo ((w.setCell ⟨p, 2, none⟩ u0).setCell ⟨p, 3, none⟩ u1) p x0 x1 u0 u1 :=
  ⟨(cell_other (.inr (by decide)) u1).trans ((cell_other (.inr (by decide)) u0).trans h.c0), (cell_other (.inr (by decide)) u1).trans ((cell_other (.inr (by decide)) u0).trans h.c1), (cell_other (.inr (by decide)) u1).trans (cell_same h.c2 u0), cell_same ((cell_other (.inr (by decide)) u0).trans h.c3) u1, fun o => ((World.frozen?_setCell ..).trans (World.frozen?_setCell ..)).trans (h.fr o), h.lo⟩
theorem Box4.oldAny {lo p q : Nat} {w : World} {x0 x1 x2 x3 : Value} (h : Box4 lo w q x0 x1 x2 x3) (ne : q ≠ p) (i : Nat) (u : Value) : Box4 lo (w.setCell ⟨p, i, none⟩ u) q x0 x1 x2 x3 :=
  ⟨(cell_other (.inl (Ne.symm ne)) u).trans h.c0, (cell_other (.inl (Ne.symm ne)) u).trans h.c1, (cell_other (.inl (Ne.symm ne)) u).trans h.c2, (cell_other (.inl (Ne.symm ne)) u).trans h.c3, fun o => (World.frozen?_setCell ..).trans (h.fr o), h.lo⟩

end Go.Proofs.Ytbgpkajgnappiaa

/- Lists of points: in memory, their least box. -/
namespace Go.Proofs.Ytbgpkajgnappiaa
open Go.RowKit

/-- Points that lie in memory, one behind the other. -/
structure SeesP (w : World) (a : Option Addr) (cap : Nat) (ps : List (Int × Int)) : Prop where
  fits : ps.length ≤ cap
  max : cap ≤ maxLen
  cells : ps ≠ [] → ∃ b off, a = some ⟨b, off, none⟩ ∧ ∀ i, i < ps.length → w.cell? ⟨b, off + i * 2, none⟩ = some (.int .i64 (ps[i]?.getD (0, 0)).1) ∧ w.cell? ⟨b, off + i * 2 + 1, none⟩ = some (.int .i64 (ps[i]?.getD (0, 0)).2)
theorem SeesP.below {w w' : World} {a : Option Addr} {cap : Nat} {ps : List (Int × Int)} (h : SeesP w a cap ps) (hb : Below w.heap.size w w') : SeesP w' a cap ps :=
  ⟨h.fits, h.max, fun hn => by
    obtain ⟨b, off, ha, hc⟩ := h.cells hn
    exact ⟨b, off, ha, fun i hi => ⟨bat hb (hc i hi).1, bat hb (hc i hi).2⟩⟩⟩

def okL (ps : List (Int × Int)) : Bool := ps.all fun p => ptOk p.1 p.2
def bxA (ps : List (Int × Int)) (a : Int) : Int := ps.foldl (fun a p => min a p.1) a
def bxB (ps : List (Int × Int)) (a : Int) : Int := ps.foldl (fun a p => min a p.2) a
def bxC (ps : List (Int × Int)) (a : Int) : Int := ps.foldl (fun a p => max a p.1) a
def bxD (ps : List (Int × Int)) (a : Int) : Int := ps.foldl (fun a p => max a p.2) a
/-- The first point. -/
def hd (ps : List (Int × Int)) : Int × Int := ps[0]?.getD (0, 0)
def bOk (ps : List (Int × Int)) : Bool := !ps.isEmpty && okL ps
def bA (ps : List (Int × Int)) : Int := if bOk ps then bxA ps (hd ps).1 else 0
def bB (ps : List (Int × Int)) : Int := if bOk ps then bxB ps (hd ps).2 else 0
def bC (ps : List (Int × Int)) : Int := if bOk ps then bxC ps (hd ps).1 else 0
def bD (ps : List (Int × Int)) : Int := if bOk ps then bxD ps (hd ps).2 else 0

theorem takeS {ps : List (Int × Int)} {j : Nat} (h : j < ps.length) : ps.take (j + 1) = ps.take j ++ [ps[j]?.getD (0, 0)] := by
  rw [List.take_succ_eq_append_getElem h, List.getElem?_eq_getElem h]
  rfl
theorem okL_step {ps : List (Int × Int)} {j : Nat} (h : j < ps.length) (k : okL (ps.take j) = true) : okL (ps.take (j + 1)) = ptOk (ps[j]?.getD (0, 0)).1 (ps[j]?.getD (0, 0)).2 := by
  rw [takeS h]
  unfold okL at *
  rw [List.all_append, k]
  simp
theorem okL_bad {ps : List (Int × Int)} {j : Nat} (h : j < ps.length) (k : ptOk (ps[j]?.getD (0, 0)).1 (ps[j]?.getD (0, 0)).2 = false) : okL ps = false := by
  unfold okL
  rw [List.all_eq_false]
  refine ⟨ps[j], List.getElem_mem h, ?_⟩
  rw [List.getElem?_eq_getElem h] at k
  simpa using k
theorem f_step {ps : List (Int × Int)} {j : Nat} (h : j < ps.length) (a : Int) :
    bxA (ps.take (j + 1)) a = min (bxA (ps.take j) a) (ps[j]?.getD (0, 0)).1 ∧ bxB (ps.take (j + 1)) a = min (bxB (ps.take j) a) (ps[j]?.getD (0, 0)).2 ∧ bxC (ps.take (j + 1)) a = max (bxC (ps.take j) a) (ps[j]?.getD (0, 0)).1 ∧ bxD (ps.take (j + 1)) a = max (bxD (ps.take j) a) (ps[j]?.getD (0, 0)).2 := by
  rw [takeS h]
  unfold bxA bxB bxC bxD
  simp [List.foldl_append]
theorem b_bad {ps : List (Int × Int)} (h : bOk ps = false) : bA ps = 0 ∧ bB ps = 0 ∧ bC ps = 0 ∧ bD ps = 0 := by
  unfold bA bB bC bD
  rw [h]
  exact ⟨rfl, rfl, rfl, rfl⟩
theorem b_good {ps : List (Int × Int)} (h : bOk ps = true) : bA ps = bxA ps (hd ps).1 ∧ bB ps = bxB ps (hd ps).2 ∧ bC ps = bxC ps (hd ps).1 ∧ bD ps = bxD ps (hd ps).2 := by
  unfold bA bB bC bD
  rw [h]
  exact ⟨rfl, rfl, rfl, rfl⟩
end Go.Proofs.Ytbgpkajgnappiaa
