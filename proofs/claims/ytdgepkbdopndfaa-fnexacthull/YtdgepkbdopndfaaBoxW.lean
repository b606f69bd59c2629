/- Boxes: which are right; their memory. -/
import Derived.Test.YtdgepkbdopndfaaPtX
import Derived.Test.YtdgepkbdopndfaaPtB
import Derived.Test.YtdgepkbdopndfaaTree
namespace Go.Proofs.Ytdgepkbdopndfaa
open Go.RowKit

/-- Right, by all coordinates. -/
def boxOk (a b c d : Int) : Bool := ptOk a b && (ptOk c d && (decide (a ≤ c) && decide (b ≤ d)))
theorem bcB (w : World) (a b c d : Int) (ta : TypeId) :
    (w.alloc (.cells #[.int .i64 a, .int .i64 b, .int .i64 c, .int .i64 d] ta)).cell? ⟨w.heap.size, 0, none⟩ = some (.int .i64 a) ∧ (w.alloc (.cells #[.int .i64 a, .int .i64 b, .int .i64 c, .int .i64 d] ta)).cell? ⟨w.heap.size, 1, none⟩ = some (.int .i64 b) ∧ (w.alloc (.cells #[.int .i64 a, .int .i64 b, .int .i64 c, .int .i64 d] ta)).cell? ⟨w.heap.size, 2, none⟩ = some (.int .i64 c) ∧ (w.alloc (.cells #[.int .i64 a, .int .i64 b, .int .i64 c, .int .i64 d] ta)).cell? ⟨w.heap.size, 3, none⟩ = some (.int .i64 d) := by
  refine ⟨?_, ?_, ?_, ?_⟩ <;> simp [go_sem]
theorem bkB {W w' : World} {p : Nat} {a b c d : Int} (B : Below W.heap.size W w')
    (k : W.cell? ⟨p, 0, none⟩ = some (.int .i64 a) ∧ W.cell? ⟨p, 1, none⟩ = some (.int .i64 b) ∧ W.cell? ⟨p, 2, none⟩ = some (.int .i64 c) ∧ W.cell? ⟨p, 3, none⟩ = some (.int .i64 d)) :
    w'.cell? ⟨p, 0, none⟩ = some (.int .i64 a) ∧ w'.cell? ⟨p, 1, none⟩ = some (.int .i64 b) ∧ w'.cell? ⟨p, 2, none⟩ = some (.int .i64 c) ∧ w'.cell? ⟨p, 3, none⟩ = some (.int .i64 d) :=
  ⟨bat B k.1, bat B k.2.1, bat B k.2.2.1, bat B k.2.2.2⟩

theorem bcBB (w : World) (a b c d m n r s : Int) (ta tm : TypeId) :
    ((w.alloc (.cells #[.int .i64 a, .int .i64 b, .int .i64 c, .int .i64 d] ta)).alloc (.cells #[.int .i64 m, .int .i64 n, .int .i64 r, .int .i64 s] tm)).cell? ⟨w.heap.size, 0, none⟩ = some (.int .i64 a) ∧ ((w.alloc (.cells #[.int .i64 a, .int .i64 b, .int .i64 c, .int .i64 d] ta)).alloc (.cells #[.int .i64 m, .int .i64 n, .int .i64 r, .int .i64 s] tm)).cell? ⟨w.heap.size, 1, none⟩ = some (.int .i64 b) ∧ ((w.alloc (.cells #[.int .i64 a, .int .i64 b, .int .i64 c, .int .i64 d] ta)).alloc (.cells #[.int .i64 m, .int .i64 n, .int .i64 r, .int .i64 s] tm)).cell? ⟨w.heap.size, 2, none⟩ = some (.int .i64 c) ∧ ((w.alloc (.cells #[.int .i64 a, .int .i64 b, .int .i64 c, .int .i64 d] ta)).alloc (.cells #[.int .i64 m, .int .i64 n, .int .i64 r, .int .i64 s] tm)).cell? ⟨w.heap.size, 3, none⟩ = some (.int .i64 d) ∧ ((w.alloc (.cells #[.int .i64 a, .int .i64 b, .int .i64 c, .int .i64 d] ta)).alloc (.cells #[.int .i64 m, .int .i64 n, .int .i64 r, .int .i64 s] tm)).cell? ⟨w.heap.size + 1, 0, none⟩ = some (.int .i64 m) ∧ ((w.alloc (.cells #[.int .i64 a, .int .i64 b, .int .i64 c, .int .i64 d] ta)).alloc (.cells #[.int .i64 m, .int .i64 n, .int .i64 r, .int .i64 s] tm)).cell? ⟨w.heap.size + 1, 1, none⟩ = some (.int .i64 n) ∧ ((w.alloc (.cells #[.int .i64 a, .int .i64 b, .int .i64 c, .int .i64 d] ta)).alloc (.cells #[.int .i64 m, .int .i64 n, .int .i64 r, .int .i64 s] tm)).cell? ⟨w.heap.size + 1, 2, none⟩ = some (.int .i64 r) ∧ ((w.alloc (.cells #[.int .i64 a, .int .i64 b, .int .i64 c, .int .i64 d] ta)).alloc (.cells #[.int .i64 m, .int .i64 n, .int .i64 r, .int .i64 s] tm)).cell? ⟨w.heap.size + 1, 3, none⟩ = some (.int .i64 s) := by
  refine ⟨?_, ?_, ?_, ?_, ?_, ?_, ?_, ?_⟩ <;> simp [go_sem]
theorem bkBB {W w' : World} {p : Nat} {a b c d m n r s : Int} (B : Below W.heap.size W w')
    (k : W.cell? ⟨p, 0, none⟩ = some (.int .i64 a) ∧ W.cell? ⟨p, 1, none⟩ = some (.int .i64 b) ∧ W.cell? ⟨p, 2, none⟩ = some (.int .i64 c) ∧ W.cell? ⟨p, 3, none⟩ = some (.int .i64 d) ∧ W.cell? ⟨p + 1, 0, none⟩ = some (.int .i64 m) ∧ W.cell? ⟨p + 1, 1, none⟩ = some (.int .i64 n) ∧ W.cell? ⟨p + 1, 2, none⟩ = some (.int .i64 r) ∧ W.cell? ⟨p + 1, 3, none⟩ = some (.int .i64 s)) :
    w'.cell? ⟨p, 0, none⟩ = some (.int .i64 a) ∧ w'.cell? ⟨p, 1, none⟩ = some (.int .i64 b) ∧ w'.cell? ⟨p, 2, none⟩ = some (.int .i64 c) ∧ w'.cell? ⟨p, 3, none⟩ = some (.int .i64 d) ∧ w'.cell? ⟨p + 1, 0, none⟩ = some (.int .i64 m) ∧ w'.cell? ⟨p + 1, 1, none⟩ = some (.int .i64 n) ∧ w'.cell? ⟨p + 1, 2, none⟩ = some (.int .i64 r) ∧ w'.cell? ⟨p + 1, 3, none⟩ = some (.int .i64 s) :=
  ⟨bat B k.1, bat B k.2.1, bat B k.2.2.1, bat B k.2.2.2.1, bat B k.2.2.2.2.1, bat B k.2.2.2.2.2.1, bat B k.2.2.2.2.2.2.1, bat B k.2.2.2.2.2.2.2⟩

theorem bcBP (w : World) (a b c d x y : Int) (ta tx : TypeId) :
    ((w.alloc (.cells #[.int .i64 a, .int .i64 b, .int .i64 c, .int .i64 d] ta)).alloc (.cells #[.int .i64 x, .int .i64 y] tx)).cell? ⟨w.heap.size, 0, none⟩ = some (.int .i64 a) ∧ ((w.alloc (.cells #[.int .i64 a, .int .i64 b, .int .i64 c, .int .i64 d] ta)).alloc (.cells #[.int .i64 x, .int .i64 y] tx)).cell? ⟨w.heap.size, 1, none⟩ = some (.int .i64 b) ∧ ((w.alloc (.cells #[.int .i64 a, .int .i64 b, .int .i64 c, .int .i64 d] ta)).alloc (.cells #[.int .i64 x, .int .i64 y] tx)).cell? ⟨w.heap.size, 2, none⟩ = some (.int .i64 c) ∧ ((w.alloc (.cells #[.int .i64 a, .int .i64 b, .int .i64 c, .int .i64 d] ta)).alloc (.cells #[.int .i64 x, .int .i64 y] tx)).cell? ⟨w.heap.size, 3, none⟩ = some (.int .i64 d) ∧ ((w.alloc (.cells #[.int .i64 a, .int .i64 b, .int .i64 c, .int .i64 d] ta)).alloc (.cells #[.int .i64 x, .int .i64 y] tx)).cell? ⟨w.heap.size + 1, 0, none⟩ = some (.int .i64 x) ∧ ((w.alloc (.cells #[.int .i64 a, .int .i64 b, .int .i64 c, .int .i64 d] ta)).alloc (.cells #[.int .i64 x, .int .i64 y] tx)).cell? ⟨w.heap.size + 1, 1, none⟩ = some (.int .i64 y) := by
  refine ⟨?_, ?_, ?_, ?_, ?_, ?_⟩ <;> simp [go_sem]
theorem bkBP {W w' : World} {p : Nat} {a b c d x y : Int} (B : Below W.heap.size W w')
    (k : W.cell? ⟨p, 0, none⟩ = some (.int .i64 a) ∧ W.cell? ⟨p, 1, none⟩ = some (.int .i64 b) ∧ W.cell? ⟨p, 2, none⟩ = some (.int .i64 c) ∧ W.cell? ⟨p, 3, none⟩ = some (.int .i64 d) ∧ W.cell? ⟨p + 1, 0, none⟩ = some (.int .i64 x) ∧ W.cell? ⟨p + 1, 1, none⟩ = some (.int .i64 y)) :
    w'.cell? ⟨p, 0, none⟩ = some (.int .i64 a) ∧ w'.cell? ⟨p, 1, none⟩ = some (.int .i64 b) ∧ w'.cell? ⟨p, 2, none⟩ = some (.int .i64 c) ∧ w'.cell? ⟨p, 3, none⟩ = some (.int .i64 d) ∧ w'.cell? ⟨p + 1, 0, none⟩ = some (.int .i64 x) ∧ w'.cell? ⟨p + 1, 1, none⟩ = some (.int .i64 y) :=
  ⟨bat B k.1, bat B k.2.1, bat B k.2.2.1, bat B k.2.2.2.1, bat B k.2.2.2.2.1, bat B k.2.2.2.2.2⟩

theorem bcPP (w : World) (a b c d : Int) (ta tc : TypeId) :
    ((w.alloc (.cells #[.int .i64 a, .int .i64 b] ta)).alloc (.cells #[.int .i64 c, .int .i64 d] tc)).cell? ⟨w.heap.size, 0, none⟩ = some (.int .i64 a) ∧ ((w.alloc (.cells #[.int .i64 a, .int .i64 b] ta)).alloc (.cells #[.int .i64 c, .int .i64 d] tc)).cell? ⟨w.heap.size, 1, none⟩ = some (.int .i64 b) ∧ ((w.alloc (.cells #[.int .i64 a, .int .i64 b] ta)).alloc (.cells #[.int .i64 c, .int .i64 d] tc)).cell? ⟨w.heap.size + 1, 0, none⟩ = some (.int .i64 c) ∧ ((w.alloc (.cells #[.int .i64 a, .int .i64 b] ta)).alloc (.cells #[.int .i64 c, .int .i64 d] tc)).cell? ⟨w.heap.size + 1, 1, none⟩ = some (.int .i64 d) := by
  refine ⟨?_, ?_, ?_, ?_⟩ <;> simp [go_sem]
theorem bkPP {W w' : World} {p : Nat} {a b c d : Int} (B : Below W.heap.size W w')
    (k : W.cell? ⟨p, 0, none⟩ = some (.int .i64 a) ∧ W.cell? ⟨p, 1, none⟩ = some (.int .i64 b) ∧ W.cell? ⟨p + 1, 0, none⟩ = some (.int .i64 c) ∧ W.cell? ⟨p + 1, 1, none⟩ = some (.int .i64 d)) :
    w'.cell? ⟨p, 0, none⟩ = some (.int .i64 a) ∧ w'.cell? ⟨p, 1, none⟩ = some (.int .i64 b) ∧ w'.cell? ⟨p + 1, 0, none⟩ = some (.int .i64 c) ∧ w'.cell? ⟨p + 1, 1, none⟩ = some (.int .i64 d) :=
  ⟨bat B k.1, bat B k.2.1, bat B k.2.2.1, bat B k.2.2.2⟩

def eqP (a b c d : Int) : Bool := decide (a = c) && decide (b = d)
theorem eqP_refl (a b : Int) : eqP a b a b = true := by simp [eqP]
theorem eqPt_any (a b c d : Int) (w : World) :
    Calls Try.prog 24 #[.agg #[.int .i64 a, .int .i64 b], .agg #[.int .i64 c, .int .i64 d]] w fun e w' => e = .returned (.bool (eqP a b c d)) ∧ Below w.heap.size w w' := by
  have H : Hid (eqP a b c d = (decide (a = c) && decide (b = d))) := (rfl : eqP a b c d = _)
  go_enter Try.func24, Try.ntmps24
  go_wp2
  all_goals
    go_ret
    exact ⟨ret_bool (by rw [H.out]; simp_all), below2 _ _ _⟩

def eqX (a b c d m n r s : Int) : Bool := eqP a b m n && eqP c d r s
theorem eqX_refl (a b c d : Int) : eqX a b c d a b c d = true := by simp [eqX, eqP]
theorem ret_int {a b : Int} (h : a = b) : Ending.returned (.int .i64 a) = .returned (.int .i64 b) := by rw [h]
theorem Box4.putLo {lo p : Nat} {w : World} {x0 x1 x2 x3 : Value} (h : Box4 lo w p x0 x1 x2 x3) (u0 u1 : Value) : Box4 lo ((w.setCell ⟨p, 0, none⟩ u0).setCell ⟨p, 1, none⟩ u1) p u0 u1 x2 x3 :=
  ⟨(put_new2 h.c0 h.c1 u0 u1).1, (put_new2 h.c0 h.c1 u0 u1).2, (cell_other (.inr (by decide)) u1).trans ((cell_other (.inr (by decide)) u0).trans h.c2), (cell_other (.inr (by decide)) u1).trans ((cell_other (.inr (by decide)) u0).trans h.c3), fun o => (put_frozen2 p _ u0 u1).trans (h.fr o), h.lo⟩
theorem Box4.putHi {lo p : Nat} {w : World} {x0 x1 x2 x3 : Value} (h : Box4 lo w p x0 x1 x2 x3) (u0 u1 : Value) : Box4 lo ((w.setCell ⟨p, 2, none⟩ u0).setCell ⟨p, 3, none⟩ u1) p x0 x1 u0 u1 :=
  ⟨(cell_other (.inr (by decide)) u1).trans ((cell_other (.inr (by decide)) u0).trans h.c0), (cell_other (.inr (by decide)) u1).trans ((cell_other (.inr (by decide)) u0).trans h.c1), (cell_other (.inr (by decide)) u1).trans (cell_same h.c2 u0), cell_same ((cell_other (.inr (by decide)) u0).trans h.c3) u1, fun o => ((World.frozen?_setCell ..).trans (World.frozen?_setCell ..)).trans (h.fr o), h.lo⟩
theorem Box4.oldAny {lo p q : Nat} {w : World} {x0 x1 x2 x3 : Value} (h : Box4 lo w q x0 x1 x2 x3) (ne : q ≠ p) (i : Nat) (u : Value) : Box4 lo (w.setCell ⟨p, i, none⟩ u) q x0 x1 x2 x3 :=
  ⟨(cell_other (.inl (Ne.symm ne)) u).trans h.c0, (cell_other (.inl (Ne.symm ne)) u).trans h.c1, (cell_other (.inl (Ne.symm ne)) u).trans h.c2, (cell_other (.inl (Ne.symm ne)) u).trans h.c3, fun o => (World.frozen?_setCell ..).trans (h.fr o), h.lo⟩

end Go.Proofs.Ytdgepkbdopndfaa
