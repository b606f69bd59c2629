/- Boxes: which are right; their memory. -/
import Derived.Test.YtnefdfgonolafaaPtX
import Derived.Test.YtnefdfgonolafaaPtB
import Derived.Test.YtnefdfgonolafaaTree
namespace Go.Proofs.Ytnefdfgonolafaa
open Go.RowKit

/-- Right, by all coordinates. -/
def boxOk (a b c d : Int) : Bool := ptOk a b && (ptOk c d && (decide (a ≤ c) && decide (b ≤ d)))
theorem bcB (w : World) (a b c d : Int) (ta : TypeId) :
    (w.alloc (.cells #[.int .i64 a, .int .i64 b, .int .i64 c, .int .i64 d] ta)).cell? ⟨w.heap.size, 0, none⟩ = some (.int .i64 a) ∧ (w.alloc (.cells #[.int .i64 a, .int .i64 b, .int .i64 c, .int .i64 d] ta)).cell? ⟨w.heap.size, 1, none⟩ = some (.int .i64 b) ∧ (w.alloc (.cells #[.int .i64 a, .int .i64 b, .int .i64 c, .int .i64 d] ta)).cell? ⟨w.heap.size, 2, none⟩ = some (.int .i64 c) ∧ (w.alloc (.cells #[.int .i64 a, .int .i64 b, .int .i64 c, .int .i64 d] ta)).cell? ⟨w.heap.size, 3, none⟩ = some (.int .i64 d) := by
  refine ⟨?_, ?_, ?_, ?_⟩ <;> simp [go_sem]
theorem bkB {W w' : World} {p : Nat} {a b c d : Int} (B : Below W.heap.size W w')
    (k : W.cell? ⟨p, 0, none⟩ = some (.int .i64 a) ∧ W.cell? ⟨p, 1, none⟩ = some (.int .i64 b) ∧ W.cell? ⟨p, 2, none⟩ = some (.int .i64 c) ∧ W.cell? ⟨p, 3, none⟩ = some (.int .i64 d)) :
    w'.cell? ⟨p, 0, none⟩ = some (.int .i64 a) ∧ w'.cell? ⟨p, 1, none⟩ = some (.int .i64 b) ∧ w'.cell? ⟨p, 2, none⟩ = some (.int .i64 c) ∧ w'.cell? ⟨p, 3, none⟩ = some (.int .i64 d) :=
  ⟨bat B k.1, bat B k.2.1, bat B k.2.2.1, bat B k.2.2.2⟩

theorem bcBB (w : World) (a b c d m n r s : Int) (ta tm : TypeId) :
    ((w.alloc (.cells #[.int .i64 a, .int .i64 b, .int .i64 c, .int .i64 d] ta)).alloc (.cells #[.int .i64 m, .int .i64 n, .int .i64 r, .int .i64 s] tm)).cell? ⟨w.heap.size, 0, none⟩ = some (.int .i64 a) ∧ ((w.alloc (.cells #[.int .i64 a, .int .i64 b, .int .i64 c, .int .i64 d] ta)).alloc (.cells #[.int .i64 m, .int .i64 n, .int .i64 r, .int .i64 s] tm)).cell? ⟨w.heap.size, 1, none⟩ = some (.int .i64 b) ∧ ((w.alloc (.cells #[.int .i64 a, .int .i64 b, .int .i64 c, .int .i64 d] ta)).alloc (.cells #[.int .i64 m, .int .i64 n, .int .i64 r, .int .i64 s] tm)).cell? ⟨w.heap.size, 2, none⟩ = some (.int .i64 c) ∧ ((w.alloc (.cells #[.int .i64 a, .int .i64 b, .int .i64 c, .int .i64 d] ta)).alloc (.cells #[.int .i64 m, .int .i64 n, .int .i64 r, .int .i64 s] tm)).cell? ⟨w.heap.size, 3, none⟩ = some (.int .i64 d) ∧ ((w.alloc (.cells #[.int .i64 a, .int .i64 b, .int .i64 c, .int .i64 d] ta)).alloc (.cells #[.int .i64 m, .int .i64 n, .int .i64 r, .int .i64 s] tm)).cell? ⟨w.heap.size + 1, 0, none⟩ = some (.int .i64 m) ∧ ((w.alloc (.cells #[.int .i64 a, .int .i64 b, .int .i64 c, .int .i64 d] ta)).alloc (.cells #[.int .i64 m, .int .i64 n, .int .i64 r, .int .i64 s] tm)).cell? ⟨w.heap.size + 1, 1, none⟩ = some (.int .i64 n) ∧ ((w.alloc (.cells #[.int .i64 a, .int .i64 b, .int .i64 c, .int .i64 d] ta)).alloc (.cells #[.int .i64 m, .int .i64 n, .int .i64 r, .int .i64 s] tm)).cell? ⟨w.heap.size + 1, 2, none⟩ = some (.int .i64 r) ∧ ((w.alloc (.cells #[.int .i64 a, .int .i64 b, .int .i64 c, .int .i64 d] ta)).alloc (.cells #[.int .i64 m, .int .i64 n, .int .i64 r, .int .i64 s] tm)).cell? ⟨w.heap.size + 1, 3, none⟩ = some (.int .i64 s) := by
  refine ⟨?_, ?_, ?_, ?_, ?_, ?_, ?_, ?_⟩ <;> simp [go_sem]
theorem bkBB {W w' : World} {p : Nat} {a b c d m n r s : Int} (B : Below W.heap.size W w')
    (k : W.cell? ⟨p, 0, none⟩ = some (.int .i64 a) ∧ W.cell? ⟨p, 1, none⟩ = some (.int .i64 b) ∧ W.cell? ⟨p, 2, none⟩ = some (.int .i64 c) ∧ W.cell? ⟨p, 3, none⟩ = some (.int .i64 d) ∧ W.cell? ⟨p + 1, 0, none⟩ = some (.int .i64 m) ∧ W.cell? ⟨p + 1, 1, none⟩ = some (.int .i64 n) ∧ W.cell? ⟨p + 1, 2, none⟩ = some (.int .i64 r) ∧ W.cell? ⟨p + 1, 3, none⟩ = some (.int .i64 s)) :
    w'.cell? ⟨p, 0, none⟩ = some (.int .i64 a) ∧ w'.cell? ⟨p, 1, none⟩ = some (.int .i64 b) ∧ w'.cell? ⟨p, 2, none⟩ = some (.int .i64 c) ∧ w'.cell? ⟨p, 3, none⟩ = some (.int .i64 d) ∧ w'.cell? ⟨p + 1, 0, none⟩ = some (.int .i64 m) ∧ w'.cell? ⟨p + 1, 1, none⟩ = some (.int .i64 n) ∧ w'.cell? ⟨p + 1, 2, none⟩ = some (.int .i64 r) ∧ w'.cell? ⟨p + 1, 3, none⟩ = some (.int .i64 s) :=
  ⟨bat B k.1, bat B k.2.1, bat B k.2.2.1, bat B k.2.2.2.1, bat B k.2.2.2.2.1, bat B k.2.2.2.2.2.1, bat B k.2.2.2.2.2.2.1, bat B k.2.2.2.2.2.2.2⟩

theorem bcBP (w : World) (a b c d x y : Int) (ta tx : TypeId) :
    ((w.alloc (.cells #[.int .i64 a, .int .i64 b, .int .i64 c, .int .i64 d] ta)).alloc (.cells #[.int .i64 x, .int .i64 y] tx)).cell? ⟨w.heap.size, 0, none⟩ = some (.int .i64 a) ∧ ((w.alloc (.cells #[.int .i64 a, .int .i64 b, .int .i64 c, .int .i64 d] ta)).alloc (.cells #[.int .i64 x, .int .i64 y] tx)).cell? ⟨w.heap.size, 1, none⟩ = some (.int .i64 b) ∧ ((w.alloc (.cells #[.int .i64 a, .int .i64 b, .int .i64 c, .int .i64 d] ta)).alloc (.cells #[.int .i64 x, .int .i64 y] tx)).cell? ⟨w.heap.size, 2, none⟩ = some (.int .i64 c) ∧ ((w.alloc (.cells #[.int .i64 a, .int .i64 b, .int .i64 c, .int .i64 d] ta)).alloc (.cells #[.int .i64 x, .int .i64 y] tx)).cell? ⟨w.heap.size, 3, none⟩ = some (.int .i64 d) ∧ ((w.alloc (.cells #[.int .i64 a, .int .i64 b, .int .i64 c, .int .i64 d] ta)).alloc (.cells #[.int .i64 x, .int .i64 y] tx)).cell? ⟨w.heap.size + 1, 0, none⟩ = some (.int .i64 x) ∧ ((w.alloc (.cells #[.int .i64 a, .int .i64 b, .int .i64 c, .int .i64 d] ta)).alloc (.cells #[.int .i64 x, .int .i64 y] tx)).cell? ⟨w.heap.size + 1, 1, none⟩ = some (.int .i64 y) := by
  refine ⟨?_, ?_, ?_, ?_, ?_, ?_⟩ <;> simp [go_sem]
theorem bkBP {W w' : World} {p : Nat} {a b c d x y : Int} (B : Below W.heap.size W w')
    (k : W.cell? ⟨p, 0, none⟩ = some (.int .i64 a) ∧ W.cell? ⟨p, 1, none⟩ = some (.int .i64 b) ∧ W.cell? ⟨p, 2, none⟩ = some (.int .i64 c) ∧ W.cell? ⟨p, 3, none⟩ = some (.int .i64 d) ∧ W.cell? ⟨p + 1, 0, none⟩ = some (.int .i64 x) ∧ W.cell? ⟨p + 1, 1, none⟩ = some (.int .i64 y)) :
    w'.cell? ⟨p, 0, none⟩ = some (.int .i64 a) ∧ w'.cell? ⟨p, 1, none⟩ = some (.int .i64 b) ∧ w'.cell? ⟨p, 2, none⟩ = some (.int .i64 c) ∧ w'.cell? ⟨p, 3, none⟩ = some (.int .i64 d) ∧ w'.cell? ⟨p + 1, 0, none⟩ = some (.int .i64 x) ∧ w'.cell? ⟨p + 1, 1, none⟩ = some (.int .i64 y) :=
  ⟨bat B k.1, bat B k.2.1, bat B k.2.2.1, bat B k.2.2.2.1, bat B k.2.2.2.2.1, bat B k.2.2.2.2.2⟩

theorem bcPP (w : World) (a b c d : Int) (ta tc : TypeId) :
    ((w.alloc (.cells #[.int .i64 a, .int .i64 b] ta)).alloc (.cells #[.int .i64 c, .int .i64 d] tc)).cell? ⟨w.heap.size, 0, none⟩ = some (.int .i64 a) ∧ ((w.alloc (.cells #[.int .i64 a, .int .i64 b] ta)).alloc (.cells #[.int .i64 c, .int .i64 d] tc)).cell? ⟨w.heap.size, 1, none⟩ = some (.int .i64 b) ∧ ((w.alloc (.cells #[.int .i64 a, .int .i64 b] ta)).alloc (.cells #[.int .i64 c, .int .i64 d] tc)).cell? ⟨w.heap.size + 1, 0, none⟩ = some (.int .i64 c) ∧ ((w.alloc (.cells #[.int .i64 a, .int .i64 b] ta)).alloc (.cells #[.int .i64 c, .int .i64 d] tc)).cell? ⟨w.heap.size + 1, 1, none⟩ = some (.int .i64 d) := by
  refine ⟨?_, ?_, ?_, ?_⟩ <;> simp [go_sem]
theorem bkPP {W w' : World} {p : Nat} {a b c d : Int} (B : Below W.heap.size W w')
    (k : W.cell? ⟨p, 0, none⟩ = some (.int .i64 a) ∧ W.cell? ⟨p, 1, none⟩ = some (.int .i64 b) ∧ W.cell? ⟨p + 1, 0, none⟩ = some (.int .i64 c) ∧ W.cell? ⟨p + 1, 1, none⟩ = some (.int .i64 d)) :
    w'.cell? ⟨p, 0, none⟩ = some (.int .i64 a) ∧ w'.cell? ⟨p, 1, none⟩ = some (.int .i64 b) ∧ w'.cell? ⟨p + 1, 0, none⟩ = some (.int .i64 c) ∧ w'.cell? ⟨p + 1, 1, none⟩ = some (.int .i64 d) :=
  ⟨bat B k.1, bat B k.2.1, bat B k.2.2.1, bat B k.2.2.2⟩

def eqP (a b c d : Int) : Bool := decide (a = c) && decide (b = d)
theorem eqP_refl (a b : Int) : eqP a b a b = true := by simp [eqP]
theorem eqPt_any (a b c d : Int) (w : World) :
    Calls Try.prog 19 #[.agg #[.int .i64 a, .int .i64 b], .agg #[.int .i64 c, .int .i64 d]] w fun e w' => e = .returned (.bool (eqP a b c d)) ∧ Below w.heap.size w w' := by
  have H : Hid (eqP a b c d = (decide (a = c) && decide (b = d))) := (rfl : eqP a b c d = _)
  go_enter Try.func19, Try.ntmps19
  go_wp2
  all_goals
    go_ret
    exact ⟨ret_bool (by rw [H.out]; simp_all), below2 _ _ _⟩

def eqX (a b c d m n r s : Int) : Bool := eqP a b m n && eqP c d r s
theorem eqX_refl (a b c d : Int) : eqX a b c d a b c d = true := by simp [eqX, eqP]
set_option maxHeartbeats 4000000 in
theorem eqBox_any (a b c d m n r s : Int) (w : World) :
    Calls Try.prog 8 #[.agg #[.int .i64 a, .int .i64 b, .int .i64 c, .int .i64 d], .agg #[.int .i64 m, .int .i64 n, .int .i64 r, .int .i64 s]] w fun e w' => e = .returned (.bool (eqX a b c d m n r s)) ∧ Below w.heap.size w w' := by
  have H : Hid (eqX a b c d m n r s = (eqP a b m n && eqP c d r s)) := (rfl : eqX a b c d m n r s = _)
  cases h1 : eqP a b m n <;> cases h2 : eqP c d r s
  all_goals
    have k0 := bcBB w a b c d m n r s 33 33
    have B0 := below2 w (.cells #[.int .i64 a, .int .i64 b, .int .i64 c, .int .i64 d] 33) (.cells #[.int .i64 m, .int .i64 n, .int .i64 r, .int .i64 s] 33)
    go_enter Try.func8, Try.ntmps8
    go_wp2_with fail
    generalize ((w.alloc (.cells #[.int .i64 a, .int .i64 b, .int .i64 c, .int .i64 d] 33)).alloc (.cells #[.int .i64 m, .int .i64 n, .int .i64 r, .int .i64 s] 33)) = W0 at *
    have B : Below W0.heap.size W0 W0 := Below.refl _ _
    have K := k0
    obtain ⟨k1, k2, k3, k4, k5, k6, k7, k8⟩ := k0
    go_wp2_with (first | (go_at_call 19; refine (eqPt_any _ _ _ _ _).mono ?_; rintro e w1 ⟨rfl, hb⟩; (first | rw [h1] | rw [h2]); replace B := B.trans (hb.mono B.size); clear hb; obtain ⟨k1, k2, k3, k4, k5, k6, k7, k8⟩ := bkBB B K))
  all_goals
    go_ret
    exact ⟨ret_bool (by rw [H.out]; simp_all <;> omega), B0.trans (B.mono B0.size)⟩

theorem ret_int {a b : Int} (h : a = b) : Ending.returned (.int .i64 a) = .returned (.int .i64 b) := by rw [h]
theorem l4Min_any (a b : Int) (w : World) :
    Calls Try.prog 12 #[.int .i64 a, .int .i64 b] w fun e w' => e = .returned (.int .i64 (min a b)) ∧ w' = w := by
  go_enter Try.func12, Try.ntmps12
  go_wp2
  all_goals
    go_ret
    exact ⟨ret_int (by omega), rfl⟩

theorem l4Max_any (a b : Int) (w : World) :
    Calls Try.prog 13 #[.int .i64 a, .int .i64 b] w fun e w' => e = .returned (.int .i64 (max a b)) ∧ w' = w := by
  go_enter Try.func13, Try.ntmps13
  go_wp2
  all_goals
    go_ret
    exact ⟨ret_int (by omega), rfl⟩

theorem Box4.putLo {lo p : Nat} {w : World} {x0 x1 x2 x3 : Value} (h : Box4 lo w p x0 x1 x2 x3) (u0 u1 : Value) : Box4 lo ((w.setCell ⟨p, 0, none⟩ u0).setCell ⟨p, 1, none⟩ u1) p u0 u1 x2 x3 :=
  ⟨(put_new2 h.c0 h.c1 u0 u1).1, (put_new2 h.c0 h.c1 u0 u1).2, (cell_other (.inr (by decide)) u1).trans ((cell_other (.inr (by decide)) u0).trans h.c2), (cell_other (.inr (by decide)) u1).trans ((cell_other (.inr (by decide)) u0).trans h.c3), fun o => (put_frozen2 p _ u0 u1).trans (h.fr o), h.lo⟩
theorem Box4.putHi {lo p : Nat} {w : World} {x0 x1 x2 x3 : Value} (h : Box4 lo w p x0 x1 x2 x3) (u0 u1 : Value) : Box4 lo ((w.setCell ⟨p, 2, none⟩ u0).setCell ⟨p, 3, none⟩ u1) p x0 x1 u0 u1 :=
  ⟨(cell_other (.inr (by decide)) u1).trans ((cell_other (.inr (by decide)) u0).trans h.c0), (cell_other (.inr (by decide)) u1).trans ((cell_other (.inr (by decide)) u0).trans h.c1), (cell_other (.inr (by decide)) u1).trans (cell_same h.c2 u0), cell_same ((cell_other (.inr (by decide)) u0).trans h.c3) u1, fun o => ((World.frozen?_setCell ..).trans (World.frozen?_setCell ..)).trans (h.fr o), h.lo⟩
theorem Box4.oldAny {lo p q : Nat} {w : World} {x0 x1 x2 x3 : Value} (h : Box4 lo w q x0 x1 x2 x3) (ne : q ≠ p) (i : Nat) (u : Value) : Box4 lo (w.setCell ⟨p, i, none⟩ u) q x0 x1 x2 x3 :=
  ⟨(cell_other (.inl (Ne.symm ne)) u).trans h.c0, (cell_other (.inl (Ne.symm ne)) u).trans h.c1, (cell_other (.inl (Ne.symm ne)) u).trans h.c2, (cell_other (.inl (Ne.symm ne)) u).trans h.c3, fun o => (World.frozen?_setCell ..).trans (h.fr o), h.lo⟩

theorem boxAt_any (x y : Int) (w : World) :
    Calls Try.prog 32 #[.agg #[.int .i64 x, .int .i64 y]] w fun e w' => e = .returned (.agg #[.int .i64 x, .int .i64 y, .int .i64 x, .int .i64 y]) ∧ Below w.heap.size w w' := by
  go_enter Try.func32, Try.ntmps32
  go_wp2
  exact bodyPost_ret (v := _) (by simp [results, Try.results32, go_sem]; try rfl) rfl ⟨rfl, below2 _ _ _⟩

end Go.Proofs.Ytnefdfgonolafaa
