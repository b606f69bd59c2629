/- A box that grows in place. -/
import Derived.Test.YtdkhaghcnijilaaGreatBoxO
import Derived.BigRegion
namespace Go.Proofs.YtdkhaghcnijilaaGreat
open Go.RowKit

theorem grownBy_draw {w w' : World} {row : Option Nat} (h : w.grownBy w' row) : w.grownBy w'.drew row := grownBy_drewN h 1
theorem Box4.drew {lo p : Nat} {w : World} {x0 x1 x2 x3 : Value} (h : Box4 lo w p x0 x1 x2 x3) : Box4 lo w.drew p x0 x1 x2 x3 := ⟨h.c0, h.c1, h.c2, h.c3, h.fr, h.lo⟩
theorem Box4.as {lo p : Nat} {w : World} {a b c d a' b' c' d' : Int} (h : Box4 lo w p (.int .i64 a) (.int .i64 b) (.int .i64 c) (.int .i64 d)) (e1 : a = a') (e2 : b = b') (e3 : c = c') (e4 : d = d') :
    Box4 lo w p (.int .i64 a') (.int .i64 b') (.int .i64 c') (.int .i64 d') := by subst e1 e2 e3 e4; exact h

set_option maxHeartbeats 4000000 in
theorem reach_any (lo p : Nat) (a b c d x y : Int) (w : World) (P : Box4 lo w p (.int .i64 a) (.int .i64 b) (.int .i64 c) (.int .i64 d)) :
    Calls Tryz.prog 208 #[.pointer (some ⟨p, 0, none⟩), .agg #[.int .i64 x, .int .i64 y]] w fun e w' => e = .returned (.tuple #[]) ∧ Box4 lo w' p (.int .i64 (min a x)) (.int .i64 (min b y)) (.int .i64 (max c x)) (.int .i64 (max d y)) ∧ w.grownBy w' (some p) := by
  have k0 := ptbox1 w x y 33
  have B0 := ptbelow1 w x y 33
  have G : w.grownBy (w.alloc (.cells #[.int .i64 x, .int .i64 y] 33)) (some p) := World.grownBy_alloc _ _ _
  have hp := P.lt
  replace P := P.below B0
  have hp' : w.heap.size ≠ p := by omega
  go_enter Tryz.func208, Tryz.ntmps208
  go_wp2_with fail
  generalize (w.alloc (.cells #[.int .i64 x, .int .i64 y] 33)) = W0 at *
  have Q := P
  obtain ⟨c0, c1, c2, c3, cf, _⟩ := P
  obtain ⟨k1, k2⟩ := k0
  go_region
  clear c0 c1 c2 c3 cf
  have j1 := (put_old2 (o := 0) hp' (.int .i64 (if x < a then x else a)) (.int .i64 (if y < b then y else b))).trans k1
  have j2 := (put_old2 (o := 1) hp' (.int .i64 (if x < a then x else a)) (.int .i64 (if y < b then y else b))).trans k2
  clear k1 k2 B0
  replace Q := (Q.putLo (.int .i64 (if x < a then x else a)) (.int .i64 (if y < b then y else b)))
  replace G := (grownBy_setCell (grownBy_setCell G (p := ⟨p, 0, none⟩) rfl (.int .i64 (if x < a then x else a))) (p := ⟨p, 1, none⟩) rfl (.int .i64 (if y < b then y else b)))
  generalize (W0.setCell ⟨p, 0, none⟩ (.int .i64 (if x < a then x else a))).setCell ⟨p, 1, none⟩ (.int .i64 (if y < b then y else b)) = W1 at *
  have E1 : Hid ((if x < a then x else a) = min a x) := by show (if x < a then x else a) = min a x; split <;> omega
  have E2 : Hid ((if y < b then y else b) = min b y) := by show (if y < b then y else b) = min b y; split <;> omega
  have E3 : (if c < x then x else c) = max c x := by split <;> omega
  have E4 : (if d < y then y else d) = max d y := by split <;> omega
  rw [E1.out, E2.out] at Q ⊢
  have F3 : Hid ((if c < x then x else c) = max c x) := E3
  have F4 : Hid ((if d < y then y else d) = max d y) := E4
  clear E1 E2 E3 E4
  have i1 : W1.drew.cell? ⟨w.heap.size, 0, none⟩ = some (.int .i64 x) := j1
  have i2 : W1.drew.cell? ⟨w.heap.size, 1, none⟩ = some (.int .i64 y) := j2
  replace Q := Q.drew
  replace G := grownBy_draw G
  clear j1 j2
  generalize W1.drew = W2 at *
  have Q2 := Q
  obtain ⟨c0, c1, c2, c3, cf, _⟩ := Q
  go_wp2_with fail
  go_region
  rw [F3.out, F4.out]
  go_wp2_with fail
  exact bodyPost_end (results_none Tryz.results208 _ _ _) rfl ⟨rfl, (Q2.putHi (.int .i64 (max c x)) (.int .i64 (max d y))).drew, grownBy_draw (grownBy_setCell (grownBy_setCell G (p := ⟨p, 2, none⟩) rfl (.int .i64 (max c x))) (p := ⟨p, 3, none⟩) rfl (.int .i64 (max d y)))⟩

end Go.Proofs.YtdkhaghcnijilaaGreat
