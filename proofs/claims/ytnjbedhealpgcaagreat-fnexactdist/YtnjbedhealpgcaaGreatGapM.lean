import Derived.Test.YtnjbedhealpgcaaGreatDivI
import Derived.Test.YtnjbedhealpgcaaGreatPtG
import Derived.Test.YtnjbedhealpgcaaGreatBase
import Derived.Laws.AppendOwnNone
import Derived.Maps.AppendAt
import Derived.Test.YtnjbedhealpgcaaGreatProg
import Derived.Laws.IdiomStrings
import Derived.Deep.LoopGhost
/- The square of a gap, over the whole numbers: the program's ways and the specification's are the same. No program is named here. -/
namespace Go.Proofs.YtnjbedhealpgcaaGreat
def gqN (n d : Int) : Int := n / (Int.gcd n d : Int)
def gqD (n d : Int) : Int := d / (Int.gcd n d : Int)
theorem q_mul {d k : Int} (hd : 0 < d) : gqN (d * k) d = k ∧ gqD (d * k) d = 1 := by
 have e : (Int.gcd (d * k) d : Int) = d := by
  have : Int.gcd (d * k) d = d.natAbs := by simp [Int.gcd, Int.natAbs_mul]
  rw [this]; omega
 unfold gqN gqD
 rw [e]
 exact ⟨Int.mul_ediv_cancel_left k (by omega), Int.ediv_self (by omega)⟩
def sqq (x y : Int) : Int := x * x + y * y
def gN (ux uy vx vy : Int) : Int := if ux * vx + uy * vy ≤ 0 then sqq vx vy else if sqq ux uy ≤ ux * vx + uy * vy then sqq (vx - ux) (vy - uy) else gqN ((ux * vy - uy * vx) * (ux * vy - uy * vx)) (sqq ux uy)
def gD (ux uy vx vy : Int) : Int := if ux * vx + uy * vy ≤ 0 then 1 else if sqq ux uy ≤ ux * vx + uy * vy then 1 else gqD ((ux * vy - uy * vx) * (ux * vy - uy * vx)) (sqq ux uy)
theorem sqq_pos {x y : Int} (h : x ≠ 0 ∨ y ≠ 0) : 0 < sqq x y := by
 have nn : ∀ z : Int, 0 ≤ z * z := fun z => by
  rcases Int.le_total 0 z with h | h
  ·exact Int.mul_nonneg h h
  ·have := Int.mul_nonneg (a := -z) (b := -z) (by omega) (by omega); rwa [Int.neg_mul_neg] at this
 have pp : ∀ z : Int, z ≠ 0 → 0 < z * z := fun z hz => by
  have h1 := nn z
  have h2 : z * z ≠ 0 := fun e => hz (by rcases Int.mul_eq_zero.1 e with e | e <;> exact e)
  omega
 unfold sqq
 have := nn x
 have := nn y
 rcases h with h | h
 ·have := pp x h; omega
 ·have := pp y h; omega
theorem g_same {ux uy vx vy : Int} (h : ux = 0 ∧ uy = 0) : gN ux uy vx vy = sqq vx vy ∧ gD ux uy vx vy = 1 := by
 obtain ⟨rfl, rfl⟩ := h
 unfold gN gD
 simp
theorem g_before {ux uy vx vy : Int} (h : ux * vx + uy * vy < 0) : gN ux uy vx vy = sqq vx vy ∧ gD ux uy vx vy = 1 := by
 unfold gN gD
 rw [if_pos (by omega), if_pos (by omega)]
 exact ⟨rfl, rfl⟩
theorem g_behind {ux uy vx vy : Int} (hu : ux ≠ 0 ∨ uy ≠ 0) (h : 0 < ux * (vx - ux) + uy * (vy - uy)) : gN ux uy vx vy = sqq (vx - ux) (vy - uy) ∧ gD ux uy vx vy = 1 := by
 have hw := sqq_pos hu
 have e : ux * (vx - ux) + uy * (vy - uy) = (ux * vx + uy * vy) - sqq ux uy := by unfold sqq; grind
 rw [e] at h
 unfold gN gD
 rw [if_neg (by omega), if_pos (by omega), if_neg (by omega), if_pos (by omega)]
 exact ⟨rfl, rfl⟩
theorem g_beside {ux uy vx vy : Int} (hu : ux ≠ 0 ∨ uy ≠ 0) (h1 : ¬ ux * vx + uy * vy < 0) (h2 : ¬ 0 < ux * (vx - ux) + uy * (vy - uy)) :
  gN ux uy vx vy = gqN ((ux * vy - uy * vx) * (ux * vy - uy * vx)) (sqq ux uy) ∧ gD ux uy vx vy = gqD ((ux * vy - uy * vx) * (ux * vy - uy * vx)) (sqq ux uy) := by
 have hw := sqq_pos hu
 have e : ux * (vx - ux) + uy * (vy - uy) = (ux * vx + uy * vy) - sqq ux uy := by unfold sqq; grind
 rw [e] at h2
 by_cases z1 : ux * vx + uy * vy ≤ 0
 ·have z0 : ux * vx + uy * vy = 0 := by omega
  have ec : (ux * vy - uy * vx) * (ux * vy - uy * vx) = sqq ux uy * sqq vx vy := by
   have : (ux * vy - uy * vx) * (ux * vy - uy * vx) = sqq ux uy * sqq vx vy - (ux * vx + uy * vy) * (ux * vx + uy * vy) := by unfold sqq; grind
   rw [this, z0]; omega
  obtain ⟨q1, q2⟩ := q_mul (k := sqq vx vy) hw
  unfold gN gD
  rw [if_pos z1, if_pos z1, ec, q1, q2]
  exact ⟨rfl, rfl⟩
 ·by_cases z2 : sqq ux uy ≤ ux * vx + uy * vy
  ·have z0 : ux * vx + uy * vy = sqq ux uy := by omega
   have ec : (ux * vy - uy * vx) * (ux * vy - uy * vx) = sqq ux uy * sqq (vx - ux) (vy - uy) := by
    have : (ux * vy - uy * vx) * (ux * vy - uy * vx) = sqq ux uy * sqq (vx - ux) (vy - uy) - (ux * vx + uy * vy - sqq ux uy) * (ux * vx + uy * vy - sqq ux uy) := by unfold sqq; grind
    rw [this, z0]; simp
   obtain ⟨q1, q2⟩ := q_mul (k := sqq (vx - ux) (vy - uy)) hw
   unfold gN gD
   rw [if_neg z1, if_pos z2, if_neg z1, if_pos z2, ec, q1, q2]
   exact ⟨rfl, rfl⟩
  ·unfold gN gD
   rw [if_neg z1, if_neg z2, if_neg z1, if_neg z2]
   exact ⟨rfl, rfl⟩
open Go.RowKit

theorem mg_of {n : Int} (h : 0 ≤ n) : mg n = n := by unfold mg; rw [if_neg (by omega)]
theorem gq_le {n d m : Int} (h : 0 ≤ n) (hm : n ≤ m) : mg (n / (Int.gcd n d : Int)) ≤ m := by
 by_cases g0 : (Int.gcd n d : Int) = 0
 ·rw [g0, Int.ediv_zero]; show (0 : Int) ≤ m; omega
 ·have := quot_le (n := n) (m := (Int.gcd n d : Int)) (by omega)
  rw [mg_of h] at this
  omega
theorem g_bounds {ux uy vx vy : Int} (h1 : Dif ux) (h2 : Dif uy) (h3 : Dif vx) (h4 : Dif vy) (h5 : Dif (vx - ux)) (h6 : Dif (vy - uy)) : mg (gN ux uy vx vy) ≤ 640000000000000000000000000000 ∧ mg (gD ux uy vx vy) ≤ 640000000000000000000000000000 := by
 have nn : ∀ z : Int, 0 ≤ z * z := fun z => by
  rcases Int.le_total 0 z with h | h
  ·exact Int.mul_nonneg h h
  ·have := Int.mul_nonneg (a := -z) (b := -z) (by omega) (by omega); rwa [Int.neg_mul_neg] at this
 have sb : ∀ x y : Int, Dif x → Dif y → 0 ≤ sqq x y ∧ sqq x y ≤ 800000000000000 := by
  intro x y hx hy
  have q1 := hx.mul hx
  have q2 := hy.mul hy
  have q3 := nn x
  have q4 := nn y
  unfold sqq
  omega
 have b1 := sb vx vy h3 h4
 have b2 := sb (vx - ux) (vy - uy) h5 h6
 have b3 := sb ux uy h1 h2
 have m1 := h1.mul h4
 have m2 := h2.mul h3
 have c0 := nn (ux * vy - uy * vx)
 have c2 : -800000000000000 ≤ ux * vy - uy * vx ∧ ux * vy - uy * vx ≤ 800000000000000 := by omega
 have c1 : (ux * vy - uy * vx) * (ux * vy - uy * vx) ≤ 640000000000000000000000000000 := by
  clear m1 m2
  generalize ux * vy - uy * vx = cr at *
  have q1 := Int.mul_nonneg (show 0 ≤ 800000000000000 - cr by omega) (show 0 ≤ 800000000000000 + cr by omega)
  have q2 : (800000000000000 - cr) * (800000000000000 + cr) = 640000000000000000000000000000 - cr * cr := by grind
  omega
 unfold gN gD
 refine ⟨?_, ?_⟩
 ·split
  ·rw [mg_of b1.1]; omega
  ·split
   ·rw [mg_of b2.1]; omega
   ·exact gq_le c0 c1
 ·split
  ·decide
  ·split
   ·decide
   ·unfold gqD
    have := gq_le (n := sqq ux uy) (d := (ux * vy - uy * vx) * (ux * vy - uy * vx)) (m := 640000000000000000000000000000) b3.1 (by omega)
    rw [Int.gcd_comm] at this
    exact this
open Go.RowKit

theorem limbs_of (k : Nat) : ∀ n : Int, 0 ≤ n → n < 4294967296 ^ k → ∃ zs, Lim zs ∧ Nrm zs ∧ val zs = n := by
 induction k with
 | zero =>
  intro n h0 h1
  have : n = 0 := by simp at h1; omega
  subst this
  exact ⟨[], Lim.nil, trivial, rfl⟩
 | succ k ih =>
  intro n h0 h1
  by_cases hz : n = 0
  ·subst hz; exact ⟨[], Lim.nil, trivial, rfl⟩
  ·have hq : n / 4294967296 < 4294967296 ^ k := by
    rw [Int.pow_succ] at h1
    exact Int.ediv_lt_of_lt_mul (by decide) h1
   obtain ⟨r, lr, nr, vr⟩ := ih (n / 4294967296) (Int.ediv_nonneg h0 (by decide)) hq
   have e := Int.mul_ediv_add_emod n 4294967296
   have m0 := Int.emod_nonneg n (show (4294967296 : Int) ≠ 0 by decide)
   have m1 := Int.emod_lt_of_pos n (show (0 : Int) < 4294967296 by decide)
   refine ⟨n % 4294967296 :: r, Lim.mk ⟨m0, m1⟩ lr, ?_, by simp only [val]; omega⟩
   cases r with
   | nil =>
    simp only [val] at vr
    simp only [Nrm]
    omega
   | cons x s => exact nr
theorem pow_big (n : Nat) : (n : Int) < 4294967296 ^ n := by
 induction n with
 | zero => decide
 | succ n ih => rw [Int.pow_succ]; omega
theorem limbs_mg (z : Int) : ∃ zs, Lim zs ∧ Nrm zs ∧ val zs = mg z := by
 have h0 : 0 ≤ mg z := by unfold mg; split <;> omega
 refine limbs_of (mg z).toNat (mg z) h0 ?_
 have := pow_big (mg z).toNat
 rw [Int.toNat_of_nonneg h0] at this
 exact this
open Go.RowKit

theorem l3Between_any (a b x : Int) (w : World) :
  Calls Tryz.prog 96 #[.int .i64 a, .int .i64 b, .int .i64 x] w fun e w' => e = .returned (.bool (btw a b x)) ∧ w' = w := by
 have H : Hid (btw a b x = (inB x a b || inB x b a)) := (rfl : btw a b x = _)
 cases h1 : inB x a b
 all_goals
  go_enter Tryz.func96, Tryz.ntmps96
  go_wp2_with (go_at_call 36; refine (l1In_any _ _ _ _).mono ?_; rintro e w' ⟨rfl, rfl⟩; try rw [h1])
  go_ret
  exact ⟨by rw [H.out, h1]; simp, rfl⟩

theorem rangesMeet_any (a b c d : Int) (w : World) :
  Calls Tryz.prog 149 #[.int .i64 a, .int .i64 b, .int .i64 c, .int .i64 d] w fun e w' => e = .returned (.bool (rng a b c d)) ∧ w' = w := by
 have H : Hid (rng a b c d = (decide (min a b ≤ max c d) && decide (min c d ≤ max a b))) := (rfl : rng a b c d = _)
 by_cases h1 : a ≤ b <;> by_cases h2 : c ≤ d
 all_goals
  go_enter Tryz.func149, Tryz.ntmps149
  go_wp2
 all_goals
  go_ret
  exact ⟨ret_bool (by rw [H.out, Bool.eq_iff_iff]; simp; omega), rfl⟩
open Go.RowKit

theorem ptbox2 (w : World) (x1 y1 x2 y2 : Int) (t : TypeId) : ((w.alloc (.cells #[.int .i64 x1, .int .i64 y1] t)).alloc (.cells #[.int .i64 x2, .int .i64 y2] t)).cell? ⟨w.heap.size, 0, none⟩ = some (.int .i64 x1) ∧ ((w.alloc (.cells #[.int .i64 x1, .int .i64 y1] t)).alloc (.cells #[.int .i64 x2, .int .i64 y2] t)).cell? ⟨w.heap.size, 1, none⟩ = some (.int .i64 y1) ∧ ((w.alloc (.cells #[.int .i64 x1, .int .i64 y1] t)).alloc (.cells #[.int .i64 x2, .int .i64 y2] t)).cell? ⟨w.heap.size + 1, 0, none⟩ = some (.int .i64 x2) ∧ ((w.alloc (.cells #[.int .i64 x1, .int .i64 y1] t)).alloc (.cells #[.int .i64 x2, .int .i64 y2] t)).cell? ⟨w.heap.size + 1, 1, none⟩ = some (.int .i64 y2) := by
 refine ⟨?_, ?_, ?_, ?_⟩ <;> simp [go_sem]
theorem ptbelow2 (w : World) (x1 y1 x2 y2 : Int) (t : TypeId) : Below w.heap.size w ((w.alloc (.cells #[.int .i64 x1, .int .i64 y1] t)).alloc (.cells #[.int .i64 x2, .int .i64 y2] t)) := below2 _ _ _
theorem ptbox3 (w : World) (x1 y1 x2 y2 x3 y3 : Int) (t : TypeId) : (((w.alloc (.cells #[.int .i64 x1, .int .i64 y1] t)).alloc (.cells #[.int .i64 x2, .int .i64 y2] t)).alloc (.cells #[.int .i64 x3, .int .i64 y3] t)).cell? ⟨w.heap.size, 0, none⟩ = some (.int .i64 x1) ∧ (((w.alloc (.cells #[.int .i64 x1, .int .i64 y1] t)).alloc (.cells #[.int .i64 x2, .int .i64 y2] t)).alloc (.cells #[.int .i64 x3, .int .i64 y3] t)).cell? ⟨w.heap.size, 1, none⟩ = some (.int .i64 y1) ∧ (((w.alloc (.cells #[.int .i64 x1, .int .i64 y1] t)).alloc (.cells #[.int .i64 x2, .int .i64 y2] t)).alloc (.cells #[.int .i64 x3, .int .i64 y3] t)).cell? ⟨w.heap.size + 1, 0, none⟩ = some (.int .i64 x2) ∧ (((w.alloc (.cells #[.int .i64 x1, .int .i64 y1] t)).alloc (.cells #[.int .i64 x2, .int .i64 y2] t)).alloc (.cells #[.int .i64 x3, .int .i64 y3] t)).cell? ⟨w.heap.size + 1, 1, none⟩ = some (.int .i64 y2) ∧ (((w.alloc (.cells #[.int .i64 x1, .int .i64 y1] t)).alloc (.cells #[.int .i64 x2, .int .i64 y2] t)).alloc (.cells #[.int .i64 x3, .int .i64 y3] t)).cell? ⟨w.heap.size + 1 + 1, 0, none⟩ = some (.int .i64 x3) ∧ (((w.alloc (.cells #[.int .i64 x1, .int .i64 y1] t)).alloc (.cells #[.int .i64 x2, .int .i64 y2] t)).alloc (.cells #[.int .i64 x3, .int .i64 y3] t)).cell? ⟨w.heap.size + 1 + 1, 1, none⟩ = some (.int .i64 y3) := by
 refine ⟨?_, ?_, ?_, ?_, ?_, ?_⟩ <;> simp [go_sem]
theorem ptkeep3 {W w' : World} {b : Nat} {x1 y1 x2 y2 x3 y3 : Int} (k : W.cell? ⟨b, 0, none⟩ = some (.int .i64 x1) ∧ W.cell? ⟨b, 1, none⟩ = some (.int .i64 y1) ∧ W.cell? ⟨b + 1, 0, none⟩ = some (.int .i64 x2) ∧ W.cell? ⟨b + 1, 1, none⟩ = some (.int .i64 y2) ∧ W.cell? ⟨b + 1 + 1, 0, none⟩ = some (.int .i64 x3) ∧ W.cell? ⟨b + 1 + 1, 1, none⟩ = some (.int .i64 y3)) (B : Below W.heap.size W w') : w'.cell? ⟨b, 0, none⟩ = some (.int .i64 x1) ∧ w'.cell? ⟨b, 1, none⟩ = some (.int .i64 y1) ∧ w'.cell? ⟨b + 1, 0, none⟩ = some (.int .i64 x2) ∧ w'.cell? ⟨b + 1, 1, none⟩ = some (.int .i64 y2) ∧ w'.cell? ⟨b + 1 + 1, 0, none⟩ = some (.int .i64 x3) ∧ w'.cell? ⟨b + 1 + 1, 1, none⟩ = some (.int .i64 y3) :=
 ⟨bat B k.1, bat B k.2.1, bat B k.2.2.1, bat B k.2.2.2.1, bat B k.2.2.2.2.1, bat B k.2.2.2.2.2⟩
theorem ptbelow3 (w : World) (x1 y1 x2 y2 x3 y3 : Int) (t : TypeId) : Below w.heap.size w (((w.alloc (.cells #[.int .i64 x1, .int .i64 y1] t)).alloc (.cells #[.int .i64 x2, .int .i64 y2] t)).alloc (.cells #[.int .i64 x3, .int .i64 y3] t)) := below3 _ _ _ _
theorem ptbox4 (w : World) (x1 y1 x2 y2 x3 y3 x4 y4 : Int) (t : TypeId) : ((((w.alloc (.cells #[.int .i64 x1, .int .i64 y1] t)).alloc (.cells #[.int .i64 x2, .int .i64 y2] t)).alloc (.cells #[.int .i64 x3, .int .i64 y3] t)).alloc (.cells #[.int .i64 x4, .int .i64 y4] t)).cell? ⟨w.heap.size, 0, none⟩ = some (.int .i64 x1) ∧ ((((w.alloc (.cells #[.int .i64 x1, .int .i64 y1] t)).alloc (.cells #[.int .i64 x2, .int .i64 y2] t)).alloc (.cells #[.int .i64 x3, .int .i64 y3] t)).alloc (.cells #[.int .i64 x4, .int .i64 y4] t)).cell? ⟨w.heap.size, 1, none⟩ = some (.int .i64 y1) ∧ ((((w.alloc (.cells #[.int .i64 x1, .int .i64 y1] t)).alloc (.cells #[.int .i64 x2, .int .i64 y2] t)).alloc (.cells #[.int .i64 x3, .int .i64 y3] t)).alloc (.cells #[.int .i64 x4, .int .i64 y4] t)).cell? ⟨w.heap.size + 1, 0, none⟩ = some (.int .i64 x2) ∧ ((((w.alloc (.cells #[.int .i64 x1, .int .i64 y1] t)).alloc (.cells #[.int .i64 x2, .int .i64 y2] t)).alloc (.cells #[.int .i64 x3, .int .i64 y3] t)).alloc (.cells #[.int .i64 x4, .int .i64 y4] t)).cell? ⟨w.heap.size + 1, 1, none⟩ = some (.int .i64 y2) ∧ ((((w.alloc (.cells #[.int .i64 x1, .int .i64 y1] t)).alloc (.cells #[.int .i64 x2, .int .i64 y2] t)).alloc (.cells #[.int .i64 x3, .int .i64 y3] t)).alloc (.cells #[.int .i64 x4, .int .i64 y4] t)).cell? ⟨w.heap.size + 1 + 1, 0, none⟩ = some (.int .i64 x3) ∧ ((((w.alloc (.cells #[.int .i64 x1, .int .i64 y1] t)).alloc (.cells #[.int .i64 x2, .int .i64 y2] t)).alloc (.cells #[.int .i64 x3, .int .i64 y3] t)).alloc (.cells #[.int .i64 x4, .int .i64 y4] t)).cell? ⟨w.heap.size + 1 + 1, 1, none⟩ = some (.int .i64 y3) ∧ ((((w.alloc (.cells #[.int .i64 x1, .int .i64 y1] t)).alloc (.cells #[.int .i64 x2, .int .i64 y2] t)).alloc (.cells #[.int .i64 x3, .int .i64 y3] t)).alloc (.cells #[.int .i64 x4, .int .i64 y4] t)).cell? ⟨w.heap.size + 1 + 1 + 1, 0, none⟩ = some (.int .i64 x4) ∧ ((((w.alloc (.cells #[.int .i64 x1, .int .i64 y1] t)).alloc (.cells #[.int .i64 x2, .int .i64 y2] t)).alloc (.cells #[.int .i64 x3, .int .i64 y3] t)).alloc (.cells #[.int .i64 x4, .int .i64 y4] t)).cell? ⟨w.heap.size + 1 + 1 + 1, 1, none⟩ = some (.int .i64 y4) := by
 refine ⟨?_, ?_, ?_, ?_, ?_, ?_, ?_, ?_⟩ <;> simp [go_sem]
theorem ptkeep4 {W w' : World} {b : Nat} {x1 y1 x2 y2 x3 y3 x4 y4 : Int} (k : W.cell? ⟨b, 0, none⟩ = some (.int .i64 x1) ∧ W.cell? ⟨b, 1, none⟩ = some (.int .i64 y1) ∧ W.cell? ⟨b + 1, 0, none⟩ = some (.int .i64 x2) ∧ W.cell? ⟨b + 1, 1, none⟩ = some (.int .i64 y2) ∧ W.cell? ⟨b + 1 + 1, 0, none⟩ = some (.int .i64 x3) ∧ W.cell? ⟨b + 1 + 1, 1, none⟩ = some (.int .i64 y3) ∧ W.cell? ⟨b + 1 + 1 + 1, 0, none⟩ = some (.int .i64 x4) ∧ W.cell? ⟨b + 1 + 1 + 1, 1, none⟩ = some (.int .i64 y4)) (B : Below W.heap.size W w') : w'.cell? ⟨b, 0, none⟩ = some (.int .i64 x1) ∧ w'.cell? ⟨b, 1, none⟩ = some (.int .i64 y1) ∧ w'.cell? ⟨b + 1, 0, none⟩ = some (.int .i64 x2) ∧ w'.cell? ⟨b + 1, 1, none⟩ = some (.int .i64 y2) ∧ w'.cell? ⟨b + 1 + 1, 0, none⟩ = some (.int .i64 x3) ∧ w'.cell? ⟨b + 1 + 1, 1, none⟩ = some (.int .i64 y3) ∧ w'.cell? ⟨b + 1 + 1 + 1, 0, none⟩ = some (.int .i64 x4) ∧ w'.cell? ⟨b + 1 + 1 + 1, 1, none⟩ = some (.int .i64 y4) :=
 ⟨bat B k.1, bat B k.2.1, bat B k.2.2.1, bat B k.2.2.2.1, bat B k.2.2.2.2.1, bat B k.2.2.2.2.2.1, bat B k.2.2.2.2.2.2.1, bat B k.2.2.2.2.2.2.2⟩
theorem ptbelow4 (w : World) (x1 y1 x2 y2 x3 y3 x4 y4 : Int) (t : TypeId) : Below w.heap.size w ((((w.alloc (.cells #[.int .i64 x1, .int .i64 y1] t)).alloc (.cells #[.int .i64 x2, .int .i64 y2] t)).alloc (.cells #[.int .i64 x3, .int .i64 y3] t)).alloc (.cells #[.int .i64 x4, .int .i64 y4] t)) := below4 _ _ _ _ _
open Go.RowKit

theorem frozen_new (w : World) (c : Array Value) (t : TypeId) (o : Nat) : (w.alloc (.cells c t)).frozen? ⟨w.heap.size, o, none⟩ = false := by
 simp [go_sem]

theorem put_new2 {w : World} {p : Nat} {x0 x1 : Value} (h0 : w.cell? ⟨p, 0, none⟩ = some x0) (h1 : w.cell? ⟨p, 1, none⟩ = some x1) (u0 u1 : Value) :
  ((w.setCell ⟨p, 0, none⟩ u0).setCell ⟨p, 1, none⟩ u1).cell? ⟨p, 0, none⟩ = some u0 ∧ ((w.setCell ⟨p, 0, none⟩ u0).setCell ⟨p, 1, none⟩ u1).cell? ⟨p, 1, none⟩ = some u1 := by
 refine ⟨?_, ?_⟩
 ·rw [World.cell?_setCell_other _ _ _ _ (by simp)]
  exact World.cell?_setCell_same _ _ _ h0
 ·refine World.cell?_setCell_same (u := x1) _ _ _ ?_
  rw [World.cell?_setCell_other _ _ _ _ (by simp)]
  exact h1
theorem put_old2 {w : World} {b b' o : Nat} (h : b' ≠ b) (u0 u1 : Value) : ((w.setCell ⟨b, 0, none⟩ u0).setCell ⟨b, 1, none⟩ u1).cell? ⟨b', o, none⟩ = w.cell? ⟨b', o, none⟩ := cell_put h
theorem put_frozen2 {w : World} (b : Nat) (a : Addr) (u0 u1 : Value) : ((w.setCell ⟨b, 0, none⟩ u0).setCell ⟨b, 1, none⟩ u1).frozen? a = w.frozen? a := by
 rw [World.frozen?_setCell, World.frozen?_setCell]
theorem Own.put1 {base p : Nat} {w : World} {a : Option Addr} {c : Nat} {xs : List Int} (h : Own base w a c xs) (r : some p ≠ rowOf a xs) (o : Nat) (u : Value) : Own base (w.setCell ⟨p, o, none⟩ u) a c xs :=
 h.kept (grownBy_setCell (grownBy_refl w (some p)) rfl u) (fun b off ha hn e => by
  apply r
  unfold rowOf
  rw [if_neg hn, ha]
  simpa using e)
theorem gt {l : List Oper} {i : Nat} {o : Oper} (h : l[i]? = some o) : l.toArray[i]? = some o := by simpa using h

structure Box2 (lo : Nat) (w : World) (p : Nat) (x0 x1 : Value) : Prop where
 c0 : w.cell? ⟨p, 0, none⟩ = some x0
 c1 : w.cell? ⟨p, 1, none⟩ = some x1
 fr : ∀ o, w.frozen? ⟨p, o, none⟩ = false
 lo : lo ≤ p
theorem Box2.new (w : World) {lo : Nat} (h : lo ≤ w.heap.size) (x0 x1 : Value) (t : TypeId) : Box2 lo (w.alloc (.cells #[x0, x1] t)) w.heap.size x0 x1 :=
 ⟨cell_new w #[x0, x1] t 0 rfl, cell_new w #[x0, x1] t 1 rfl, fun o => frozen_new _ _ _ o, h⟩
theorem Box2.lt {lo p : Nat} {w : World} {x0 x1 : Value} (h : Box2 lo w p x0 x1) : p < w.heap.size := World.block_lt_of_cell? _ _ h.c0
theorem Box2.below {lo p : Nat} {w w' : World} {x0 x1 : Value} (h : Box2 lo w p x0 x1) (hb : Below w.heap.size w w') : Box2 lo w' p x0 x1 :=
 ⟨bat hb h.c0, bat hb h.c1, fun o => (hb.frozen (p := ⟨p, o, none⟩) h.lt).trans (h.fr o), h.lo⟩
theorem Box2.put {lo p : Nat} {w : World} {x0 x1 : Value} (h : Box2 lo w p x0 x1) (u0 u1 : Value) : Box2 lo ((w.setCell ⟨p, 0, none⟩ u0).setCell ⟨p, 1, none⟩ u1) p u0 u1 :=
 ⟨(put_new2 h.c0 h.c1 u0 u1).1, (put_new2 h.c0 h.c1 u0 u1).2, fun o => (put_frozen2 p _ u0 u1).trans (h.fr o), h.lo⟩
theorem Box2.old {lo p q : Nat} {w : World} {x0 x1 : Value} (h : Box2 lo w q x0 x1) (ne : q ≠ p) (u0 u1 : Value) : Box2 lo ((w.setCell ⟨p, 0, none⟩ u0).setCell ⟨p, 1, none⟩ u1) q x0 x1 :=
 ⟨(put_old2 ne u0 u1).trans h.c0, (put_old2 ne u0 u1).trans h.c1, fun o => (put_frozen2 p _ u0 u1).trans (h.fr o), h.lo⟩
theorem Box2.chain {b : Nat} {W w : World} {p : Nat} {x0 x1 : Value} (N : Below b W w) (h : Box2 b w p x0 x1) (u0 u1 : Value) : Below b W ((w.setCell ⟨p, 0, none⟩ u0).setCell ⟨p, 1, none⟩ u1) :=
 (N.setCell (p := ⟨p, 0, none⟩) h.lo u0).setCell (p := ⟨p, 1, none⟩) h.lo u1

structure Box4 (lo : Nat) (w : World) (p : Nat) (x0 x1 x2 x3 : Value) : Prop where
 c0 : w.cell? ⟨p, 0, none⟩ = some x0
 c1 : w.cell? ⟨p, 1, none⟩ = some x1
 c2 : w.cell? ⟨p, 2, none⟩ = some x2
 c3 : w.cell? ⟨p, 3, none⟩ = some x3
 fr : ∀ o, w.frozen? ⟨p, o, none⟩ = false
 lo : lo ≤ p
theorem Box4.new (w : World) {lo : Nat} (h : lo ≤ w.heap.size) (x0 x1 x2 x3 : Value) (t : TypeId) : Box4 lo (w.alloc (.cells #[x0, x1, x2, x3] t)) w.heap.size x0 x1 x2 x3 :=
 ⟨cell_new w #[x0, x1, x2, x3] t 0 rfl, cell_new w #[x0, x1, x2, x3] t 1 rfl, cell_new w #[x0, x1, x2, x3] t 2 rfl, cell_new w #[x0, x1, x2, x3] t 3 rfl, fun o => frozen_new _ _ _ o, h⟩
theorem Box4.lt {lo p : Nat} {w : World} {x0 x1 x2 x3 : Value} (h : Box4 lo w p x0 x1 x2 x3) : p < w.heap.size := World.block_lt_of_cell? _ _ h.c0
theorem Box4.below {lo p : Nat} {w w' : World} {x0 x1 x2 x3 : Value} (h : Box4 lo w p x0 x1 x2 x3) (hb : Below w.heap.size w w') : Box4 lo w' p x0 x1 x2 x3 :=
 ⟨bat hb h.c0, bat hb h.c1, bat hb h.c2, bat hb h.c3, fun o => (hb.frozen (p := ⟨p, o, none⟩) h.lt).trans (h.fr o), h.lo⟩
theorem cell_same {w : World} {p o : Nat} {x : Value} (h : w.cell? ⟨p, o, none⟩ = some x) (u : Value) : (w.setCell ⟨p, o, none⟩ u).cell? ⟨p, o, none⟩ = some u := World.cell?_setCell_same _ _ _ h
theorem cell_other {w : World} {p o q i : Nat} (h : p ≠ q ∨ o ≠ i) (u : Value) : (w.setCell ⟨p, o, none⟩ u).cell? ⟨q, i, none⟩ = w.cell? ⟨q, i, none⟩ :=
 World.cell?_setCell_other _ _ _ _ (by intro e; simp only [Addr.mk.injEq] at e; rcases h with h | h <;> exact h (by simp [e]))
theorem Box4.put {lo p : Nat} {w : World} {x0 x1 x2 x3 : Value} (h : Box4 lo w p x0 x1 x2 x3) (u0 u1 u2 u3 : Value) : Box4 lo ((((w.setCell ⟨p, 0, none⟩ u0).setCell ⟨p, 1, none⟩ u1).setCell ⟨p, 2, none⟩ u2).setCell ⟨p, 3, none⟩ u3) p u0 u1 u2 u3 := by
 refine ⟨?_, ?_, ?_, ?_, fun o => ?_, h.lo⟩
 ·rw [cell_other (.inr (by decide)), cell_other (.inr (by decide)), cell_other (.inr (by decide))]; exact cell_same h.c0 u0
 ·rw [cell_other (.inr (by decide)), cell_other (.inr (by decide))]; exact cell_same ((cell_other (.inr (by decide)) u0).trans h.c1) u1
 ·rw [cell_other (.inr (by decide))]; exact cell_same (((cell_other (.inr (by decide)) u1).trans (cell_other (.inr (by decide)) u0)).trans h.c2) u2
 ·exact cell_same ((((cell_other (.inr (by decide)) u2).trans (cell_other (.inr (by decide)) u1)).trans (cell_other (.inr (by decide)) u0)).trans h.c3) u3
 ·rw [World.frozen?_setCell, World.frozen?_setCell, World.frozen?_setCell, World.frozen?_setCell]; exact h.fr o
theorem Box4.old {lo p q : Nat} {w : World} {x0 x1 x2 x3 : Value} (h : Box4 lo w q x0 x1 x2 x3) (ne : q ≠ p) (u0 u1 u2 u3 : Value) : Box4 lo ((((w.setCell ⟨p, 0, none⟩ u0).setCell ⟨p, 1, none⟩ u1).setCell ⟨p, 2, none⟩ u2).setCell ⟨p, 3, none⟩ u3) q x0 x1 x2 x3 := by
 have e : ∀ o, ((((w.setCell ⟨p, 0, none⟩ u0).setCell ⟨p, 1, none⟩ u1).setCell ⟨p, 2, none⟩ u2).setCell ⟨p, 3, none⟩ u3).cell? ⟨q, o, none⟩ = w.cell? ⟨q, o, none⟩ := fun o => by
  rw [cell_other (.inl ne.symm), cell_other (.inl ne.symm), cell_other (.inl ne.symm), cell_other (.inl ne.symm)]
 refine ⟨(e 0).trans h.c0, (e 1).trans h.c1, (e 2).trans h.c2, (e 3).trans h.c3, fun o => ?_, h.lo⟩
 rw [World.frozen?_setCell, World.frozen?_setCell, World.frozen?_setCell, World.frozen?_setCell]; exact h.fr o
theorem Box4.chain {b : Nat} {W w : World} {p : Nat} {x0 x1 x2 x3 : Value} (N : Below b W w) (h : Box4 b w p x0 x1 x2 x3) (u0 u1 u2 u3 : Value) : Below b W ((((w.setCell ⟨p, 0, none⟩ u0).setCell ⟨p, 1, none⟩ u1).setCell ⟨p, 2, none⟩ u2).setCell ⟨p, 3, none⟩ u3) :=
 (((N.setCell (p := ⟨p, 0, none⟩) h.lo u0).setCell (p := ⟨p, 1, none⟩) h.lo u1).setCell (p := ⟨p, 2, none⟩) h.lo u2).setCell (p := ⟨p, 3, none⟩) h.lo u3
theorem Own.put4 {base p : Nat} {w : World} {a : Option Addr} {c : Nat} {xs : List Int} (h : Own base w a c xs) (r : some p ≠ rowOf a xs) (u0 u1 u2 u3 : Value) : Own base ((((w.setCell ⟨p, 0, none⟩ u0).setCell ⟨p, 1, none⟩ u1).setCell ⟨p, 2, none⟩ u2).setCell ⟨p, 3, none⟩ u3) a c xs :=
 (((h.put1 r 0 u0).put1 r 1 u1).put1 r 2 u2).put1 r 3 u3
open Go.RowKit

def eqP (a b c d : Int) : Bool := decide (a = c) && decide (b = d)
theorem eqP_refl (a b : Int) : eqP a b a b = true := by simp [eqP]
theorem eqPt_any (a b c d : Int) (w : World) :
  Calls Tryz.prog 90 #[.agg #[.int .i64 a, .int .i64 b], .agg #[.int .i64 c, .int .i64 d]] w fun e w' => e = .returned (.bool (eqP a b c d)) ∧ Below w.heap.size w w' := by
 have H : Hid (eqP a b c d = (decide (a = c) && decide (b = d))) := (rfl : eqP a b c d = _)
 go_enter Tryz.func90, Tryz.ntmps90
 go_wp2
 all_goals
  go_ret
  exact ⟨ret_bool (by rw [H.out]; simp_all), below2 _ _ _⟩

open Go.RowKit

structure SeesP (w : World) (a : Option Addr) (cap : Nat) (ps : List (Int × Int)) : Prop where
 fits : ps.length ≤ cap
 max : cap ≤ maxLen
 cells : ps ≠ [] → ∃ b off, a = some ⟨b, off, none⟩ ∧ ∀ i, i < ps.length → w.cell? ⟨b, off + i * 2, none⟩ = some (.int .i64 (ps[i]?.getD (0, 0)).1) ∧ w.cell? ⟨b, off + i * 2 + 1, none⟩ = some (.int .i64 (ps[i]?.getD (0, 0)).2)
theorem SeesP.below {w w' : World} {a : Option Addr} {cap : Nat} {ps : List (Int × Int)} (h : SeesP w a cap ps) (hb : Below w.heap.size w w') : SeesP w' a cap ps :=
 ⟨h.fits, h.max, fun hn => by
  obtain ⟨b, off, ha, hc⟩ := h.cells hn
  exact ⟨b, off, ha, fun i hi => ⟨bat hb (hc i hi).1, bat hb (hc i hi).2⟩⟩⟩

def okL (ps : List (Int × Int)) : Bool := ps.all fun p => ptOk p.1 p.2
def hd (ps : List (Int × Int)) : Int × Int := ps[0]?.getD (0, 0)
theorem takeS {ps : List (Int × Int)} {j : Nat} (h : j < ps.length) : ps.take (j + 1) = ps.take j ++ [ps[j]?.getD (0, 0)] := by
 rw [List.take_succ_eq_append_getElem h, List.getElem?_eq_getElem h]
 rfl
open Go.RowKit

theorem one_new (w : World) (e : TypeId) (y : Int) : ∀ j u, ([y].map (Value.int .u32))[j]? = some u → (w.alloc (.cells #[.int .u32 y] e)).cell? ((⟨w.heap.size, 0, none⟩ : Addr).add j) = some u := by
 intro j u hu
 cases j with
 | zero =>
  simp at hu
  subst hu
  exact cell_new w #[.int .u32 y] e 0 rfl
 | succ j => simp at hu

theorem ownsRow_snoc {w : World} {base e n : Nat} {v : Value} {ws : List Int} {y : Int} (h : w.ownsRow base e 1 v n (ws.map (Value.int .u32) ++ [y].map (Value.int .u32))) : w.ownsRow base e 1 v n ((ws ++ [y]).map (Value.int .u32)) := by
 rw [List.map_append]; exact h

set_option maxHeartbeats 2000000 in
theorem l1AddMagC (a b : Option Addr) (c d : Nat) (xs ys : List Int) (w : World) (h : Sees w a c xs) (k : Sees w b d ys) (hx : xs.length ≤ 1048576) (hy : ys.length ≤ 1048576) :
  Calls Tryz.prog 100 #[.slice a xs.length c, .slice b ys.length d] w fun e w' => ∃ a' c' zs, e = .returned (.slice a' zs.length c') ∧ Own w.heap.size w' a' c' zs ∧ val zs = val xs + val ys ∧ (zs.length ≤ xs.length + 1 ∨ zs.length ≤ ys.length + 1) ∧ Below w.heap.size w w' := by
 obtain ⟨i0, hi, hz0, hz1, hz2⟩ := info_parts infoU
 have HX : Hid (xs.length ≤ 1048576) := hx
 have HY : Hid (ys.length ≤ 1048576) := hy
 have mx : xs.length ≤ 9223372036854775800 := by omega
 have my : ys.length ≤ 9223372036854775800 := by omega
 have LX : Hid (Lim xs) := h.lim
 have LY : Hid (Lim ys) := k.lim
 clear hx hy
 go_enter Tryz.func100, Tryz.ntmps100
 go_wp2
 go_loopw [5, 6, 7] (fun v q i wr => ∃ (j : Nat) (cr : Int) (ws : List Int), (j ≤ xs.length ∨ j ≤ ys.length) ∧ i = .int .i64 j ∧ q = .int .u64 cr ∧ 0 ≤ cr ∧ cr ≤ 1 ∧ wr.ownsRow w.heap.size 100 1 v j (ws.map (Value.int .u32)) ∧ Hid (ws.length = j ∧ Lim ws) ∧ Below w.heap.size w wr ∧ Hid (val ws + 4294967296 ^ j * cr = val (xs.take j) + val (ys.take j)))
  (fun _ _ i _ => (xs.length + ys.length) - (intOf i).toNat)
 case atStart => exact ⟨0, 0, [], .inl (Nat.zero_le _), rfl, rfl, by decide, by decide, ownsRow_empty1 _ _, ⟨rfl, Lim.nil⟩, below1 _ _, by simp [Hid, val]⟩
 case round =>
  obtain ⟨j, cr, ws, hj, rfl, rfl, c0, c1, hown, hw, hB, he⟩ := hrel
  have hm1 : j ≤ 9223372036854775800 := by rcases hj with h1 | h1 <;> omega
  have HJ : Hid (j + 1 ≤ maxLen ∧ (j + 1) * 4 ≤ 140737488355328) := by
   have h1 := HX.out
   have h2 := HY.out
   refine ⟨?_, ?_⟩
   ·unfold maxLen; rcases hj with h3 | h3 <;> omega
   ·rcases hj with h3 | h3 <;> omega
  have hx := LX.out.get j
  have hy := LY.out.get j
  have hr := add_round hw.out.1 he.out
  have hxs := h.below hB
  have hys := k.below hB
  have hsz := hB.size
  by_cases ha : j < xs.length
  ·by_cases hb : j < ys.length
   ·skip
    obtain ⟨b1, o1, rfl, hc1⟩ := hxs.cells (by intro e; simp [e] at ha)
    have g1 := hc1 j ha
    obtain ⟨b2, o2, rfl, hc2⟩ := hys.cells (by intro e; simp [e] at hb)
    have g2 := hc2 j hb
    have HR : Hid (val (ws ++ [(cr + xs[j]?.getD 0 + ys[j]?.getD 0) % 4294967296]) + 4294967296 ^ (j + 1) * ((cr + xs[j]?.getD 0 + ys[j]?.getD 0) / 4294967296) = val (xs.take (j + 1)) + val (ys.take (j + 1))) := hr
    have HW : Hid ((ws ++ [(cr + xs[j]?.getD 0 + ys[j]?.getD 0) % 4294967296]).length = j + 1 ∧ Lim (ws ++ [(cr + xs[j]?.getD 0 + ys[j]?.getD 0) % 4294967296])) := ⟨by simp [hw.out.1], hw.out.2.snoc (by omega)⟩
    have hjj : j + 1 ≤ xs.length ∨ j + 1 ≤ ys.length := by omega
    clear hr hxs hys h k he hw hj hc1 hc2
    generalize xs[j]?.getD 0 = x at *
    generalize ys[j]?.getD 0 = y at *
    go_wp2_with (at_builtin; refine wpList_append_own _ rfl (.tmp 45) (.tmp 48) 28 rfl w.heap.size 100 i0 (.int .u32 0) 1 4 Tryz.underlying28 hi hz0 hz1 hz2 rfl (by decide) _ j (ws.map (Value.int .u32)) rfl (hown.alloc _) ⟨wr.heap.size, 0, none⟩ 1 _ ([(cr + x + y) % 4294967296].map (Value.int .u32)) rfl rfl (one_new _ _ _) (ones _) HJ.out.1 HJ.out.2 (by simp <;> omega) ?_; intro v' w' hown' hgrow' _; have hB' : Below w.heap.size w w' := ((hB.trans ((below1 wr _).mono hsz)).grown hgrow' (by simp <;> omega) (fun q hq => (hown.lt q hq).1)); have hown2 := ownsRow_snoc hown'; clear hown' hgrow')
    clear HJ
    exact ⟨⟨j + 1, (cr + x + y) / 4294967296, _, hjj, by go_num, rfl, by omega, by omega, hown2, HW, hB', HR⟩, by simp [intOf]; omega⟩
   ·skip
    obtain ⟨b1, o1, rfl, hc1⟩ := hxs.cells (by intro e; simp [e] at ha)
    have g1 := hc1 j ha
    have ey : ys[j]?.getD 0 = 0 := by rw [List.getElem?_eq_none (by omega)]; rfl
    rw [ey] at hr
    simp only [Int.add_zero] at hr
    have HR : Hid (val (ws ++ [(cr + xs[j]?.getD 0) % 4294967296]) + 4294967296 ^ (j + 1) * ((cr + xs[j]?.getD 0) / 4294967296) = val (xs.take (j + 1)) + val (ys.take (j + 1))) := hr
    have HW : Hid ((ws ++ [(cr + xs[j]?.getD 0) % 4294967296]).length = j + 1 ∧ Lim (ws ++ [(cr + xs[j]?.getD 0) % 4294967296])) := ⟨by simp [hw.out.1], hw.out.2.snoc (by omega)⟩
    have hjj : j + 1 ≤ xs.length ∨ j + 1 ≤ ys.length := by omega
    clear hr hxs hys h k he hw hj hc1 ey hy
    generalize xs[j]?.getD 0 = x at *
    go_wp2_with (at_builtin; refine wpList_append_own _ rfl (.tmp 45) (.tmp 48) 28 rfl w.heap.size 100 i0 (.int .u32 0) 1 4 Tryz.underlying28 hi hz0 hz1 hz2 rfl (by decide) _ j (ws.map (Value.int .u32)) rfl (hown.alloc _) ⟨wr.heap.size, 0, none⟩ 1 _ ([(cr + x) % 4294967296].map (Value.int .u32)) rfl rfl (one_new _ _ _) (ones _) HJ.out.1 HJ.out.2 (by simp <;> omega) ?_; intro v' w' hown' hgrow' _; have hB' : Below w.heap.size w w' := ((hB.trans ((below1 wr _).mono hsz)).grown hgrow' (by simp <;> omega) (fun q hq => (hown.lt q hq).1)); have hown2 := ownsRow_snoc hown'; clear hown' hgrow')
    clear HJ
    exact ⟨⟨j + 1, (cr + x) / 4294967296, _, hjj, by go_num, rfl, by omega, by omega, hown2, HW, hB', HR⟩, by simp [intOf]; omega⟩
  ·by_cases hb : j < ys.length
   ·skip
    have ex : xs[j]?.getD 0 = 0 := by rw [List.getElem?_eq_none (by omega)]; rfl
    rw [ex] at hr
    obtain ⟨b2, o2, rfl, hc2⟩ := hys.cells (by intro e; simp [e] at hb)
    have g2 := hc2 j hb
    simp only [Int.add_zero] at hr
    have HR : Hid (val (ws ++ [(cr + ys[j]?.getD 0) % 4294967296]) + 4294967296 ^ (j + 1) * ((cr + ys[j]?.getD 0) / 4294967296) = val (xs.take (j + 1)) + val (ys.take (j + 1))) := hr
    have HW : Hid ((ws ++ [(cr + ys[j]?.getD 0) % 4294967296]).length = j + 1 ∧ Lim (ws ++ [(cr + ys[j]?.getD 0) % 4294967296])) := ⟨by simp [hw.out.1], hw.out.2.snoc (by omega)⟩
    have hjj : j + 1 ≤ xs.length ∨ j + 1 ≤ ys.length := by omega
    clear hr hxs hys h k he hw hj ex hx hc2
    generalize ys[j]?.getD 0 = y at *
    go_wp2_with (at_builtin; refine wpList_append_own _ rfl (.tmp 45) (.tmp 48) 28 rfl w.heap.size 100 i0 (.int .u32 0) 1 4 Tryz.underlying28 hi hz0 hz1 hz2 rfl (by decide) _ j (ws.map (Value.int .u32)) rfl (hown.alloc _) ⟨wr.heap.size, 0, none⟩ 1 _ ([(cr + y) % 4294967296].map (Value.int .u32)) rfl rfl (one_new _ _ _) (ones _) HJ.out.1 HJ.out.2 (by simp <;> omega) ?_; intro v' w' hown' hgrow' _; have hB' : Below w.heap.size w w' := ((hB.trans ((below1 wr _).mono hsz)).grown hgrow' (by simp <;> omega) (fun q hq => (hown.lt q hq).1)); have hown2 := ownsRow_snoc hown'; clear hown' hgrow')
    clear HJ
    exact ⟨⟨j + 1, (cr + y) / 4294967296, _, hjj, by go_num, rfl, by omega, by omega, hown2, HW, hB', HR⟩, by simp [intOf]; omega⟩
   ·have E : Hid (val ws + 4294967296 ^ j * cr = val xs + val ys) := by
     have := he.out
     rw [List.take_of_length_le (by omega), List.take_of_length_le (by omega)] at this
     exact this
    clear hr hxs hys h k he hx hy
    go_wp2_with (at_builtin; refine wpList_append_own _ rfl (.tmp 52) (.tmp 55) 28 rfl w.heap.size 100 i0 (.int .u32 0) 1 4 Tryz.underlying28 hi hz0 hz1 hz2 rfl (by decide) _ j (ws.map (Value.int .u32)) rfl (hown.alloc _) ⟨wr.heap.size, 0, none⟩ 1 _ ([cr].map (Value.int .u32)) rfl rfl (one_new _ _ _) (ones _) HJ.out.1 HJ.out.2 (by simp <;> omega) ?_; intro v' w' hown' hgrow' _; have hB' : Below w.heap.size w w' := ((hB.trans ((below1 wr _).mono hsz)).grown hgrow' (by simp <;> omega) (fun q hq => (hown.lt q hq).1)); have hown2 := ownsRow_snoc hown'; clear hown' hgrow')
    obtain ⟨g, cap', hv, ho⟩ := Own.of_append hown2 (hw.out.2.snoc (by omega)) (by omega)
    go_ret
    refine ⟨_, _, _, by rw [hv]; rfl, ho, ?_, ?_, hB'⟩
    ·rw [val_snoc, hw.out.1]; exact E.out
    ·have h1 := hw.out.1
     simp only [List.length_append, List.length_singleton, h1]
     omega
theorem Own.of_owns {w : World} {base e n : Nat} {v : Value} {xs : List Int} (h : w.ownsRow base e 1 v n (xs.map (Value.int .u32))) (hl : Lim xs) :
  ∃ a cap, v = .slice a xs.length cap ∧ Own base w a cap xs := by
 rcases Nat.eq_zero_or_pos n with h0 | h0
 ·have h1 : xs.length = 0 := by have := h.1; simp at this; omega
  obtain rfl : xs = [] := List.eq_nil_of_length_eq_zero h1
  rcases h.2 with ⟨rfl, _⟩ | ⟨g, cap, cur, rfl, _, _, _, hm, _⟩
  ·exact ⟨none, 0, rfl, Own.nil _ _⟩
  ·subst h0
   exact ⟨_, cap, rfl, ⟨⟨Lim.nil, by simp, hm, fun h => absurd rfl h⟩, .inr ⟨_, _, rfl⟩⟩, fun _ _ _ h => absurd rfl h⟩
 ·obtain ⟨g, cap, hv, ho⟩ := Own.of_append h hl h0
  exact ⟨_, cap, hv, ho⟩

set_option maxHeartbeats 2000000 in
theorem l1SubMagC (a b : Option Addr) (c d : Nat) (xs ys : List Int) (w : World) (h : Sees w a c xs) (k : Sees w b d ys) (hx : xs.length ≤ 2097152) (hl : ys.length ≤ xs.length) (hv : val ys ≤ val xs) :
  Calls Tryz.prog 102 #[.slice a xs.length c, .slice b ys.length d] w fun e w' => ∃ a' c' zs, e = .returned (.slice a' zs.length c') ∧ Own w.heap.size w' a' c' zs ∧ val zs = val xs - val ys ∧ zs.length = xs.length ∧ Below w.heap.size w w' := by
 obtain ⟨i0, hi, hz0, hz1, hz2⟩ := info_parts infoU
 have HX : Hid (xs.length ≤ 2097152) := hx
 have HV : Hid (val ys ≤ val xs) := hv
 have mx : xs.length ≤ 9223372036854775800 := by omega
 have LX : Hid (Lim xs) := h.lim
 have LY : Hid (Lim ys) := k.lim
 clear hx hv
 go_enter Tryz.func102, Tryz.ntmps102
 go_wp2
 go_loopw [5, 6, 7] (fun v q i wr => ∃ (j : Nat) (cr : Int) (ws : List Int), j ≤ xs.length ∧ i = .int .i64 j ∧ q = .int .u64 cr ∧ 0 ≤ cr ∧ cr ≤ 1 ∧ wr.ownsRow w.heap.size 100 1 v j (ws.map (Value.int .u32)) ∧ Hid (ws.length = j ∧ Lim ws) ∧ Below w.heap.size w wr ∧ Hid (val ws - 4294967296 ^ j * cr = val (xs.take j) - 1 * val (ys.take j)))
  (fun _ _ i _ => xs.length - (intOf i).toNat)
 case atStart => exact ⟨0, 0, [], Nat.zero_le _, rfl, rfl, by decide, by decide, ownsRow_empty1 _ _, ⟨rfl, Lim.nil⟩, below1 _ _, by simp [Hid, val]⟩
 case round =>
  obtain ⟨j, cr, ws, hj, rfl, rfl, c0, c1, hown, hw, hB, he⟩ := hrel
  have HJ : Hid (j + 1 ≤ maxLen ∧ (j + 1) * 4 ≤ 140737488355328) := by
   have h1 := HX.out
   refine ⟨?_, ?_⟩
   ·unfold maxLen; omega
   ·omega
  have hx := LX.out.get j
  have hy := LY.out.get j
  have hr := fun x q hxq => sub_round (x := x) (q := q) hw.out.1 he.out hxq
  have hxs := h.below hB
  have hys := k.below hB
  have hsz := hB.size
  by_cases ha : j < xs.length
  ·obtain ⟨b1, o1, rfl, hc1⟩ := hxs.cells (by intro e; simp [e] at ha)
   have g1 := hc1 j ha
   by_cases hb : j < ys.length
   ·obtain ⟨b2, o2, rfl, hc2⟩ := hys.cells (by intro e; simp [e] at hb)
    have g2 := hc2 j hb
    have HR : Hid (val (ws ++ [(xs[j]?.getD 0 + 4294967296 - cr - ys[j]?.getD 0) % 4294967296]) - 4294967296 ^ (j + 1) * (1 - (xs[j]?.getD 0 + 4294967296 - cr - ys[j]?.getD 0) / 4294967296) = val (xs.take (j + 1)) - 1 * val (ys.take (j + 1))) := hr _ _ (by omega)
    have HW : Hid ((ws ++ [(xs[j]?.getD 0 + 4294967296 - cr - ys[j]?.getD 0) % 4294967296]).length = j + 1 ∧ Lim (ws ++ [(xs[j]?.getD 0 + 4294967296 - cr - ys[j]?.getD 0) % 4294967296])) := ⟨by simp [hw.out.1], hw.out.2.snoc (by omega)⟩
    clear hr hxs hys h k he hw hj hc1 hc2
    generalize xs[j]?.getD 0 = x at *
    generalize ys[j]?.getD 0 = y at *
    go_wp2_with (at_builtin; refine wpList_append_own _ rfl (.tmp 35) (.tmp 38) 28 rfl w.heap.size 100 i0 (.int .u32 0) 1 4 Tryz.underlying28 hi hz0 hz1 hz2 rfl (by decide) _ j (ws.map (Value.int .u32)) rfl (hown.alloc _) ⟨wr.heap.size, 0, none⟩ 1 _ ([(x + 4294967296 - cr - y) % 4294967296].map (Value.int .u32)) rfl rfl (one_new _ _ _) (ones _) HJ.out.1 HJ.out.2 (by simp <;> omega) ?_; intro v' w' hown' hgrow' _; have hB' : Below w.heap.size w w' := ((hB.trans ((below1 wr _).mono hsz)).grown hgrow' (by simp <;> omega) (fun q hq => (hown.lt q hq).1)); have hown2 := ownsRow_snoc hown'; clear hown' hgrow')
    clear HJ
    exact ⟨⟨j + 1, 1 - (x + 4294967296 - cr - y) / 4294967296, _, by omega, by go_num, rfl, by omega, by omega, hown2, HW, hB', HR⟩, by simp [intOf]; omega⟩
   ·have ey : ys[j]?.getD 0 = 0 := by rw [List.getElem?_eq_none (by omega)]; rfl
    have HR : Hid (val (ws ++ [(xs[j]?.getD 0 + 4294967296 - cr) % 4294967296]) - 4294967296 ^ (j + 1) * (1 - (xs[j]?.getD 0 + 4294967296 - cr) / 4294967296) = val (xs.take (j + 1)) - 1 * val (ys.take (j + 1))) := hr _ _ (by omega)
    have HW : Hid ((ws ++ [(xs[j]?.getD 0 + 4294967296 - cr) % 4294967296]).length = j + 1 ∧ Lim (ws ++ [(xs[j]?.getD 0 + 4294967296 - cr) % 4294967296])) := ⟨by simp [hw.out.1], hw.out.2.snoc (by omega)⟩
    clear hr hxs hys h k he hw hj hc1 ey hy
    generalize xs[j]?.getD 0 = x at *
    go_wp2_with (at_builtin; refine wpList_append_own _ rfl (.tmp 35) (.tmp 38) 28 rfl w.heap.size 100 i0 (.int .u32 0) 1 4 Tryz.underlying28 hi hz0 hz1 hz2 rfl (by decide) _ j (ws.map (Value.int .u32)) rfl (hown.alloc _) ⟨wr.heap.size, 0, none⟩ 1 _ ([(x + 4294967296 - cr) % 4294967296].map (Value.int .u32)) rfl rfl (one_new _ _ _) (ones _) HJ.out.1 HJ.out.2 (by simp <;> omega) ?_; intro v' w' hown' hgrow' _; have hB' : Below w.heap.size w w' := ((hB.trans ((below1 wr _).mono hsz)).grown hgrow' (by simp <;> omega) (fun q hq => (hown.lt q hq).1)); have hown2 := ownsRow_snoc hown'; clear hown' hgrow')
    clear HJ
    exact ⟨⟨j + 1, 1 - (x + 4294967296 - cr) / 4294967296, _, by omega, by go_num, rfl, by omega, by omega, hown2, HW, hB', HR⟩, by simp [intOf]; omega⟩
  ·have hjx : xs.length = j := by omega
   have E : Hid (val ws - 4294967296 ^ xs.length * cr = val xs - val ys) := by
    have := he.out
    rw [List.take_of_length_le (by omega), List.take_of_length_le (by omega), Int.one_mul, ← hjx] at this
    exact this
   have HJX : Hid (xs.length = j) := hjx
   clear hr hxs hys h k he hx hy hjx
   obtain ⟨a2, c2, rfl, ho⟩ := Own.of_owns hown hw.out.2
   go_wp2
   go_ret
   refine ⟨_, _, _, rfl, ho, ?_, by rw [hw.out.1, HJX.out], hB⟩
   have h1 := E.out
   have h2 := HV.out
   have h3 := val_lt hw.out.2
   have h4 := val_nonneg hw.out.2
   have h6 := val_nonneg LY.out
   have h7 := val_lt LX.out
   rw [hw.out.1, ← HJX.out] at h3
   have h5 := p_pos xs.length
   by_cases hc : cr = 0
   ·subst hc; simp at h1; omega
   ·have : 4294967296 ^ xs.length * 1 ≤ 4294967296 ^ xs.length * cr := Int.mul_le_mul_of_nonneg_left (by omega) (by omega)
    omega
open Go.RowKit

/-! ### Divided by ten, limb by limb -/
/-! ### The digits so far -/
/-! ### Turned around in place -/
open Go.RowKit

theorem grown_of_below {w w' : World} (h : Below w.heap.size w w') : w.grownBy w' none := ⟨h.os, h.tape, h.output, h.size, fun i hi _ => h.block i hi⟩
theorem owns_below {w w' : World} {base e size n : Nat} {v : Value} {xs : List Value} (h : w.ownsRow base e size v n xs) (hb : Below w.heap.size w w') : w'.ownsRow base e size v n xs := by
 refine h.kept (grown_of_below hb) ?_
 cases e : v.ownBlock with
 | none => exact .inl rfl
 | some k => exact .inr (by simp)

theorem row_base {w : World} {base base' : Nat} {e : TypeId} {size : Nat} {v : Value} {n : Nat} {xs : List Value} (h : w.ownsRow base e size v n xs) (hb : base' ≤ base) : w.ownsRow base' e size v n xs := by
 obtain ⟨h1, h2⟩ := h
 refine ⟨h1, ?_⟩
 rcases h2 with h2 | ⟨q, cap, cur, hv, hb', r⟩
 ·exact .inl h2
 ·exact .inr ⟨q, cap, cur, hv, Nat.le_trans hb hb', r⟩
open Go.RowKit

open Go.RowKit

open Go.RowKit

theorem infoPt : (Tryz.prog.info? 38).map (fun i => (i.zero, i.size, i.bytes)) = some (some (.agg #[.int .i64 0, .int .i64 0]), 2, 16) := by kernel_rfl
def ptC (ps : List (Int × Int)) : List Value := ps.flatMap fun p => [.int .i64 p.1, .int .i64 p.2]
theorem ptC_append (ps qs : List (Int × Int)) : ptC (ps ++ qs) = ptC ps ++ ptC qs := by simp [ptC]
theorem ptC_at : ∀ (ps : List (Int × Int)) (j : Nat), j < ps.length → (ptC ps)[j * 2]? = some (.int .i64 (ps[j]?.getD (0, 0)).1) ∧ (ptC ps)[j * 2 + 1]? = some (.int .i64 (ps[j]?.getD (0, 0)).2)
 | [], j, h => absurd h (by simp)
 | p :: r, 0, _ => ⟨rfl, rfl⟩
 | p :: r, j + 1, h => by
  have ih := ptC_at r j (by simpa using h)
  have e : ptC (p :: r) = [.int .i64 p.1, .int .i64 p.2] ++ ptC r := rfl
  rw [e, show (j + 1) * 2 = 2 + j * 2 by omega, show 2 + j * 2 + 1 = 2 + (j * 2 + 1) by omega, List.getElem?_append_right (by simp), List.getElem?_append_right (by simp)]
  simpa using ih
theorem ptC_ones (ps : List (Int × Int)) : ∀ u ∈ ptC ps, u.oneCell' = true := by
 intro u hu
 simp only [ptC, List.mem_flatMap] at hu
 obtain ⟨p, _, h⟩ := hu
 simp only [List.mem_cons, List.not_mem_nil, or_false] at h
 rcases h with rfl | rfl <;> rfl
def RowPt (base : Nat) (w : World) (v : Value) (ps : List (Int × Int)) : Prop := w.ownsRow base 38 2 v ps.length (ptC ps)
theorem RowPt.nil (base : Nat) (w : World) : RowPt base w (.slice none 0 0) [] := ⟨rfl, .inl ⟨rfl, rfl⟩⟩
theorem RowPt.below {base : Nat} {w w' : World} {v : Value} {ps : List (Int × Int)} (h : RowPt base w v ps) (hb : Below w.heap.size w w') : RowPt base w' v ps := owns_below h hb
theorem RowPt.shape {base : Nat} {w : World} {v : Value} {ps : List (Int × Int)} (h : RowPt base w v ps) : ∃ a cap, v = .slice a ps.length cap ∧ ps.length ≤ cap ∧ cap ≤ maxLen := by
 rcases h.2 with ⟨hv, h0⟩ | ⟨q, cap, cur, hv, _, _, hf, hm, _⟩
 ·exact ⟨none, 0, by rw [hv, h0], by omega, by simp [maxLen]⟩
 ·exact ⟨_, cap, hv, hf, hm⟩
theorem RowPt.seesP {base : Nat} {w : World} {a : Option Addr} {cap : Nat} {ps : List (Int × Int)} (h : RowPt base w (.slice a ps.length cap) ps) : SeesP w a cap ps := by
 rcases h.2 with ⟨hv, h0⟩ | ⟨q, cap', cur, hv, hb, hh, hf, hm, hs, ht⟩
 ·injection hv with h1 h2 h3
  subst h1 h3
  exact ⟨by omega, by simp [maxLen], fun hn => absurd (List.eq_nil_of_length_eq_zero h0) hn⟩
 ·injection hv with h1 h2 h3
  subst h1 h3
  refine ⟨hf, hm, fun _ => ⟨q, 0, rfl, fun i hi => ?_⟩⟩
  have c : ∀ k u, (ptC ps)[k]? = some u → w.cell? ⟨q, 0 + k, none⟩ = some u := by
   intro k u hk
   rw [← ht] at hk
   have hk2 : k < ps.length * 2 := by
    have := (List.getElem?_eq_some_iff.mp hk).1
    rw [List.length_take] at this
    omega
   rw [List.getElem?_take_of_lt hk2] at hk
   rw [Nat.zero_add]
   exact (cell_of_row w q k _ _ _ hh).trans (by simpa using hk)
  obtain ⟨c1, c2⟩ := ptC_at ps i hi
  exact ⟨c _ _ c1, by have := c _ _ c2; rwa [← Nat.add_assoc] at this⟩
theorem pt_new (w : World) (e : TypeId) (x y : Int) : ∀ j u, (ptC [(x, y)])[j]? = some u → (w.alloc (.cells #[.int .i64 x, .int .i64 y] e)).cell? ((⟨w.heap.size, 0, none⟩ : Addr).add j) = some u := by
 intro j u hu
 rcases j with _ | _ | j
 ·simp [ptC] at hu; subst hu; exact cell_new w #[.int .i64 x, .int .i64 y] e 0 rfl
 ·simp [ptC] at hu; subst hu; exact cell_new w #[.int .i64 x, .int .i64 y] e 1 rfl
 ·simp [ptC] at hu
theorem RowPt.snoc {base : Nat} {w : World} {v : Value} {ps : List (Int × Int)} {x y : Int} (h : w.ownsRow base 38 2 v (ps.length + 1) (ptC ps ++ ptC [(x, y)])) : RowPt base w v (ps ++ [(x, y)]) := by
 unfold RowPt
 rw [ptC_append, List.length_append]
 exact h
end Go.Proofs.YtnjbedhealpgcaaGreat
