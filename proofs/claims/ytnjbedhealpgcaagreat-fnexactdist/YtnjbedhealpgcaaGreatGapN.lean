/- What holds of gaps, over the whole numbers. No program is named here. -/
import Derived.Test.YtnjbedhealpgcaaGreatGapM
import Derived.Test.YtnjbedhealpgcaaGreatPtG
namespace Go.Proofs.YtnjbedhealpgcaaGreat

theorem nn (z : Int) : 0 ≤ z * z := by
 rcases Int.le_total 0 z with h | h
 ·exact Int.mul_nonneg h h
 ·have := Int.mul_nonneg (a := -z) (b := -z) (by omega) (by omega); rwa [Int.neg_mul_neg] at this
theorem sqq_nonneg (x y : Int) : 0 ≤ sqq x y := by have := nn x; have := nn y; unfold sqq; omega
theorem gq_parts {n d : Int} (hd : 0 < d) : ∃ g : Int, 0 < g ∧ gqN n d * g = n ∧ gqD n d * g = d := by
 have g0 : 0 < (Int.gcd n d : Int) := by
  have : 0 < Int.gcd n d := Int.gcd_pos_of_ne_zero_right _ (by omega)
  omega
 exact ⟨Int.gcd n d, g0, Int.ediv_mul_cancel (Int.gcd_dvd_left _ _), Int.ediv_mul_cancel (Int.gcd_dvd_right _ _)⟩
theorem pos_of_mul {a g : Int} (hg : 0 < g) (h : 0 < a * g) : 0 < a := by
 by_cases ha : 0 < a
 ·exact ha
 ·have := Int.mul_nonneg (a := -a) (b := g) (by omega) (by omega); rw [Int.neg_mul] at this; omega
theorem le_of_mul {a b g : Int} (hg : 0 < g) (h : a * g ≤ b * g) : a ≤ b := by
 by_cases hab : a ≤ b
 ·exact hab
 ·have := Int.mul_pos (show 0 < a - b by omega) hg
  have e : (a - b) * g = a * g - b * g := by grind
  omega
theorem g_pos (ux uy vx vy : Int) : 0 ≤ gN ux uy vx vy ∧ 0 < gD ux uy vx vy := by
 unfold gN gD
 split
 ·exact ⟨sqq_nonneg _ _, by omega⟩
 ·next h1 =>
  split
  ·exact ⟨sqq_nonneg _ _, by omega⟩
  ·next h2 =>
   have hw : 0 < sqq ux uy := by omega
   obtain ⟨g, g0, e1, e2⟩ := gq_parts (n := (ux * vy - uy * vx) * (ux * vy - uy * vx)) hw
   have c0 := nn (ux * vy - uy * vx)
   refine ⟨?_, pos_of_mul g0 (by omega)⟩
   have := le_of_mul (a := 0) (b := gqN ((ux * vy - uy * vx) * (ux * vy - uy * vx)) (sqq ux uy)) g0 (by omega)
   exact this
end Go.Proofs.YtnjbedhealpgcaaGreat
