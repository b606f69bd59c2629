/- What holds of gaps, over the whole numbers. No program is named here. -/
import Derived.Test.YtmdbndooigcflaaPtG
namespace Go.Proofs.Ytmdbndooigcflaa

theorem nn (z : Int) : 0 ≤ z * z := by
  rcases Int.le_total 0 z with h | h
  · exact Int.mul_nonneg h h
  · have := Int.mul_nonneg (a := -z) (b := -z) (by omega) (by omega); rwa [Int.neg_mul_neg] at this
theorem sqq_nonneg (x y : Int) : 0 ≤ sqq x y := by have := nn x; have := nn y; unfold sqq; omega
theorem sqq_zero {x y : Int} (h : sqq x y ≤ 0) : x = 0 ∧ y = 0 := by
  refine ⟨?_, ?_⟩
  · by_cases hx : x = 0
    · exact hx
    · have := sqq_pos (x := x) (y := y) (.inl hx); omega
  · by_cases hy : y = 0
    · exact hy
    · have := sqq_pos (x := x) (y := y) (.inr hy); omega
/-- The parts in lowest terms, by their common divisor. -/
theorem gq_parts {n d : Int} (hd : 0 < d) : ∃ g : Int, 0 < g ∧ gqN n d * g = n ∧ gqD n d * g = d := by
  have g0 : 0 < (Int.gcd n d : Int) := by
    have : 0 < Int.gcd n d := Int.gcd_pos_of_ne_zero_right _ (by omega)
    omega
  exact ⟨Int.gcd n d, g0, Int.ediv_mul_cancel (Int.gcd_dvd_left _ _), Int.ediv_mul_cancel (Int.gcd_dvd_right _ _)⟩
theorem pos_of_mul {a g : Int} (hg : 0 < g) (h : 0 < a * g) : 0 < a := by
  by_cases ha : 0 < a
  · exact ha
  · have := Int.mul_nonneg (a := -a) (b := g) (by omega) (by omega); rw [Int.neg_mul] at this; omega
theorem le_of_mul {a b g : Int} (hg : 0 < g) (h : a * g ≤ b * g) : a ≤ b := by
  by_cases hab : a ≤ b
  · exact hab
  · have := Int.mul_pos (show 0 < a - b by omega) hg
    have e : (a - b) * g = a * g - b * g := by grind
    omega
theorem g_pos (ux uy vx vy : Int) : 0 ≤ gN ux uy vx vy ∧ 0 < gD ux uy vx vy := by
  unfold gN gD
  split
  · exact ⟨sqq_nonneg _ _, by omega⟩
  · next h1 =>
    split
    · exact ⟨sqq_nonneg _ _, by omega⟩
    · next h2 =>
      have hw : 0 < sqq ux uy := by omega
      obtain ⟨g, g0, e1, e2⟩ := gq_parts (n := (ux * vy - uy * vx) * (ux * vy - uy * vx)) hw
      have c0 := nn (ux * vy - uy * vx)
      refine ⟨?_, pos_of_mul g0 (by omega)⟩
      have := le_of_mul (a := 0) (b := gqN ((ux * vy - uy * vx) * (ux * vy - uy * vx)) (sqq ux uy)) g0 (by omega)
      exact this
theorem lagr (ux uy vx vy : Int) : (ux * vy - uy * vx) * (ux * vy - uy * vx) = sqq ux uy * sqq vx vy - (ux * vx + uy * vy) * (ux * vx + uy * vy) := by unfold sqq; grind
theorem tt_eq (ux uy vx vy : Int) : sqq (vx - ux) (vy - uy) = sqq vx vy - 2 * (ux * vx + uy * vy) + sqq ux uy := by unfold sqq; grind
/-- No farther than from either end. -/
theorem g_ends (ux uy vx vy : Int) : gN ux uy vx vy ≤ sqq vx vy * gD ux uy vx vy ∧ gN ux uy vx vy ≤ sqq (vx - ux) (vy - uy) * gD ux uy vx vy := by
  have et := tt_eq ux uy vx vy
  have w0 := sqq_nonneg ux uy
  unfold gN gD
  split
  · exact ⟨by omega, by omega⟩
  · next h1 =>
    split
    · exact ⟨by omega, by omega⟩
    · next h2 =>
      have hw : 0 < sqq ux uy := by omega
      obtain ⟨g, g0, e1, e2⟩ := gq_parts (n := (ux * vy - uy * vx) * (ux * vy - uy * vx)) hw
      have l1 := lagr ux uy vx vy
      have l2 := lagr ux uy (vx - ux) (vy - uy)
      have ec : ux * (vy - uy) - uy * (vx - ux) = ux * vy - uy * vx := by grind
      rw [ec] at l2
      have s1 := nn (ux * vx + uy * vy)
      have s2 := nn (ux * (vx - ux) + uy * (vy - uy))
      refine ⟨le_of_mul g0 ?_, le_of_mul g0 ?_⟩
      · have e3 : sqq vx vy * gqD ((ux * vy - uy * vx) * (ux * vy - uy * vx)) (sqq ux uy) * g = sqq ux uy * sqq vx vy := by rw [Int.mul_assoc, e2, Int.mul_comm]
        rw [e1, e3]; omega
      · have e3 : sqq (vx - ux) (vy - uy) * gqD ((ux * vy - uy * vx) * (ux * vy - uy * vx)) (sqq ux uy) * g = sqq ux uy * sqq (vx - ux) (vy - uy) := by rw [Int.mul_assoc, e2, Int.mul_comm]
        rw [e1, e3]; omega
/-- From the other end it is the same. -/
theorem g_other (ux uy vx vy : Int) : gN (-ux) (-uy) (vx - ux) (vy - uy) = gN ux uy vx vy ∧ gD (-ux) (-uy) (vx - ux) (vy - uy) = gD ux uy vx vy := by
  have w0 := sqq_nonneg ux uy
  have e1 : sqq (-ux) (-uy) = sqq ux uy := by unfold sqq; grind
  have e2 : -ux * (vx - ux) + -uy * (vy - uy) = sqq ux uy - (ux * vx + uy * vy) := by unfold sqq; grind
  have e3 : (-ux * (vy - uy) - -uy * (vx - ux)) * (-ux * (vy - uy) - -uy * (vx - ux)) = (ux * vy - uy * vx) * (ux * vy - uy * vx) := by grind
  have e4 : sqq (vx - ux - -ux) (vy - uy - -uy) = sqq vx vy := by unfold sqq; grind
  have et := tt_eq ux uy vx vy
  unfold gN gD
  rw [e1, e2, e3, e4]
  by_cases h1 : ux * vx + uy * vy ≤ 0
  · by_cases hz : sqq ux uy - (ux * vx + uy * vy) ≤ 0
    · have z1 : sqq ux uy = 0 := by omega
      have z2 : ux * vx + uy * vy = 0 := by omega
      rw [if_pos hz, if_pos h1, if_pos hz, if_pos h1]
      exact ⟨by omega, rfl⟩
    · have k : sqq ux uy ≤ sqq ux uy - (ux * vx + uy * vy) := by omega
      rw [if_neg hz, if_pos k, if_pos h1, if_neg hz, if_pos k, if_pos h1]
      exact ⟨rfl, rfl⟩
  · by_cases h2 : sqq ux uy ≤ ux * vx + uy * vy
    · have hz : sqq ux uy - (ux * vx + uy * vy) ≤ 0 := by omega
      rw [if_pos hz, if_neg h1, if_pos h2, if_pos hz, if_neg h1, if_pos h2]
      exact ⟨rfl, rfl⟩
    · have hz : ¬ sqq ux uy - (ux * vx + uy * vy) ≤ 0 := by omega
      have k : ¬ sqq ux uy ≤ sqq ux uy - (ux * vx + uy * vy) := by omega
      rw [if_neg hz, if_neg k, if_neg h1, if_neg h2, if_neg hz, if_neg k, if_neg h1, if_neg h2]
      exact ⟨rfl, rfl⟩
/-- It is 0 just where it lies on the way. -/
theorem g_zero (ux uy vx vy : Int) : gN ux uy vx vy = 0 ↔ (ux * vy - uy * vx = 0 ∧ vx * (vx - ux) ≤ 0 ∧ vy * (vy - uy) ≤ 0) := by
  have w0 := sqq_nonneg ux uy
  have et := tt_eq ux uy vx vy
  have ev : vx * (vx - ux) + vy * (vy - uy) = sqq vx vy - (ux * vx + uy * vy) := by unfold sqq; grind
  by_cases h1 : ux * vx + uy * vy ≤ 0
  · have e : gN ux uy vx vy = sqq vx vy := by unfold gN; rw [if_pos h1]
    rw [e]
    constructor
    · intro h
      obtain ⟨rfl, rfl⟩ := sqq_zero (x := vx) (y := vy) (by omega)
      simp
    · rintro ⟨_, h3, h4⟩
      have := sqq_nonneg vx vy
      omega
  · by_cases h2 : sqq ux uy ≤ ux * vx + uy * vy
    · have e : gN ux uy vx vy = sqq (vx - ux) (vy - uy) := by unfold gN; rw [if_neg h1, if_pos h2]
      rw [e]
      constructor
      · intro h
        obtain ⟨z1, z2⟩ := sqq_zero (x := vx - ux) (y := vy - uy) (by omega)
        have : vx = ux := by omega
        have : vy = uy := by omega
        subst vx vy
        refine ⟨by grind, by simp, by simp⟩
      · rintro ⟨_, h3, h4⟩
        have := sqq_nonneg (vx - ux) (vy - uy)
        omega
    · have hw : 0 < sqq ux uy := by omega
      obtain ⟨g, g0, e1, e2⟩ := gq_parts (n := (ux * vy - uy * vx) * (ux * vy - uy * vx)) hw
      have e : gN ux uy vx vy = gqN ((ux * vy - uy * vx) * (ux * vy - uy * vx)) (sqq ux uy) := by unfold gN; rw [if_neg h1, if_neg h2]
      rw [e]
      constructor
      · intro h
        rw [h, Int.zero_mul] at e1
        have hc : ux * vy - uy * vx = 0 := by rcases Int.mul_eq_zero.1 e1.symm with h | h <;> exact h
        have kx : sqq ux uy * vx = (ux * vx + uy * vy) * ux := by unfold sqq; grind
        have ky : sqq ux uy * vy = (ux * vx + uy * vy) * uy := by unfold sqq; grind
        have step : ∀ a b : Int, sqq ux uy * a = (ux * vx + uy * vy) * b → a * (a - b) ≤ 0 := by
          intro a b hab
          have q1 := Int.mul_nonneg (Int.mul_nonneg (nn b) (show 0 ≤ ux * vx + uy * vy by omega)) (show 0 ≤ sqq ux uy - (ux * vx + uy * vy) by omega)
          have q2 : sqq ux uy * sqq ux uy * (a * (a - b)) = -(b * b * (ux * vx + uy * vy) * (sqq ux uy - (ux * vx + uy * vy))) := by
            generalize ux * vx + uy * vy = al at *
            generalize sqq ux uy = wh at *
            have : wh * wh * (a * (a - b)) = (wh * a) * (wh * a - wh * b) := by grind
            rw [this, hab]; grind
          by_cases hp : 0 < a * (a - b)
          · have := Int.mul_pos (Int.mul_pos hw hw) hp; omega
          · omega
        exact ⟨hc, step vx ux kx, step vy uy ky⟩
      · rintro ⟨hc, _, _⟩
        have z : (0 : Int) * 0 = 0 := rfl
        rw [hc, z] at e1
        rw [hc, z]
        rcases Int.mul_eq_zero.1 e1 with h | h
        · exact h
        · omega

/-- .. as the segment's own test says. -/
theorem g_on (ax ay bx bz px py : Int) : (gN (bx - ax) (bz - ay) (px - ax) (py - ay) = 0) ↔ onB ax ay bx bz px py = true := by
  rw [onB_iff, g_zero]
  unfold ON ar
  have e1 : (px - ax) * (px - ax - (bx - ax)) = (ax - px) * (bx - px) := by grind
  have e2 : (py - ay) * (py - ay - (bz - ay)) = (ay - py) * (bz - py) := by grind
  rw [e1, e2]
end Go.Proofs.Ytmdbndooigcflaa
