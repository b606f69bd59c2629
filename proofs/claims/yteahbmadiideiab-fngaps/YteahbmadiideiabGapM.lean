/- The square of a gap, over the whole numbers: the program's ways and the specification's are the same. No program is named here. -/
namespace Go.Proofs.Yteahbmadiideiab
def gqN (n d : Int) : Int := n / (Int.gcd n d : Int)
def gqD (n d : Int) : Int := d / (Int.gcd n d : Int)
theorem q_mul {d k : Int} (hd : 0 < d) : gqN (d * k) d = k ∧ gqD (d * k) d = 1 := by
  have e : (Int.gcd (d * k) d : Int) = d := by
    have : Int.gcd (d * k) d = d.natAbs := by simp [Int.gcd, Int.natAbs_mul]
    rw [this]; omega
  unfold gqN gqD
  rw [e]
  exact ⟨Int.mul_ediv_cancel_left k (by omega), Int.ediv_self (by omega)⟩
def sqq (x y : Int) : Int := x * x + y * y
/-- The square of the gap from v to the way u, both from one point: its parts. -/
def gN (ux uy vx vy : Int) : Int := if ux * vx + uy * vy ≤ 0 then sqq vx vy else if sqq ux uy ≤ ux * vx + uy * vy then sqq (vx - ux) (vy - uy) else gqN ((ux * vy - uy * vx) * (ux * vy - uy * vx)) (sqq ux uy)
def gD (ux uy vx vy : Int) : Int := if ux * vx + uy * vy ≤ 0 then 1 else if sqq ux uy ≤ ux * vx + uy * vy then 1 else gqD ((ux * vy - uy * vx) * (ux * vy - uy * vx)) (sqq ux uy)
theorem sqq_pos {x y : Int} (h : x ≠ 0 ∨ y ≠ 0) : 0 < sqq x y := by
  have nn : ∀ z : Int, 0 ≤ z * z := fun z => by
    rcases Int.le_total 0 z with h | h
    · exact Int.mul_nonneg h h
    · have := Int.mul_nonneg (a := -z) (b := -z) (by omega) (by omega); rwa [Int.neg_mul_neg] at this
  have pp : ∀ z : Int, z ≠ 0 → 0 < z * z := fun z hz => by
    have h1 := nn z
    have h2 : z * z ≠ 0 := fun e => hz (by rcases Int.mul_eq_zero.1 e with e | e <;> exact e)
    omega
  unfold sqq
  have := nn x
  have := nn y
  rcases h with h | h
  · have := pp x h; omega
  · have := pp y h; omega
theorem g_same {ux uy vx vy : Int} (h : ux = 0 ∧ uy = 0) : gN ux uy vx vy = sqq vx vy ∧ gD ux uy vx vy = 1 := by
  obtain ⟨rfl, rfl⟩ := h
  unfold gN gD
  simp
theorem g_before {ux uy vx vy : Int} (h : ux * vx + uy * vy < 0) : gN ux uy vx vy = sqq vx vy ∧ gD ux uy vx vy = 1 := by
  unfold gN gD
  rw [if_pos (by omega), if_pos (by omega)]
  exact ⟨rfl, rfl⟩
theorem g_behind {ux uy vx vy : Int} (hu : ux ≠ 0 ∨ uy ≠ 0) (h : 0 < ux * (vx - ux) + uy * (vy - uy)) : gN ux uy vx vy = sqq (vx - ux) (vy - uy) ∧ gD ux uy vx vy = 1 := by
  have hw := sqq_pos hu
  have e : ux * (vx - ux) + uy * (vy - uy) = (ux * vx + uy * vy) - sqq ux uy := by unfold sqq; grind
  rw [e] at h
  unfold gN gD
  rw [if_neg (by omega), if_pos (by omega), if_neg (by omega), if_pos (by omega)]
  exact ⟨rfl, rfl⟩
theorem g_beside {ux uy vx vy : Int} (hu : ux ≠ 0 ∨ uy ≠ 0) (h1 : ¬ ux * vx + uy * vy < 0) (h2 : ¬ 0 < ux * (vx - ux) + uy * (vy - uy)) :
    gN ux uy vx vy = gqN ((ux * vy - uy * vx) * (ux * vy - uy * vx)) (sqq ux uy) ∧ gD ux uy vx vy = gqD ((ux * vy - uy * vx) * (ux * vy - uy * vx)) (sqq ux uy) := by
  have hw := sqq_pos hu
  have e : ux * (vx - ux) + uy * (vy - uy) = (ux * vx + uy * vy) - sqq ux uy := by unfold sqq; grind
  rw [e] at h2
  by_cases z1 : ux * vx + uy * vy ≤ 0
  · have z0 : ux * vx + uy * vy = 0 := by omega
    have ec : (ux * vy - uy * vx) * (ux * vy - uy * vx) = sqq ux uy * sqq vx vy := by
      have : (ux * vy - uy * vx) * (ux * vy - uy * vx) = sqq ux uy * sqq vx vy - (ux * vx + uy * vy) * (ux * vx + uy * vy) := by unfold sqq; grind
      rw [this, z0]; omega
    obtain ⟨q1, q2⟩ := q_mul (k := sqq vx vy) hw
    unfold gN gD
    rw [if_pos z1, if_pos z1, ec, q1, q2]
    exact ⟨rfl, rfl⟩
  · by_cases z2 : sqq ux uy ≤ ux * vx + uy * vy
    · have z0 : ux * vx + uy * vy = sqq ux uy := by omega
      have ec : (ux * vy - uy * vx) * (ux * vy - uy * vx) = sqq ux uy * sqq (vx - ux) (vy - uy) := by
        have : (ux * vy - uy * vx) * (ux * vy - uy * vx) = sqq ux uy * sqq (vx - ux) (vy - uy) - (ux * vx + uy * vy - sqq ux uy) * (ux * vx + uy * vy - sqq ux uy) := by unfold sqq; grind
        rw [this, z0]; simp
      obtain ⟨q1, q2⟩ := q_mul (k := sqq (vx - ux) (vy - uy)) hw
      unfold gN gD
      rw [if_neg z1, if_pos z2, if_neg z1, if_pos z2, ec, q1, q2]
      exact ⟨rfl, rfl⟩
    · unfold gN gD
      rw [if_neg z1, if_neg z2, if_neg z1, if_neg z2]
      exact ⟨rfl, rfl⟩
end Go.Proofs.Yteahbmadiideiab
