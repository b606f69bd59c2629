/- Every number has limbs. -/
import Derived.Test.YthafgldgidmnlaaGreatBase
namespace Go.Proofs.YthafgldgidmnlaaGreat
open Go.RowKit

theorem limbs_of (k : Nat) : ∀ n : Int, 0 ≤ n → n < 4294967296 ^ k → ∃ zs, Lim zs ∧ Nrm zs ∧ val zs = n := by
  induction k with
  | zero =>
    intro n h0 h1
    have : n = 0 := by simp at h1; omega
    subst this
    exact ⟨[], Lim.nil, trivial, rfl⟩
  | succ k ih =>
    intro n h0 h1
    by_cases hz : n = 0
    · subst hz; exact ⟨[], Lim.nil, trivial, rfl⟩
    · have hq : n / 4294967296 < 4294967296 ^ k := by
        rw [Int.pow_succ] at h1
        exact Int.ediv_lt_of_lt_mul (by decide) h1
      obtain ⟨r, lr, nr, vr⟩ := ih (n / 4294967296) (Int.ediv_nonneg h0 (by decide)) hq
      have e := Int.mul_ediv_add_emod n 4294967296
      have m0 := Int.emod_nonneg n (show (4294967296 : Int) ≠ 0 by decide)
      have m1 := Int.emod_lt_of_pos n (show (0 : Int) < 4294967296 by decide)
      refine ⟨n % 4294967296 :: r, Lim.mk ⟨m0, m1⟩ lr, ?_, by simp only [val]; omega⟩
      cases r with
      | nil =>
        simp only [val] at vr
        simp only [Nrm]
        omega
      | cons x s => exact nr
theorem pow_big (n : Nat) : (n : Int) < 4294967296 ^ n := by
  induction n with
  | zero => decide
  | succ n ih => rw [Int.pow_succ]; omega
theorem limbs_mg (z : Int) : ∃ zs, Lim zs ∧ Nrm zs ∧ val zs = mg z := by
  have h0 : 0 ≤ mg z := by unfold mg; split <;> omega
  refine limbs_of (mg z).toNat (mg z) h0 ?_
  have := pow_big (mg z).toNat
  rw [Int.toNat_of_nonneg h0] at this
  exact this
end Go.Proofs.YthafgldgidmnlaaGreat
