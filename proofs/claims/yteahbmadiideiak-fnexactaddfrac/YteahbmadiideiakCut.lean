/- Limbs of a number; a fraction that was cut at the limit, by the limbs of its parts. -/
import Derived.Test.YteahbmadiideiakMulF
import Derived.Test.YteahbmadiideiakFracA
namespace Go.Proofs.Yteahbmadiideiak
open Go.RowKit

theorem limbs_of (k : Nat) : ∀ n : Int, 0 ≤ n → n < 4294967296 ^ k → ∃ zs, Lim zs ∧ Nrm zs ∧ val zs = n := by
  induction k with
  | zero =>
    intro n h0 h1
    have : n = 0 := by simp at h1; omega
    subst this
    exact ⟨[], Lim.nil, trivial, rfl⟩
  | succ k ih =>
    intro n h0 h1
    by_cases hz : n = 0
    · subst hz; exact ⟨[], Lim.nil, trivial, rfl⟩
    · have hq : n / 4294967296 < 4294967296 ^ k := by
        rw [Int.pow_succ] at h1
        exact Int.ediv_lt_of_lt_mul (by decide) h1
      obtain ⟨r, lr, nr, vr⟩ := ih (n / 4294967296) (Int.ediv_nonneg h0 (by decide)) hq
      have e := Int.mul_ediv_add_emod n 4294967296
      have m0 := Int.emod_nonneg n (show (4294967296 : Int) ≠ 0 by decide)
      have m1 := Int.emod_lt_of_pos n (show (0 : Int) < 4294967296 by decide)
      refine ⟨n % 4294967296 :: r, Lim.mk ⟨m0, m1⟩ lr, ?_, by simp only [val]; omega⟩
      cases r with
      | nil =>
        simp only [val] at vr
        simp only [Nrm]
        omega
      | cons x s => exact nr
theorem pow_big (n : Nat) : (n : Int) < 4294967296 ^ n := by
  induction n with
  | zero => decide
  | succ n ih => rw [Int.pow_succ]; omega
theorem limbs_mg (z : Int) : ∃ zs, Lim zs ∧ Nrm zs ∧ val zs = mg z := by
  have h0 : 0 ≤ mg z := by unfold mg; split <;> omega
  refine limbs_of (mg z).toNat (mg z) h0 ?_
  have := pow_big (mg z).toNat
  rw [Int.toNat_of_nonneg h0] at this
  exact this
theorem CutF.as {b : Nat} {w : World} {v : Value} {z y : Int} (h : CutF b w v z y) {zs ts : List Int} (hh : Lim zs ∧ Nrm zs ∧ val zs = mg z ∧ Lim ts ∧ Nrm ts ∧ val ts = mg y) :
    IsFrac b w v (fN (decide (z < 0)) zs (decide (y < 0)) ts) (fD (decide (z < 0)) zs (decide (y < 0)) ts) := by
  obtain ⟨zs', ts', l1, n1, v1, l2, n2, v2, hI⟩ := h
  obtain ⟨m1, k1, w1, m2, k2, w2⟩ := hh
  obtain rfl : zs = zs' := val_inj m1 l1 k1 n1 (w1.trans v1.symm)
  obtain rfl : ts = ts' := val_inj m2 l2 k2 n2 (w2.trans v2.symm)
  exact hI
theorem cut_len {g h : Bool} {xs ys zs ts : List Int} (hx : Lim xs) (hy : Lim ys) (hz : Lim zs ∧ Nrm zs ∧ val zs = mg (fN g xs h ys) ∧ Lim ts ∧ Nrm ts ∧ val ts = mg (fD g xs h ys)) : zs.length ≤ 25 ∧ ts.length ≤ 25 := by
  have h5 := p_pos 24
  have b1 : mg (fN g xs h ys) < 4294967296 ^ 24 := by
    unfold fN
    split
    · have := tk_bounds g xs hx
      unfold mg
      split <;> omega
    · unfold mg; simp only [Int.lt_irrefl, if_false]; omega
  have b2 : mg (fD g xs h ys) < 4294967296 ^ 24 := by
    unfold fD
    split
    · have := tk_bounds h ys hy
      unfold mg
      split <;> omega
    · show (1 : Int) < _
      exact (by decide : (1 : Int) < 4294967296 ^ 24)
  obtain ⟨l1, n1, v1, l2, n2, v2⟩ := hz
  exact ⟨Nat.le_trans (len_le l1 n1 (k := 24) (by rw [v1]; exact b1)) (by decide), Nat.le_trans (len_le l2 n2 (k := 24) (by rw [v2]; exact b2)) (by decide)⟩
end Go.Proofs.Yteahbmadiideiak
