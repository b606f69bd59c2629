/- Products limb by limb: the arithmetic. No program is named here. -/
import Derived.Test.YtnefdfgonolafaaArith
namespace Go.Proofs.Ytnefdfgonolafaa
open Go.RowKit

theorem val_set : ∀ {zs : List Int} {j : Nat} {x : Int}, j < zs.length → val (zs.set j x) = val zs + 4294967296 ^ j * (x - zs[j]?.getD 0)
  | [], j, x, h => by simp at h
  | z :: r, 0, x, _ => by simp [val]; omega
  | z :: r, j + 1, x, h => by
    have := val_set (zs := r) (j := j) (x := x) (by simpa using h)
    simp only [List.set_cons_succ, val, this, List.getElem?_cons_succ, Int.pow_succ]
    rw [Int.mul_add, ← Int.mul_assoc, Int.mul_comm 4294967296 (4294967296 ^ j)]
    omega
theorem Lim.set {zs : List Int} (h : Lim zs) (j : Nat) {x : Int} (hx : 0 ≤ x ∧ x < 4294967296) : Lim (zs.set j x) := by
  intro y hy
  rcases List.mem_or_eq_of_mem_set hy with hy | rfl
  · exact h y hy
  · exact hx

/-- One limb of a row of a product: at place i + j. -/
theorem mul_round {zs ys : List Int} {i j : Nat} {x cr s : Int} {v0 : Int} (hj : i + j < zs.length)
    (h : val zs + 4294967296 ^ (i + j) * cr = v0 + 4294967296 ^ i * (x * val (ys.take j))) (hs : s = x * (ys[j]?.getD 0) + zs[i + j]?.getD 0 + cr) :
    val (zs.set (i + j) (s % 4294967296)) + 4294967296 ^ (i + (j + 1)) * (s / 4294967296) = v0 + 4294967296 ^ i * (x * val (ys.take (j + 1))) := by
  rw [val_set hj, val_take_succ, ← Nat.add_assoc, Int.pow_succ, Int.mul_sub]
  have e := digit_step (4294967296 ^ (i + j)) s
  rw [hs, Int.mul_add, Int.mul_add] at e
  rw [← hs] at e
  rw [Int.mul_add x, Int.mul_add]
  have e2 : (4294967296 : Int) ^ i * (x * (4294967296 ^ j * ys[j]?.getD 0)) = 4294967296 ^ (i + j) * (x * ys[j]?.getD 0) := by
    rw [Int.pow_add, Int.mul_assoc, ← Int.mul_assoc x, Int.mul_comm x (4294967296 ^ j), Int.mul_assoc]
  rw [e2]
  omega

/-- The row's last limb: it was 0. -/
theorem mul_row {zs ys : List Int} {i : Nat} {x cr v0 : Int} (hj : i + ys.length < zs.length) (hz : zs[i + ys.length]?.getD 0 = 0)
    (h : val zs + 4294967296 ^ (i + ys.length) * cr = v0 + 4294967296 ^ i * (x * val (ys.take ys.length))) :
    val (zs.set (i + ys.length) cr) = v0 + 4294967296 ^ i * (x * val ys) := by
  rw [val_set hj, hz, Int.sub_zero]
  rw [List.take_length] at h
  exact h

theorem get_set_ne {zs : List Int} {i j : Nat} {x : Int} (h : j ≠ i) : (zs.set i x)[j]?.getD 0 = zs[j]?.getD 0 := by
  rw [List.getElem?_set_ne (by omega)]

/-- One row more. -/
theorem mul_next (xs ys : List Int) (i : Nat) (v0 : Int) (h : v0 = val (xs.take i) * val ys) : v0 + 4294967296 ^ i * (xs[i]?.getD 0 * val ys) = val (xs.take (i + 1)) * val ys := by
  rw [val_take_succ, Int.add_mul, h, Int.mul_assoc]
theorem mul_limb {x y z cr : Int} (hx : 0 ≤ x ∧ x < 4294967296) (hy : 0 ≤ y ∧ y < 4294967296) (hz : 0 ≤ z ∧ z < 4294967296) (hc : 0 ≤ cr ∧ cr < 4294967296) :
    0 ≤ x * y ∧ x * y ≤ 18446744065119617025 ∧ 0 ≤ (x * y + z + cr) / 4294967296 ∧ (x * y + z + cr) / 4294967296 < 4294967296 := by
  have p0 : 0 ≤ x * y := Int.mul_nonneg hx.1 hy.1
  have p1 : x * y ≤ 18446744065119617025 := Int.le_trans (Int.mul_le_mul (show x ≤ 4294967295 by omega) (show y ≤ 4294967295 by omega) hy.1 (by decide)) (by decide)
  refine ⟨p0, p1, ?_, ?_⟩
  all_goals
    generalize x * y = p at *
    omega
end Go.Proofs.Ytnefdfgonolafaa
