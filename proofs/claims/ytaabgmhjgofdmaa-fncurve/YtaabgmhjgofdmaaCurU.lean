/- CurvePt of the specification. -/
import Derived.Test.YtaabgmhjgofdmaaCurT
namespace Go.Proofs.Ytaabgmhjgofdmaa
open Go.RowKit

theorem cvUp (k : Nat) (n : Int) : hPt (k + 1) (n % 4 ^ (k + 1)) = hQ (2 ^ k) (n / 4 ^ k % 4) (hPt k (n % 4 ^ k)) := by
  have f := cvFour k
  have e := Int.mul_ediv_add_emod n (4 ^ k)
  have r0 := Int.emod_nonneg n (Int.ne_of_gt f)
  have r1 := Int.emod_lt_of_pos n f
  have e2 := Int.mul_ediv_add_emod (n / 4 ^ k) 4
  have s0 := Int.emod_nonneg (n / 4 ^ k) (show (4 : Int) ≠ 0 by decide)
  have s1 := Int.emod_lt_of_pos (n / 4 ^ k) (show (0 : Int) < 4 by decide)
  generalize n / 4 ^ k % 4 = s at *
  generalize n / 4 ^ k / 4 = t at *
  generalize n / 4 ^ k = q at *
  generalize n % 4 ^ k = r at *
  have m : n % 4 ^ (k + 1) = s * 4 ^ k + r := by
    have a : n = t * (4 ^ (k + 1)) + (s * 4 ^ k + r) := by
      rw [← e, ← e2, cvFourS, Int.mul_add, Int.mul_comm (4 ^ k) s, Int.mul_comm (4 ^ k) (4 * t), Int.mul_comm 4 t, Int.mul_assoc, Int.add_assoc]
    have b : s * 4 ^ k + r < 4 ^ (k + 1) := by
      rw [cvFourS]
      have := Int.mul_le_mul_of_nonneg_right (show s ≤ 3 by omega) (Int.le_of_lt f)
      omega
    have c : 0 ≤ s * 4 ^ k + r := Int.add_nonneg (Int.mul_nonneg s0 (Int.le_of_lt f)) r0
    rw [a]
    exact (cvPart (cvFour (k + 1)) c b).2
  obtain ⟨p1, p2⟩ := cvPart (q := s) f r0 r1
  rw [m, hPt, p1, p2]

theorem i64_and3 (n : Int) : bits .and .i64 n 3 = n % 4 := by
  have h127 : (BitVec.ofInt 64 3).toNat = 2 ^ 2 - 1 := by decide
  have key : (BitVec.ofInt 64 n &&& BitVec.ofInt 64 3).toNat = (n % ((2 ^ 64 : Nat) : Int)).toNat % 2 ^ 2 := by
    rw [BitVec.toNat_and, BitVec.toNat_ofInt, h127, Nat.and_two_pow_sub_one_eq_mod]
  show IntKind.i64.wrap ((BitVec.ofInt 64 n &&& BitVec.ofInt 64 3).toNat : Nat) = n % 4
  rw [key, IntKind.wrap_i64]
  omega
theorem cvBits (k : Nat) (n : Int) : bits BinOp.and IntKind.i64 (n / 2 ^ (2 * k)) 3 = n / 4 ^ k % 4 := by
  rw [i64_and3, Int.pow_mul]
  rfl
theorem cvIn (x a b : Int) (w : World) :
    Calls Try.prog 14 #[.int .i64 x, .int .i64 a, .int .i64 b] w fun e w' => e = .returned (.bool (decide (a ≤ x) && decide (x ≤ b))) ∧ w' = w := by
  by_cases h1 : a ≤ x
  · by_cases h2 : x ≤ b
    · go_enter Try.func14, Try.ntmps14
      go_wp2
      go_ret
      exact ⟨by simp [h1, h2], rfl⟩
    · go_enter Try.func14, Try.ntmps14
      go_wp2
      go_ret
      exact ⟨by simp [h2], rfl⟩
  · go_enter Try.func14, Try.ntmps14
    go_wp2
    go_ret
    exact ⟨by rw [decide_eq_false (show ¬ a ≤ x by omega)]; rfl, rfl⟩
/-- The point of a place on the curve. -/
def cvPt (n : Int) : (Int × Int) × Bool := if 0 ≤ n ∧ n ≤ 1125899906842623 then (if ptOk ((hPt 25 n).1 - 10000000) ((hPt 25 n).2 - 10000000) then (((hPt 25 n).1 - 10000000, (hPt 25 n).2 - 10000000), true) else ((0, 0), false)) else ((0, 0), false)

end Go.Proofs.Ytaabgmhjgofdmaa
