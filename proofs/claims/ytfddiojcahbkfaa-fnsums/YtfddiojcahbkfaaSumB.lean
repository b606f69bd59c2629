/- How great sums and products become. No program is named here. -/
import Derived.Test.YtfddiojcahbkfaaNumV
import Derived.Test.YtfddiojcahbkfaaArith
namespace Go.Proofs.Ytfddiojcahbkfaa
open Go.RowKit

/-- Less than the base's m-th power, without the sign. -/
def Bd (x : Int) (m : Nat) : Prop := x.natAbs < 4294967296 ^ m
theorem Bd.mono {x : Int} {m k : Nat} (h : Bd x m) (hk : m ≤ k) : Bd x k := Nat.lt_of_lt_of_le h (Nat.pow_le_pow_right (by decide) hk)
theorem Bd.add {x y : Int} {m : Nat} (h : Bd x m) (k : Bd y m) : Bd (x + y) (m + 1) := by
  unfold Bd at *
  rw [Nat.pow_succ]
  omega
theorem Bd.neg {x : Int} {m : Nat} (h : Bd x m) : Bd (-x) m := by unfold Bd at *; rw [Int.natAbs_neg]; exact h
theorem Bd.mul {x y : Int} {m k : Nat} (h : Bd x m) (h' : Bd y k) : Bd (x * y) (m + k) := by
  unfold Bd at *
  rw [Int.natAbs_mul, Nat.pow_add]
  exact Nat.mul_lt_mul'' h h'
theorem Bd.out {x : Int} {m : Nat} (h : Bd x m) (hm : m ≤ 24) : -(4294967296 ^ 24) < x ∧ x < 4294967296 ^ 24 := by
  have h2 := h.mono hm
  unfold Bd at h2
  have e : ((4294967296 ^ 24 : Nat) : Int) = 4294967296 ^ 24 := by simp
  omega
theorem Bd.of {g : Bool} {xs : List Int} (hl : Lim xs) (h : okB g xs = true) : Bd (tk g xs) xs.length := by
  have h1 := abs_lt hl h
  rw [mg_nat] at h1
  unfold Bd
  have e : ((4294967296 ^ xs.length : Nat) : Int) = 4294967296 ^ xs.length := by simp
  omega
theorem cmp_sub (a b : Int) : cmpZ (a - b) 0 = cmpZ a b := by
  unfold cmpZ
  by_cases h1 : a < b
  · rw [if_pos h1, if_pos (by omega)]
  · rw [if_neg h1, if_neg (by omega)]
    by_cases h2 : a = b
    · rw [if_pos h2, if_pos (by omega)]
    · rw [if_neg h2, if_neg (by omega)]
theorem cmp_neg (a b : Int) : cmpZ (-a) (-b) = -cmpZ a b := by
  unfold cmpZ
  by_cases h1 : a < b
  · rw [if_pos h1, if_neg (by omega), if_neg (by omega)]; rfl
  · rw [if_neg h1]
    by_cases h2 : a = b
    · rw [if_pos h2, if_neg (by omega), if_pos (by omega)]; rfl
    · rw [if_neg h2, if_pos (by omega)]
theorem cmp_range (a b : Int) : -1 ≤ cmpZ a b ∧ cmpZ a b ≤ 1 := by unfold cmpZ; split <;> (try split) <;> omega
theorem sum_facts {g1 g2 g3 : Bool} {xs ys zs : List Int} (l1 : Lim xs) (l2 : Lim ys) (l3 : Lim zs) (h1 : okB g1 xs = true) (h2 : okB g2 ys = true) (h3 : okB g3 zs = true) (hlen : xs.length + ys.length + zs.length + 2 ≤ 24) :
    ∃ A B C : Int, tk g1 xs = A ∧ tk g2 ys = B ∧ tk g3 zs = C ∧ Bd A 24 ∧ Bd B 24 ∧ Bd (A + B) 24 ∧ Bd ((A + B) * C) 24 ∧ Bd (A * C) 24 ∧ Bd (B * C) 24 ∧ Bd (A - B) 24 ∧ g1 = decide (A < 0) ∧ Nrm xs ∧ val xs = mg A := by
  have a := Bd.of l1 h1
  have b := Bd.of l2 h2
  have c := Bd.of l3 h3
  obtain ⟨f1, n1, _, e1⟩ := ok_facts l1 h1
  have a' := a.mono (show xs.length ≤ xs.length + ys.length by omega)
  have b' := b.mono (show ys.length ≤ xs.length + ys.length by omega)
  refine ⟨_, _, _, rfl, rfl, rfl, a.mono (by omega), b.mono (by omega), (a'.add b').mono (by omega), ((a'.add b').mul c).mono (by omega), (a.mul c).mono (by omega), (b.mul c).mono (by omega), ?_, f1, n1, e1⟩
  have := a'.add b'.neg
  rw [← Int.sub_eq_add_neg] at this
  exact this.mono (by omega)
end Go.Proofs.Ytfddiojcahbkfaa
