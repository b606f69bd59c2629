/- How great a greatest common divisor can be. No program is named here. -/
import Derived.Test.YtlpdenaiclocfaiBounds
namespace Go.Proofs.Ytlpdenaiclocfai
open Go.RowKit

theorem gcd_bound (g g' : Bool) (xs ys : List Int) (hl : Lim xs) (kl : Lim ys) : mg ((Int.gcd (tk g xs) (tk g' ys) : Nat) : Int) < 4294967296 ^ 24 := by
  obtain ⟨h1, h2⟩ := tk_bounds g xs hl
  obtain ⟨h3, h4⟩ := tk_bounds g' ys kl
  have key : (Int.gcd (tk g xs) (tk g' ys) : Int) ≤ ((tk g xs).natAbs : Int) ∨ (Int.gcd (tk g xs) (tk g' ys) : Int) ≤ ((tk g' ys).natAbs : Int) := by
    by_cases e : tk g xs = 0
    · right
      rw [e, Int.gcd_zero_left]
      exact Int.le_refl _
    · left
      exact Int.ofNat_le.2 (Nat.gcd_le_left _ (by omega))
  unfold mg
  rw [if_neg (by omega)]
  generalize (4294967296 : Int) ^ 24 = P at *
  generalize (Int.gcd (tk g xs) (tk g' ys) : Int) = G at *
  omega
end Go.Proofs.Ytlpdenaiclocfai
