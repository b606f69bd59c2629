/- Numbers of an int: impl.Of, spec.Of. -/
import Derived.Test.YtnefdfgonolafaaTrim
import Derived.Test.YtnefdfgonolafaaSNum
namespace Go.Proofs.Ytnefdfgonolafaa
open Go.RowKit

theorem val2 (x y : Int) : val [x, y] = x + 4294967296 * y := by simp [val]

theorem signed2 (base : Nat) (neg : Bool) (a : Option Addr) (x y : Int) (w : World) (h : Own base w a 2 [x, y]) :
    Calls Try.prog 60 #[.bool neg, .slice a 2 2] w fun e w' => ∃ v, e = .returned v ∧ IsNum base w' v (sg neg (x + 4294967296 * y)) ∧ Below w.heap.size w w' := by
  have := signedC base neg a 2 [x, y] w h
  rw [val2] at this
  exact this
theorem l1Num2 (neg : Bool) (a : Option Addr) (x y : Int) (w : World) (h : Sees w a 2 [x, y]) :
    Calls Try.prog 41 #[.bool neg, .slice a 2 2] w fun e w' => ∃ v, e = .returned v ∧ IsNum w.heap.size w' v (sg neg (x + 4294967296 * y)) ∧ Below w.heap.size w w' := by
  have := l1NumC neg a 2 [x, y] w h (by simp)
  rw [val2] at this
  exact this

theorem wrap_neg {n : Int} (h1 : -9223372036854775808 ≤ n) (h0 : n < 0) : IntKind.u64.wrap (-IntKind.u64.wrap n) = -n := by
  simp only [IntKind.wrap, IntKind.bits, IntKind.signed]
  simp
  omega

theorem sg_two {n : Int} (_h : ¬ n < 0) : sg false (n % 4294967296 + 4294967296 * (n / 4294967296)) = n := by simp only [sg]; simp; omega
theorem sg_two' {n : Int} (_h : n < 0) : sg true (-n % 4294967296 + 4294967296 * (-n / 4294967296)) = n := by simp only [sg]; simp; omega

end Go.Proofs.Ytnefdfgonolafaa
