/- A fraction in lowest terms: spec.l2Lowest. -/
import Derived.Test.YtfhcbgjnojcigaaLow
import Derived.Test.YtfhcbgjnojcigaaSDiv
import Derived.Test.YtfhcbgjnojcigaaSNum
import Derived.Deep.LoopGhost
namespace Go.Proofs.Ytfhcbgjnojcigaa
open Go.RowKit

theorem field_mags (w : World) (g : Bool) (a : Option Addr) (n c : Nat) : Sem.run Try.prog (Instr.field 30 (Value.agg #[Value.bool g, Value.slice a n c]) 1) w = .ok (.slice a n c) w := by kernel_rfl
theorem low_sg (g : Bool) (x y : Int) : sg g (x / (Int.gcd x y : Int)) = sg g x / (Int.gcd x y : Int) := by
  cases g
  · rfl
  · have hd : (Int.gcd x y : Int) ∣ x := Int.gcd_dvd_left _ _
    simp only [sg, if_true]
    exact (Int.neg_ediv_of_dvd hd).symm

end Go.Proofs.Ytfhcbgjnojcigaa
