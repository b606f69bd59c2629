/- The program's greatest common divisor of numbers of any size: impl.commonDivisor. -/
import Derived.Test.YthbobfmjlnlfdaaDivI
import Derived.Test.YthbobfmjlnlfdaaEq
import Derived.Deep.LoopGhost
import Derived.Deep.RegionHeld3
namespace Go.Proofs.Ythbobfmjlnlfdaa
open Go.RowKit

theorem gcd_step {u v : Int} (hu : 0 ≤ u) : Int.gcd v (u % v) = Int.gcd u v := by
  show Nat.gcd v.natAbs (u % v).natAbs = Nat.gcd u.natAbs v.natAbs
  rw [Int.natAbs_emod_of_nonneg hu, Nat.gcd_comm u.natAbs, Nat.gcd_rec v.natAbs u.natAbs, Nat.gcd_comm]

/-- A result's variable, behind two arguments. -/
theorem var3 (w : World) (o1 o2 : Obj) (T : TypeId) (n : Nat) :
    ((((w.alloc o1).alloc o2).alloc (.cells #[.bool false, .slice none 0 0] T)).drewN n).heap.size = w.heap.size + 3 ∧
    ((((w.alloc o1).alloc o2).alloc (.cells #[.bool false, .slice none 0 0] T)).drewN n).cell? ⟨w.heap.size + 2, 0, none⟩ = some (.bool false) ∧
    ((((w.alloc o1).alloc o2).alloc (.cells #[.bool false, .slice none 0 0] T)).drewN n).cell? ⟨w.heap.size + 2, 1, none⟩ = some (.slice none 0 0) ∧
    ((((w.alloc o1).alloc o2).alloc (.cells #[.bool false, .slice none 0 0] T)).drewN n).frozen? ⟨w.heap.size + 2, 0, none⟩ = false ∧
    ((((w.alloc o1).alloc o2).alloc (.cells #[.bool false, .slice none 0 0] T)).drewN n).frozen? ⟨w.heap.size + 2, 1, none⟩ = false := by
  refine ⟨by simp [go_sem], by simp [go_sem], by simp [go_sem], by simp [go_sem], by simp [go_sem]⟩

theorem gcd_sg (g : Bool) (v u : Int) : Int.gcd (sg g v) u = Int.gcd u v := by
  rw [Int.gcd_comm]
  cases g <;> simp [sg]
end Go.Proofs.Ythbobfmjlnlfdaa
