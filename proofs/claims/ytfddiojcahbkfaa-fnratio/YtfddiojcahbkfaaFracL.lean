/- The laws' helpers on fractions: their sizes, their copies, whether two are equal. -/
import Derived.Test.YtfddiojcahbkfaaNums
namespace Go.Proofs.Ytfddiojcahbkfaa
open Go.RowKit

theorem fvar_new (w : World) (g g' : Bool) (a a' : Option Addr) (n n' c c' : Nat) (T : TypeId) :
    (w.alloc (.cells #[.bool g, .slice a n c, .bool g', .slice a' n' c'] T)).cell? ⟨w.heap.size, 0, none⟩ = some (.bool g) ∧ (w.alloc (.cells #[.bool g, .slice a n c, .bool g', .slice a' n' c'] T)).cell? ⟨w.heap.size, 1, none⟩ = some (.slice a n c) ∧
    (w.alloc (.cells #[.bool g, .slice a n c, .bool g', .slice a' n' c'] T)).cell? ⟨w.heap.size, 2, none⟩ = some (.bool g') ∧ (w.alloc (.cells #[.bool g, .slice a n c, .bool g', .slice a' n' c'] T)).cell? ⟨w.heap.size, 3, none⟩ = some (.slice a' n' c') :=
  ⟨cell_new w _ T 0 rfl, cell_new w _ T 1 rfl, cell_new w _ T 2 rfl, cell_new w _ T 3 rfl⟩

end Go.Proofs.Ytfddiojcahbkfaa
