/- The program's long division of limbs: impl.divMag. -/
import Derived.Test.YthbobfmjlnlfdaaMost
import Derived.Test.YthbobfmjlnlfdaaCmp
namespace Go.Proofs.Ythbobfmjlnlfdaa
open Go.RowKit

/-- What does not lie in the other row. -/
def Apart (a1 : Option Addr) (qs : List Int) (a2 : Option Addr) (rs : List Int) : Prop := ∀ b off, a1 = some ⟨b, off, none⟩ → qs ≠ [] → rowOf a2 rs ≠ some b

theorem below_of_row {w w' : World} {B : Nat} (hg : w.grownBy w' (some B)) (hb : B ≤ w.heap.size) : Below B w w' :=
  ⟨hg.os, hg.tape, hg.output, hg.size, fun i hi => hg.block i (by omega) (fun e => by simp only [Option.some.injEq] at e; omega)⟩

end Go.Proofs.Ythbobfmjlnlfdaa
