/- A world that grew, and no row of it was written, grew so whatever row is named. -/
import Derived.Test.YtbdpnfdpnaoicaaPtX
namespace Go.Proofs.Ytbdpnfdpnaoicaa
theorem grown_wider {w w' : World} {row : Option Nat} (h : w.grownBy w' none) : w.grownBy w' row := ⟨h.os, h.tape, h.output, h.size, fun i hi _ => h.block i hi (by simp)⟩
end Go.Proofs.Ytbdpnfdpnaoicaa
