/- Old blocks but for one of two cells. -/
import Derived.Test.YtbnoddemohhpgaaKeep
namespace Go.Proofs.Ytbnoddemohhpgaa
open Go.RowKit

theorem Keeps.put2 {p : Nat} {W w : World} (h : Keeps p W w) (u0 u1 : Value) : Keeps p W ((w.setCell ⟨p, 0, none⟩ u0).setCell ⟨p, 1, none⟩ u1) := (h.put1 0 u0).put1 1 u1
end Go.Proofs.Ytbnoddemohhpgaa
