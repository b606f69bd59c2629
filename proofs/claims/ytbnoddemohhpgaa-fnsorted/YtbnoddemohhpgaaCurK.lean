/- CurveKey of the specification: the place of a box's middle. -/
import Derived.Test.YtbnoddemohhpgaaCurT
import Derived.Test.YtbnoddemohhpgaaBoxW
import Derived.Test.YtbnoddemohhpgaaHeldQ
import Derived.Deep.Cut
namespace Go.Proofs.Ytbnoddemohhpgaa
open Go.RowKit

/-- A box's key. -/
def cvKey (a b c d : Int) : Int := if boxOk a b c d then cvOf ((a + c) / 2) ((b + d) / 2) else -1

end Go.Proofs.Ytbnoddemohhpgaa
