/- Squares and products of ways. -/
import Derived.Test.YtilobdohoaoikaaPtW
namespace Go.Proofs.Ytilobdohoaoikaa
open Go.RowKit

end Go.Proofs.Ytilobdohoaoikaa
