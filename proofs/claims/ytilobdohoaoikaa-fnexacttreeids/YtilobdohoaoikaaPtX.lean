/- Between two, and ranges that meet. -/
import Derived.Test.YtilobdohoaoikaaPtW
namespace Go.Proofs.Ytilobdohoaoikaa
open Go.RowKit

end Go.Proofs.Ytilobdohoaoikaa
