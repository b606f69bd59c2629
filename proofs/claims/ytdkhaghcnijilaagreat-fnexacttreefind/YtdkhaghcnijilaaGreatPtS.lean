/- Squares and products of ways. -/
import Derived.Test.YtdkhaghcnijilaaGreatPtG
namespace Go.Proofs.YtdkhaghcnijilaaGreat
open Go.RowKit

end Go.Proofs.YtdkhaghcnijilaaGreat
