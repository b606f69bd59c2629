/- Squares and products of ways. -/
import Derived.Test.YthompofbdjdloaaGreatPtG
namespace Go.Proofs.YthompofbdjdloaaGreat
open Go.RowKit

end Go.Proofs.YthompofbdjdloaaGreat
