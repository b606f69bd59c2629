/- Whether two shapes meet: of the specification (l6Meet, ShapesMeet). -/
import Derived.Test.YtnjbedhealpgcaaGreatPairI
namespace Go.Proofs.YtnjbedhealpgcaaGreat
open Go.RowKit

theorem good_least {k : Int} {rs : List (List (Int × Int))} (h : goodB k rs = true) : rs.length ≤ 12 ∧ ∀ i, i < rs.length → 0 < (rowA rs i).length ∧ (rowA rs i).length ≤ 60 := by
 obtain ⟨_, h2, h3⟩ := goodS_rows h
 exact ⟨h2, fun i hi => (h3 i hi).2⟩
end Go.Proofs.YtnjbedhealpgcaaGreat
