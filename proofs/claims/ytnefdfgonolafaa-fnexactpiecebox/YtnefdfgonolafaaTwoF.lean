/- The first of two numbers. No program is named here. -/
import Derived.Test.YtnefdfgonolafaaDivd
namespace Go.Proofs.Ytnefdfgonolafaa
open Go.RowKit

theorem IsTwo.first {base : Nat} {w : World} {v u : Value} {z y : Int} (h : IsTwo base w v u z y) : IsNum base w v z ∧ ∃ g a n c, u = .agg #[.bool g, .slice a n c] := by
  obtain ⟨a1, c1, qs, a2, c2, rs, e1, e2, o1, _, n1, _, v1, _⟩ := h
  exact ⟨⟨a1, c1, qs, e1, o1, n1, v1⟩, _, a2, rs.length, c2, e2⟩
end Go.Proofs.Ytnefdfgonolafaa
