/- Rows of points put behind each other: slices.Grow of nil, slices.Concat. -/
import Derived.Test.YthafhfdhahbdoaaFramePs
import Derived.Test.YthafhfdhahbdoaaRowPt
import Derived.Lib.AppendZeros
namespace Go.Proofs.Ythafhfdhahbdoaa
open Go.RowKit

/-- The cells that a slice of points sees. -/
theorem SeesP.news {w : World} {ad : Addr} {cap : Nat} {ps : List (Int × Int)} (h : SeesP w (some ad) cap ps) : ∀ j u, (ptC ps)[j]? = some u → w.cell? (ad.add j) = some u := by
  intro j u hu
  have hj : j < ps.length * 2 := by have := (List.getElem?_eq_some_iff.mp hu).1; rwa [ptC_len] at this
  have hi : j / 2 < ps.length := by omega
  obtain ⟨b, off, ha, hc⟩ := h.cells (by intro e; simp [e] at hi)
  simp only [Option.some.injEq] at ha
  subst ha
  obtain ⟨c0, c1⟩ := hc _ hi
  obtain ⟨s0, s1⟩ := ptC_at ps _ hi
  rw [show (⟨b, off, none⟩ : Addr).add j = ⟨b, off + j, none⟩ by simp [Addr.add]]
  have hm : j % 2 = 0 ∨ j % 2 = 1 := by omega
  rcases hm with m | m
  · rw [show j / 2 * 2 = j by omega] at c0 s0
    rw [s0] at hu
    rw [c0, hu]
  · rw [show j / 2 * 2 + 1 = j by omega] at s1
    rw [show off + j / 2 * 2 + 1 = off + j by omega] at c1
    rw [s1] at hu
    rw [c1, hu]

/-- How many there are up to a row. -/
def lenToP (rs : List (List (Int × Int))) : Nat → Nat
  | 0 => 0
  | j + 1 => lenToP rs j + (rowA rs j).length
theorem flat_takeP (rs : List (List (Int × Int))) : ∀ j, j < rs.length → (rs.take (j + 1)).flatten = (rs.take j).flatten ++ rowA rs j := by
  intro j hj
  rw [List.take_add_one, List.getElem?_eq_getElem hj, List.flatten_append]
  unfold rowA
  rw [List.getElem?_eq_getElem hj]
  simp
theorem lenToP_flat (rs : List (List (Int × Int))) : ∀ j, j ≤ rs.length → (rs.take j).flatten.length = lenToP rs j
  | 0, _ => by simp [lenToP]
  | j + 1, h => by
    rw [flat_takeP rs j (by omega), List.length_append, lenToP_flat rs j (by omega)]
    rfl
theorem lenToP_le (rs : List (List (Int × Int))) (hl : ∀ i, i < rs.length → (rowA rs i).length ≤ 60) : ∀ j, j ≤ rs.length → lenToP rs j ≤ 60 * j
  | 0, _ => by simp [lenToP]
  | j + 1, h => by
    have := lenToP_le rs hl j (by omega)
    have := hl j (by omega)
    simp only [lenToP]
    omega

end Go.Proofs.Ythafhfdhahbdoaa
