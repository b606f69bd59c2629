/- The least box of a list of points: of the program. -/
import Derived.Test.YtdkhaghcnijilaaGreatPtG
import Derived.Test.YtdkhaghcnijilaaGreatBoxK
namespace Go.Proofs.YtdkhaghcnijilaaGreat
open Go.RowKit

theorem SeesP.grown {w w' : World} {b0 o0 p cap : Nat} {ps : List (Int × Int)} (h : SeesP w (some ⟨b0, o0, none⟩) cap ps) (hg : w.grownBy w' (some p)) (ne : b0 ≠ p) : SeesP w' (some ⟨b0, o0, none⟩) cap ps :=
  ⟨h.fits, h.max, fun hn => by
    obtain ⟨b, off, ha, hc⟩ := h.cells hn
    simp only [Option.some.injEq, Addr.mk.injEq] at ha
    obtain ⟨rfl, rfl, _⟩ := ha
    refine ⟨b0, o0, rfl, fun i hi => ?_⟩
    have hl : b0 < w.heap.size := World.block_lt_of_cell? _ _ (hc i hi).1
    obtain ⟨q, _⟩ := grown_at hg hl (by simpa using ne)
    exact ⟨(q _).trans (hc i hi).1, (q _).trans (hc i hi).2⟩⟩

end Go.Proofs.YtdkhaghcnijilaaGreat
