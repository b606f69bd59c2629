/- The segments of a shape: of the program (segmentsOf, allSegments, Segments). -/
import Derived.Test.YthhogmbhgehaeaaDoorSegS
import Derived.Test.YthhogmbhgehaeaaDoorGoodI
namespace Go.Proofs.YthhogmbhgehaeaaDoor
open Go.RowKit

theorem SeesQ.cut {w : World} {a : Option Addr} {c : Nat} {es : List Sg} (h : SeesQ w a c es) (m : Nat) : SeesQ w a c (es.take m) :=
  ⟨by rw [List.length_take]; have := h.fits; omega, h.max, fun hn => by
    obtain ⟨b, off, ha, hc⟩ := h.cells (by intro e; rw [e] at hn; simp at hn)
    refine ⟨b, off, ha, fun i hi => ?_⟩
    rw [List.length_take] at hi
    have e : sgA (es.take m) i = sgA es i := by unfold sgA; rw [List.getElem?_take_of_lt (by omega)]
    rw [e]
    exact hc i (by omega)⟩

end Go.Proofs.YthhogmbhgehaeaaDoor
