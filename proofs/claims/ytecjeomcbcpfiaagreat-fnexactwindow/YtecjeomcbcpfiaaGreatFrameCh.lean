/- A change that came in, opened. -/
import Derived.Test.YtecjeomcbcpfiaaGreatFramePt
import Derived.Deep.Strs
namespace Go.Proofs.YtecjeomcbcpfiaaGreat
open Go.ChangeShapes Go.WideShapes Go.ChangeAt Go.RowKit Go.Joins

theorem cellsIntC : Tryz.prog.cellsOf 3 = 1 := by kernel_rfl
theorem cellsRowsC : Tryz.prog.cellsOf 41 = 1 := by kernel_rfl
set_option maxRecDepth 100000 in
theorem openShapeC {H : Type} {enc : TypeId × Value → H} {W : World} {n : Nat} {c0 c1 : Value} {y : DataW H × List MemPlace}
    (h : DataW.trod enc Tryz.prog W 0 (fun _ => true) true n 43 [c0, c1] = some y) : ∃ k a cap rs, c0 = .int .i64 k ∧ c1 = .slice a (List.length rs) cap ∧ SeesS W a cap rs := by
  obtain ⟨y0, y1, m, _, _, h0, h1⟩ := trod_struct2 Tryz.underlying43 h
  obtain ⟨k, e0, _⟩ := DataW.trod_int Tryz.underlying3 (by simpa [cellsIntC] using h0 : DataW.trod enc Tryz.prog W 0 (fun _ => true) true m 3 [c0] = some y0)
  obtain ⟨a, cap, rs, e1, s⟩ := openRows (by simpa [cellsRowsC] using h1 : DataW.trod enc Tryz.prog W 0 (fun _ => true) true m 41 [c1] = some y1)
  simp at e0
  exact ⟨k, a, cap, rs, e0, e1, s⟩
end Go.Proofs.YtecjeomcbcpfiaaGreat
