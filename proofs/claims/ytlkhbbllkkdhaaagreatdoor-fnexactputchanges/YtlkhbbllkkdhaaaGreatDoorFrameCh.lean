/- A change that came in, opened. -/
import Derived.Test.YtlkhbbllkkdhaaaGreatDoorFramePt
import Derived.Deep.Strs
namespace Go.Proofs.YtlkhbbllkkdhaaaGreatDoor
open Go.ChangeShapes Go.WideShapes Go.ChangeAt Go.RowKit Go.Joins

theorem cellsChange : Tryz.prog.cellsOf 38 = 4 := by kernel_rfl
theorem cellsIntC : Tryz.prog.cellsOf 3 = 1 := by kernel_rfl
theorem cellsRowsC : Tryz.prog.cellsOf 34 = 1 := by kernel_rfl
set_option maxRecDepth 100000 in
theorem openShapeC {H : Type} {enc : TypeId × Value → H} {W : World} {n : Nat} {c0 c1 : Value} {y : DataW H × List MemPlace}
    (h : DataW.trod enc Tryz.prog W 0 (fun _ => true) true n 36 [c0, c1] = some y) : ∃ k a cap rs, c0 = .int .i64 k ∧ c1 = .slice a (List.length rs) cap ∧ SeesS W a cap rs := by
  obtain ⟨y0, y1, m, _, _, h0, h1⟩ := trod_struct2 Tryz.underlying36 h
  obtain ⟨k, e0, _⟩ := DataW.trod_int Tryz.underlying3 (by simpa [cellsIntC] using h0 : DataW.trod enc Tryz.prog W 0 (fun _ => true) true m 3 [c0] = some y0)
  obtain ⟨a, cap, rs, e1, s⟩ := openRows (by simpa [cellsRowsC] using h1 : DataW.trod enc Tryz.prog W 0 (fun _ => true) true m 34 [c1] = some y1)
  simp at e0
  exact ⟨k, a, cap, rs, e0, e1, s⟩
set_option maxRecDepth 100000 in
theorem openChangeC {H : Type} {enc : TypeId × Value → H} {W : World} {n : Nat} {c0 c1 c2 c3 : Value} {y : DataW H × List MemPlace}
    (h : DataW.trod enc Tryz.prog W 0 (fun _ => true) true n 38 [c0, c1, c2, c3] = some y) : ∃ kd ix k a cap rs, c0 = .int .i64 kd ∧ c1 = .int .i64 ix ∧ c2 = .int .i64 k ∧ c3 = .slice a (List.length rs) cap ∧ SeesS W a cap rs := by
  obtain ⟨y0, y1, y2, m, _, _, h0, h1, h2⟩ := Go.Deep.trod_struct3 Tryz.underlying38 h
  obtain ⟨kd, e0, _⟩ := DataW.trod_int Tryz.underlying3 (by simpa [cellsIntC] using h0 : DataW.trod enc Tryz.prog W 0 (fun _ => true) true m 3 [c0] = some y0)
  obtain ⟨ix, e1, _⟩ := DataW.trod_int Tryz.underlying3 (by simpa [cellsIntC] using h1 : DataW.trod enc Tryz.prog W 0 (fun _ => true) true m 3 [c1] = some y1)
  obtain ⟨k, a, cap, rs, e2, e3, s⟩ := openShapeC (c0 := c2) (c1 := c3) (by simpa [cellsShape] using h2)
  simp at e0 e1
  exact ⟨kd, ix, k, a, cap, rs, e0, e1, e2, e3, s⟩
set_option maxRecDepth 100000 in
theorem openChange {H : Type} {enc : TypeId × Value → H} {W : World} {base : Nat} {v : Value} {d : DataW H} {p : List MemPlace}
    (hv : Value.okWide Tryz.prog W .any base 38 v) (h : DataW.Trod enc Tryz.prog W 0 (fun _ => true) true 38 v d p) :
    ∃ kd ix k a cap rs, v = .agg #[.int .i64 kd, .int .i64 ix, .int .i64 k, .slice a (List.length rs) cap] ∧ SeesS W a cap rs := by
  obtain ⟨cs, rfl, hsz⟩ := okWide_struct Tryz.underlying38 hv
  obtain ⟨c0, c1, c2, c3, rfl⟩ := array4 (hsz.trans cellsChange)
  obtain ⟨fuel, hf⟩ := h
  obtain ⟨kd, ix, k, a, cap, rs, rfl, rfl, rfl, rfl, s⟩ := openChangeC (by simpa [Value.cells] using hf)
  exact ⟨kd, ix, k, a, cap, rs, rfl, s⟩
end Go.Proofs.YtlkhbbllkkdhaaaGreatDoor
