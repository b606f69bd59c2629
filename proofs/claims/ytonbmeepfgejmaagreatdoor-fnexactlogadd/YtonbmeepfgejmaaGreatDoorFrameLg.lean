/- A log that came in, opened: its four numbers. -/
import Derived.Test.YtonbmeepfgejmaaGreatDoorFrameDk
namespace Go.Proofs.YtonbmeepfgejmaaGreatDoor
open Go.ChangeShapes Go.WideShapes Go.ChangeAt Go.RowKit Go.Joins

theorem cellsIntL : Tryz.prog.cellsOf 3 = 1 := by kernel_rfl
theorem cellsLog : Tryz.prog.cellsOf 27 = 4 := by kernel_rfl
set_option maxRecDepth 100000 in
theorem openLog {H : Type} {enc : TypeId × Value → H} {W : World} {base : Nat} {v : Value} {d : DataW H} {p : List MemPlace}
    (hv : Value.okWide Tryz.prog W .any base 27 v) (h : DataW.Trod enc Tryz.prog W 0 (fun _ => true) true 27 v d p) :
    ∃ a b c d, v = .agg #[.int .i64 a, .int .i64 b, .int .i64 c, .int .i64 d] := by
  obtain ⟨cs, rfl, hsz⟩ := okWide_struct Tryz.underlying27 hv
  obtain ⟨c0, c1, c2, c3, rfl⟩ := array4 (hsz.trans cellsLog)
  obtain ⟨fuel, hf⟩ := h
  obtain ⟨y0, y1, y2, y3, n, _, _, h0, h1, h2, h3⟩ := trod_struct4 Tryz.underlying27 hf
  obtain ⟨a, e0, _⟩ := DataW.trod_int Tryz.underlying3 (by simpa [Value.cells, cellsIntL] using h0 : DataW.trod enc Tryz.prog W 0 (fun _ => true) true n 3 [c0] = some y0)
  obtain ⟨b, e1, _⟩ := DataW.trod_int Tryz.underlying3 (by simpa [Value.cells, cellsIntL] using h1 : DataW.trod enc Tryz.prog W 0 (fun _ => true) true n 3 [c1] = some y1)
  obtain ⟨c, e2, _⟩ := DataW.trod_int Tryz.underlying3 (by simpa [Value.cells, cellsIntL] using h2 : DataW.trod enc Tryz.prog W 0 (fun _ => true) true n 3 [c2] = some y2)
  obtain ⟨d, e3, _⟩ := DataW.trod_int Tryz.underlying3 (by simpa [Value.cells, cellsIntL] using h3 : DataW.trod enc Tryz.prog W 0 (fun _ => true) true n 3 [c3] = some y3)
  simp at e0 e1 e2 e3
  exact ⟨a, b, c, d, by rw [e0, e1, e2, e3]⟩
end Go.Proofs.YtonbmeepfgejmaaGreatDoor
