import Derived.Test.YtnefdfgonolafaaRows
import Derived.Test.YtnefdfgonolafaaBase
import Derived.WalkKit
import Derived.ProofKit
import Derived.OpenShut
import Derived.ShutString
import Derived.ChangeOld
import Derived.Below
import Derived.Lib.SmallJoins
/- A number that came in, opened: its sign, its limbs. -/
namespace Go.Proofs.Ytnefdfgonolafaa
open Go.ChangeShapes Go.WideShapes Go.ChangeAt Go.RowKit Go.Joins

theorem own : ownKnob Try.prog.godebug = none := by kernel_rfl
theorem laidOut : laidOutB Try.prog = true := by kernel_rfl
theorem cellsNum : Try.prog.cellsOf 24 = 2 := by kernel_rfl

theorem wf_u32 {n : Int} (h : (Lit.int .u32 n).wf = true) : 0 ≤ n ∧ n < 4294967296 := by
  have hx : 0 ≤ n ∧ n ≤ 4294967295 := by simpa [Lit.wf, IntKind.min, IntKind.max, IntKind.signed, IntKind.bits] using h
  omega

theorem openNum {H : Type} {enc : TypeId × Value → H} {W : World} {base : Nat} {v : Value} {d : DataW H} {p : List MemPlace}
    (hv : Value.okWide Try.prog W .any base 24 v) (h : DataW.Trod enc Try.prog W 0 (fun _ => true) true 24 v d p) :
    ∃ g a c xs, v = .agg #[.bool g, .slice a xs.length c] ∧ Came W a c xs := by
  obtain ⟨c0, c1, y0, y1, m, rfl, rfl, rfl, hy0, hy1⟩ := open_agg2 Try.underlying24 (by kernel_rfl) cellsNum hv h
  obtain ⟨g, e0, _⟩ := DataW.trod_bool Try.underlying4 hy0
  simp at e0
  subst e0
  rcases open_ints Try.underlying22 Try.underlying80 (by kernel_rfl) hy1 with ⟨hcs, _⟩ | ⟨x, l, c, zs, hcs, _, hl, hm, hz, _, hcell, hwz⟩
  · simp at hcs
    subst hcs
    exact ⟨g, none, 0, [], rfl, ⟨Lim.nil, by simp, by simp [maxLen], fun h => absurd rfl h⟩⟩
  · simp at hcs
    subst hcs
    have hz' : zs.length = c := by simpa using hz
    have hlen : (zs.take l).length = l := by simp; omega
    refine ⟨g, some x, c, zs.take l, by rw [hlen], ⟨fun n hn => wf_u32 (hwz n (List.mem_of_mem_take hn)), by omega, hm, fun hne => ?_⟩⟩
    have hpos : 0 < l := by
      rcases Nat.eq_zero_or_pos l with e | e
      · subst e; simp at hne
      · exact e
    obtain ⟨b, off, spot⟩ := x
    have hc := hcell 0 (by omega)
    have hspot : spot = none := by simpa [Addr.add] using World.cell?_spot hc
    subst hspot
    refine ⟨b, off, rfl, fun i hi => ?_⟩
    have := hcell i (by omega)
    rw [Addr.add_lit] at this
    rw [this, List.getElem?_take, if_pos (by omega)]
    rfl
end Go.Proofs.Ytnefdfgonolafaa

/- A fraction that came in, opened: its parts' signs and limbs. -/
namespace Go.Proofs.Ytnefdfgonolafaa
open Go.ChangeShapes Go.WideShapes Go.ChangeAt Go.RowKit Go.Joins

theorem cellsBool : Try.prog.cellsOf 4 = 1 := by kernel_rfl
theorem cellsRow : Try.prog.cellsOf 22 = 1 := by kernel_rfl
theorem cellsFrac : Try.prog.cellsOf 26 = 4 := by kernel_rfl

theorem openCells {H : Type} {enc : TypeId × Value → H} {W : World} {n : Nat} {c0 c1 : Value} {y : DataW H × List MemPlace}
    (h : DataW.trod enc Try.prog W 0 (fun _ => true) true n 24 [c0, c1] = some y) : ∃ g a c xs, c0 = .bool g ∧ c1 = .slice a xs.length c ∧ Came W a c xs := by
  obtain ⟨y0, y1, m, _, _, h0, h1⟩ := trod_struct2 Try.underlying24 h
  have hy0 : DataW.trod enc Try.prog W 0 (fun _ => true) true m 4 [c0] = some y0 := by simpa [cellsBool] using h0
  have hy1 : DataW.trod enc Try.prog W 0 (fun _ => true) true m 22 [c1] = some y1 := by simpa [cellsRow] using h1
  obtain ⟨g, e0, _⟩ := DataW.trod_bool Try.underlying4 hy0
  simp at e0
  subst e0
  rcases open_ints Try.underlying22 Try.underlying80 (by kernel_rfl) hy1 with ⟨hcs, _⟩ | ⟨x, l, c, zs, hcs, _, hl, hm, hz, _, hcell, hwz⟩
  · simp at hcs
    subst hcs
    exact ⟨g, none, 0, [], rfl, rfl, ⟨Lim.nil, by simp, by simp [maxLen], fun h => absurd rfl h⟩⟩
  · simp at hcs
    subst hcs
    have hz' : zs.length = c := by simpa using hz
    have hlen : (zs.take l).length = l := by simp; omega
    refine ⟨g, some x, c, zs.take l, rfl, by rw [hlen], ⟨fun n hn => wf_u32 (hwz n (List.mem_of_mem_take hn)), by omega, hm, fun hne => ?_⟩⟩
    have hpos : 0 < l := by
      rcases Nat.eq_zero_or_pos l with e | e
      · subst e; simp at hne
      · exact e
    obtain ⟨b, off, spot⟩ := x
    have hc := hcell 0 (by omega)
    have hspot : spot = none := by simpa [Addr.add] using World.cell?_spot hc
    subst hspot
    refine ⟨b, off, rfl, fun i hi => ?_⟩
    have := hcell i (by omega)
    rw [Addr.add_lit] at this
    rw [this, List.getElem?_take, if_pos (by omega)]
    rfl

theorem openFrac {H : Type} {enc : TypeId × Value → H} {W : World} {base : Nat} {v : Value} {d : DataW H} {p : List MemPlace}
    (hv : Value.okWide Try.prog W .any base 26 v) (h : DataW.Trod enc Try.prog W 0 (fun _ => true) true 26 v d p) :
    ∃ g a c xs g' a' c' ys, v = .agg #[.bool g, .slice a xs.length c, .bool g', .slice a' ys.length c'] ∧ Came W a c xs ∧ Came W a' c' ys := by
  obtain ⟨cs, rfl, hsz⟩ := okWide_struct Try.underlying26 hv
  obtain ⟨c0, c1, c2, c3, rfl⟩ := array4 (hsz.trans cellsFrac)
  obtain ⟨fuel, hf⟩ := h
  obtain ⟨y0, y1, n, _, _, h0, h1⟩ := trod_struct2 Try.underlying26 hf
  obtain ⟨g, a, c, xs, rfl, rfl, hx⟩ := openCells (c0 := c0) (c1 := c1) (by simpa [Value.cells, cellsNum] using h0)
  obtain ⟨g', a', c', ys, rfl, rfl, hy⟩ := openCells (c0 := c2) (c1 := c3) (by simpa [Value.cells, cellsNum] using h1)
  exact ⟨g, a, c, xs, g', a', c', ys, rfl, hx, hy⟩
end Go.Proofs.Ytnefdfgonolafaa

/- A piece that came in, opened: its fractions' signs and limbs. -/
namespace Go.Proofs.Ytnefdfgonolafaa
open Go.ChangeShapes Go.WideShapes Go.ChangeAt Go.RowKit Go.Joins

theorem cellsPiece : Try.prog.cellsOf 28 = 16 := by kernel_rfl
theorem array16P {T : Array Value} (h : T.size = 16) : ∃ v0 v1 v2 v3 v4 v5 v6 v7 v8 v9 v10 v11 v12 v13 v14 v15, T = #[v0, v1, v2, v3, v4, v5, v6, v7, v8, v9, v10, v11, v12, v13, v14, v15] := by
  obtain ⟨l⟩ := T
  obtain _ | ⟨v0, l⟩ := l
  · cases h
  obtain _ | ⟨v1, l⟩ := l
  · cases h
  obtain _ | ⟨v2, l⟩ := l
  · cases h
  obtain _ | ⟨v3, l⟩ := l
  · cases h
  obtain _ | ⟨v4, l⟩ := l
  · cases h
  obtain _ | ⟨v5, l⟩ := l
  · cases h
  obtain _ | ⟨v6, l⟩ := l
  · cases h
  obtain _ | ⟨v7, l⟩ := l
  · cases h
  obtain _ | ⟨v8, l⟩ := l
  · cases h
  obtain _ | ⟨v9, l⟩ := l
  · cases h
  obtain _ | ⟨v10, l⟩ := l
  · cases h
  obtain _ | ⟨v11, l⟩ := l
  · cases h
  obtain _ | ⟨v12, l⟩ := l
  · cases h
  obtain _ | ⟨v13, l⟩ := l
  · cases h
  obtain _ | ⟨v14, l⟩ := l
  · cases h
  obtain _ | ⟨v15, l⟩ := l
  · cases h
  obtain _ | ⟨v16, l⟩ := l
  · exact ⟨v0, v1, v2, v3, v4, v5, v6, v7, v8, v9, v10, v11, v12, v13, v14, v15, rfl⟩
  · simp at h
theorem openFracCells {H : Type} {enc : TypeId × Value → H} {W : World} {n : Nat} {c0 c1 c2 c3 : Value} {y : DataW H × List MemPlace}
    (h : DataW.trod enc Try.prog W 0 (fun _ => true) true n 26 [c0, c1, c2, c3] = some y) : ∃ g a c xs g' a' c' ys, c0 = .bool g ∧ c1 = .slice a xs.length c ∧ c2 = .bool g' ∧ c3 = .slice a' ys.length c' ∧ Came W a c xs ∧ Came W a' c' ys := by
  obtain ⟨y0, y1, n, _, _, h0, h1⟩ := trod_struct2 Try.underlying26 h
  obtain ⟨g, a, c, xs, rfl, rfl, hx⟩ := openCells (c0 := c0) (c1 := c1) (by simpa [Value.cells, cellsNum] using h0)
  obtain ⟨g', a', c', ys, rfl, rfl, hy⟩ := openCells (c0 := c2) (c1 := c3) (by simpa [Value.cells, cellsNum] using h1)
  exact ⟨g, a, c, xs, g', a', c', ys, rfl, rfl, rfl, rfl, hx, hy⟩

set_option maxRecDepth 100000 in
theorem openPiece {H : Type} {enc : TypeId × Value → H} {W : World} {base : Nat} {v : Value} {d : DataW H} {p : List MemPlace}
    (hv : Value.okWide Try.prog W .any base 28 v) (h : DataW.Trod enc Try.prog W 0 (fun _ => true) true 28 v d p) :
    ∃ g0 a0 c0 x0 h0 b0 d0 y0 g1 a1 c1 x1 h1 b1 d1 y1 g2 a2 c2 x2 h2 b2 d2 y2 g3 a3 c3 x3 h3 b3 d3 y3, v = .agg #[.bool g0, .slice a0 (List.length x0) c0, .bool h0, .slice b0 (List.length y0) d0, .bool g1, .slice a1 (List.length x1) c1, .bool h1, .slice b1 (List.length y1) d1, .bool g2, .slice a2 (List.length x2) c2, .bool h2, .slice b2 (List.length y2) d2, .bool g3, .slice a3 (List.length x3) c3, .bool h3, .slice b3 (List.length y3) d3] ∧ Came W a0 c0 x0 ∧ Came W b0 d0 y0 ∧ Came W a1 c1 x1 ∧ Came W b1 d1 y1 ∧ Came W a2 c2 x2 ∧ Came W b2 d2 y2 ∧ Came W a3 c3 x3 ∧ Came W b3 d3 y3 := by
  obtain ⟨cs, rfl, hsz⟩ := okWide_struct Try.underlying28 hv
  obtain ⟨v0, v1, v2, v3, v4, v5, v6, v7, v8, v9, v10, v11, v12, v13, v14, v15, rfl⟩ := array16P (hsz.trans cellsPiece)
  obtain ⟨fuel, hf⟩ := h
  obtain ⟨y0, y1, y2, y3, n, _, _, k0, k1, k2, k3⟩ := trod_struct4 Try.underlying28 hf
  obtain ⟨g0, a0, c0, x0, h0, b0, d0, y0', rfl, rfl, rfl, rfl, hx0, hy0⟩ := openFracCells (c0 := v0) (c1 := v1) (c2 := v2) (c3 := v3) (by simpa [Value.cells, cellsFrac] using k0)
  obtain ⟨g1, a1, c1, x1, h1, b1, d1, y1', rfl, rfl, rfl, rfl, hx1, hy1⟩ := openFracCells (c0 := v4) (c1 := v5) (c2 := v6) (c3 := v7) (by simpa [Value.cells, cellsFrac] using k1)
  obtain ⟨g2, a2, c2, x2, h2, b2, d2, y2', rfl, rfl, rfl, rfl, hx2, hy2⟩ := openFracCells (c0 := v8) (c1 := v9) (c2 := v10) (c3 := v11) (by simpa [Value.cells, cellsFrac] using k2)
  obtain ⟨g3, a3, c3, x3, h3, b3, d3, y3', rfl, rfl, rfl, rfl, hx3, hy3⟩ := openFracCells (c0 := v12) (c1 := v13) (c2 := v14) (c3 := v15) (by simpa [Value.cells, cellsFrac] using k3)
  exact ⟨g0, a0, c0, x0, h0, b0, d0, y0', g1, a1, c1, x1, h1, b1, d1, y1', g2, a2, c2, x2, h2, b2, d2, y2', g3, a3, c3, x3, h3, b3, d3, y3', rfl, hx0, hy0, hx1, hy1, hx2, hy2, hx3, hy3⟩
end Go.Proofs.Ytnefdfgonolafaa
