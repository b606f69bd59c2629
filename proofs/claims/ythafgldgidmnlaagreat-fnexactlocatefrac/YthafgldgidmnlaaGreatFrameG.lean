/- A fraction that came in, opened, beside shapes: its parts' signs and limbs (FrameF's text, over FramePt). -/
import Derived.Test.YthafgldgidmnlaaGreatFramePt
import Derived.ShutString
namespace Go.Proofs.YthafgldgidmnlaaGreat
open Go.ChangeShapes Go.WideShapes Go.ChangeAt Go.RowKit Go.Joins

theorem cellsNum : Tryz.prog.cellsOf 27 = 2 := by kernel_rfl

theorem wf_u32 {n : Int} (h : (Lit.int .u32 n).wf = true) : 0 ≤ n ∧ n < 4294967296 := by
  have hx : 0 ≤ n ∧ n ≤ 4294967295 := by simpa [Lit.wf, IntKind.min, IntKind.max, IntKind.signed, IntKind.bits] using h
  omega

theorem cellsFlag : Tryz.prog.cellsOf 4 = 1 := by kernel_rfl
theorem cellsMag : Tryz.prog.cellsOf 25 = 1 := by kernel_rfl
theorem cellsFrac : Tryz.prog.cellsOf 29 = 4 := by kernel_rfl

set_option maxRecDepth 100000 in
theorem openCells {H : Type} {enc : TypeId × Value → H} {W : World} {n : Nat} {c0 c1 : Value} {y : DataW H × List MemPlace}
    (h : DataW.trod enc Tryz.prog W 0 (fun _ => true) true n 27 [c0, c1] = some y) : ∃ g a c xs, c0 = .bool g ∧ c1 = .slice a xs.length c ∧ Came W a c xs := by
  obtain ⟨y0, y1, m, _, _, h0, h1⟩ := trod_struct2 Tryz.underlying27 h
  have hy0 : DataW.trod enc Tryz.prog W 0 (fun _ => true) true m 4 [c0] = some y0 := by simpa [cellsFlag] using h0
  have hy1 : DataW.trod enc Tryz.prog W 0 (fun _ => true) true m 25 [c1] = some y1 := by simpa [cellsMag] using h1
  obtain ⟨g, e0, _⟩ := DataW.trod_bool Tryz.underlying4 hy0
  simp at e0
  subst e0
  rcases open_ints Tryz.underlying25 Tryz.underlying81 (by kernel_rfl) hy1 with ⟨hcs, _⟩ | ⟨x, l, c, zs, hcs, _, hl, hm, hz, _, hcell, hwz⟩
  · simp at hcs
    subst hcs
    exact ⟨g, none, 0, [], rfl, rfl, ⟨Lim.nil, by simp, by simp [maxLen], fun h => absurd rfl h⟩⟩
  · simp at hcs
    subst hcs
    have hz' : zs.length = c := by simpa using hz
    have hlen : (zs.take l).length = l := by simp; omega
    refine ⟨g, some x, c, zs.take l, rfl, by rw [hlen], ⟨fun n hn => wf_u32 (hwz n (List.mem_of_mem_take hn)), by omega, hm, fun hne => ?_⟩⟩
    have hpos : 0 < l := by
      rcases Nat.eq_zero_or_pos l with e | e
      · subst e; simp at hne
      · exact e
    obtain ⟨b, off, spot⟩ := x
    have hc := hcell 0 (by omega)
    have hspot : spot = none := by simpa [Addr.add] using World.cell?_spot hc
    subst hspot
    refine ⟨b, off, rfl, fun i hi => ?_⟩
    have := hcell i (by omega)
    rw [Addr.add_lit] at this
    rw [this, List.getElem?_take, if_pos (by omega)]
    rfl

set_option maxRecDepth 100000 in
theorem openFrac {H : Type} {enc : TypeId × Value → H} {W : World} {base : Nat} {v : Value} {d : DataW H} {p : List MemPlace}
    (hv : Value.okWide Tryz.prog W .any base 29 v) (h : DataW.Trod enc Tryz.prog W 0 (fun _ => true) true 29 v d p) :
    ∃ g a c xs g' a' c' ys, v = .agg #[.bool g, .slice a xs.length c, .bool g', .slice a' ys.length c'] ∧ Came W a c xs ∧ Came W a' c' ys := by
  obtain ⟨cs, rfl, hsz⟩ := okWide_struct Tryz.underlying29 hv
  obtain ⟨c0, c1, c2, c3, rfl⟩ := array4 (hsz.trans cellsFrac)
  obtain ⟨fuel, hf⟩ := h
  obtain ⟨y0, y1, n, _, _, h0, h1⟩ := trod_struct2 Tryz.underlying29 hf
  obtain ⟨g, a, c, xs, rfl, rfl, hx⟩ := openCells (c0 := c0) (c1 := c1) (by simpa [Value.cells, cellsNum] using h0)
  obtain ⟨g', a', c', ys, rfl, rfl, hy⟩ := openCells (c0 := c2) (c1 := c3) (by simpa [Value.cells, cellsNum] using h1)
  exact ⟨g, a, c, xs, g', a', c', ys, rfl, hx, hy⟩
end Go.Proofs.YthafgldgidmnlaaGreat
