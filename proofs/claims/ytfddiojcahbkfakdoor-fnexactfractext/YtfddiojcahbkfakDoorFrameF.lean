/- A fraction that came in, opened: its parts' signs and limbs. -/
import Derived.Test.YtfddiojcahbkfakDoorFrame
namespace Go.Proofs.YtfddiojcahbkfakDoor
open Go.ChangeShapes Go.WideShapes Go.ChangeAt Go.RowKit Go.Joins

theorem cellsBool : Tryd.prog.cellsOf 4 = 1 := by kernel_rfl
theorem cellsRow : Tryd.prog.cellsOf 22 = 1 := by kernel_rfl
theorem cellsFrac : Tryd.prog.cellsOf 26 = 4 := by kernel_rfl

theorem openCells {H : Type} {enc : TypeId × Value → H} {W : World} {n : Nat} {c0 c1 : Value} {y : DataW H × List MemPlace}
    (h : DataW.trod enc Tryd.prog W 0 (fun _ => true) true n 24 [c0, c1] = some y) : ∃ g a c xs, c0 = .bool g ∧ c1 = .slice a xs.length c ∧ Came W a c xs := by
  obtain ⟨y0, y1, m, _, _, h0, h1⟩ := trod_struct2 Tryd.underlying24 h
  have hy0 : DataW.trod enc Tryd.prog W 0 (fun _ => true) true m 4 [c0] = some y0 := by simpa [cellsBool] using h0
  have hy1 : DataW.trod enc Tryd.prog W 0 (fun _ => true) true m 22 [c1] = some y1 := by simpa [cellsRow] using h1
  obtain ⟨g, e0, _⟩ := DataW.trod_bool Tryd.underlying4 hy0
  simp at e0
  subst e0
  rcases open_ints Tryd.underlying22 Tryd.underlying48 (by kernel_rfl) hy1 with ⟨hcs, _⟩ | ⟨x, l, c, zs, hcs, _, hl, hm, hz, _, hcell, hwz⟩
  · simp at hcs
    subst hcs
    exact ⟨g, none, 0, [], rfl, rfl, ⟨Lim.nil, by simp, by simp [maxLen], fun h => absurd rfl h⟩⟩
  · simp at hcs
    subst hcs
    have hz' : zs.length = c := by simpa using hz
    have hlen : (zs.take l).length = l := by simp; omega
    refine ⟨g, some x, c, zs.take l, rfl, by rw [hlen], ⟨fun n hn => wf_u32 (hwz n (List.mem_of_mem_take hn)), by omega, hm, fun hne => ?_⟩⟩
    have hpos : 0 < l := by
      rcases Nat.eq_zero_or_pos l with e | e
      · subst e; simp at hne
      · exact e
    obtain ⟨b, off, spot⟩ := x
    have hc := hcell 0 (by omega)
    have hspot : spot = none := by simpa [Addr.add] using World.cell?_spot hc
    subst hspot
    refine ⟨b, off, rfl, fun i hi => ?_⟩
    have := hcell i (by omega)
    rw [Addr.add_lit] at this
    rw [this, List.getElem?_take, if_pos (by omega)]
    rfl

theorem openFrac {H : Type} {enc : TypeId × Value → H} {W : World} {base : Nat} {v : Value} {d : DataW H} {p : List MemPlace}
    (hv : Value.okWide Tryd.prog W .any base 26 v) (h : DataW.Trod enc Tryd.prog W 0 (fun _ => true) true 26 v d p) :
    ∃ g a c xs g' a' c' ys, v = .agg #[.bool g, .slice a xs.length c, .bool g', .slice a' ys.length c'] ∧ Came W a c xs ∧ Came W a' c' ys := by
  obtain ⟨cs, rfl, hsz⟩ := okWide_struct Tryd.underlying26 hv
  obtain ⟨c0, c1, c2, c3, rfl⟩ := array4 (hsz.trans cellsFrac)
  obtain ⟨fuel, hf⟩ := h
  obtain ⟨y0, y1, n, _, _, h0, h1⟩ := trod_struct2 Tryd.underlying26 hf
  obtain ⟨g, a, c, xs, rfl, rfl, hx⟩ := openCells (c0 := c0) (c1 := c1) (by simpa [Value.cells, cellsNum] using h0)
  obtain ⟨g', a', c', ys, rfl, rfl, hy⟩ := openCells (c0 := c2) (c1 := c3) (by simpa [Value.cells, cellsNum] using h1)
  exact ⟨g, a, c, xs, g', a', c', ys, rfl, hx, hy⟩
end Go.Proofs.YtfddiojcahbkfakDoor
