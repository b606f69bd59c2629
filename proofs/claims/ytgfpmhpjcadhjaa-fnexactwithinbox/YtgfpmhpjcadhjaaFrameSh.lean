/- A shape that came in, opened: its kind and its rows. -/
import Derived.Test.YtgfpmhpjcadhjaaFramePs
import Derived.Test.YtgfpmhpjcadhjaaPtsL
namespace Go.Proofs.Ytgfpmhpjcadhjaa
open Go.ChangeShapes Go.WideShapes Go.ChangeAt Go.RowKit Go.Joins

theorem cells_one {w : World} {a : Addr} {cs : List Value} (h : w.cells? 0 a 1 = some cs) : ∃ c0, cs = [c0] ∧ w.cell? (a.add 0) = some c0 := by
  unfold World.cells? at h
  rw [if_pos (Nat.zero_le _)] at h
  simp only [List.range_succ, List.range_zero, List.nil_append, List.mapM_cons, List.mapM_nil] at h
  cases h0 : w.cell? (a.add 0) with
  | none => simp [h0] at h
  | some c0 =>
    simp [h0] at h
    exact ⟨c0, h.symm, rfl⟩
theorem cellsRow : Try.prog.cellsOf 55 = 1 := by kernel_rfl
theorem cellsShape : Try.prog.cellsOf 24 = 2 := by kernel_rfl

set_option maxRecDepth 100000 in
theorem openPtsC {H : Type} {enc : TypeId × Value → H} {W : World} {m : Nat} {v : Value} {y : DataW H × List MemPlace}
    (hm : DataW.trod enc Try.prog W 0 (fun _ => true) true m 55 [v] = some y) :
    ∃ a cap ps, v = .slice a (List.length ps) cap ∧ SeesP W a cap ps := by
  rcases DataW.trod_slice Try.underlying55 hm with ⟨hcs, _⟩ | ⟨x, len, cap, elems, rest, n, _, hcs, _, _, hl, hM, hlen, hel, _, _⟩
  · simp only [List.cons.injEq, and_true] at hcs
    subst hcs
    exact ⟨none, 0, [], rfl, ⟨by simp, by simp [maxLen], fun h => absurd rfl h⟩⟩
  · simp only [List.cons.injEq, and_true] at hcs
    subst hcs
    have get : ∀ i, i < len → ∃ q : Int × Int, W.cell? ((x.add (i * 2)).add 0) = some (.int .i64 q.1) ∧ W.cell? ((x.add (i * 2)).add 1) = some (.int .i64 q.2) := by
      intro i hi
      have hE := hel i hi
      rw [cellsPtN, List.getElem?_eq_getElem (show i < elems.length by omega), Option.bind_eq_some_iff] at hE
      obtain ⟨cs, hc2, hy⟩ := hE
      obtain ⟨e0, e1, rfl, g0, g1⟩ := cells_two hc2
      obtain ⟨a, b, rfl, rfl⟩ := openTwo hy
      exact ⟨(a, b), g0, g1⟩
    refine ⟨some x, cap, (List.range len).map (fun i => if h : i < len then Classical.choose (get i h) else (0, 0)), by simp, ⟨by simpa using hl, hM, fun hn => ?_⟩⟩
    have hpos : 0 < len := by
      rcases Nat.eq_zero_or_pos len with e | e
      · subst e; simp at hn
      · exact e
    obtain ⟨b, off, spot⟩ := x
    obtain ⟨q0, hq0, _⟩ := get 0 hpos
    have hspot : spot = none := by simpa [Addr.add] using World.cell?_spot hq0
    subst hspot
    refine ⟨b, off, rfl, fun i hi => ?_⟩
    have hi' : i < len := by simpa using hi
    have hc := Classical.choose_spec (get i hi')
    rw [List.getElem?_map, List.getElem?_range hi']
    simp only [Option.map_some, Option.getD_some, dif_pos hi']
    have e0 : ((⟨b, off, none⟩ : Addr).add (i * 2)).add 0 = ⟨b, off + i * 2, none⟩ := by simp [Addr.add_lit]
    have e1 : ((⟨b, off, none⟩ : Addr).add (i * 2)).add 1 = ⟨b, off + i * 2 + 1, none⟩ := by simp [Addr.add_lit]
    exact ⟨(congrArg W.cell? e0.symm).trans hc.1, (congrArg W.cell? e1.symm).trans hc.2⟩

set_option maxRecDepth 100000 in
theorem openRows {H : Type} {enc : TypeId × Value → H} {W : World} {m : Nat} {v : Value} {y : DataW H × List MemPlace}
    (hm : DataW.trod enc Try.prog W 0 (fun _ => true) true m 22 [v] = some y) :
    ∃ a cap rs, v = .slice a (List.length rs) cap ∧ SeesS W a cap rs := by
  rcases DataW.trod_slice Try.underlying22 hm with ⟨hcs, _⟩ | ⟨x, len, cap, elems, rest, n, _, hcs, _, _, hl, hM, hlen, hel, _, _⟩
  · simp only [List.cons.injEq, and_true] at hcs
    subst hcs
    exact ⟨none, 0, [], rfl, ⟨by simp, by simp [maxLen], fun h => absurd rfl h⟩⟩
  · simp only [List.cons.injEq, and_true] at hcs
    subst hcs
    have get : ∀ i, i < len → ∃ ps : List (Int × Int), ∃ a' c', W.cell? ((x.add i).add 0) = some (.slice a' ps.length c') ∧ SeesP W a' c' ps := by
      intro i hi
      have hE := hel i hi
      rw [cellsRow, Nat.mul_one, List.getElem?_eq_getElem (show i < elems.length by omega), Option.bind_eq_some_iff] at hE
      obtain ⟨cs, hc2, hy⟩ := hE
      obtain ⟨e0, rfl, g0⟩ := cells_one hc2
      obtain ⟨a', c', ps, rfl, sp⟩ := openPtsC hy
      exact ⟨ps, a', c', g0, sp⟩
    refine ⟨some x, cap, (List.range len).map (fun i => if h : i < len then Classical.choose (get i h) else []), by simp, ⟨by simpa using hl, hM, fun hn => ?_⟩⟩
    have hpos : 0 < len := by
      rcases Nat.eq_zero_or_pos len with e | e
      · subst e; simp at hn
      · exact e
    obtain ⟨b, off, spot⟩ := x
    obtain ⟨_, _, _, hq0, _⟩ := get 0 hpos
    have hspot : spot = none := by simpa [Addr.add] using World.cell?_spot hq0
    subst hspot
    refine ⟨b, off, rfl, fun i hi => ?_⟩
    have hi' : i < len := by simpa using hi
    have hc := Classical.choose_spec (get i hi')
    have er : rowA ((List.range len).map (fun i => if h : i < len then Classical.choose (get i h) else [])) i = Classical.choose (get i hi') := by
      unfold rowA
      rw [List.getElem?_map, List.getElem?_range hi']
      simp only [Option.map_some, Option.getD_some, dif_pos hi']
    rw [er]
    obtain ⟨a', c', h1, h2⟩ := hc
    have e0 : ((⟨b, off, none⟩ : Addr).add i).add 0 = ⟨b, off + i, none⟩ := by simp [Addr.add_lit]
    exact ⟨a', c', (congrArg W.cell? e0.symm).trans h1, h2⟩

set_option maxRecDepth 100000 in
theorem openShape {H : Type} {enc : TypeId × Value → H} {W : World} {base : Nat} {v : Value} {d : DataW H} {p : List MemPlace}
    (hv : Value.okWide Try.prog W .any base 24 v) (h : DataW.Trod enc Try.prog W 0 (fun _ => true) true 24 v d p) :
    ∃ k a cap rs, v = .agg #[.int .i64 k, .slice a (List.length rs) cap] ∧ SeesS W a cap rs := by
  obtain ⟨c0, c1, y0, y1, m, rfl, rfl, rfl, hy0, hy1⟩ := open_agg2 Try.underlying24 (by kernel_rfl) cellsShape hv h
  obtain ⟨k, e0, _⟩ := DataW.trod_int Try.underlying3 hy0
  simp at e0
  subst e0
  obtain ⟨a, cap, rs, rfl, sr⟩ := openRows hy1
  exact ⟨k, a, cap, rs, rfl, sr⟩
end Go.Proofs.Ytgfpmhpjcadhjaa
