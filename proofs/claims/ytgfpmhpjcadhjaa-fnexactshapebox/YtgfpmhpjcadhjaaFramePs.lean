/- A list of points that came in, opened. -/
import Derived.Test.YtgfpmhpjcadhjaaFramePt
import Derived.Test.YtgfpmhpjcadhjaaPtG
namespace Go.Proofs.Ytgfpmhpjcadhjaa
open Go.ChangeShapes Go.WideShapes Go.ChangeAt Go.RowKit Go.Joins

theorem cells_two {w : World} {a : Addr} {cs : List Value} (h : w.cells? 0 a 2 = some cs) : ∃ c0 c1, cs = [c0, c1] ∧ w.cell? (a.add 0) = some c0 ∧ w.cell? (a.add 1) = some c1 := by
  unfold World.cells? at h
  rw [if_pos (Nat.zero_le _)] at h
  simp only [List.range_succ, List.range_zero, List.nil_append, List.cons_append, List.mapM_cons, List.mapM_nil] at h
  cases h0 : w.cell? (a.add 0) with
  | none => simp [h0] at h
  | some c0 =>
    cases h1 : w.cell? (a.add 1) with
    | none => simp [h0, h1] at h
    | some c1 =>
      simp [h0, h1] at h
      exact ⟨c0, c1, h.symm, rfl, rfl⟩

set_option maxRecDepth 100000 in
theorem openPts {H : Type} {enc : TypeId × Value → H} {W : World} {base : Nat} {v : Value} {d : DataW H} {p : List MemPlace}
    (hv : Value.okWide Try.prog W .any base 55 v) (h : DataW.Trod enc Try.prog W 0 (fun _ => true) true 55 v d p) :
    ∃ a cap ps, v = .slice a (List.length ps) cap ∧ SeesP W a cap ps := by
  obtain ⟨a0, n0, c0, rfl⟩ := okWide_slice Try.underlying55 hv
  obtain ⟨m, hm⟩ := h
  rcases DataW.trod_slice Try.underlying55 hm with ⟨hcs, _⟩ | ⟨x, len, cap, elems, rest, n, _, hcs, _, _, hl, hM, hlen, hel, _, _⟩
  · simp [Value.cells] at hcs
    obtain ⟨rfl, rfl, rfl⟩ := hcs
    exact ⟨none, 0, [], rfl, ⟨by simp, by simp [maxLen], fun h => absurd rfl h⟩⟩
  · simp [Value.cells] at hcs
    obtain ⟨rfl, rfl, rfl⟩ := hcs
    have get : ∀ i, i < n0 → ∃ q : Int × Int, W.cell? ((x.add (i * 2)).add 0) = some (.int .i64 q.1) ∧ W.cell? ((x.add (i * 2)).add 1) = some (.int .i64 q.2) := by
      intro i hi
      have hE := hel i hi
      rw [cellsPtN, List.getElem?_eq_getElem (show i < elems.length by omega), Option.bind_eq_some_iff] at hE
      obtain ⟨cs, hc2, hy⟩ := hE
      obtain ⟨e0, e1, rfl, g0, g1⟩ := cells_two hc2
      obtain ⟨a, b, rfl, rfl⟩ := openTwo hy
      exact ⟨(a, b), g0, g1⟩
    refine ⟨some x, c0, (List.range n0).map (fun i => if h : i < n0 then Classical.choose (get i h) else (0, 0)), by simp, ⟨by simpa using hl, hM, fun hn => ?_⟩⟩
    have hpos : 0 < n0 := by
      rcases Nat.eq_zero_or_pos n0 with e | e
      · subst e; simp at hn
      · exact e
    obtain ⟨b, off, spot⟩ := x
    obtain ⟨q0, hq0, _⟩ := get 0 hpos
    have hspot : spot = none := by simpa [Addr.add] using World.cell?_spot hq0
    subst hspot
    refine ⟨b, off, rfl, fun i hi => ?_⟩
    have hi' : i < n0 := by simpa using hi
    have hc := Classical.choose_spec (get i hi')
    rw [List.getElem?_map, List.getElem?_range hi']
    simp only [Option.map_some, Option.getD_some, dif_pos hi']
    have e0 : ((⟨b, off, none⟩ : Addr).add (i * 2)).add 0 = ⟨b, off + i * 2, none⟩ := by simp [Addr.add_lit]
    have e1 : ((⟨b, off, none⟩ : Addr).add (i * 2)).add 1 = ⟨b, off + i * 2 + 1, none⟩ := by simp [Addr.add_lit]
    exact ⟨(congrArg W.cell? e0.symm).trans hc.1, (congrArg W.cell? e1.symm).trans hc.2⟩
end Go.Proofs.Ytgfpmhpjcadhjaa
