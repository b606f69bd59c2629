/- Entries that came in, opened. -/
import Derived.Test.YtecjeomcbcpfiaaGreatFrameCh
import Derived.Test.YtecjeomcbcpfiaaGreatEnL
namespace Go.Proofs.YtecjeomcbcpfiaaGreat
open Go.ChangeShapes Go.WideShapes Go.ChangeAt Go.RowKit Go.Joins

theorem cellsEntry : Tryz.prog.cellsOf 55 = 3 := by kernel_rfl
theorem cells_three {w : World} {a : Addr} {cs : List Value} (h : w.cells? 0 a 3 = some cs) : ∃ c0 c1 c2, cs = [c0, c1, c2] ∧ w.cell? (a.add 0) = some c0 ∧ w.cell? (a.add 1) = some c1 ∧ w.cell? (a.add 2) = some c2 := by
  unfold World.cells? at h
  rw [if_pos (Nat.zero_le _)] at h
  simp only [List.range_succ, List.range_zero, List.nil_append, List.cons_append, List.mapM_cons, List.mapM_nil] at h
  cases h0 : w.cell? (a.add 0) with
  | none => simp [h0] at h
  | some c0 =>
    cases h1 : w.cell? (a.add 1) with
    | none => simp [h0, h1] at h
    | some c1 =>
      cases h2 : w.cell? (a.add 2) with
      | none => simp [h0, h1, h2] at h
      | some c2 =>
        simp [h0, h1, h2] at h
        exact ⟨c0, c1, c2, h.symm, rfl, rfl, rfl⟩

set_option maxRecDepth 100000 in
theorem openEntriesC {H : Type} {enc : TypeId × Value → H} {W : World} {m : Nat} {v : Value} {y : DataW H × List MemPlace}
    (hm : DataW.trod enc Tryz.prog W 0 (fun _ => true) true m 22 [v] = some y) :
    ∃ a cap es, v = .slice a (List.length es) cap ∧ SeesEn W a cap es := by
  rcases DataW.trod_slice Tryz.underlying22 hm with ⟨hcs, _⟩ | ⟨x, len, cap, elems, rest, n, _, hcs, _, _, hl, hM, hlen, hel, _, _⟩
  · simp only [List.cons.injEq, and_true] at hcs
    subst hcs
    exact ⟨none, 0, [], rfl, ⟨by simp, by simp [maxLen], fun h => absurd rfl h⟩⟩
  · simp only [List.cons.injEq, and_true] at hcs
    subst hcs
    have get : ∀ i, i < len → ∃ q : En, ∃ a' c', W.cell? ((x.add (i * 3)).add 0) = some (.int .i64 q.1) ∧ W.cell? ((x.add (i * 3)).add 1) = some (.int .i64 q.2.1) ∧ W.cell? ((x.add (i * 3)).add 2) = some (.slice a' q.2.2.length c') ∧ SeesS W a' c' q.2.2 := by
      intro i hi
      have hE := hel i hi
      rw [cellsEntry, List.getElem?_eq_getElem (show i < elems.length by omega), Option.bind_eq_some_iff] at hE
      obtain ⟨cs, hc2, hy⟩ := hE
      obtain ⟨e0, e1, e2, rfl, g0, g1, g2⟩ := cells_three hc2
      obtain ⟨y0, y1, m1, _, _, hy0, hy1⟩ := trod_struct2 Tryz.underlying55 hy
      obtain ⟨k, e, _⟩ := DataW.trod_int Tryz.underlying3 (by simpa [cellsIntC] using hy0 : DataW.trod enc Tryz.prog W 0 (fun _ => true) true m1 3 [e0] = some y0)
      simp at e
      subst e
      obtain ⟨n, a', c', rs, rfl, rfl, s⟩ := openShapeC (c0 := e1) (c1 := e2) (by simpa [cellsIntC, cellsShape] using hy1)
      exact ⟨(k, n, rs), a', c', g0, g1, g2, s⟩
    refine ⟨some x, cap, (List.range len).map (fun i => if h : i < len then Classical.choose (get i h) else (0, 0, [])), by simp, ⟨by simpa using hl, hM, fun hn => ?_⟩⟩
    have hpos : 0 < len := by
      rcases Nat.eq_zero_or_pos len with e | e
      · subst e; simp at hn
      · exact e
    obtain ⟨b, off, spot⟩ := x
    obtain ⟨_, _, _, hq0, _⟩ := get 0 hpos
    have hspot : spot = none := by simpa [Addr.add] using World.cell?_spot hq0
    subst hspot
    refine ⟨b, off, rfl, fun i hi => ?_⟩
    have hi' : i < len := by simpa using hi
    have hc := Classical.choose_spec (get i hi')
    have er : enA ((List.range len).map (fun i => if h : i < len then Classical.choose (get i h) else (0, 0, []))) i = Classical.choose (get i hi') := by
      unfold enA
      rw [List.getElem?_map, List.getElem?_range hi']
      simp only [Option.map_some, Option.getD_some, dif_pos hi']
    rw [er]
    obtain ⟨a', c', h1, h2, h3, h4⟩ := hc
    have e0 : ((⟨b, off, none⟩ : Addr).add (i * 3)).add 0 = ⟨b, off + i * 3, none⟩ := by simp [Addr.add_lit]
    have e1 : ((⟨b, off, none⟩ : Addr).add (i * 3)).add 1 = ⟨b, off + i * 3 + 1, none⟩ := by simp [Addr.add_lit]
    have e2 : ((⟨b, off, none⟩ : Addr).add (i * 3)).add 2 = ⟨b, off + i * 3 + 2, none⟩ := by simp [Addr.add_lit]
    exact ⟨(congrArg W.cell? e0.symm).trans h1, (congrArg W.cell? e1.symm).trans h2, a', c', (congrArg W.cell? e2.symm).trans h3, h4⟩

set_option maxRecDepth 100000 in
theorem openEntries {H : Type} {enc : TypeId × Value → H} {W : World} {base : Nat} {v : Value} {d : DataW H} {p : List MemPlace}
    (hv : Value.okWide Tryz.prog W .any base 22 v) (h : DataW.Trod enc Tryz.prog W 0 (fun _ => true) true 22 v d p) :
    ∃ a cap es, v = .slice a (List.length es) cap ∧ SeesEn W a cap es := by
  obtain ⟨a0, n0, c0, rfl⟩ := okWide_slice Tryz.underlying22 hv
  obtain ⟨m, hm⟩ := h
  exact openEntriesC (v := .slice a0 n0 c0) hm
end Go.Proofs.YtecjeomcbcpfiaaGreat
