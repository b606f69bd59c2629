/- A disk that came in, opened: its bytes are bytes. -/
import Derived.Test.YtgcaemhcdpddiaaDoorFrameDk
namespace Go.Proofs.YtgcaemhcdpddiaaDoor
open Go.ChangeShapes Go.WideShapes Go.ChangeAt Go.RowKit Go.Joins

set_option maxRecDepth 100000 in
theorem openWrs8 {H : Type} {enc : TypeId × Value → H} {W : World} {m : Nat} {v : Value} {y : DataW H × List MemPlace}
    (hm : DataW.trod enc Tryd.prog W 0 (fun _ => true) true m 23 [v] = some y) :
    ∃ a cap qs, v = .slice a (List.length qs) cap ∧ SeesQ W a cap qs ∧ ∀ i, ∀ x ∈ (wrN qs i).2, 0 ≤ x ∧ x < 256 := by
  rcases DataW.trod_slice Tryd.underlying23 hm with ⟨hcs, _⟩ | ⟨x, len, cap, elems, rest, n, _, hcs, _, _, hl, hM, hlen, hel, _, _⟩
  · simp only [List.cons.injEq, and_true] at hcs
    subst hcs
    exact ⟨none, 0, [], rfl, ⟨by simp, by simp [maxLen], fun h => absurd rfl h⟩, fun i x hx => by simp [wrN] at hx⟩
  · simp only [List.cons.injEq, and_true] at hcs
    subst hcs
    have get : ∀ i, i < len → ∃ q : Wr, ∃ a' c', W.cell? ((x.add (i * 2)).add 0) = some (.int .i64 q.1) ∧ W.cell? ((x.add (i * 2)).add 1) = some (.slice a' q.2.length c') ∧ SeesB W a' c' q.2 ∧ ∀ x ∈ q.2, 0 ≤ x ∧ x < 256 := by
      intro i hi
      have hE := hel i hi
      rw [cellsWrite, List.getElem?_eq_getElem (show i < elems.length by omega), Option.bind_eq_some_iff] at hE
      obtain ⟨cs, hc2, hy⟩ := hE
      obtain ⟨e0, e1, rfl, g0, g1⟩ := cells_twoD hc2
      obtain ⟨y0, y1, m1, _, _, hy0, hy1⟩ := trod_struct2 Tryd.underlying63 hy
      obtain ⟨k, e, _⟩ := DataW.trod_int Tryd.underlying3 (by simpa [cellsIntD] using hy0 : DataW.trod enc Tryd.prog W 0 (fun _ => true) true m1 3 [e0] = some y0)
      simp at e
      subst e
      obtain ⟨a', c', bs, rfl, sb, s8⟩ := openBysC (v := e1) (by simpa [cellsIntD, cellsByS] using hy1)
      exact ⟨(k, bs), a', c', g0, g1, sb, s8⟩
    refine ⟨some x, cap, (List.range len).map (fun i => if h : i < len then Classical.choose (get i h) else (0, [])), by simp, ⟨by simpa using hl, hM, fun hn => ?_⟩, fun i x hx => ?_⟩
    rotate_left
    · by_cases hi' : i < len
      · have er : wrN ((List.range len).map (fun i => if h : i < len then Classical.choose (get i h) else (0, []))) i = Classical.choose (get i hi') := by
          unfold wrN
          rw [List.getElem?_map, List.getElem?_range hi']
          simp only [Option.map_some, Option.getD_some, dif_pos hi']
        rw [er] at hx
        obtain ⟨_, _, _, _, _, h4⟩ := Classical.choose_spec (get i hi')
        exact h4 x hx
      · have er : wrN ((List.range len).map (fun i => if h : i < len then Classical.choose (get i h) else (0, []))) i = (0, []) := by
          unfold wrN
          rw [List.getElem?_eq_none (by simp; omega)]
          rfl
        rw [er] at hx
        simp at hx
    have hpos : 0 < len := by
      rcases Nat.eq_zero_or_pos len with e | e
      · subst e; simp at hn
      · exact e
    obtain ⟨b, off, spot⟩ := x
    obtain ⟨_, _, _, hq0, _⟩ := get 0 hpos
    have hspot : spot = none := by simpa [Addr.add] using World.cell?_spot hq0
    subst hspot
    refine ⟨b, off, rfl, fun i hi => ?_⟩
    have hi' : i < len := by simpa using hi
    have hc := Classical.choose_spec (get i hi')
    have er : wrN ((List.range len).map (fun i => if h : i < len then Classical.choose (get i h) else (0, []))) i = Classical.choose (get i hi') := by
      unfold wrN
      rw [List.getElem?_map, List.getElem?_range hi']
      simp only [Option.map_some, Option.getD_some, dif_pos hi']
    rw [er]
    obtain ⟨a', c', h1, h2, h3, _⟩ := hc
    have e0 : ((⟨b, off, none⟩ : Addr).add (i * 2)).add 0 = ⟨b, off + i * 2, none⟩ := by simp [Addr.add_lit]
    have e1 : ((⟨b, off, none⟩ : Addr).add (i * 2)).add 1 = ⟨b, off + i * 2 + 1, none⟩ := by simp [Addr.add_lit]
    exact ⟨a', c', (congrArg W.cell? e0.symm).trans h1, (congrArg W.cell? e1.symm).trans h2, h3⟩

set_option maxRecDepth 100000 in
theorem openDisk8 {H : Type} {enc : TypeId × Value → H} {W : World} {base : Nat} {v : Value} {d : DataW H} {p : List MemPlace}
    (hv : Value.okWide Tryd.prog W .any base 25 v) (h : DataW.Trod enc Tryd.prog W 0 (fun _ => true) true 25 v d p) :
    ∃ a c bs a2 c2 qs, v = .agg #[.slice a (List.length bs) c, .slice a2 (List.length qs) c2] ∧ SeesB W a c bs ∧ SeesQ W a2 c2 qs ∧ (∀ x ∈ bs, 0 ≤ x ∧ x < 256) ∧ ∀ i, ∀ x ∈ (wrN qs i).2, 0 ≤ x ∧ x < 256 := by
  obtain ⟨c0, c1, y0, y1, m, rfl, rfl, rfl, hy0, hy1⟩ := open_agg2 Tryd.underlying25 (by kernel_rfl) cellsDisk hv h
  obtain ⟨a, c, bs, rfl, sb, s8⟩ := openBysC hy0
  obtain ⟨a2, c2, qs, rfl, sq, q8⟩ := openWrs8 hy1
  exact ⟨a, c, bs, a2, c2, qs, rfl, sb, sq, s8, q8⟩
end Go.Proofs.YtgcaemhcdpddiaaDoor
