/- A tree that came in, opened. -/
import Derived.Test.YthompofbdjdloaaGreatFramePt
import Derived.Test.YthompofbdjdloaaGreatTrL
namespace Go.Proofs.YthompofbdjdloaaGreat
open Go.ChangeShapes Go.WideShapes Go.ChangeAt Go.RowKit Go.Joins

theorem cells_oneN {w : World} {a : Addr} {cs : List Value} (h : w.cells? 0 a 1 = some cs) : ∃ c0, cs = [c0] ∧ w.cell? (a.add 0) = some c0 := by
  unfold World.cells? at h
  rw [if_pos (Nat.zero_le _)] at h
  simp only [List.range_succ, List.range_zero, List.nil_append, List.mapM_cons, List.mapM_nil] at h
  cases h0 : w.cell? (a.add 0) with
  | none => simp [h0] at h
  | some c0 =>
    simp [h0] at h
    exact ⟨c0, h.symm, rfl⟩
theorem cells_seven {w : World} {a : Addr} {cs : List Value} (h : w.cells? 0 a 7 = some cs) : ∃ c0 c1 c2 c3 c4 c5 c6, cs = [c0, c1, c2, c3, c4, c5, c6] ∧ w.cell? (a.add 0) = some c0 ∧ w.cell? (a.add 1) = some c1 ∧ w.cell? (a.add 2) = some c2 ∧ w.cell? (a.add 3) = some c3 ∧ w.cell? (a.add 4) = some c4 ∧ w.cell? (a.add 5) = some c5 ∧ w.cell? (a.add 6) = some c6 := by
  unfold World.cells? at h
  rw [if_pos (Nat.zero_le _)] at h
  simp only [List.range_succ, List.range_zero, List.nil_append, List.cons_append, List.mapM_cons, List.mapM_nil] at h
  cases h0 : w.cell? (a.add 0) with
  | none => simp [h0] at h
  | some c0 =>
  cases h1 : w.cell? (a.add 1) with
  | none => simp [h0, h1] at h
  | some c1 =>
  cases h2 : w.cell? (a.add 2) with
  | none => simp [h0, h1, h2] at h
  | some c2 =>
  cases h3 : w.cell? (a.add 3) with
  | none => simp [h0, h1, h2, h3] at h
  | some c3 =>
  cases h4 : w.cell? (a.add 4) with
  | none => simp [h0, h1, h2, h3, h4] at h
  | some c4 =>
  cases h5 : w.cell? (a.add 5) with
  | none => simp [h0, h1, h2, h3, h4, h5] at h
  | some c5 =>
  cases h6 : w.cell? (a.add 6) with
  | none => simp [h0, h1, h2, h3, h4, h5, h6] at h
  | some c6 =>
    simp [h0, h1, h2, h3, h4, h5, h6] at h
    exact ⟨c0, c1, c2, c3, c4, c5, c6, h.symm, rfl, rfl, rfl, rfl, rfl, rfl, rfl⟩
theorem cellsIntN : Tryz.prog.cellsOf 3 = 1 := by kernel_rfl
theorem cellsBoxsN : Tryz.prog.cellsOf 23 = 1 := by kernel_rfl
theorem cellsIntsN : Tryz.prog.cellsOf 22 = 1 := by kernel_rfl
set_option maxRecDepth 100000 in
theorem openBoxsC {H : Type} {enc : TypeId × Value → H} {W : World} {m : Nat} {v : Value} {y : DataW H × List MemPlace}
    (hm : DataW.trod enc Tryz.prog W 0 (fun _ => true) true m 23 [v] = some y) :
    ∃ a cap bs, v = .slice a (List.length bs) cap ∧ SeesX W a cap bs := by
  rcases DataW.trod_slice Tryz.underlying23 hm with ⟨hcs, _⟩ | ⟨x, len, cap, elems, rest, n, _, hcs, _, _, hl, hM, hlen, hel, _, _⟩
  · simp only [List.cons.injEq, and_true] at hcs
    subst hcs
    exact ⟨none, 0, [], rfl, ⟨by simp, by simp [maxLen], fun h => absurd rfl h⟩⟩
  · simp only [List.cons.injEq, and_true] at hcs
    subst hcs
    have get : ∀ i, i < len → ∃ q : Bx, W.cell? ((x.add (i * 4)).add 0) = some (.int .i64 q.1) ∧ W.cell? ((x.add (i * 4)).add 1) = some (.int .i64 q.2.1) ∧ W.cell? ((x.add (i * 4)).add 2) = some (.int .i64 q.2.2.1) ∧ W.cell? ((x.add (i * 4)).add 3) = some (.int .i64 q.2.2.2) := by
      intro i hi
      have hE := hel i hi
      rw [cellsBox, List.getElem?_eq_getElem (show i < elems.length by omega), Option.bind_eq_some_iff] at hE
      obtain ⟨cs, hc2, hy⟩ := hE
      obtain ⟨e0, e1, e2, e3, rfl, g0, g1, g2, g3⟩ := cells_four hc2
      obtain ⟨a, b, c, d, rfl, rfl, rfl, rfl⟩ := openFour hy
      exact ⟨(a, b, c, d), g0, g1, g2, g3⟩
    refine ⟨some x, cap, (List.range len).map (fun i => if h : i < len then Classical.choose (get i h) else (0, 0, 0, 0)), by simp, ⟨by simpa using hl, hM, fun hn => ?_⟩⟩
    have hpos : 0 < len := by
      rcases Nat.eq_zero_or_pos len with e | e
      · subst e; simp at hn
      · exact e
    obtain ⟨b, off, spot⟩ := x
    obtain ⟨q0, hq0, _⟩ := get 0 hpos
    have hspot : spot = none := by simpa [Addr.add] using World.cell?_spot hq0
    subst hspot
    refine ⟨b, off, rfl, fun i hi => ?_⟩
    have hi' : i < len := by simpa using hi
    have hc := Classical.choose_spec (get i hi')
    unfold bxAt
    rw [List.getElem?_map, List.getElem?_range hi']
    simp only [Option.map_some, Option.getD_some, dif_pos hi']
    have e0 : ((⟨b, off, none⟩ : Addr).add (i * 4)).add 0 = ⟨b, off + i * 4, none⟩ := by simp [Addr.add_lit]
    have e1 : ((⟨b, off, none⟩ : Addr).add (i * 4)).add 1 = ⟨b, off + i * 4 + 1, none⟩ := by simp [Addr.add_lit]
    have e2 : ((⟨b, off, none⟩ : Addr).add (i * 4)).add 2 = ⟨b, off + i * 4 + 2, none⟩ := by simp [Addr.add_lit]
    have e3 : ((⟨b, off, none⟩ : Addr).add (i * 4)).add 3 = ⟨b, off + i * 4 + 3, none⟩ := by simp [Addr.add_lit]
    exact ⟨(congrArg W.cell? e0.symm).trans hc.1, (congrArg W.cell? e1.symm).trans hc.2.1, (congrArg W.cell? e2.symm).trans hc.2.2.1, (congrArg W.cell? e3.symm).trans hc.2.2.2⟩
set_option maxRecDepth 100000 in
theorem openIntsC {H : Type} {enc : TypeId × Value → H} {W : World} {m : Nat} {v : Value} {y : DataW H × List MemPlace}
    (hm : DataW.trod enc Tryz.prog W 0 (fun _ => true) true m 22 [v] = some y) :
    ∃ a cap is, v = .slice a (List.length is) cap ∧ SeesI W a cap is := by
  rcases DataW.trod_slice Tryz.underlying22 hm with ⟨hcs, _⟩ | ⟨x, len, cap, elems, rest, n, _, hcs, _, _, hl, hM, hlen, hel, _, _⟩
  · simp only [List.cons.injEq, and_true] at hcs
    subst hcs
    exact ⟨none, 0, [], rfl, ⟨by simp, by simp [maxLen], fun h => absurd rfl h⟩⟩
  · simp only [List.cons.injEq, and_true] at hcs
    subst hcs
    have get : ∀ i, i < len → ∃ q : Int, W.cell? ((x.add i).add 0) = some (.int .i64 q) := by
      intro i hi
      have hE := hel i hi
      rw [cellsIntN, Nat.mul_one, List.getElem?_eq_getElem (show i < elems.length by omega), Option.bind_eq_some_iff] at hE
      obtain ⟨cs, hc2, hy⟩ := hE
      obtain ⟨e0, rfl, g0⟩ := cells_oneN hc2
      obtain ⟨k, ek, _⟩ := DataW.trod_int Tryz.underlying3 hy
      simp at ek
      subst ek
      exact ⟨k, g0⟩
    refine ⟨some x, cap, (List.range len).map (fun i => if h : i < len then Classical.choose (get i h) else 0), by simp, ⟨by simpa using hl, hM, fun hn => ?_⟩⟩
    have hpos : 0 < len := by
      rcases Nat.eq_zero_or_pos len with e | e
      · subst e; simp at hn
      · exact e
    obtain ⟨b, off, spot⟩ := x
    obtain ⟨q0, hq0⟩ := get 0 hpos
    have hspot : spot = none := by simpa [Addr.add] using World.cell?_spot hq0
    subst hspot
    refine ⟨b, off, rfl, fun i hi => ?_⟩
    have hi' : i < len := by simpa using hi
    have hc := Classical.choose_spec (get i hi')
    rw [List.getElem?_map, List.getElem?_range hi']
    simp only [Option.map_some, Option.getD_some, dif_pos hi']
    have e0 : ((⟨b, off, none⟩ : Addr).add i).add 0 = ⟨b, off + i, none⟩ := by simp [Addr.add_lit]
    exact (congrArg W.cell? e0.symm).trans hc

theorem array7 {cs : Array Value} (h : cs.size = 7) : ∃ c0 c1 c2 c3 c4 c5 c6, cs = #[c0, c1, c2, c3, c4, c5, c6] := by
  obtain ⟨l⟩ := cs
  match l, h with
  | [c0, c1, c2, c3, c4, c5, c6], _ => exact ⟨c0, c1, c2, c3, c4, c5, c6, rfl⟩
end Go.Proofs.YthompofbdjdloaaGreat
