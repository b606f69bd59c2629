import Derived.Test.YthompofbdjdloaaGreatRows
import Derived.Test.YthompofbdjdloaaGreatBase
import Derived.WalkKit
import Derived.ProofKit
import Derived.OpenShut
import Derived.ChangeOld
import Derived.Below
import Derived.Lib.SmallJoins
import Derived.Test.YthompofbdjdloaaGreatBxsL
/- A point that came in, opened: its coordinates. -/
namespace Go.Proofs.YthompofbdjdloaaGreat
open Go.ChangeShapes Go.WideShapes Go.ChangeAt Go.RowKit Go.Joins

theorem own : ownKnob Tryz.prog.godebug = none := by kernel_rfl
theorem laidOut : laidOutB Tryz.prog = true := by kernel_rfl
theorem cellsPt : Tryz.prog.cellsOf 60 = 2 := by kernel_rfl

set_option maxRecDepth 100000 in
theorem openPt {H : Type} {enc : TypeId × Value → H} {W : World} {base : Nat} {v : Value} {d : DataW H} {p : List MemPlace}
    (hv : Value.okWide Tryz.prog W .any base 60 v) (h : DataW.Trod enc Tryz.prog W 0 (fun _ => true) true 60 v d p) :
    ∃ x y, v = .agg #[.int .i64 x, .int .i64 y] := by
  obtain ⟨c0, c1, y0, y1, m, rfl, rfl, rfl, hy0, hy1⟩ := open_agg2 Tryz.underlying60 (by kernel_rfl) cellsPt hv h
  obtain ⟨x, e0, _⟩ := DataW.trod_int Tryz.underlying3 hy0
  obtain ⟨y, e1, _⟩ := DataW.trod_int Tryz.underlying3 hy1
  simp at e0 e1
  subst e0 e1
  exact ⟨x, y, rfl⟩
end Go.Proofs.YthompofbdjdloaaGreat

/- A box that came in, opened: its coordinates. -/
namespace Go.Proofs.YthompofbdjdloaaGreat
open Go.ChangeShapes Go.WideShapes Go.ChangeAt Go.RowKit Go.Joins

theorem cellsInt : Tryz.prog.cellsOf 3 = 1 := by kernel_rfl
theorem cellsPtN : Tryz.prog.cellsOf 60 = 2 := by kernel_rfl
theorem cellsBox : Tryz.prog.cellsOf 62 = 4 := by kernel_rfl

set_option maxRecDepth 100000 in
theorem openTwo {H : Type} {enc : TypeId × Value → H} {W : World} {n : Nat} {c0 c1 : Value} {y : DataW H × List MemPlace}
    (h : DataW.trod enc Tryz.prog W 0 (fun _ => true) true n 60 [c0, c1] = some y) : ∃ a b, c0 = .int .i64 a ∧ c1 = .int .i64 b := by
  obtain ⟨y0, y1, m, _, _, h0, h1⟩ := trod_struct2 Tryz.underlying60 h
  have hy0 : DataW.trod enc Tryz.prog W 0 (fun _ => true) true m 3 [c0] = some y0 := by simpa [cellsInt] using h0
  have hy1 : DataW.trod enc Tryz.prog W 0 (fun _ => true) true m 3 [c1] = some y1 := by simpa [cellsInt] using h1
  obtain ⟨a, e0, _⟩ := DataW.trod_int Tryz.underlying3 hy0
  obtain ⟨b, e1, _⟩ := DataW.trod_int Tryz.underlying3 hy1
  simp at e0 e1
  exact ⟨a, b, e0, e1⟩

set_option maxRecDepth 100000 in
theorem openBox {H : Type} {enc : TypeId × Value → H} {W : World} {base : Nat} {v : Value} {d : DataW H} {p : List MemPlace}
    (hv : Value.okWide Tryz.prog W .any base 62 v) (h : DataW.Trod enc Tryz.prog W 0 (fun _ => true) true 62 v d p) :
    ∃ a b c d, v = .agg #[.int .i64 a, .int .i64 b, .int .i64 c, .int .i64 d] := by
  obtain ⟨cs, rfl, hsz⟩ := okWide_struct Tryz.underlying62 hv
  obtain ⟨c0, c1, c2, c3, rfl⟩ := array4 (hsz.trans cellsBox)
  obtain ⟨fuel, hf⟩ := h
  obtain ⟨y0, y1, n, _, _, h0, h1⟩ := trod_struct2 Tryz.underlying62 hf
  obtain ⟨a, b, rfl, rfl⟩ := openTwo (c0 := c0) (c1 := c1) (by simpa [Value.cells, cellsPtN] using h0)
  obtain ⟨c, d, rfl, rfl⟩ := openTwo (c0 := c2) (c1 := c3) (by simpa [Value.cells, cellsPtN] using h1)
  exact ⟨a, b, c, d, rfl⟩
end Go.Proofs.YthompofbdjdloaaGreat

/- A list of boxes that came in, opened. -/
namespace Go.Proofs.YthompofbdjdloaaGreat
open Go.ChangeShapes Go.WideShapes Go.ChangeAt Go.RowKit Go.Joins

theorem cells_four {w : World} {a : Addr} {cs : List Value} (h : w.cells? 0 a 4 = some cs) : ∃ c0 c1 c2 c3, cs = [c0, c1, c2, c3] ∧ w.cell? (a.add 0) = some c0 ∧ w.cell? (a.add 1) = some c1 ∧ w.cell? (a.add 2) = some c2 ∧ w.cell? (a.add 3) = some c3 := by
  unfold World.cells? at h
  rw [if_pos (Nat.zero_le _)] at h
  simp only [List.range_succ, List.range_zero, List.nil_append, List.cons_append, List.mapM_cons, List.mapM_nil] at h
  cases h0 : w.cell? (a.add 0) with
  | none => simp [h0] at h
  | some c0 =>
    cases h1 : w.cell? (a.add 1) with
    | none => simp [h0, h1] at h
    | some c1 =>
      cases h2 : w.cell? (a.add 2) with
      | none => simp [h0, h1, h2] at h
      | some c2 =>
        cases h3 : w.cell? (a.add 3) with
        | none => simp [h0, h1, h2, h3] at h
        | some c3 =>
          simp [h0, h1, h2, h3] at h
          exact ⟨c0, c1, c2, c3, h.symm, rfl, rfl, rfl, rfl⟩
set_option maxRecDepth 100000 in
theorem openFour {H : Type} {enc : TypeId × Value → H} {W : World} {n : Nat} {c0 c1 c2 c3 : Value} {y : DataW H × List MemPlace}
    (h : DataW.trod enc Tryz.prog W 0 (fun _ => true) true n 62 [c0, c1, c2, c3] = some y) : ∃ a b c d, c0 = .int .i64 a ∧ c1 = .int .i64 b ∧ c2 = .int .i64 c ∧ c3 = .int .i64 d := by
  obtain ⟨y0, y1, m, _, _, h0, h1⟩ := trod_struct2 Tryz.underlying62 h
  obtain ⟨a, b, rfl, rfl⟩ := openTwo (c0 := c0) (c1 := c1) (by simpa [Value.cells, cellsPtN] using h0)
  obtain ⟨c, d, rfl, rfl⟩ := openTwo (c0 := c2) (c1 := c3) (by simpa [Value.cells, cellsPtN] using h1)
  exact ⟨a, b, c, d, rfl, rfl, rfl, rfl⟩

set_option maxRecDepth 100000 in
theorem openBoxs {H : Type} {enc : TypeId × Value → H} {W : World} {base : Nat} {v : Value} {d : DataW H} {p : List MemPlace}
    (hv : Value.okWide Tryz.prog W .any base 23 v) (h : DataW.Trod enc Tryz.prog W 0 (fun _ => true) true 23 v d p) :
    ∃ a cap bs, v = .slice a (List.length bs) cap ∧ SeesX W a cap bs := by
  obtain ⟨a0, n0, c0, rfl⟩ := okWide_slice Tryz.underlying23 hv
  obtain ⟨m, hm⟩ := h
  rcases DataW.trod_slice Tryz.underlying23 hm with ⟨hcs, _⟩ | ⟨x, len, cap, elems, rest, n, _, hcs, _, _, hl, hM, hlen, hel, _, _⟩
  · simp [Value.cells] at hcs
    obtain ⟨rfl, rfl, rfl⟩ := hcs
    exact ⟨none, 0, [], rfl, ⟨by simp, by simp [maxLen], fun h => absurd rfl h⟩⟩
  · simp [Value.cells] at hcs
    obtain ⟨rfl, rfl, rfl⟩ := hcs
    have get : ∀ i, i < n0 → ∃ q : Bx, W.cell? ((x.add (i * 4)).add 0) = some (.int .i64 q.1) ∧ W.cell? ((x.add (i * 4)).add 1) = some (.int .i64 q.2.1) ∧ W.cell? ((x.add (i * 4)).add 2) = some (.int .i64 q.2.2.1) ∧ W.cell? ((x.add (i * 4)).add 3) = some (.int .i64 q.2.2.2) := by
      intro i hi
      have hE := hel i hi
      rw [cellsBox, List.getElem?_eq_getElem (show i < elems.length by omega), Option.bind_eq_some_iff] at hE
      obtain ⟨cs, hc2, hy⟩ := hE
      obtain ⟨e0, e1, e2, e3, rfl, g0, g1, g2, g3⟩ := cells_four hc2
      obtain ⟨a, b, c, d, rfl, rfl, rfl, rfl⟩ := openFour hy
      exact ⟨(a, b, c, d), g0, g1, g2, g3⟩
    refine ⟨some x, c0, (List.range n0).map (fun i => if h : i < n0 then Classical.choose (get i h) else (0, 0, 0, 0)), by simp, ⟨by simpa using hl, hM, fun hn => ?_⟩⟩
    have hpos : 0 < n0 := by
      rcases Nat.eq_zero_or_pos n0 with e | e
      · subst e; simp at hn
      · exact e
    obtain ⟨b, off, spot⟩ := x
    obtain ⟨q0, hq0, _⟩ := get 0 hpos
    have hspot : spot = none := by simpa [Addr.add] using World.cell?_spot hq0
    subst hspot
    refine ⟨b, off, rfl, fun i hi => ?_⟩
    have hi' : i < n0 := by simpa using hi
    have hc := Classical.choose_spec (get i hi')
    unfold bxAt
    rw [List.getElem?_map, List.getElem?_range hi']
    simp only [Option.map_some, Option.getD_some, dif_pos hi']
    have e0 : ((⟨b, off, none⟩ : Addr).add (i * 4)).add 0 = ⟨b, off + i * 4, none⟩ := by simp [Addr.add_lit]
    have e1 : ((⟨b, off, none⟩ : Addr).add (i * 4)).add 1 = ⟨b, off + i * 4 + 1, none⟩ := by simp [Addr.add_lit]
    have e2 : ((⟨b, off, none⟩ : Addr).add (i * 4)).add 2 = ⟨b, off + i * 4 + 2, none⟩ := by simp [Addr.add_lit]
    have e3 : ((⟨b, off, none⟩ : Addr).add (i * 4)).add 3 = ⟨b, off + i * 4 + 3, none⟩ := by simp [Addr.add_lit]
    exact ⟨(congrArg W.cell? e0.symm).trans hc.1, (congrArg W.cell? e1.symm).trans hc.2.1, (congrArg W.cell? e2.symm).trans hc.2.2.1, (congrArg W.cell? e3.symm).trans hc.2.2.2⟩
end Go.Proofs.YthompofbdjdloaaGreat
