/- Bytes and a disk that came in, opened. -/
import Derived.Test.YtgcaemhcdpddiaaDoorRows
import Derived.Test.YtgcaemhcdpddiaaDoorQuR
import Derived.WalkKit
import Derived.ProofKit
import Derived.OpenShut
import Derived.ChangeOld
import Derived.Below
import Derived.Lib.SmallJoins
namespace Go.Proofs.YtgcaemhcdpddiaaDoor
open Go.ChangeShapes Go.WideShapes Go.ChangeAt Go.RowKit Go.Joins

theorem own : ownKnob Tryd.prog.godebug = none := by kernel_rfl
theorem laidOut : laidOutB Tryd.prog = true := by kernel_rfl
theorem cellsDisk : Tryd.prog.cellsOf 25 = 2 := by kernel_rfl
theorem cellsWrite : Tryd.prog.cellsOf 63 = 2 := by kernel_rfl
theorem cellsByS : Tryd.prog.cellsOf 22 = 1 := by kernel_rfl
theorem cellsIntD : Tryd.prog.cellsOf 3 = 1 := by kernel_rfl

theorem cells_twoD {w : World} {a : Addr} {cs : List Value} (h : w.cells? 0 a 2 = some cs) : ∃ c0 c1, cs = [c0, c1] ∧ w.cell? (a.add 0) = some c0 ∧ w.cell? (a.add 1) = some c1 := by
  unfold World.cells? at h
  rw [if_pos (Nat.zero_le _)] at h
  simp only [List.range_succ, List.range_zero, List.nil_append, List.cons_append, List.mapM_cons, List.mapM_nil] at h
  cases h0 : w.cell? (a.add 0) with
  | none => simp [h0] at h
  | some c0 =>
    cases h1 : w.cell? (a.add 1) with
    | none => simp [h0, h1] at h
    | some c1 =>
      simp [h0, h1] at h
      exact ⟨c0, c1, h.symm, rfl, rfl⟩

theorem wf_u8d {n : Int} (h : (Lit.int .u8 n).wf = true) : 0 ≤ n ∧ n < 256 := by
  have hx : 0 ≤ n ∧ n ≤ 255 := by simpa [Lit.wf, IntKind.min, IntKind.max, IntKind.signed, IntKind.bits] using h
  omega

set_option maxRecDepth 100000 in
theorem openBysC {H : Type} {enc : TypeId × Value → H} {W : World} {m : Nat} {v : Value} {y : DataW H × List MemPlace}
    (hm : DataW.trod enc Tryd.prog W 0 (fun _ => true) true m 22 [v] = some y) :
    ∃ a cap bs, v = .slice a (List.length bs) cap ∧ SeesB W a cap bs ∧ ∀ x ∈ bs, 0 ≤ x ∧ x < 256 := by
  rcases open_ints Tryd.underlying22 Tryd.underlying5 (by kernel_rfl) hm with ⟨hcs, _⟩ | ⟨x, l, c, zs, hcs, _, hl, hmx, hz, _, hcell, hwz⟩
  · simp only [List.cons.injEq, and_true] at hcs
    subst hcs
    exact ⟨none, 0, [], rfl, ⟨by simp, by simp [maxLen], fun h => absurd rfl h⟩, fun x hx => by simp at hx⟩
  · simp only [List.cons.injEq, and_true] at hcs
    subst hcs
    have hz' : zs.length = c := by simpa using hz
    have hlen : (zs.take l).length = l := by simp; omega
    refine ⟨some x, c, zs.take l, by rw [hlen], ⟨by omega, hmx, fun hne => ?_⟩, fun n hn => wf_u8d (hwz n (List.mem_of_mem_take hn))⟩
    have hpos : 0 < l := by
      rcases Nat.eq_zero_or_pos l with e | e
      · subst e; simp at hne
      · exact e
    obtain ⟨b, off, spot⟩ := x
    have hc := hcell 0 (by omega)
    have hspot : spot = none := by simpa [Addr.add] using World.cell?_spot hc
    subst hspot
    refine ⟨b, off, rfl, fun i hi => ?_⟩
    have hi' : i < l := by omega
    have := hcell i (by omega)
    rw [Addr.add_lit] at this
    rw [this, List.getElem?_take, if_pos hi']
    simp [List.getD]

set_option maxRecDepth 100000 in
theorem openBys {H : Type} {enc : TypeId × Value → H} {W : World} {base : Nat} {v : Value} {d : DataW H} {p : List MemPlace}
    (hv : Value.okWide Tryd.prog W .any base 22 v) (h : DataW.Trod enc Tryd.prog W 0 (fun _ => true) true 22 v d p) :
    ∃ a cap bs, v = .slice a (List.length bs) cap ∧ SeesB W a cap bs ∧ ∀ x ∈ bs, 0 ≤ x ∧ x < 256 := by
  obtain ⟨a0, n0, c0, rfl⟩ := okWide_slice Tryd.underlying22 hv
  obtain ⟨m, hm⟩ := h
  exact openBysC (v := .slice a0 n0 c0) hm

set_option maxRecDepth 100000 in
theorem openWrs {H : Type} {enc : TypeId × Value → H} {W : World} {m : Nat} {v : Value} {y : DataW H × List MemPlace}
    (hm : DataW.trod enc Tryd.prog W 0 (fun _ => true) true m 23 [v] = some y) :
    ∃ a cap qs, v = .slice a (List.length qs) cap ∧ SeesQ W a cap qs := by
  rcases DataW.trod_slice Tryd.underlying23 hm with ⟨hcs, _⟩ | ⟨x, len, cap, elems, rest, n, _, hcs, _, _, hl, hM, hlen, hel, _, _⟩
  · simp only [List.cons.injEq, and_true] at hcs
    subst hcs
    exact ⟨none, 0, [], rfl, ⟨by simp, by simp [maxLen], fun h => absurd rfl h⟩⟩
  · simp only [List.cons.injEq, and_true] at hcs
    subst hcs
    have get : ∀ i, i < len → ∃ q : Wr, ∃ a' c', W.cell? ((x.add (i * 2)).add 0) = some (.int .i64 q.1) ∧ W.cell? ((x.add (i * 2)).add 1) = some (.slice a' q.2.length c') ∧ SeesB W a' c' q.2 := by
      intro i hi
      have hE := hel i hi
      rw [cellsWrite, List.getElem?_eq_getElem (show i < elems.length by omega), Option.bind_eq_some_iff] at hE
      obtain ⟨cs, hc2, hy⟩ := hE
      obtain ⟨e0, e1, rfl, g0, g1⟩ := cells_twoD hc2
      obtain ⟨y0, y1, m1, _, _, hy0, hy1⟩ := trod_struct2 Tryd.underlying63 hy
      obtain ⟨k, e, _⟩ := DataW.trod_int Tryd.underlying3 (by simpa [cellsIntD] using hy0 : DataW.trod enc Tryd.prog W 0 (fun _ => true) true m1 3 [e0] = some y0)
      simp at e
      subst e
      obtain ⟨a', c', bs, rfl, sb, _⟩ := openBysC (v := e1) (by simpa [cellsIntD, cellsByS] using hy1)
      exact ⟨(k, bs), a', c', g0, g1, sb⟩
    refine ⟨some x, cap, (List.range len).map (fun i => if h : i < len then Classical.choose (get i h) else (0, [])), by simp, ⟨by simpa using hl, hM, fun hn => ?_⟩⟩
    have hpos : 0 < len := by
      rcases Nat.eq_zero_or_pos len with e | e
      · subst e; simp at hn
      · exact e
    obtain ⟨b, off, spot⟩ := x
    obtain ⟨_, _, _, hq0, _⟩ := get 0 hpos
    have hspot : spot = none := by simpa [Addr.add] using World.cell?_spot hq0
    subst hspot
    refine ⟨b, off, rfl, fun i hi => ?_⟩
    have hi' : i < len := by simpa using hi
    have hc := Classical.choose_spec (get i hi')
    have er : wrN ((List.range len).map (fun i => if h : i < len then Classical.choose (get i h) else (0, []))) i = Classical.choose (get i hi') := by
      unfold wrN
      rw [List.getElem?_map, List.getElem?_range hi']
      simp only [Option.map_some, Option.getD_some, dif_pos hi']
    rw [er]
    obtain ⟨a', c', h1, h2, h3⟩ := hc
    have e0 : ((⟨b, off, none⟩ : Addr).add (i * 2)).add 0 = ⟨b, off + i * 2, none⟩ := by simp [Addr.add_lit]
    have e1 : ((⟨b, off, none⟩ : Addr).add (i * 2)).add 1 = ⟨b, off + i * 2 + 1, none⟩ := by simp [Addr.add_lit]
    exact ⟨a', c', (congrArg W.cell? e0.symm).trans h1, (congrArg W.cell? e1.symm).trans h2, h3⟩

set_option maxRecDepth 100000 in
theorem openDisk {H : Type} {enc : TypeId × Value → H} {W : World} {base : Nat} {v : Value} {d : DataW H} {p : List MemPlace}
    (hv : Value.okWide Tryd.prog W .any base 25 v) (h : DataW.Trod enc Tryd.prog W 0 (fun _ => true) true 25 v d p) :
    ∃ a c bs a2 c2 qs, v = .agg #[.slice a (List.length bs) c, .slice a2 (List.length qs) c2] ∧ SeesB W a c bs ∧ SeesQ W a2 c2 qs := by
  obtain ⟨c0, c1, y0, y1, m, rfl, rfl, rfl, hy0, hy1⟩ := open_agg2 Tryd.underlying25 (by kernel_rfl) cellsDisk hv h
  obtain ⟨a, c, bs, rfl, sb, _⟩ := openBysC hy0
  obtain ⟨a2, c2, qs, rfl, sq⟩ := openWrs hy1
  exact ⟨a, c, bs, a2, c2, qs, rfl, sb, sq⟩
end Go.Proofs.YtgcaemhcdpddiaaDoor
