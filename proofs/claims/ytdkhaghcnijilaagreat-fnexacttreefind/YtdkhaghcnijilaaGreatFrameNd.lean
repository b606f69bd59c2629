/- A tree that came in, opened. -/
import Derived.Test.YtdkhaghcnijilaaGreatFramePt
import Derived.Test.YtdkhaghcnijilaaGreatTrL
namespace Go.Proofs.YtdkhaghcnijilaaGreat
open Go.ChangeShapes Go.WideShapes Go.ChangeAt Go.RowKit Go.Joins

theorem cells_oneN {w : World} {a : Addr} {cs : List Value} (h : w.cells? 0 a 1 = some cs) : ∃ c0, cs = [c0] ∧ w.cell? (a.add 0) = some c0 := by
  unfold World.cells? at h
  rw [if_pos (Nat.zero_le _)] at h
  simp only [List.range_succ, List.range_zero, List.nil_append, List.mapM_cons, List.mapM_nil] at h
  cases h0 : w.cell? (a.add 0) with
  | none => simp [h0] at h
  | some c0 =>
    simp [h0] at h
    exact ⟨c0, h.symm, rfl⟩
theorem cells_seven {w : World} {a : Addr} {cs : List Value} (h : w.cells? 0 a 7 = some cs) : ∃ c0 c1 c2 c3 c4 c5 c6, cs = [c0, c1, c2, c3, c4, c5, c6] ∧ w.cell? (a.add 0) = some c0 ∧ w.cell? (a.add 1) = some c1 ∧ w.cell? (a.add 2) = some c2 ∧ w.cell? (a.add 3) = some c3 ∧ w.cell? (a.add 4) = some c4 ∧ w.cell? (a.add 5) = some c5 ∧ w.cell? (a.add 6) = some c6 := by
  unfold World.cells? at h
  rw [if_pos (Nat.zero_le _)] at h
  simp only [List.range_succ, List.range_zero, List.nil_append, List.cons_append, List.mapM_cons, List.mapM_nil] at h
  cases h0 : w.cell? (a.add 0) with
  | none => simp [h0] at h
  | some c0 =>
  cases h1 : w.cell? (a.add 1) with
  | none => simp [h0, h1] at h
  | some c1 =>
  cases h2 : w.cell? (a.add 2) with
  | none => simp [h0, h1, h2] at h
  | some c2 =>
  cases h3 : w.cell? (a.add 3) with
  | none => simp [h0, h1, h2, h3] at h
  | some c3 =>
  cases h4 : w.cell? (a.add 4) with
  | none => simp [h0, h1, h2, h3, h4] at h
  | some c4 =>
  cases h5 : w.cell? (a.add 5) with
  | none => simp [h0, h1, h2, h3, h4, h5] at h
  | some c5 =>
  cases h6 : w.cell? (a.add 6) with
  | none => simp [h0, h1, h2, h3, h4, h5, h6] at h
  | some c6 =>
    simp [h0, h1, h2, h3, h4, h5, h6] at h
    exact ⟨c0, c1, c2, c3, c4, c5, c6, h.symm, rfl, rfl, rfl, rfl, rfl, rfl, rfl⟩
theorem cellsIntN : Tryz.prog.cellsOf 3 = 1 := by kernel_rfl
theorem cellsBoxsN : Tryz.prog.cellsOf 26 = 1 := by kernel_rfl
theorem cellsIntsN : Tryz.prog.cellsOf 27 = 1 := by kernel_rfl
theorem cellsNodesN : Tryz.prog.cellsOf 28 = 1 := by kernel_rfl
theorem cellsNodeN : Tryz.prog.cellsOf 30 = 7 := by kernel_rfl

set_option maxRecDepth 100000 in
theorem openBoxsC {H : Type} {enc : TypeId × Value → H} {W : World} {m : Nat} {v : Value} {y : DataW H × List MemPlace}
    (hm : DataW.trod enc Tryz.prog W 0 (fun _ => true) true m 26 [v] = some y) :
    ∃ a cap bs, v = .slice a (List.length bs) cap ∧ SeesX W a cap bs := by
  rcases DataW.trod_slice Tryz.underlying26 hm with ⟨hcs, _⟩ | ⟨x, len, cap, elems, rest, n, _, hcs, _, _, hl, hM, hlen, hel, _, _⟩
  · simp only [List.cons.injEq, and_true] at hcs
    subst hcs
    exact ⟨none, 0, [], rfl, ⟨by simp, by simp [maxLen], fun h => absurd rfl h⟩⟩
  · simp only [List.cons.injEq, and_true] at hcs
    subst hcs
    have get : ∀ i, i < len → ∃ q : Bx, W.cell? ((x.add (i * 4)).add 0) = some (.int .i64 q.1) ∧ W.cell? ((x.add (i * 4)).add 1) = some (.int .i64 q.2.1) ∧ W.cell? ((x.add (i * 4)).add 2) = some (.int .i64 q.2.2.1) ∧ W.cell? ((x.add (i * 4)).add 3) = some (.int .i64 q.2.2.2) := by
      intro i hi
      have hE := hel i hi
      rw [cellsBox, List.getElem?_eq_getElem (show i < elems.length by omega), Option.bind_eq_some_iff] at hE
      obtain ⟨cs, hc2, hy⟩ := hE
      obtain ⟨e0, e1, e2, e3, rfl, g0, g1, g2, g3⟩ := cells_four hc2
      obtain ⟨a, b, c, d, rfl, rfl, rfl, rfl⟩ := openFour hy
      exact ⟨(a, b, c, d), g0, g1, g2, g3⟩
    refine ⟨some x, cap, (List.range len).map (fun i => if h : i < len then Classical.choose (get i h) else (0, 0, 0, 0)), by simp, ⟨by simpa using hl, hM, fun hn => ?_⟩⟩
    have hpos : 0 < len := by
      rcases Nat.eq_zero_or_pos len with e | e
      · subst e; simp at hn
      · exact e
    obtain ⟨b, off, spot⟩ := x
    obtain ⟨q0, hq0, _⟩ := get 0 hpos
    have hspot : spot = none := by simpa [Addr.add] using World.cell?_spot hq0
    subst hspot
    refine ⟨b, off, rfl, fun i hi => ?_⟩
    have hi' : i < len := by simpa using hi
    have hc := Classical.choose_spec (get i hi')
    unfold bxAt
    rw [List.getElem?_map, List.getElem?_range hi']
    simp only [Option.map_some, Option.getD_some, dif_pos hi']
    have e0 : ((⟨b, off, none⟩ : Addr).add (i * 4)).add 0 = ⟨b, off + i * 4, none⟩ := by simp [Addr.add_lit]
    have e1 : ((⟨b, off, none⟩ : Addr).add (i * 4)).add 1 = ⟨b, off + i * 4 + 1, none⟩ := by simp [Addr.add_lit]
    have e2 : ((⟨b, off, none⟩ : Addr).add (i * 4)).add 2 = ⟨b, off + i * 4 + 2, none⟩ := by simp [Addr.add_lit]
    have e3 : ((⟨b, off, none⟩ : Addr).add (i * 4)).add 3 = ⟨b, off + i * 4 + 3, none⟩ := by simp [Addr.add_lit]
    exact ⟨(congrArg W.cell? e0.symm).trans hc.1, (congrArg W.cell? e1.symm).trans hc.2.1, (congrArg W.cell? e2.symm).trans hc.2.2.1, (congrArg W.cell? e3.symm).trans hc.2.2.2⟩
set_option maxRecDepth 100000 in
theorem openIntsC {H : Type} {enc : TypeId × Value → H} {W : World} {m : Nat} {v : Value} {y : DataW H × List MemPlace}
    (hm : DataW.trod enc Tryz.prog W 0 (fun _ => true) true m 27 [v] = some y) :
    ∃ a cap is, v = .slice a (List.length is) cap ∧ SeesI W a cap is := by
  rcases DataW.trod_slice Tryz.underlying27 hm with ⟨hcs, _⟩ | ⟨x, len, cap, elems, rest, n, _, hcs, _, _, hl, hM, hlen, hel, _, _⟩
  · simp only [List.cons.injEq, and_true] at hcs
    subst hcs
    exact ⟨none, 0, [], rfl, ⟨by simp, by simp [maxLen], fun h => absurd rfl h⟩⟩
  · simp only [List.cons.injEq, and_true] at hcs
    subst hcs
    have get : ∀ i, i < len → ∃ q : Int, W.cell? ((x.add i).add 0) = some (.int .i64 q) := by
      intro i hi
      have hE := hel i hi
      rw [cellsIntN, Nat.mul_one, List.getElem?_eq_getElem (show i < elems.length by omega), Option.bind_eq_some_iff] at hE
      obtain ⟨cs, hc2, hy⟩ := hE
      obtain ⟨e0, rfl, g0⟩ := cells_oneN hc2
      obtain ⟨k, ek, _⟩ := DataW.trod_int Tryz.underlying3 hy
      simp at ek
      subst ek
      exact ⟨k, g0⟩
    refine ⟨some x, cap, (List.range len).map (fun i => if h : i < len then Classical.choose (get i h) else 0), by simp, ⟨by simpa using hl, hM, fun hn => ?_⟩⟩
    have hpos : 0 < len := by
      rcases Nat.eq_zero_or_pos len with e | e
      · subst e; simp at hn
      · exact e
    obtain ⟨b, off, spot⟩ := x
    obtain ⟨q0, hq0⟩ := get 0 hpos
    have hspot : spot = none := by simpa [Addr.add] using World.cell?_spot hq0
    subst hspot
    refine ⟨b, off, rfl, fun i hi => ?_⟩
    have hi' : i < len := by simpa using hi
    have hc := Classical.choose_spec (get i hi')
    rw [List.getElem?_map, List.getElem?_range hi']
    simp only [Option.map_some, Option.getD_some, dif_pos hi']
    have e0 : ((⟨b, off, none⟩ : Addr).add i).add 0 = ⟨b, off + i, none⟩ := by simp [Addr.add_lit]
    exact (congrArg W.cell? e0.symm).trans hc

set_option maxRecDepth 100000 in
theorem openNodeC {H : Type} {enc : TypeId × Value → H} {W : World} : ∀ (m : Nat) (c0 c1 c2 c3 c4 c5 c6 : Value) (y : DataW H × List MemPlace),
    DataW.trod enc Tryz.prog W 0 (fun _ => true) true m 30 [c0, c1, c2, c3, c4, c5, c6] = some y →
    ∃ t : Nd, c0 = .int .i64 t.b.1 ∧ c1 = .int .i64 t.b.2.1 ∧ c2 = .int .i64 t.b.2.2.1 ∧ c3 = .int .i64 t.b.2.2.2 ∧ NdIn 0 W t c4 c5 c6 := by
  intro m
  induction m using Nat.strongRecOn with
  | _ m ih =>
  intro c0 c1 c2 c3 c4 c5 c6 y h
  obtain ⟨xs, n, hn, rfl, _, hlen, hf⟩ := DataW.trod_struct Tryz.underlying30 h
  match xs, hlen with
  | [y0, y1, y2, y3], _ =>
  have h0 : DataW.trod enc Tryz.prog W 0 (fun _ => true) true n 25 [c0, c1, c2, c3] = some y0 := by simpa [cellsBox] using hf 0 _ rfl
  have h1 : DataW.trod enc Tryz.prog W 0 (fun _ => true) true n 26 [c4] = some y1 := by simpa [cellsBoxsN] using hf 1 _ rfl
  have h2 : DataW.trod enc Tryz.prog W 0 (fun _ => true) true n 27 [c5] = some y2 := by simpa [cellsIntsN] using hf 2 _ rfl
  have h3 : DataW.trod enc Tryz.prog W 0 (fun _ => true) true n 28 [c6] = some y3 := by simpa [cellsNodesN] using hf 3 _ rfl
  obtain ⟨q0, q1, q2, q3, rfl, rfl, rfl, rfl⟩ := openFour h0
  obtain ⟨a1, k1, bs, rfl, s1⟩ := openBoxsC h1
  obtain ⟨a2, k2, is, rfl, s2⟩ := openIntsC h2
  have F : ∀ n a, From 0 n a := fun _ _ _ _ _ _ => Nat.zero_le _
  rcases DataW.trod_slice Tryz.underlying28 h3 with ⟨hcs, _⟩ | ⟨x, len, cap, elems, rest, n', hn', hcs, _, _, hl, hM, hlen, hel, _, _⟩
  · simp only [List.cons.injEq, and_true] at hcs
    subst hcs
    exact ⟨.mk (q0, q1, q2, q3) bs is [], rfl, rfl, rfl, rfl, .mk (p := 0) (o := 0) (g1 := fun _ => .bool false) (g2 := fun _ => .bool false) (g3 := fun _ => .bool false) s1 (F _ _) s2 (F _ _) (Nat.le_refl 0) (by simp [maxLen]) (F _ _) (fun e => absurd rfl e) (fun i hi => absurd hi (by simp)) (fun i hi => absurd hi (by simp))⟩
  · simp only [List.cons.injEq, and_true] at hcs
    subst hcs
    have get : ∀ i, ∃ (t : Nd) (u1 u2 u3 : Value), i < len → W.cell? ((x.add (i * 7)).add 0) = some (.int .i64 t.b.1) ∧ W.cell? ((x.add (i * 7)).add 1) = some (.int .i64 t.b.2.1) ∧ W.cell? ((x.add (i * 7)).add 2) = some (.int .i64 t.b.2.2.1) ∧ W.cell? ((x.add (i * 7)).add 3) = some (.int .i64 t.b.2.2.2) ∧ W.cell? ((x.add (i * 7)).add 4) = some u1 ∧ W.cell? ((x.add (i * 7)).add 5) = some u2 ∧ W.cell? ((x.add (i * 7)).add 6) = some u3 ∧ NdIn 0 W t u1 u2 u3 := by
      intro i
      by_cases hi : i < len
      · have hE := hel i hi
        rw [cellsNodeN, List.getElem?_eq_getElem (show i < elems.length by omega), Option.bind_eq_some_iff] at hE
        obtain ⟨cs, hc2, hy⟩ := hE
        obtain ⟨e0, e1, e2, e3, e4, e5, e6, rfl, g0, g1, g2, g3, g4, g5, g6⟩ := cells_seven hc2
        obtain ⟨t, rfl, rfl, rfl, rfl, hN⟩ := ih n' (by omega) _ _ _ _ _ _ _ _ hy
        exact ⟨t, e4, e5, e6, fun _ => ⟨g0, g1, g2, g3, g4, g5, g6, hN⟩⟩
      · exact ⟨default, .bool false, .bool false, .bool false, fun h => absurd h hi⟩
    have hlen7 : ((List.range len).map (fun i => (get i).choose)).length = len := by simp
    have at7 : ∀ i, i < len → ndA ((List.range len).map (fun i => (get i).choose)) i = (get i).choose := fun i hi => by
      unfold ndA
      rw [List.getElem?_map, List.getElem?_range hi]
      rfl
    have sp : 0 < len → x = ⟨x.block, x.off, none⟩ := fun hp => by
      obtain ⟨hq0, _⟩ := (get 0).choose_spec.choose_spec.choose_spec.choose_spec hp
      obtain ⟨b, off, spot⟩ := x
      have hspot : spot = none := by simpa [Addr.add] using World.cell?_spot hq0
      rw [hspot]
    refine ⟨.mk (q0, q1, q2, q3) bs is ((List.range len).map (fun i => (get i).choose)), rfl, rfl, rfl, rfl, ?_⟩
    have K := NdIn.mk (lo := 0) (w := W) (b := (q0, q1, q2, q3)) (ks := (List.range len).map (fun i => (get i).choose)) (a3 := some x) (c3 := cap) (p := x.block) (o := x.off) (g1 := fun i => (get i).choose_spec.choose) (g2 := fun i => (get i).choose_spec.choose_spec.choose) (g3 := fun i => (get i).choose_spec.choose_spec.choose_spec.choose) s1 (F _ _) s2 (F _ _) (by rw [hlen7]; exact hl) hM (F _ _) (fun hne => by
      have : 0 < len := by rw [← hlen7]; exact List.length_pos_iff.2 hne
      exact congrArg some (sp this)) (fun i hi => by
      rw [hlen7] at hi
      rw [at7 i hi]
      have hx := sp (by omega)
      obtain ⟨g0, g1, g2, g3, g4, g5, g6, _⟩ := (get i).choose_spec.choose_spec.choose_spec.choose_spec hi
      have ek : ∀ k, (x.add (i * 7)).add k = ⟨x.block, x.off + i * 7 + k, none⟩ := fun k => by rw [hx]; simp [Addr.add_lit]
      exact ⟨⟨(congrArg W.cell? (ek 0).symm).trans g0, (congrArg W.cell? (ek 1).symm).trans g1, (congrArg W.cell? (ek 2).symm).trans g2, (congrArg W.cell? (ek 3).symm).trans g3⟩, (congrArg W.cell? (ek 4).symm).trans g4, (congrArg W.cell? (ek 5).symm).trans g5, (congrArg W.cell? (ek 6).symm).trans g6⟩) (fun i hi => by
      rw [hlen7] at hi
      rw [at7 i hi]
      exact ((get i).choose_spec.choose_spec.choose_spec.choose_spec hi).2.2.2.2.2.2.2)
    rw [hlen7] at K
    exact K
theorem array7 {cs : Array Value} (h : cs.size = 7) : ∃ c0 c1 c2 c3 c4 c5 c6, cs = #[c0, c1, c2, c3, c4, c5, c6] := by
  obtain ⟨l⟩ := cs
  match l, h with
  | [c0, c1, c2, c3, c4, c5, c6], _ => exact ⟨c0, c1, c2, c3, c4, c5, c6, rfl⟩
set_option maxRecDepth 100000 in
theorem openNode {H : Type} {enc : TypeId × Value → H} {W : World} {base : Nat} {v : Value} {d : DataW H} {p : List MemPlace}
    (hv : Value.okWide Tryz.prog W .any base 30 v) (h : DataW.Trod enc Tryz.prog W 0 (fun _ => true) true 30 v d p) :
    ∃ t v1 v2 v3, v = ndV t v1 v2 v3 ∧ NdIn 0 W t v1 v2 v3 := by
  obtain ⟨cs, rfl, hsz⟩ := okWide_struct Tryz.underlying30 hv
  obtain ⟨c0, c1, c2, c3, c4, c5, c6, rfl⟩ := array7 (hsz.trans cellsNodeN)
  obtain ⟨fuel, hf⟩ := h
  obtain ⟨t, rfl, rfl, rfl, rfl, hN⟩ := openNodeC fuel c0 c1 c2 c3 c4 c5 c6 _ (by simpa [Value.cells] using hf)
  exact ⟨t, c4, c5, c6, rfl, hN⟩
end Go.Proofs.YtdkhaghcnijilaaGreat
