/- The program's Dist: the least of the gaps to a shape's segments. -/
import Derived.Test.YtnjbedhealpgcaaGreatMinF
import Derived.Test.YtnjbedhealpgcaaGreatPtSh
import Derived.Test.YtnjbedhealpgcaaGreatGapI
import Derived.Test.YtnjbedhealpgcaaGreatHeld
namespace Go.Proofs.YtnjbedhealpgcaaGreat
open Go.RowKit

theorem infoFr : (Tryz.prog.info? 32).map (fun i => (i.zero, i.size, i.bytes)) = some (some (.agg #[.bool false, .slice none 0 0, .bool false, .slice none 0 0]), 4, 64) := by kernel_rfl
theorem IsFrac.put4 {b p : Nat} {w : World} {v : Value} {n d : Int} (h : IsFrac b w v n d) (hp : p < b) (u0 u1 u2 u3 : Value) : IsFrac b ((((w.setCell ⟨p, 0, none⟩ u0).setCell ⟨p, 1, none⟩ u1).setCell ⟨p, 2, none⟩ u2).setCell ⟨p, 3, none⟩ u3) v n d := by
 obtain ⟨a1, c1, qs, a2, c2, rs, e, o1, o2, n1, n2, v1, v2, ap⟩ := h
 exact ⟨a1, c1, qs, a2, c2, rs, e, o1.put4 (row_ne_low o1 hp) u0 u1 u2 u3, o2.put4 (row_ne_low o2 hp) u0 u1 u2 u3, n1, n2, v1, v2, ap⟩
theorem nought_is (w : World) :
  Calls Tryz.prog 24 #[] w fun e w' => ∃ v, e = .returned v ∧ IsFrac w.heap.size w' v 0 1 ∧ Below w.heap.size w w' := by
 refine (noughtC w).mono ?_
 rintro e w' ⟨b, c, ds, rfl, o, nr, v, hb⟩
 exact ⟨_, rfl, ⟨none, 0, [], b, c, ds, rfl, Own.nil _ _, o, trivial, nr, rfl, v, fun b off e _ => by cases e⟩, hb⟩
theorem nought_at (z : Int × Int) (hz : (0, 1) = z) (w : World) :
  Calls Tryz.prog 24 #[] w fun e w' => ∃ v, e = .returned v ∧ IsFrac w.heap.size w' v z.1 z.2 ∧ Below w.heap.size w w' := by
 subst hz
 exact nought_is w
theorem minFuncN {lo m : Nat} (a : Option Addr) (c : Nat) (vs : List Value) (zs : List (Int × Int)) (w : World) (hm : zs.length = m) (h : FrL lo w (.slice a m c) vs zs) (h0 : 0 < m) (hl : m ≤ 1000000) (hb : ∀ i, i < m → FrB (zN zs i)) :
  Calls Tryz.prog 27 #[.slice a m c, .func (Fn.func 28) #[] #[]] w fun e w' => ∃ v, e = .returned v ∧ IsFrac lo w' v (dsF zs (m - 1)).1 (dsF zs (m - 1)).2 ∧ Below w.heap.size w w' := by
 subst hm
 exact minFunc_any a c vs zs w h h0 hl hb
def dsV (n : Int) (rs : List (List (Int × Int))) (x y : Int) : Int × Int := if (ptOk x y && goodB n rs) && !hasP n rs (x, y) then dsF ((segL n rs).map (fun e => gpZ e (x, y))) ((segL n rs).length - 1) else (0, 1)
theorem dsV_none {n : Int} {rs : List (List (Int × Int))} {x y : Int} (h : ((ptOk x y && goodB n rs) && !hasP n rs (x, y)) = false) : dsV n rs x y = (0, 1) := by unfold dsV; rw [h]; rfl
theorem dsV_some {n : Int} {rs : List (List (Int × Int))} {x y : Int} (h : ((ptOk x y && goodB n rs) && !hasP n rs (x, y)) = true) : dsV n rs x y = dsF ((segL n rs).map (fun e => gpZ e (x, y))) ((segL n rs).length - 1) := by unfold dsV; rw [h]; rfl
theorem gapOk (p : Int × Int) (e : Sg) (w : World) (hp : ptOk p.1 p.2 = true) (h1 : ptOk e.1.1 e.1.2 = true) (h2 : ptOk e.2.1 e.2.2 = true) :
  Calls Tryz.prog 26 #[.agg #[.int .i64 p.1, .int .i64 p.2], .agg #[.int .i64 e.1.1, .int .i64 e.1.2], .agg #[.int .i64 e.2.1, .int .i64 e.2.2]] w fun en w' => ∃ v, en = .returned v ∧ IsFrac w.heap.size w' v (gpZ e p).1 (gpZ e p).2 ∧ Below w.heap.size w w' := by
 have := implGap p.1 p.2 e.1.1 e.1.2 e.2.1 e.2.2 w
 unfold tX tY at this
 rw [hp, h1, h2] at this
 exact this
theorem four_new (w : World) (t : TypeId) (u0 u1 u2 u3 : Value) : ∀ j u, ([u0, u1, u2, u3])[j]? = some u → (w.alloc (.cells #[u0, u1, u2, u3] t)).cell? ((⟨w.heap.size, 0, none⟩ : Addr).add j) = some u := by
 intro j u hu
 have X := Box4.new w (lo := 0) (Nat.zero_le _) u0 u1 u2 u3 t
 have hj : j < 4 := by have := (List.getElem?_eq_some_iff.mp hu).1; simpa using this
 rcases (show j = 0 ∨ j = 1 ∨ j = 2 ∨ j = 3 by omega) with rfl | rfl | rfl | rfl
 ·have : u0 = u := by simpa using hu
  rw [← this]; exact X.c0
 ·have : u1 = u := by simpa using hu
  rw [← this]; exact X.c1
 ·have : u2 = u := by simpa using hu
  rw [← this]; exact X.c2
 ·have : u3 = u := by simpa using hu
  rw [← this]; exact X.c3
theorem extF (a b : Option Addr) (n c m d : Nat) (W : World) : (Instr.field 57 (.agg #[.slice a n c, .slice b m d]) 0).run Tryz.prog W = .ok (.slice a n c) W := by kernel_rfl
theorem sgA_take {es : List Sg} {j : Nat} (h : j < es.length) (f : Sg → Int × Int) : (es.take (j + 1)).map f = (es.take j).map f ++ [f (sgA es j)] := by
 rw [List.take_add_one, List.map_append, List.getElem?_eq_getElem h]
 unfold sgA
 rw [List.getElem?_eq_getElem h]
 rfl
theorem okSg {es : List Sg} (h : okQ es = true) {i : Nat} (hi : i < es.length) : ptOk (sgA es i).1.1 (sgA es i).1.2 = true ∧ ptOk (sgA es i).2.1 (sgA es i).2.2 = true := by
 have := List.all_eq_true.1 h (sgA es i) (by unfold sgA; rw [List.getElem?_eq_getElem hi]; exact List.getElem_mem hi)
 simpa using this
theorem zN_map {es : List Sg} {f : Sg → Int × Int} {i : Nat} (hi : i < es.length) : zN (es.map f) i = f (sgA es i) := by
 unfold zN sgA
 rw [List.getElem?_map, List.getElem?_eq_getElem hi]
 rfl

set_option maxRecDepth 20000 in
set_option maxHeartbeats 8000000 in
theorem implDist (n : Int) (a : Option Addr) (c : Nat) (rs : List (List (Int × Int))) (x y : Int) (w : World) (h : SeesS w a c rs) :
  Calls Tryz.prog 8 #[.agg #[.int .i64 n, .slice a rs.length c], .agg #[.int .i64 x, .int .i64 y]] w fun e w' => ∃ v, e = .returned v ∧ IsFrac w.heap.size w' v (dsV n rs x y).1 (dsV n rs x y).2 ∧ Below w.heap.size w w' := by
 have B := below3 w (.cells #[.int .i64 n, .slice a rs.length c] 36) (.cells #[.int .i64 x, .int .i64 y] 38) (.cells #[.bool false, .slice none 0 0, .bool false, .slice none 0 0] 32)
 have V1 := ((Box2.new w (lo := w.heap.size) (Nat.le_refl _) (.int .i64 n) (.slice a rs.length c) 36).below (below1 _ (.cells #[.int .i64 x, .int .i64 y] 38))).below (below1 _ (.cells #[.bool false, .slice none 0 0, .bool false, .slice none 0 0] 32))
 have V2 := (Box2.new (w.alloc (.cells #[.int .i64 n, .slice a rs.length c] 36)) (lo := w.heap.size) (by simp) (.int .i64 x) (.int .i64 y) 38).below (below1 _ (.cells #[.bool false, .slice none 0 0, .bool false, .slice none 0 0] 32))
 have V3 := Box4.new ((w.alloc (.cells #[.int .i64 n, .slice a rs.length c] 36)).alloc (.cells #[.int .i64 x, .int .i64 y] 38)) (lo := w.heap.size) (by simp; omega) (.bool false) (.slice none 0 0) (.bool false) (.slice none 0 0) 32
 rw [World.size_alloc] at V2
 rw [World.size_alloc, World.size_alloc] at V3
 have S1 := h.below B
 clear h
 have z3 : (((w.alloc (.cells #[.int .i64 n, .slice a rs.length c] 36)).alloc (.cells #[.int .i64 x, .int .i64 y] 38)).alloc (.cells #[.bool false, .slice none 0 0, .bool false, .slice none 0 0] 32)).heap.size = w.heap.size + 3 := by simp
 obtain ⟨k0, k1, _, _⟩ := id V1
 obtain ⟨k2, k3, _, _⟩ := id V2
 cases hp : ptOk x y
 ·have DV : Hid (dsV n rs x y = (0, 1)) := dsV_none (by rw [hp]; rfl)
  go_enter Tryz.func8, Tryz.ntmps8
  go_upto_region 1 with fail
  generalize (((w.alloc (.cells #[.int .i64 n, .slice a rs.length c] 36)).alloc (.cells #[.int .i64 x, .int .i64 y] 38)).alloc (.cells #[.bool false, .slice none 0 0, .bool false, .slice none 0 0] 32)) = W0 at *
  have N : Below W0.heap.size W0 W0.drew := (Below.refl _ _).drew
  refine wp_region_held_drew (S := fun w' => Below W0.heap.size W0 w') (by kernel_rfl) N (fun hHeld => ?_)
  clear hHeld
  generalize W0.drew = ww0 at *
  refine takeA (i := 0) (hy := by intro wq hSw; have y0 := bat hSw k0; have y1 := bat hSw k1; have y2 := bat hSw k2; have y3 := bat hSw k3; go_simp <;> with_reducible rfl) (h := ?_)
  refine rdA (i := 1) (h := fun K hK => ?_)
  go_simp
  refine (implPtOk x y _).mono ?_
  rintro e ww1 ⟨rfl, hb⟩
  rw [hp]
  replace N := N.trans (hb.mono N.size)
  refine hK.out _ _ N (fun hHeld => ?_)
  clear hK K hHeld hb
  try simp only [Act.put, pA, pB, pC]
  refine takeA (i := 2) (h := ?_)
  refine takeA (i := 3) (h := ?_)
  refine takeN (i := 4) (by simp only [List.getElem?_toArray, List.getElem?_cons_succ, List.getElem?_cons_zero]; exact rfl) (by kernel_rfl) (by kernel_rfl) (by kernel_rfl) (by exact fun _ _ _ h => h) (by rfl) (by assumption) ?_
  try simp only [Act.put, pA, pB, pC]
  refine takeN (i := 5) (by simp only [List.getElem?_toArray, List.getElem?_cons_succ, List.getElem?_cons_zero]; exact rfl) (by kernel_rfl) (by kernel_rfl) (by kernel_rfl) (by exact fun _ _ _ h => h) (by rfl) (by assumption) ?_
  try simp only [Act.put, pA, pB, pC]
  refine takeN (i := 6) (by simp only [List.getElem?_toArray, List.getElem?_cons_succ, List.getElem?_cons_zero]; exact rfl) (by kernel_rfl) (by kernel_rfl) (by kernel_rfl) (by exact fun _ _ _ h => h) (by rfl) (by assumption) ?_
  try simp only [Act.put, pA, pB, pC]
  refine takeA (i := 7) (h := ?_)
  refine takeA (i := 8) (h := ?_)
  refine takeN (i := 9) (by simp only [List.getElem?_toArray, List.getElem?_cons_succ, List.getElem?_cons_zero]; exact rfl) (by kernel_rfl) (by kernel_rfl) (by kernel_rfl) (by exact fun _ _ _ h => h) (by rfl) (by assumption) ?_
  try simp only [Act.put, pA, pB, pC]
  refine takeN (i := 10) (by simp only [List.getElem?_toArray, List.getElem?_cons_succ, List.getElem?_cons_zero]; exact rfl) (by kernel_rfl) (by kernel_rfl) (by kernel_rfl) (by exact fun _ _ _ h => h) (by rfl) (by assumption) ?_
  try simp only [Act.put, pA, pB, pC]
  refine takeN (i := 11) (by simp only [List.getElem?_toArray, List.getElem?_cons_succ, List.getElem?_cons_zero]; exact rfl) (by kernel_rfl) (by kernel_rfl) (by kernel_rfl) (by exact fun _ _ _ h => h) (by rfl) (by assumption) ?_
  try simp only [Act.put, pA, pB, pC]
  refine takeN (i := 12) (by simp only [List.getElem?_toArray, List.getElem?_cons_succ, List.getElem?_cons_zero]; exact rfl) (by kernel_rfl) (by kernel_rfl) (by kernel_rfl) (by exact fun _ _ _ h => h) (by rfl) (by assumption) ?_
  try simp only [Act.put, pA, pB, pC]
  refine takeA (i := 13) (h := ?_)
  refine wpAnyH_done (by kernel_rfl) ?_ _
  have S0 := S1.below N
  replace V3 := V3.below N
  replace B := B.trans (N.mono B.size)
  have sz := N.size
  clear k0 k1 k2 k3 V1 V2 S0
  obtain ⟨z, hz⟩ : ∃ z : Int × Int, Hid ((0, 1) = z) := ⟨_, rfl⟩
  have DZ : Hid (dsV n rs x y = z) := DV.out.trans hz.out
  clear DV
  have DV := DZ
  go_wp2_with fail
  refine (nought_at z hz.out _).mono ?_
  rintro e w5 ⟨v, rfl, hI, hb⟩
  obtain ⟨a1, c1, qs, a2, c2, ts, rfl, FO⟩ := IsFrac.parts hI
  clear hI
  have V5 := V3.below hb
  replace B := B.trans (hb.mono B.size)
  obtain ⟨m0, m1, m2, m3, mf, _⟩ := id V5
  have U4 := V5.put (.bool (decide (z.1 < 0))) (.slice a1 qs.length c1) (.bool (decide (z.2 < 0))) (.slice a2 ts.length c2)
  have UI := (FO.is.base_le (base' := w.heap.size + 3) (by omega)).put4 (p := w.heap.size + 1 + 1) (by omega) (.bool (decide (z.1 < 0))) (.slice a1 qs.length c1) (.bool (decide (z.2 < 0))) (.slice a2 ts.length c2)
  have UB := (((B.setCell (p := ⟨w.heap.size + 1 + 1, 0, none⟩) (by show _ ≤ _ + 1 + 1; omega) (.bool (decide (z.1 < 0)))).setCell (p := ⟨w.heap.size + 1 + 1, 1, none⟩) (by show _ ≤ _ + 1 + 1; omega) (.slice a1 qs.length c1)).setCell (p := ⟨w.heap.size + 1 + 1, 2, none⟩) (by show _ ≤ _ + 1 + 1; omega) (.bool (decide (z.2 < 0)))).setCell (p := ⟨w.heap.size + 1 + 1, 3, none⟩) (by show _ ≤ _ + 1 + 1; omega) (.slice a2 ts.length c2)
  have n0 := U4.c0
  have n1 := U4.c1
  have n2 := U4.c2
  have n3 := U4.c3
  have OUT : Hid _ := UI.base_le (base' := w.heap.size) (by omega)
  clear U4 UI V5 FO
  go_wp2
  exact bodyPost_ret (v := .agg #[.bool (decide (z.1 < 0)), .slice a1 qs.length c1, .bool (decide (z.2 < 0)), .slice a2 ts.length c2]) (by simp [results, Tryz.results8, go_sem, n0, n1, n2, n3]) rfl ⟨_, rfl, by rw [DV.out]; exact OUT.out, UB⟩
 ·cases hg : goodB n rs
  ·have DV : Hid (dsV n rs x y = (0, 1)) := dsV_none (by rw [hp, hg]; rfl)
   go_enter Tryz.func8, Tryz.ntmps8
   go_upto_region 1 with fail
   generalize (((w.alloc (.cells #[.int .i64 n, .slice a rs.length c] 36)).alloc (.cells #[.int .i64 x, .int .i64 y] 38)).alloc (.cells #[.bool false, .slice none 0 0, .bool false, .slice none 0 0] 32)) = W0 at *
   have N : Below W0.heap.size W0 W0.drew := (Below.refl _ _).drew
   refine wp_region_held_drew (S := fun w' => Below W0.heap.size W0 w') (by kernel_rfl) N (fun hHeld => ?_)
   clear hHeld
   generalize W0.drew = ww0 at *
   refine takeA (i := 0) (hy := by intro wq hSw; have y0 := bat hSw k0; have y1 := bat hSw k1; have y2 := bat hSw k2; have y3 := bat hSw k3; go_simp <;> with_reducible rfl) (h := ?_)
   refine rdA (i := 1) (h := fun K hK => ?_)
   go_simp
   refine (implPtOk x y _).mono ?_
   rintro e ww1 ⟨rfl, hb⟩
   rw [hp]
   replace N := N.trans (hb.mono N.size)
   refine hK.out _ _ N (fun hHeld => ?_)
   clear hK K hHeld hb
   try simp only [Act.put, pA, pB, pC]
   refine takeA (i := 2) (h := ?_)
   refine takeA (i := 3) (h := ?_)
   refine takeA (i := 4) (hy := by intro wq hSw; have y0 := bat hSw k0; have y1 := bat hSw k1; have y2 := bat hSw k2; have y3 := bat hSw k3; go_simp <;> with_reducible rfl) (h := ?_)
   refine rdA (i := 5) (h := fun K hK => ?_)
   go_simp
   refine (good_any n a c rs _ (S1.below N)).mono ?_
   rintro e ww2 ⟨rfl, hb⟩
   rw [hg]
   replace N := N.trans (hb.mono N.size)
   refine hK.out _ _ N (fun hHeld => ?_)
   clear hK K hHeld hb
   try simp only [Act.put, pA, pB, pC]
   refine takeA (i := 6) (h := ?_)
   refine takeA (i := 7) (h := ?_)
   refine takeA (i := 8) (h := ?_)
   refine takeN (i := 9) (by simp only [List.getElem?_toArray, List.getElem?_cons_succ, List.getElem?_cons_zero]; exact rfl) (by kernel_rfl) (by kernel_rfl) (by kernel_rfl) (by exact fun _ _ _ h => h) (by rfl) (by assumption) ?_
   try simp only [Act.put, pA, pB, pC]
   refine takeN (i := 10) (by simp only [List.getElem?_toArray, List.getElem?_cons_succ, List.getElem?_cons_zero]; exact rfl) (by kernel_rfl) (by kernel_rfl) (by kernel_rfl) (by exact fun _ _ _ h => h) (by rfl) (by assumption) ?_
   try simp only [Act.put, pA, pB, pC]
   refine takeN (i := 11) (by simp only [List.getElem?_toArray, List.getElem?_cons_succ, List.getElem?_cons_zero]; exact rfl) (by kernel_rfl) (by kernel_rfl) (by kernel_rfl) (by exact fun _ _ _ h => h) (by rfl) (by assumption) ?_
   try simp only [Act.put, pA, pB, pC]
   refine takeN (i := 12) (by simp only [List.getElem?_toArray, List.getElem?_cons_succ, List.getElem?_cons_zero]; exact rfl) (by kernel_rfl) (by kernel_rfl) (by kernel_rfl) (by exact fun _ _ _ h => h) (by rfl) (by assumption) ?_
   try simp only [Act.put, pA, pB, pC]
   refine takeA (i := 13) (h := ?_)
   refine wpAnyH_done (by kernel_rfl) ?_ _
   have S0 := S1.below N
   replace V3 := V3.below N
   replace B := B.trans (N.mono B.size)
   have sz := N.size
   clear k0 k1 k2 k3 V1 V2 S0
   obtain ⟨z, hz⟩ : ∃ z : Int × Int, Hid ((0, 1) = z) := ⟨_, rfl⟩
   have DZ : Hid (dsV n rs x y = z) := DV.out.trans hz.out
   clear DV
   have DV := DZ
   go_wp2_with fail
   refine (nought_at z hz.out _).mono ?_
   rintro e w5 ⟨v, rfl, hI, hb⟩
   obtain ⟨a1, c1, qs, a2, c2, ts, rfl, FO⟩ := IsFrac.parts hI
   clear hI
   have V5 := V3.below hb
   replace B := B.trans (hb.mono B.size)
   obtain ⟨m0, m1, m2, m3, mf, _⟩ := id V5
   have U4 := V5.put (.bool (decide (z.1 < 0))) (.slice a1 qs.length c1) (.bool (decide (z.2 < 0))) (.slice a2 ts.length c2)
   have UI := (FO.is.base_le (base' := w.heap.size + 3) (by omega)).put4 (p := w.heap.size + 1 + 1) (by omega) (.bool (decide (z.1 < 0))) (.slice a1 qs.length c1) (.bool (decide (z.2 < 0))) (.slice a2 ts.length c2)
   have UB := (((B.setCell (p := ⟨w.heap.size + 1 + 1, 0, none⟩) (by show _ ≤ _ + 1 + 1; omega) (.bool (decide (z.1 < 0)))).setCell (p := ⟨w.heap.size + 1 + 1, 1, none⟩) (by show _ ≤ _ + 1 + 1; omega) (.slice a1 qs.length c1)).setCell (p := ⟨w.heap.size + 1 + 1, 2, none⟩) (by show _ ≤ _ + 1 + 1; omega) (.bool (decide (z.2 < 0)))).setCell (p := ⟨w.heap.size + 1 + 1, 3, none⟩) (by show _ ≤ _ + 1 + 1; omega) (.slice a2 ts.length c2)
   have n0 := U4.c0
   have n1 := U4.c1
   have n2 := U4.c2
   have n3 := U4.c3
   have OUT : Hid _ := UI.base_le (base' := w.heap.size) (by omega)
   clear U4 UI V5 FO
   go_wp2
   exact bodyPost_ret (v := .agg #[.bool (decide (z.1 < 0)), .slice a1 qs.length c1, .bool (decide (z.2 < 0)), .slice a2 ts.length c2]) (by simp [results, Tryz.results8, go_sem, n0, n1, n2, n3]) rfl ⟨_, rfl, by rw [DV.out]; exact OUT.out, UB⟩
  ·have mt : meetI n rs 1 [[(x, y)]] = hasP n rs (x, y) := by rw [meet_same hg (by rw [good_pt]; exact hp), meet_pt]
   have gp : goodB 1 [[(x, y)]] = true := by rw [good_pt]; exact hp
   cases hh : hasP n rs (x, y)
   ·have DV : Hid (dsV n rs x y = dsF ((segL n rs).map (fun e => gpZ e (x, y))) ((segL n rs).length - 1)) := dsV_some (by rw [hp, hg, hh]; rfl)
    go_enter Tryz.func8, Tryz.ntmps8
    go_upto_region 1 with fail
    generalize (((w.alloc (.cells #[.int .i64 n, .slice a rs.length c] 36)).alloc (.cells #[.int .i64 x, .int .i64 y] 38)).alloc (.cells #[.bool false, .slice none 0 0, .bool false, .slice none 0 0] 32)) = W0 at *
    have N : Below W0.heap.size W0 W0.drew := (Below.refl _ _).drew
    refine wp_region_held_drew (S := fun w' => Below W0.heap.size W0 w') (by kernel_rfl) N (fun hHeld => ?_)
    clear hHeld
    generalize W0.drew = ww0 at *
    refine takeA (i := 0) (hy := by intro wq hSw; have y0 := bat hSw k0; have y1 := bat hSw k1; have y2 := bat hSw k2; have y3 := bat hSw k3; go_simp <;> with_reducible rfl) (h := ?_)
    refine rdA (i := 1) (h := fun K hK => ?_)
    go_simp
    refine (implPtOk x y _).mono ?_
    rintro e ww1 ⟨rfl, hb⟩
    rw [hp]
    replace N := N.trans (hb.mono N.size)
    refine hK.out _ _ N (fun hHeld => ?_)
    clear hK K hHeld hb
    try simp only [Act.put, pA, pB, pC]
    refine takeA (i := 2) (h := ?_)
    refine takeA (i := 3) (h := ?_)
    refine takeA (i := 4) (hy := by intro wq hSw; have y0 := bat hSw k0; have y1 := bat hSw k1; have y2 := bat hSw k2; have y3 := bat hSw k3; go_simp <;> with_reducible rfl) (h := ?_)
    refine rdA (i := 5) (h := fun K hK => ?_)
    go_simp
    refine (good_any n a c rs _ (S1.below N)).mono ?_
    rintro e ww2 ⟨rfl, hb⟩
    rw [hg]
    replace N := N.trans (hb.mono N.size)
    refine hK.out _ _ N (fun hHeld => ?_)
    clear hK K hHeld hb
    try simp only [Act.put, pA, pB, pC]
    refine takeA (i := 6) (h := ?_)
    refine takeA (i := 7) (h := ?_)
    refine takeA (i := 8) (h := ?_)
    refine takeA (i := 9) (hy := by intro wq hSw; have y0 := bat hSw k0; have y1 := bat hSw k1; have y2 := bat hSw k2; have y3 := bat hSw k3; go_simp <;> with_reducible rfl) (h := ?_)
    refine takeA (i := 10) (hy := by intro wq hSw; have y0 := bat hSw k0; have y1 := bat hSw k1; have y2 := bat hSw k2; have y3 := bat hSw k3; go_simp <;> with_reducible rfl) (h := ?_)
    refine rdA (i := 11) (h := fun K hK => ?_)
    go_simp
    refine (pointShape_any x y _).mono ?_
    rintro e ww3 ⟨q, rfl, SP, hb⟩
    replace N := N.trans (hb.mono N.size)
    refine hK.out _ _ N (fun hHeld => ?_)
    clear hK K hHeld hb
    try simp only [Act.put, pA, pB, pC]
    refine rdA (i := 12) (h := fun K hK => ?_)
    go_simp
    refine (meeting_any n 1 a q c 1 rs [[(x, y)]] _ (S1.below N) SP hg gp).mono ?_
    rintro e ww4 ⟨rfl, hb⟩
    rw [mt, hh]
    replace N := N.trans (hb.mono N.size)
    refine hK.out _ _ N (fun hHeld => ?_)
    clear hK K hHeld hb
    try simp only [Act.put, pA, pB, pC]
    refine takeA (i := 13) (h := ?_)
    refine wpAnyH_done (by kernel_rfl) ?_ _
    have S0 := S1.below N
    replace V1 := V1.below N
    replace V2 := V2.below N
    replace V3 := V3.below N
    replace B := B.trans (N.mono B.size)
    have sz := N.size
    clear k0 k1 k2 k3 N mt gp SP
    obtain ⟨k0, k1, _, _⟩ := id V1
    go_wp2_with fail
    refine (extentOf_any n a c rs _ S0 hg).mono ?_
    rintro e w5 ⟨a1, c1, a2, c2, rfl, SE, _, hb⟩
    have ok := okQ_seg hg
    obtain ⟨l0, l1⟩ := segL_bounds hg
    have V2' := V2.below hb
    have V3' := V3.below hb
    have B5 := B.trans (hb.mono B.size)
    have sz5 := hb.size
    clear hb k0 k1 V1 V2 V3 B S0
    generalize segL n rs = es at *
    obtain ⟨iF, hiF, hF0, hF1, hF2⟩ := info_parts infoFr
    have em := SE.max
    have ef := SE.fits
    unfold maxLen at em
    have hfl := extF a1 a2 es.length c1 (stL n rs).length c2
    go_wp2
    go_loopw [5, 27] (fun s5 s27 wr => ∃ (j : Nat) (vs : List Value), j ≤ es.length ∧ s27 = .int .i64 j ∧ Hid (FrL w5.heap.size wr s5 vs ((es.take j).map (fun e => gpZ e (x, y)))) ∧ Hid (Below w5.heap.size w5 wr)) (fun _ s27 _ => es.length - (intOf s27).toNat)
    case atStart => exact ⟨0, [], Nat.zero_le _, rfl, FrL.nil _ _, Below.refl _ _⟩
    case round =>
     obtain ⟨j, vs, hj, rfl, FR, BW⟩ := hrel
     rename World => wr
     obtain ⟨va, vc, rfl, vf, vm⟩ := FR.out.shape
     have HX : Hid (((es.take j).map (fun e => gpZ e (x, y))).length = j) := by show _ = _; rw [List.length_map, List.length_take]; omega
     rw [HX.out] at FR vf ⊢
     by_cases hlt : j < es.length
     ·obtain ⟨b, off, rfl, hc⟩ := (SE.below BW.out).cells (by intro e; simp [e] at hlt)
      obtain ⟨p1, p2, p3, p4⟩ := hc j hlt
      obtain ⟨o1, o2⟩ := okSg ok hlt
      have TS : Hid ((es.take (j + 1)).map (fun e => gpZ e (x, y)) = (es.take j).map (fun e => gpZ e (x, y)) ++ [gpZ (sgA es j) (x, y)]) := sgA_take hlt _
      have vl : Hid (vs.length = j) := FR.out.len.out.trans HX.out
      generalize (es.take j).map (fun e => gpZ e (x, y)) = L at *
      generalize sgA es j = e0 at *
      have bn := below1 wr (.cells #[.int .i64 e0.1.1, .int .i64 e0.1.2, .int .i64 e0.2.1, .int .i64 e0.2.2] 59)
      have X7 := Box4.new wr (lo := 0) (Nat.zero_le _) (.int .i64 e0.1.1) (.int .i64 e0.1.2) (.int .i64 e0.2.1) (.int .i64 e0.2.2) 59
      have F7 := FR.out.below bn
      have B7 := BW.out.trans (bn.mono BW.out.size)
      obtain ⟨q0, q1, q2, q3, qf, _⟩ := id X7
      have t2 := bat B7 V2'.c0
      have t3 := bat B7 V2'.c1
      clear hc FR BW
      go_wp2_with fail
      generalize wr.alloc (.cells #[.int .i64 e0.1.1, .int .i64 e0.1.2, .int .i64 e0.2.1, .int .i64 e0.2.2] 59) = W7 at *
      refine (gapOk (x, y) e0 _ hp o1 o2).mono ?_
      rintro e w8 ⟨v, rfl, hI, hb⟩
      have s78 : w5.heap.size ≤ W7.heap.size := B7.size
      obtain ⟨a3, c3, qs, a4, c4, ts, rfl, FO⟩ := IsFrac.parts hI
      have F8 := F7.below hb
      have B8 := B7.trans (hb.mono B7.size)
      have bq := below1 w8 (.cells #[.bool (decide ((gpZ e0 (x, y)).1 < 0)), .slice a3 qs.length c3, .bool (decide ((gpZ e0 (x, y)).2 < 0)), .slice a4 ts.length c4] 32)
      have NW := four_new w8 32 (.bool (decide ((gpZ e0 (x, y)).1 < 0))) (.slice a3 qs.length c3) (.bool (decide ((gpZ e0 (x, y)).2 < 0))) (.slice a4 ts.length c4)
      have F9 := F8.below bq
      have B9 := B8.trans (bq.mono B8.size)
      have hu : FrIn w5.heap.size _ (Value.slice va j vc).ownBlock (.agg #[.bool (decide ((gpZ e0 (x, y)).1 < 0)), .slice a3 qs.length c3, .bool (decide ((gpZ e0 (x, y)).2 < 0)), .slice a4 ts.length c4]) (gpZ e0 (x, y)).1 (gpZ e0 (x, y)).2 := (FrIn.of FO.is s78 (fun k hk => by have := (World.ownsRow.lt F7.own k hk).2; omega)).below bq
      have hz9 : w5.heap.size ≤ (w8.alloc (.cells #[.bool (decide ((gpZ e0 (x, y)).1 < 0)), .slice a3 qs.length c3, .bool (decide ((gpZ e0 (x, y)).2 < 0)), .slice a4 ts.length c4] 32)).heap.size := B9.size
      clear hI FO hb bn X7 q0 q1 q2 q3 qf t2 t3 F7 F8 B7 B8 p1 p2 p3 p4
      have OW := F9.own
      go_wp2_with (at_builtin; refine wpList_append_own_at _ rfl (.tmp 31) (.tmp 38) 52 rfl w5.heap.size 32 iF (.agg #[.bool false, .slice none 0 0, .bool false, .slice none 0 0]) 4 64 Tryz.underlying52 hiF hF0 hF1 hF2 rfl (by decide) (.slice va j vc) vs.length (frC vs) rfl OW ⟨w8.heap.size, 0, none⟩ 1 _ [.bool (decide ((gpZ e0 (x, y)).1 < 0)), .slice a3 qs.length c3, .bool (decide ((gpZ e0 (x, y)).2 < 0)), .slice a4 ts.length c4] rfl rfl NW (by intro u hu; simp at hu; rcases hu with rfl | rfl | rfl | rfl <;> rfl) (by unfold maxLen; have := vl.out; omega) (by have := vl.out; omega) hz9 ?_; intro v7 w9 R8 G7 _ A7)
      have FN := FrL.snoc F9 hu R8 G7 A7
      have BN : Hid (Below w5.heap.size w5 w9) := B9.grown G7 hz9 (fun k hk => (World.ownsRow.lt OW k hk).1)
      go_roundw
      case rel => exact ⟨j + 1, _, by omega, by go_num, (by rw [TS.out]; exact FN), BN⟩
      case measure => simp [intOf]; omega
     ·obtain rfl : j = es.length := by omega
      rw [List.take_length] at FR HX
      clear HX
      have V5 := V3'.below BW.out
      have B6 := B5.trans (BW.out.mono B5.size)
      obtain ⟨cx, cy⟩ := ptOk_crd hp
      go_wp2_with fail
      refine (minFuncN va vc vs (es.map (fun e => gpZ e (x, y))) _ (List.length_map _) FR.out l0 (by omega) (fun i hi => by rw [zN_map hi]; exact gpZ_ok (okQ_at ok hi) cx cy)).mono ?_
      rintro e w6 ⟨v, rfl, hI, hb⟩
      obtain ⟨z, hz⟩ : ∃ z, Hid (dsF (es.map (fun e => gpZ e (x, y))) (es.length - 1) = z) := ⟨_, rfl⟩
      rw [hz.out] at hI
      have DZ : Hid (dsV n rs x y = z) := DV.out.trans hz.out
      clear DV
      have DV := DZ
      obtain ⟨a1, c1, qs, a2, c2, ts, rfl, FO⟩ := IsFrac.parts hI
      replace V5 := V5.below hb
      have B := B6.trans (hb.mono B6.size)
      obtain ⟨m0, m1, m2, m3, mf, _⟩ := id V5
      clear hb hI FR BW V3' V2' B5 B6 SE
      have U4 := V5.put (.bool (decide (z.1 < 0))) (.slice a1 qs.length c1) (.bool (decide (z.2 < 0))) (.slice a2 ts.length c2)
      have UI := (FO.is.base_le (base' := w.heap.size + 3) (by omega)).put4 (p := w.heap.size + 1 + 1) (by omega) (.bool (decide (z.1 < 0))) (.slice a1 qs.length c1) (.bool (decide (z.2 < 0))) (.slice a2 ts.length c2)
      have UB := (((B.setCell (p := ⟨w.heap.size + 1 + 1, 0, none⟩) (by show _ ≤ _ + 1 + 1; omega) (.bool (decide (z.1 < 0)))).setCell (p := ⟨w.heap.size + 1 + 1, 1, none⟩) (by show _ ≤ _ + 1 + 1; omega) (.slice a1 qs.length c1)).setCell (p := ⟨w.heap.size + 1 + 1, 2, none⟩) (by show _ ≤ _ + 1 + 1; omega) (.bool (decide (z.2 < 0)))).setCell (p := ⟨w.heap.size + 1 + 1, 3, none⟩) (by show _ ≤ _ + 1 + 1; omega) (.slice a2 ts.length c2)
      have n0 := U4.c0
      have n1 := U4.c1
      have n2 := U4.c2
      have n3 := U4.c3
      have OUT : Hid _ := UI.base_le (base' := w.heap.size) (by omega)
      clear U4 UI V5 FO
      go_wp2
      exact bodyPost_ret (v := .agg #[.bool (decide (z.1 < 0)), .slice a1 qs.length c1, .bool (decide (z.2 < 0)), .slice a2 ts.length c2]) (by simp [results, Tryz.results8, go_sem, n0, n1, n2, n3]) rfl ⟨_, rfl, by rw [DV.out]; exact OUT.out, UB⟩
   ·have DV : Hid (dsV n rs x y = (0, 1)) := dsV_none (by rw [hp, hg, hh]; rfl)
    go_enter Tryz.func8, Tryz.ntmps8
    go_upto_region 1 with fail
    generalize (((w.alloc (.cells #[.int .i64 n, .slice a rs.length c] 36)).alloc (.cells #[.int .i64 x, .int .i64 y] 38)).alloc (.cells #[.bool false, .slice none 0 0, .bool false, .slice none 0 0] 32)) = W0 at *
    have N : Below W0.heap.size W0 W0.drew := (Below.refl _ _).drew
    refine wp_region_held_drew (S := fun w' => Below W0.heap.size W0 w') (by kernel_rfl) N (fun hHeld => ?_)
    clear hHeld
    generalize W0.drew = ww0 at *
    refine takeA (i := 0) (hy := by intro wq hSw; have y0 := bat hSw k0; have y1 := bat hSw k1; have y2 := bat hSw k2; have y3 := bat hSw k3; go_simp <;> with_reducible rfl) (h := ?_)
    refine rdA (i := 1) (h := fun K hK => ?_)
    go_simp
    refine (implPtOk x y _).mono ?_
    rintro e ww1 ⟨rfl, hb⟩
    rw [hp]
    replace N := N.trans (hb.mono N.size)
    refine hK.out _ _ N (fun hHeld => ?_)
    clear hK K hHeld hb
    try simp only [Act.put, pA, pB, pC]
    refine takeA (i := 2) (h := ?_)
    refine takeA (i := 3) (h := ?_)
    refine takeA (i := 4) (hy := by intro wq hSw; have y0 := bat hSw k0; have y1 := bat hSw k1; have y2 := bat hSw k2; have y3 := bat hSw k3; go_simp <;> with_reducible rfl) (h := ?_)
    refine rdA (i := 5) (h := fun K hK => ?_)
    go_simp
    refine (good_any n a c rs _ (S1.below N)).mono ?_
    rintro e ww2 ⟨rfl, hb⟩
    rw [hg]
    replace N := N.trans (hb.mono N.size)
    refine hK.out _ _ N (fun hHeld => ?_)
    clear hK K hHeld hb
    try simp only [Act.put, pA, pB, pC]
    refine takeA (i := 6) (h := ?_)
    refine takeA (i := 7) (h := ?_)
    refine takeA (i := 8) (h := ?_)
    refine takeA (i := 9) (hy := by intro wq hSw; have y0 := bat hSw k0; have y1 := bat hSw k1; have y2 := bat hSw k2; have y3 := bat hSw k3; go_simp <;> with_reducible rfl) (h := ?_)
    refine takeA (i := 10) (hy := by intro wq hSw; have y0 := bat hSw k0; have y1 := bat hSw k1; have y2 := bat hSw k2; have y3 := bat hSw k3; go_simp <;> with_reducible rfl) (h := ?_)
    refine rdA (i := 11) (h := fun K hK => ?_)
    go_simp
    refine (pointShape_any x y _).mono ?_
    rintro e ww3 ⟨q, rfl, SP, hb⟩
    replace N := N.trans (hb.mono N.size)
    refine hK.out _ _ N (fun hHeld => ?_)
    clear hK K hHeld hb
    try simp only [Act.put, pA, pB, pC]
    refine rdA (i := 12) (h := fun K hK => ?_)
    go_simp
    refine (meeting_any n 1 a q c 1 rs [[(x, y)]] _ (S1.below N) SP hg gp).mono ?_
    rintro e ww4 ⟨rfl, hb⟩
    rw [mt, hh]
    replace N := N.trans (hb.mono N.size)
    refine hK.out _ _ N (fun hHeld => ?_)
    clear hK K hHeld hb
    try simp only [Act.put, pA, pB, pC]
    refine takeA (i := 13) (h := ?_)
    refine wpAnyH_done (by kernel_rfl) ?_ _
    have S0 := S1.below N
    replace V3 := V3.below N
    replace B := B.trans (N.mono B.size)
    have sz := N.size
    clear k0 k1 k2 k3 V1 V2 S0
    obtain ⟨z, hz⟩ : ∃ z : Int × Int, Hid ((0, 1) = z) := ⟨_, rfl⟩
    have DZ : Hid (dsV n rs x y = z) := DV.out.trans hz.out
    clear DV
    have DV := DZ
    go_wp2_with fail
    refine (nought_at z hz.out _).mono ?_
    rintro e w5 ⟨v, rfl, hI, hb⟩
    obtain ⟨a1, c1, qs, a2, c2, ts, rfl, FO⟩ := IsFrac.parts hI
    clear hI
    have V5 := V3.below hb
    replace B := B.trans (hb.mono B.size)
    obtain ⟨m0, m1, m2, m3, mf, _⟩ := id V5
    have U4 := V5.put (.bool (decide (z.1 < 0))) (.slice a1 qs.length c1) (.bool (decide (z.2 < 0))) (.slice a2 ts.length c2)
    have UI := (FO.is.base_le (base' := w.heap.size + 3) (by omega)).put4 (p := w.heap.size + 1 + 1) (by omega) (.bool (decide (z.1 < 0))) (.slice a1 qs.length c1) (.bool (decide (z.2 < 0))) (.slice a2 ts.length c2)
    have UB := (((B.setCell (p := ⟨w.heap.size + 1 + 1, 0, none⟩) (by show _ ≤ _ + 1 + 1; omega) (.bool (decide (z.1 < 0)))).setCell (p := ⟨w.heap.size + 1 + 1, 1, none⟩) (by show _ ≤ _ + 1 + 1; omega) (.slice a1 qs.length c1)).setCell (p := ⟨w.heap.size + 1 + 1, 2, none⟩) (by show _ ≤ _ + 1 + 1; omega) (.bool (decide (z.2 < 0)))).setCell (p := ⟨w.heap.size + 1 + 1, 3, none⟩) (by show _ ≤ _ + 1 + 1; omega) (.slice a2 ts.length c2)
    have n0 := U4.c0
    have n1 := U4.c1
    have n2 := U4.c2
    have n3 := U4.c3
    have OUT : Hid _ := UI.base_le (base' := w.heap.size) (by omega)
    clear U4 UI V5 FO
    go_wp2
    exact bodyPost_ret (v := .agg #[.bool (decide (z.1 < 0)), .slice a1 qs.length c1, .bool (decide (z.2 < 0)), .slice a2 ts.length c2]) (by simp [results, Tryz.results8, go_sem, n0, n1, n2, n3]) rfl ⟨_, rfl, by rw [DV.out]; exact OUT.out, UB⟩
end Go.Proofs.YtnjbedhealpgcaaGreat
