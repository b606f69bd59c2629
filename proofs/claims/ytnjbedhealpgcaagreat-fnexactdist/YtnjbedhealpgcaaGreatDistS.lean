/- The specification's Dist. -/
import Derived.Test.YtnjbedhealpgcaaGreatDistI
import Derived.Test.YtnjbedhealpgcaaGreatGapS
import Derived.Test.YtnjbedhealpgcaaGreatMark
namespace Go.Proofs.YtnjbedhealpgcaaGreat
open Go.RowKit

theorem FrO.base {lo lo' : Nat} {w : World} {z : Int × Int} {a1 a2 : Option Addr} {c1 c2 : Nat} {qs rs : List Int} (h : FrO lo w z a1 c1 qs a2 c2 rs) (hl : lo' ≤ lo) : FrO lo' w z a1 c1 qs a2 c2 rs := ⟨h.o1.base_le hl, h.o2.base_le hl, h.n1, h.n2, h.v1, h.v2, h.ap⟩
theorem FrO.put {lo p : Nat} {w : World} {z : Int × Int} {a1 a2 : Option Addr} {c1 c2 : Nat} {qs rs : List Int} (h : FrO lo w z a1 c1 qs a2 c2 rs) (ne : some p ≠ rowOf a1 qs ∧ some p ≠ rowOf a2 rs) (u0 u1 u2 u3 : Value) : FrO lo ((((w.setCell ⟨p, 0, none⟩ u0).setCell ⟨p, 1, none⟩ u1).setCell ⟨p, 2, none⟩ u2).setCell ⟨p, 3, none⟩ u3) z a1 c1 qs a2 c2 rs :=
 ⟨h.o1.put4 ne.1 u0 u1 u2 u3, h.o2.put4 ne.2 u0 u1 u2 u3, h.n1, h.n2, h.v1, h.v2, h.ap⟩
theorem frCmpS {lo lo' : Nat} {w : World} {z z' : Int × Int} {a1 a2 b1 b2 : Option Addr} {c1 c2 d1 d2 : Nat} {qs rs qs' rs' : List Int} (h : FrO lo w z a1 c1 qs a2 c2 rs) (k : FrO lo' w z' b1 d1 qs' b2 d2 rs') (hz : FrB z) (hz' : FrB z') :
  Calls Tryz.prog 41 #[.agg #[.bool (decide (z.1 < 0)), .slice a1 qs.length c1, .bool (decide (z.2 < 0)), .slice a2 rs.length c2], .agg #[.bool (decide (z'.1 < 0)), .slice b1 qs'.length d1, .bool (decide (z'.2 < 0)), .slice b2 rs'.length d2]] w fun e w' => e = .returned (.int .i64 (cmpZ (z.1 * z'.2) (z'.1 * z.2))) ∧ Below w.heap.size w w' := by
 have l := hz.len h.o1.lim h.n1 h.v1 h.o2.lim h.n2 h.v2
 have l' := hz'.len k.o1.lim k.n1 k.v1 k.o2.lim k.n2 k.v2
 obtain ⟨q1, q2⟩ := fND_is h.o1.lim h.n1 l.1 h.v1 h.o2.lim h.n2 l.2 h.v2 hz.1
 obtain ⟨q3, q4⟩ := fND_is k.o1.lim k.n1 l'.1 k.v1 k.o2.lim k.n2 l'.2 k.v2 hz'.1
 have := specCmpFrac (decide (z.1 < 0)) (decide (z.2 < 0)) (decide (z'.1 < 0)) (decide (z'.2 < 0)) a1 a2 b1 b2 c1 c2 d1 d2 qs rs qs' rs' w h.o1.toSees h.o2.toSees k.o1.toSees k.o2.toSees
 rw [q1, q2, q3, q4] at this
 exact this
theorem gapOkS (p : Int × Int) (e : Sg) (w : World) (h : (Crd e.1.1 ∧ Crd e.1.2) ∧ (Crd e.2.1 ∧ Crd e.2.2)) (hx : Crd p.1) (hy : Crd p.2) :
  Calls Tryz.prog 40 #[.agg #[.int .i64 p.1, .int .i64 p.2], .agg #[.int .i64 e.1.1, .int .i64 e.1.2], .agg #[.int .i64 e.2.1, .int .i64 e.2.2]] w fun en w' => ∃ v, en = .returned v ∧ IsFrac w.heap.size w' v (gpZ e p).1 (gpZ e p).2 ∧ Below w.heap.size w w' :=
 l3GapC p.1 p.2 e.1.1 e.1.2 e.2.1 e.2.2 w hx hy h.1.1 h.1.2 h.2.1 h.2.2
theorem whole_at (z : Int × Int) (hz : (0, 1) = z) (w : World) :
  Calls Tryz.prog 17 #[.int .i64 0] w fun e w' => ∃ v, e = .returned v ∧ IsFrac w.heap.size w' v z.1 z.2 ∧ Below w.heap.size w w' := by
 subst hz
 exact specWhole 0 w (by decide) (by decide)

set_option maxRecDepth 20000 in
set_option maxHeartbeats 16000000 in
theorem l6Dist_any (n : Int) (a : Option Addr) (c : Nat) (rs : List (List (Int × Int))) (x y : Int) (w : World) (h : SeesS w a c rs) (hg : goodB n rs = true) (hp : ptOk x y = true) :
  Calls Tryz.prog 18 #[.agg #[.int .i64 n, .slice a rs.length c], .agg #[.int .i64 x, .int .i64 y]] w fun e w' => ∃ v, e = .returned v ∧ IsFrac w.heap.size w' v (dsV n rs x y).1 (dsV n rs x y).2 ∧ Below w.heap.size w w' := by
 have B := below3 w (.cells #[.int .i64 n, .slice a rs.length c] 36) (.cells #[.int .i64 x, .int .i64 y] 38) (.cells #[.bool false, .slice none 0 0, .bool false, .slice none 0 0] 32)
 have V1 := ((Box2.new w (lo := w.heap.size) (Nat.le_refl _) (.int .i64 n) (.slice a rs.length c) 36).below (below1 _ (.cells #[.int .i64 x, .int .i64 y] 38))).below (below1 _ (.cells #[.bool false, .slice none 0 0, .bool false, .slice none 0 0] 32))
 have V2 := (Box2.new (w.alloc (.cells #[.int .i64 n, .slice a rs.length c] 36)) (lo := w.heap.size) (by simp) (.int .i64 x) (.int .i64 y) 38).below (below1 _ (.cells #[.bool false, .slice none 0 0, .bool false, .slice none 0 0] 32))
 have V3 := Box4.new ((w.alloc (.cells #[.int .i64 n, .slice a rs.length c] 36)).alloc (.cells #[.int .i64 x, .int .i64 y] 38)) (lo := w.heap.size) (by simp; omega) (.bool false) (.slice none 0 0) (.bool false) (.slice none 0 0) 32
 rw [World.size_alloc] at V2
 rw [World.size_alloc, World.size_alloc] at V3
 have S1 := h.below B
 clear h
 have z3 : (((w.alloc (.cells #[.int .i64 n, .slice a rs.length c] 36)).alloc (.cells #[.int .i64 x, .int .i64 y] 38)).alloc (.cells #[.bool false, .slice none 0 0, .bool false, .slice none 0 0] 32)).heap.size = w.heap.size + 3 := by simp
 obtain ⟨k0, k1, _, _⟩ := id V1
 obtain ⟨k2, k3, _, _⟩ := id V2
 obtain ⟨cx, cy⟩ := ptOk_crd hp
 have HG : Hid (goodB n rs = true) := hg
 obtain ⟨n1, r1⟩ := good_least hg
 have C1 := fun (W : World) (S : SeesS W a c rs) => l5Segs_any n a c rs W S n1 r1
 have ok := okQ_seg hg
 obtain ⟨l0, l1⟩ := segL_bounds hg
 cases hh : hasP n rs (x, y)
 ·have DV : Hid (dsV n rs x y = dsF ((segL n rs).map (fun e => gpZ e (x, y))) ((segL n rs).length - 1)) := dsV_some (by rw [hp, hg, hh]; rfl)
  clear n1 r1
  go_enter Tryz.func18, Tryz.ntmps18
  go_wp2_with fail
  generalize (((w.alloc (.cells #[.int .i64 n, .slice a rs.length c] 36)).alloc (.cells #[.int .i64 x, .int .i64 y] 38)).alloc (.cells #[.bool false, .slice none 0 0, .bool false, .slice none 0 0] 32)) = W0 at *
  refine (l6Has_any n a c rs x y _ S1 HG.out cx cy).mono ?_
  rintro e w1 ⟨rfl, hb⟩
  rw [hh]
  replace V1 := V1.below hb
  replace V2 := V2.below hb
  replace V3 := V3.below hb
  replace S1 := S1.below hb
  have sz1 := hb.size
  replace B := B.trans (hb.mono B.size)
  clear hb k0 k1 k2 k3
  obtain ⟨k0, k1, _, _⟩ := id V1
  go_wp2_with fail
  refine (C1 _ S1).mono ?_
  rintro e w2 ⟨v2, rfl, RQ, hb⟩
  obtain ⟨e1, f1, rfl, f2, m2⟩ := RQ.shape
  have SE := RQ.sees
  replace V2 := V2.below hb
  replace V3 := V3.below hb
  have sz2 := hb.size
  replace B := B.trans (hb.mono B.size)
  clear hb k0 k1 C1 V1 S1 RQ
  generalize segL n rs = es at *
  unfold maxLen at m2
  obtain ⟨b, off, rfl, hc⟩ := SE.cells (by intro e; simp [e] at l0)
  obtain ⟨p1, p2, p3, p4⟩ := hc 0 l0
  simp only [Nat.zero_mul, Nat.add_zero] at p1 p2 p3 p4
  obtain ⟨k2, k3, _, _⟩ := id V2
  obtain ⟨z, HZ⟩ : ∃ z, Hid (gpZ (sgA es 0) (x, y) = z) := ⟨_, rfl⟩
  have HD0 : Hid (dsF (es.map (fun e => gpZ e (x, y))) (1 - 1) = z) := (zN_map (f := fun e => gpZ e (x, y)) l0).trans HZ.out
  have ok0 := okQ_at ok l0
  generalize sgA es 0 = e0 at *
  have hl0 : (0 : Int) < es.length := by omega
  go_wp2_with fail
  go_cut [6] (fun s6 W => ∃ (p : Nat) (a1 : Option Addr) (c1 : Nat) (qs : List Int) (a2 : Option Addr) (c2 : Nat) (ts : List Int), s6 = .pointer (some ⟨p, 0, none⟩) ∧ Box4 w2.heap.size W p (.bool (decide (z.1 < 0))) (.slice a1 qs.length c1) (.bool (decide (z.2 < 0))) (.slice a2 ts.length c2) ∧ FrO w2.heap.size W z a1 c1 qs a2 c2 ts ∧ Hid (some p ≠ rowOf a1 qs ∧ some p ≠ rowOf a2 ts) ∧ Below w2.heap.size w2 W)
  case first =>
   as_aux_lemma =>
    rename_i hcJ hcK
    clear hc SE V2 V3 HD0 DV
    have N : Below w2.heap.size w2 w2.drew := (Below.refl _ _).drew
    refine wp_region_held_drew (S := fun w' => Below w2.heap.size w2 w') (by kernel_rfl) N (fun hHeld => ?_)
    clear hHeld
    generalize w2.drew = ww0 at *
    refine takeA (i := 0) (hy := by intro wq hSw; have y0 := bat hSw p1; have y1 := bat hSw p2; have y2 := bat hSw p3; have y3 := bat hSw p4; have y4 := bat hSw k2; have y5 := bat hSw k3; go_simp <;> with_reducible rfl) (h := ?_)
    refine takeA (i := 1) (h := ?_)
    refine takeA (i := 2) (h := ?_)
    refine takeA (i := 3) (h := ?_)
    refine takeA (i := 4) (hy := by intro wq hSw; have y0 := bat hSw p1; have y1 := bat hSw p2; have y2 := bat hSw p3; have y3 := bat hSw p4; have y4 := bat hSw k2; have y5 := bat hSw k3; go_simp <;> with_reducible rfl) (h := ?_)
    refine takeA (i := 5) (h := ?_)
    refine takeA (i := 6) (h := ?_)
    refine takeA (i := 7) (h := ?_)
    refine takeA (i := 8) (hy := by intro wq hSw; have y0 := bat hSw p1; have y1 := bat hSw p2; have y2 := bat hSw p3; have y3 := bat hSw p4; have y4 := bat hSw k2; have y5 := bat hSw k3; go_simp <;> with_reducible rfl) (h := ?_)
    refine wpAnyH_ready (rs := [9, 10]) (by kernel_rfl) (by simp) (AllReadyH.cons (gtA rfl) (fun K hK => ?_) (AllReadyH.cons (gtA rfl) (fun K hK => ?_) AllReadyH.nil))
    ·skip
     go_simp
     refine (gapOkS (x, y) e0 _ ok0 cx cy).mono ?_
     rintro e ww1 ⟨v, rfl, hI, hb⟩
     obtain ⟨a1, c1, qs, a2, c2, ts, rfl, FO0⟩ := IsFrac.parts (z := z) (by rw [← HZ.out]; exact hI)
     have FO := FO0.base (lo' := w2.heap.size) N.size
     replace N := N.trans (hb.mono N.size)
     clear hb hI FO0
     refine hK.out _ _ N (fun hHeld => ?_)
     clear hK K hHeld
     try simp only [Act.put, pA, pB, pC]
     refine rdA (i := 10) (h := fun K hK => ?_)
     go_simp
     have kP := Box4.new ww1 (lo := w2.heap.size) N.size (.bool false) (.slice none 0 0) (.bool false) (.slice none 0 0) 32
     have hb := below1 ww1 (.cells #[.bool false, .slice none 0 0, .bool false, .slice none 0 0] 32)
     have ne : Hid (some ww1.heap.size ≠ rowOf a1 qs ∧ some ww1.heap.size ≠ rowOf a2 ts) := ⟨row_ne_high FO.o1.toCame (Nat.le_refl _), row_ne_high FO.o2.toCame (Nat.le_refl _)⟩
     replace FO := FO.below hb
     replace N := N.trans (hb.mono N.size)
     refine hK.out _ _ N (fun hHeld => ?_)
     clear hK K hHeld
     try simp only [Act.put, pA, pB, pC]
     clear hb
     generalize ww1.heap.size = p at *
     generalize ww1.alloc (.cells #[.bool false, .slice none 0 0, .bool false, .slice none 0 0] 32) = ww2 at *
     refine rdA (i := 11) (h := fun K hK => ?_)
     obtain ⟨q0, q1, q2, q3, qf, _⟩ := id kP
     go_simp
     replace N := Box4.chain N kP (.bool (decide (z.1 < 0))) (.slice a1 qs.length c1) (.bool (decide (z.2 < 0))) (.slice a2 ts.length c2)
     replace FO := FO.put ne.out (.bool (decide (z.1 < 0))) (.slice a1 qs.length c1) (.bool (decide (z.2 < 0))) (.slice a2 ts.length c2)
     replace kP := kP.put (.bool (decide (z.1 < 0))) (.slice a1 qs.length c1) (.bool (decide (z.2 < 0))) (.slice a2 ts.length c2)
     refine hK.out _ _ N (fun hHeld => ?_)
     clear hK K hHeld
     try simp only [Act.put, pA, pB, pC]
     clear q0 q1 q2 q3 qf
     refine wpAnyH_done (by kernel_rfl) ?_ _
     refine hcK _ _ (Met.intro (hcJ _ _ ?_))
     (repeat apply Exists.intro)
     refine ⟨?rel, rfl⟩
     case rel => exact ⟨p, a1, c1, qs, a2, c2, ts, rfl, kP, FO, ne, N⟩
    ·skip
     go_simp
     have kP := Box4.new ww0 (lo := w2.heap.size) N.size (.bool false) (.slice none 0 0) (.bool false) (.slice none 0 0) 32
     have hb := below1 ww0 (.cells #[.bool false, .slice none 0 0, .bool false, .slice none 0 0] 32)
     replace N := N.trans (hb.mono N.size)
     refine hK.out _ _ N (fun hHeld => ?_)
     clear hK K hHeld
     try simp only [Act.put, pA, pB, pC]
     clear hb
     generalize ww0.heap.size = p at *
     generalize ww0.alloc (.cells #[.bool false, .slice none 0 0, .bool false, .slice none 0 0] 32) = ww1 at *
     refine rdA (i := 9) (h := fun K hK => ?_)
     go_simp
     refine (gapOkS (x, y) e0 _ ok0 cx cy).mono ?_
     rintro e ww2 ⟨v, rfl, hI, hb⟩
     obtain ⟨a1, c1, qs, a2, c2, ts, rfl, FO0⟩ := IsFrac.parts (z := z) (by rw [← HZ.out]; exact hI)
     have ne : Hid (some p ≠ rowOf a1 qs ∧ some p ≠ rowOf a2 ts) := ⟨row_ne_low FO0.o1 kP.lt, row_ne_low FO0.o2 kP.lt⟩
     replace kP := kP.below hb
     have FO := FO0.base (lo' := w2.heap.size) N.size
     replace N := N.trans (hb.mono N.size)
     clear hb hI FO0
     refine hK.out _ _ N (fun hHeld => ?_)
     clear hK K hHeld
     try simp only [Act.put, pA, pB, pC]
     refine rdA (i := 11) (h := fun K hK => ?_)
     obtain ⟨q0, q1, q2, q3, qf, _⟩ := id kP
     go_simp
     replace N := Box4.chain N kP (.bool (decide (z.1 < 0))) (.slice a1 qs.length c1) (.bool (decide (z.2 < 0))) (.slice a2 ts.length c2)
     replace FO := FO.put ne.out (.bool (decide (z.1 < 0))) (.slice a1 qs.length c1) (.bool (decide (z.2 < 0))) (.slice a2 ts.length c2)
     replace kP := kP.put (.bool (decide (z.1 < 0))) (.slice a1 qs.length c1) (.bool (decide (z.2 < 0))) (.slice a2 ts.length c2)
     refine hK.out _ _ N (fun hHeld => ?_)
     clear hK K hHeld
     try simp only [Act.put, pA, pB, pC]
     clear q0 q1 q2 q3 qf
     refine wpAnyH_done (by kernel_rfl) ?_ _
     refine hcK _ _ (Met.intro (hcJ _ _ ?_))
     (repeat apply Exists.intro)
     refine ⟨?rel, rfl⟩
     case rel => exact ⟨p, a1, c1, qs, a2, c2, ts, rfl, kP, FO, ne, N⟩
  rename World => w5
  obtain ⟨p6, a1, c1, qs, a2, c2, ts, rfl, K6, FO, ne6, N5⟩ := hcut
  have hp6 := K6.lo
  clear p1 p2 p3 p4 k2 k3 ok0 HZ
  go_wp2
  go_loopw [7] (fun s wr => ∃ (j : Nat) (a1 : Option Addr) (c1 : Nat) (qs : List Int) (a2 : Option Addr) (c2 : Nat) (ts : List Int) (z : Int × Int), s = .int .i64 j ∧ 1 ≤ j ∧ j ≤ es.length ∧ Hid (dsF (es.map (fun e => gpZ e (x, y))) (j - 1) = z) ∧ Hid (Box4 w2.heap.size wr p6 (.bool (decide (z.1 < 0))) (.slice a1 qs.length c1) (.bool (decide (z.2 < 0))) (.slice a2 ts.length c2)) ∧ Hid (FrO w2.heap.size wr z a1 c1 qs a2 c2 ts) ∧ Hid (some p6 ≠ rowOf a1 qs ∧ some p6 ≠ rowOf a2 ts) ∧ Hid (Below w2.heap.size w2 wr)) (fun s _ => es.length - (intOf s).toNat)
  case atStart => exact ⟨1, a1, c1, qs, a2, c2, ts, z, rfl, Nat.le_refl _, l0, HD0, K6, FO, ne6, N5⟩
  case round =>
   clear K6 FO ne6 N5 HD0
   obtain ⟨j, b1, d1, us, b2, d2, vs, z0, rfl, j1, hj, HD, K6, FB, ne6, BW⟩ := hrel
   rename World => wr
   by_cases hlt : j < es.length
   ·obtain ⟨b', off', eb, hc'⟩ := (SE.below BW.out).cells (by intro e; simp [e] at l0)
    injection eb with eb
    injection eb with eb1 eb2
    subst eb1 eb2
    obtain ⟨p1, p2, p3, p4⟩ := hc' j hlt
    obtain ⟨k2, k3, _, _⟩ := id (V2.below BW.out)
    have bz0 : FrB z0 := by
     obtain ⟨i, hi, e⟩ := dsF_mem (zs := es.map (fun e => gpZ e (x, y))) (j - 1)
     rw [← HD.out, e, zN_map (by omega)]
     exact gpZ_ok (okQ_at ok (by omega)) cx cy
    have ok0 := okQ_at ok hlt
    have bzj : FrB (gpZ (sgA es j) (x, y)) := gpZ_ok ok0 cx cy
    have ez : zN (es.map (fun e => gpZ e (x, y))) j = gpZ (sgA es j) (x, y) := zN_map hlt
    have NX : Hid (dsF (es.map (fun e => gpZ e (x, y))) (j + 1 - 1) = if (gpZ (sgA es j) (x, y)).1 * z0.2 < z0.1 * (gpZ (sgA es j) (x, y)).2 then gpZ (sgA es j) (x, y) else z0) := by
     show _ = _
     rw [show j + 1 - 1 = j by omega, dsF_step (by omega), HD.out, ez]
    obtain ⟨z, HZ⟩ : ∃ z, Hid (gpZ (sgA es j) (x, y) = z) := ⟨_, rfl⟩
    rw [HZ.out] at NX bzj
    clear ez HD hc'
    generalize sgA es j = e0 at *
    go_wp2_with fail
    go_cut [8] (fun s8 W => ∃ (p : Nat) (a1 : Option Addr) (c1 : Nat) (qs : List Int) (a2 : Option Addr) (c2 : Nat) (ts : List Int), s8 = .pointer (some ⟨p, 0, none⟩) ∧ Box4 wr.heap.size W p (.bool (decide (z.1 < 0))) (.slice a1 qs.length c1) (.bool (decide (z.2 < 0))) (.slice a2 ts.length c2) ∧ FrO wr.heap.size W z a1 c1 qs a2 c2 ts ∧ Hid (some p ≠ rowOf a1 qs ∧ some p ≠ rowOf a2 ts) ∧ Below wr.heap.size wr W)
    case first =>
     as_aux_lemma =>
      rename_i hcJ hcK
      clear SE V2 V3 NX DV K6 FB ne6 BW
      have N : Below wr.heap.size wr wr.drew := (Below.refl _ _).drew
      refine wp_region_held_drew (S := fun w' => Below wr.heap.size wr w') (by kernel_rfl) N (fun hHeld => ?_)
      clear hHeld
      generalize wr.drew = ww0 at *
      refine takeA (i := 0) (hy := by intro wq hSw; have y0 := bat hSw p1; have y1 := bat hSw p2; have y2 := bat hSw p3; have y3 := bat hSw p4; have y4 := bat hSw k2; have y5 := bat hSw k3; go_simp <;> with_reducible rfl) (h := ?_)
      refine takeA (i := 1) (h := ?_)
      refine takeA (i := 2) (h := ?_)
      refine takeA (i := 3) (h := ?_)
      refine takeA (i := 4) (h := ?_)
      refine takeA (i := 5) (hy := by intro wq hSw; have y0 := bat hSw p1; have y1 := bat hSw p2; have y2 := bat hSw p3; have y3 := bat hSw p4; have y4 := bat hSw k2; have y5 := bat hSw k3; go_simp <;> with_reducible rfl) (h := ?_)
      refine takeA (i := 6) (h := ?_)
      refine takeA (i := 7) (h := ?_)
      refine takeA (i := 8) (h := ?_)
      refine takeA (i := 9) (h := ?_)
      refine takeA (i := 10) (hy := by intro wq hSw; have y0 := bat hSw p1; have y1 := bat hSw p2; have y2 := bat hSw p3; have y3 := bat hSw p4; have y4 := bat hSw k2; have y5 := bat hSw k3; go_simp <;> with_reducible rfl) (h := ?_)
      refine wpAnyH_ready (rs := [11, 12]) (by kernel_rfl) (by simp) (AllReadyH.cons (gtA rfl) (fun K hK => ?_) (AllReadyH.cons (gtA rfl) (fun K hK => ?_) AllReadyH.nil))
      ·skip
       go_simp
       refine (gapOkS (x, y) e0 _ ok0 cx cy).mono ?_
       rintro e ww1 ⟨v, rfl, hI, hb⟩
       obtain ⟨a1, c1, qs, a2, c2, ts, rfl, FO0⟩ := IsFrac.parts (z := z) (by rw [← HZ.out]; exact hI)
       have FO := FO0.base (lo' := wr.heap.size) N.size
       replace N := N.trans (hb.mono N.size)
       clear hb hI FO0
       refine hK.out _ _ N (fun hHeld => ?_)
       clear hK K hHeld
       try simp only [Act.put, pA, pB, pC]
       refine rdA (i := 12) (h := fun K hK => ?_)
       go_simp
       have kP := Box4.new ww1 (lo := wr.heap.size) N.size (.bool false) (.slice none 0 0) (.bool false) (.slice none 0 0) 32
       have hb := below1 ww1 (.cells #[.bool false, .slice none 0 0, .bool false, .slice none 0 0] 32)
       have ne : Hid (some ww1.heap.size ≠ rowOf a1 qs ∧ some ww1.heap.size ≠ rowOf a2 ts) := ⟨row_ne_high FO.o1.toCame (Nat.le_refl _), row_ne_high FO.o2.toCame (Nat.le_refl _)⟩
       replace FO := FO.below hb
       replace N := N.trans (hb.mono N.size)
       refine hK.out _ _ N (fun hHeld => ?_)
       clear hK K hHeld
       try simp only [Act.put, pA, pB, pC]
       clear hb
       generalize ww1.heap.size = p at *
       generalize ww1.alloc (.cells #[.bool false, .slice none 0 0, .bool false, .slice none 0 0] 32) = ww2 at *
       refine rdA (i := 13) (h := fun K hK => ?_)
       obtain ⟨q0, q1, q2, q3, qf, _⟩ := id kP
       go_simp
       replace N := Box4.chain N kP (.bool (decide (z.1 < 0))) (.slice a1 qs.length c1) (.bool (decide (z.2 < 0))) (.slice a2 ts.length c2)
       replace FO := FO.put ne.out (.bool (decide (z.1 < 0))) (.slice a1 qs.length c1) (.bool (decide (z.2 < 0))) (.slice a2 ts.length c2)
       replace kP := kP.put (.bool (decide (z.1 < 0))) (.slice a1 qs.length c1) (.bool (decide (z.2 < 0))) (.slice a2 ts.length c2)
       refine hK.out _ _ N (fun hHeld => ?_)
       clear hK K hHeld
       try simp only [Act.put, pA, pB, pC]
       clear q0 q1 q2 q3 qf
       refine wpAnyH_done (by kernel_rfl) ?_ _
       refine hcK _ _ (Met.intro (hcJ _ _ ?_))
       (repeat apply Exists.intro)
       refine ⟨?rel, rfl⟩
       case rel => exact ⟨p, a1, c1, qs, a2, c2, ts, rfl, kP, FO, ne, N⟩
      ·skip
       go_simp
       have kP := Box4.new ww0 (lo := wr.heap.size) N.size (.bool false) (.slice none 0 0) (.bool false) (.slice none 0 0) 32
       have hb := below1 ww0 (.cells #[.bool false, .slice none 0 0, .bool false, .slice none 0 0] 32)
       replace N := N.trans (hb.mono N.size)
       refine hK.out _ _ N (fun hHeld => ?_)
       clear hK K hHeld
       try simp only [Act.put, pA, pB, pC]
       clear hb
       generalize ww0.heap.size = p at *
       generalize ww0.alloc (.cells #[.bool false, .slice none 0 0, .bool false, .slice none 0 0] 32) = ww1 at *
       refine rdA (i := 11) (h := fun K hK => ?_)
       go_simp
       refine (gapOkS (x, y) e0 _ ok0 cx cy).mono ?_
       rintro e ww2 ⟨v, rfl, hI, hb⟩
       obtain ⟨a1, c1, qs, a2, c2, ts, rfl, FO0⟩ := IsFrac.parts (z := z) (by rw [← HZ.out]; exact hI)
       have ne : Hid (some p ≠ rowOf a1 qs ∧ some p ≠ rowOf a2 ts) := ⟨row_ne_low FO0.o1 kP.lt, row_ne_low FO0.o2 kP.lt⟩
       replace kP := kP.below hb
       have FO := FO0.base (lo' := wr.heap.size) N.size
       replace N := N.trans (hb.mono N.size)
       clear hb hI FO0
       refine hK.out _ _ N (fun hHeld => ?_)
       clear hK K hHeld
       try simp only [Act.put, pA, pB, pC]
       refine rdA (i := 13) (h := fun K hK => ?_)
       obtain ⟨q0, q1, q2, q3, qf, _⟩ := id kP
       go_simp
       replace N := Box4.chain N kP (.bool (decide (z.1 < 0))) (.slice a1 qs.length c1) (.bool (decide (z.2 < 0))) (.slice a2 ts.length c2)
       replace FO := FO.put ne.out (.bool (decide (z.1 < 0))) (.slice a1 qs.length c1) (.bool (decide (z.2 < 0))) (.slice a2 ts.length c2)
       replace kP := kP.put (.bool (decide (z.1 < 0))) (.slice a1 qs.length c1) (.bool (decide (z.2 < 0))) (.slice a2 ts.length c2)
       refine hK.out _ _ N (fun hHeld => ?_)
       clear hK K hHeld
       try simp only [Act.put, pA, pB, pC]
       clear q0 q1 q2 q3 qf
       refine wpAnyH_done (by kernel_rfl) ?_ _
       refine hcK _ _ (Met.intro (hcJ _ _ ?_))
       (repeat apply Exists.intro)
       refine ⟨?rel, rfl⟩
       case rel => exact ⟨p, a1, c1, qs, a2, c2, ts, rfl, kP, FO, ne, N⟩
    rename World => w8
    obtain ⟨p8, a1, c1, qs, a2, c2, ts, rfl, K8, FO, _, N8⟩ := hcut
    have BX := BW.out.trans (N8.mono BW.out.size)
    have K6' := K6.out.below N8
    have FB' := FB.out.below N8
    have hr8 := BW.out.size
    have hpl := K6.out.lt
    clear p1 p2 p3 p4 k2 k3 ok0 K6 FB BW N8
    obtain ⟨t0, t1, t2, t3, _, _⟩ := id K8
    obtain ⟨m0, m1, m2', m3, _, _⟩ := id K6'
    go_wp2_with fail
    refine (frCmpS FO FB' bzj bz0).mono ?_
    rintro e w9 ⟨rfl, hb⟩
    have BY := BX.trans (hb.mono BX.size)
    have K8' := K8.below hb
    have K6'' := K6'.below hb
    have FB'' := FB'.below hb
    have FO' := FO.below hb
    clear hb t0 t1 t2 t3 m0 m1 m2' m3 K8 K6' FB' FO BX
    by_cases hcl : z.1 * z0.2 < z0.1 * z.2
    ·have sg : cmpZ (z.1 * z0.2) (z0.1 * z.2) < 0 := (cmpZ_lt _ _).2 hcl
     rw [if_pos hcl] at NX
     generalize cmpZ (z.1 * z0.2) (z0.1 * z.2) = cz at *
     have nn : Hid (some p6 ≠ rowOf a1 qs ∧ some p6 ≠ rowOf a2 ts) := ⟨row_ne_low FO'.o1 (by omega), row_ne_low FO'.o2 (by omega)⟩
     obtain ⟨t0, t1, t2, t3, _, _⟩ := id K8'
     obtain ⟨m0, m1, m2', m3, mf, _⟩ := id K6''
     have U6 := K6''.put (.bool (decide (z.1 < 0))) (.slice a1 qs.length c1) (.bool (decide (z.2 < 0))) (.slice a2 ts.length c2)
     have UF := (FO'.base (lo' := w2.heap.size) (by omega)).put nn.out (.bool (decide (z.1 < 0))) (.slice a1 qs.length c1) (.bool (decide (z.2 < 0))) (.slice a2 ts.length c2)
     have UB := Box4.chain BY K6'' (.bool (decide (z.1 < 0))) (.slice a1 qs.length c1) (.bool (decide (z.2 < 0))) (.slice a2 ts.length c2)
     clear K6'' FO' BY FB'' K8' hcl
     go_wp2
     go_roundw
     case rel => exact ⟨j + 1, a1, c1, qs, a2, c2, ts, z, by go_num, by omega, by omega, NX, U6, UF, nn, UB⟩
     case measure => simp [intOf]; omega
    ·have sg : ¬ cmpZ (z.1 * z0.2) (z0.1 * z.2) < 0 := fun q => hcl ((cmpZ_lt _ _).1 q)
     rw [if_neg hcl] at NX
     generalize cmpZ (z.1 * z0.2) (z0.1 * z.2) = cz at *
     clear hcl K8' FO'
     go_wp2
     go_roundw
     case rel => exact ⟨j + 1, b1, d1, us, b2, d2, vs, z0, by go_num, by omega, by omega, NX, K6'', FB'', ne6, BY⟩
     case measure => simp [intOf]; omega
   ·obtain rfl : j = es.length := by omega
    have DZ : Hid (dsV n rs x y = z0) := DV.out.trans HD.out
    have V5 := V3.below BW.out
    have B' := B.trans (BW.out.mono B.size)
    obtain ⟨m0, m1, m2', m3, _, _⟩ := id K6.out
    obtain ⟨t0, t1, t2, t3, tf, _⟩ := id V5
    have FO := FB.out
    clear DV B
    have DV := DZ
    have B := B'
    clear K6 FB BW
    have U4 := V5.put (.bool (decide (z0.1 < 0))) (.slice b1 us.length d1) (.bool (decide (z0.2 < 0))) (.slice b2 vs.length d2)
    have UI := (FO.is.base_le (base' := w.heap.size + 3) (by omega)).put4 (p := w.heap.size + 1 + 1) (by omega) (.bool (decide (z0.1 < 0))) (.slice b1 us.length d1) (.bool (decide (z0.2 < 0))) (.slice b2 vs.length d2)
    have UB := (((B.setCell (p := ⟨w.heap.size + 1 + 1, 0, none⟩) (by show _ ≤ _ + 1 + 1; omega) (.bool (decide (z0.1 < 0)))).setCell (p := ⟨w.heap.size + 1 + 1, 1, none⟩) (by show _ ≤ _ + 1 + 1; omega) (.slice b1 us.length d1)).setCell (p := ⟨w.heap.size + 1 + 1, 2, none⟩) (by show _ ≤ _ + 1 + 1; omega) (.bool (decide (z0.2 < 0)))).setCell (p := ⟨w.heap.size + 1 + 1, 3, none⟩) (by show _ ≤ _ + 1 + 1; omega) (.slice b2 vs.length d2)
    have n0 := U4.c0
    have n1 := U4.c1
    have n2 := U4.c2
    have n3 := U4.c3
    have OUT : Hid _ := UI.base_le (base' := w.heap.size) (by omega)
    clear U4 UI V5 FO
    go_wp2
    exact bodyPost_ret (v := .agg #[.bool (decide (z0.1 < 0)), .slice b1 us.length d1, .bool (decide (z0.2 < 0)), .slice b2 vs.length d2]) (by simp [results, Tryz.results18, go_sem, n0, n1, n2, n3]) rfl ⟨_, rfl, by rw [DV.out]; exact OUT.out, UB⟩
 ·have DV : Hid (dsV n rs x y = (0, 1)) := dsV_none (by rw [hp, hg, hh]; rfl)
  obtain ⟨z, hz⟩ : ∃ z : Int × Int, Hid ((0, 1) = z) := ⟨_, rfl⟩
  have DZ : Hid (dsV n rs x y = z) := DV.out.trans hz.out
  clear DV
  have DV := DZ
  clear n1 r1 C1 l0 l1 ok
  go_enter Tryz.func18, Tryz.ntmps18
  go_wp2_with fail
  generalize (((w.alloc (.cells #[.int .i64 n, .slice a rs.length c] 36)).alloc (.cells #[.int .i64 x, .int .i64 y] 38)).alloc (.cells #[.bool false, .slice none 0 0, .bool false, .slice none 0 0] 32)) = W0 at *
  refine (l6Has_any n a c rs x y _ S1 HG.out cx cy).mono ?_
  rintro e w1 ⟨rfl, hb⟩
  rw [hh]
  replace V3 := V3.below hb
  have sz1 := hb.size
  replace B := B.trans (hb.mono B.size)
  clear hb k0 k1 k2 k3 V1 V2 S1
  go_wp2_with fail
  refine (whole_at z hz.out _).mono ?_
  rintro e w5 ⟨v, rfl, hI, hb⟩
  obtain ⟨a1, c1, qs, a2, c2, ts, rfl, FO⟩ := IsFrac.parts hI
  clear hI
  have V5 := V3.below hb
  replace B := B.trans (hb.mono B.size)
  obtain ⟨m0, m1, m2, m3, mf, _⟩ := id V5
  clear hb V3
  have U4 := V5.put (.bool (decide (z.1 < 0))) (.slice a1 qs.length c1) (.bool (decide (z.2 < 0))) (.slice a2 ts.length c2)
  have UI := (FO.is.base_le (base' := w.heap.size + 3) (by omega)).put4 (p := w.heap.size + 1 + 1) (by omega) (.bool (decide (z.1 < 0))) (.slice a1 qs.length c1) (.bool (decide (z.2 < 0))) (.slice a2 ts.length c2)
  have UB := (((B.setCell (p := ⟨w.heap.size + 1 + 1, 0, none⟩) (by show _ ≤ _ + 1 + 1; omega) (.bool (decide (z.1 < 0)))).setCell (p := ⟨w.heap.size + 1 + 1, 1, none⟩) (by show _ ≤ _ + 1 + 1; omega) (.slice a1 qs.length c1)).setCell (p := ⟨w.heap.size + 1 + 1, 2, none⟩) (by show _ ≤ _ + 1 + 1; omega) (.bool (decide (z.2 < 0)))).setCell (p := ⟨w.heap.size + 1 + 1, 3, none⟩) (by show _ ≤ _ + 1 + 1; omega) (.slice a2 ts.length c2)
  have n0 := U4.c0
  have n1 := U4.c1
  have n2 := U4.c2
  have n3 := U4.c3
  have OUT : Hid _ := UI.base_le (base' := w.heap.size) (by omega)
  clear U4 UI V5 FO
  go_wp2
  exact bodyPost_ret (v := .agg #[.bool (decide (z.1 < 0)), .slice a1 qs.length c1, .bool (decide (z.2 < 0)), .slice a2 ts.length c2]) (by simp [results, Tryz.results18, go_sem, n0, n1, n2, n3]) rfl ⟨_, rfl, by rw [DV.out]; exact OUT.out, UB⟩

set_option maxRecDepth 20000 in
set_option maxHeartbeats 4000000 in
theorem specDist (n : Int) (a : Option Addr) (c : Nat) (rs : List (List (Int × Int))) (x y : Int) (w : World) (h : SeesS w a c rs) :
  Calls Tryz.prog 5 #[.agg #[.int .i64 n, .slice a rs.length c], .agg #[.int .i64 x, .int .i64 y]] w fun e w' => ∃ v, e = .returned v ∧ IsFrac w.heap.size w' v (dsV n rs x y).1 (dsV n rs x y).2 ∧ Below w.heap.size w w' := by
 have B := below3 w (.cells #[.int .i64 n, .slice a rs.length c] 36) (.cells #[.int .i64 x, .int .i64 y] 38) (.cells #[.bool false, .slice none 0 0, .bool false, .slice none 0 0] 32)
 have V1 := ((Box2.new w (lo := w.heap.size) (Nat.le_refl _) (.int .i64 n) (.slice a rs.length c) 36).below (below1 _ (.cells #[.int .i64 x, .int .i64 y] 38))).below (below1 _ (.cells #[.bool false, .slice none 0 0, .bool false, .slice none 0 0] 32))
 have V2 := (Box2.new (w.alloc (.cells #[.int .i64 n, .slice a rs.length c] 36)) (lo := w.heap.size) (by simp) (.int .i64 x) (.int .i64 y) 38).below (below1 _ (.cells #[.bool false, .slice none 0 0, .bool false, .slice none 0 0] 32))
 have V3 := Box4.new ((w.alloc (.cells #[.int .i64 n, .slice a rs.length c] 36)).alloc (.cells #[.int .i64 x, .int .i64 y] 38)) (lo := w.heap.size) (by simp; omega) (.bool false) (.slice none 0 0) (.bool false) (.slice none 0 0) 32
 rw [World.size_alloc] at V2
 rw [World.size_alloc, World.size_alloc] at V3
 have S1 := h.below B
 clear h
 have z3 : (((w.alloc (.cells #[.int .i64 n, .slice a rs.length c] 36)).alloc (.cells #[.int .i64 x, .int .i64 y] 38)).alloc (.cells #[.bool false, .slice none 0 0, .bool false, .slice none 0 0] 32)).heap.size = w.heap.size + 3 := by simp
 obtain ⟨k0, k1, _, _⟩ := id V1
 obtain ⟨k2, k3, _, _⟩ := id V2
 cases hg : goodB n rs
 ·have DV : Hid (dsV n rs x y = (0, 1)) := dsV_none (by rw [hg]; simp)
  obtain ⟨z, hz⟩ : ∃ z : Int × Int, Hid ((0, 1) = z) := ⟨_, rfl⟩
  have DZ : Hid (dsV n rs x y = z) := DV.out.trans hz.out
  clear DV
  have DV := DZ
  go_enter Tryz.func5, Tryz.ntmps5
  go_wp2_with fail
  generalize (((w.alloc (.cells #[.int .i64 n, .slice a rs.length c] 36)).alloc (.cells #[.int .i64 x, .int .i64 y] 38)).alloc (.cells #[.bool false, .slice none 0 0, .bool false, .slice none 0 0] 32)) = W0 at *
  refine (l5Good_any n a c rs _ S1).mono ?_
  rintro e w1 ⟨rfl, hb⟩
  rw [hg]
  replace V3 := V3.below hb
  have sz1 := hb.size
  replace B := B.trans (hb.mono B.size)
  clear hb k0 k1 k2 k3 V1 V2 S1
  go_wp2_with fail
  refine (whole_at z hz.out _).mono ?_
  rintro e w5 ⟨v, rfl, hI, hb⟩
  obtain ⟨a1, c1, qs, a2, c2, ts, rfl, FO⟩ := IsFrac.parts hI
  clear hI
  have V5 := V3.below hb
  replace B := B.trans (hb.mono B.size)
  obtain ⟨m0, m1, m2, m3, mf, _⟩ := id V5
  clear hb V3
  have U4 := V5.put (.bool (decide (z.1 < 0))) (.slice a1 qs.length c1) (.bool (decide (z.2 < 0))) (.slice a2 ts.length c2)
  have UI := (FO.is.base_le (base' := w.heap.size + 3) (by omega)).put4 (p := w.heap.size + 1 + 1) (by omega) (.bool (decide (z.1 < 0))) (.slice a1 qs.length c1) (.bool (decide (z.2 < 0))) (.slice a2 ts.length c2)
  have UB := (((B.setCell (p := ⟨w.heap.size + 1 + 1, 0, none⟩) (by show _ ≤ _ + 1 + 1; omega) (.bool (decide (z.1 < 0)))).setCell (p := ⟨w.heap.size + 1 + 1, 1, none⟩) (by show _ ≤ _ + 1 + 1; omega) (.slice a1 qs.length c1)).setCell (p := ⟨w.heap.size + 1 + 1, 2, none⟩) (by show _ ≤ _ + 1 + 1; omega) (.bool (decide (z.2 < 0)))).setCell (p := ⟨w.heap.size + 1 + 1, 3, none⟩) (by show _ ≤ _ + 1 + 1; omega) (.slice a2 ts.length c2)
  have n0 := U4.c0
  have n1 := U4.c1
  have n2 := U4.c2
  have n3 := U4.c3
  have OUT : Hid _ := UI.base_le (base' := w.heap.size) (by omega)
  clear U4 UI V5 FO
  go_wp2
  exact bodyPost_ret (v := .agg #[.bool (decide (z.1 < 0)), .slice a1 qs.length c1, .bool (decide (z.2 < 0)), .slice a2 ts.length c2]) (by simp [results, Tryz.results5, go_sem, n0, n1, n2, n3]) rfl ⟨_, rfl, by rw [DV.out]; exact OUT.out, UB⟩
 ·cases hp : ptOk x y
  ·have DV : Hid (dsV n rs x y = (0, 1)) := dsV_none (by rw [hp]; rfl)
   obtain ⟨z, hz⟩ : ∃ z : Int × Int, Hid ((0, 1) = z) := ⟨_, rfl⟩
   have DZ : Hid (dsV n rs x y = z) := DV.out.trans hz.out
   clear DV
   have DV := DZ
   go_enter Tryz.func5, Tryz.ntmps5
   go_wp2_with fail
   generalize (((w.alloc (.cells #[.int .i64 n, .slice a rs.length c] 36)).alloc (.cells #[.int .i64 x, .int .i64 y] 38)).alloc (.cells #[.bool false, .slice none 0 0, .bool false, .slice none 0 0] 32)) = W0 at *
   refine (l5Good_any n a c rs _ S1).mono ?_
   rintro e w1 ⟨rfl, hb⟩
   rw [hg]
   replace V1 := V1.below hb
   replace V2 := V2.below hb
   replace V3 := V3.below hb
   replace S1 := S1.below hb
   have sz0 := hb.size
   replace B := B.trans (hb.mono B.size)
   clear hb k0 k1 k2 k3
   obtain ⟨k2, k3, _, _⟩ := id V2
   obtain ⟨k0, k1, _, _⟩ := id V1
   go_wp2_with fail
   refine (specPtOk x y _).mono ?_
   rintro e w2 ⟨rfl, hb⟩
   rw [hp]
   replace V3 := V3.below hb
   have sz1 := hb.size
   replace B := B.trans (hb.mono B.size)
   clear hb k0 k1 k2 k3 V1 V2 S1
   go_wp2_with fail
   refine (whole_at z hz.out _).mono ?_
   rintro e w5 ⟨v, rfl, hI, hb⟩
   obtain ⟨a1, c1, qs, a2, c2, ts, rfl, FO⟩ := IsFrac.parts hI
   clear hI
   have V5 := V3.below hb
   replace B := B.trans (hb.mono B.size)
   obtain ⟨m0, m1, m2, m3, mf, _⟩ := id V5
   clear hb V3
   have U4 := V5.put (.bool (decide (z.1 < 0))) (.slice a1 qs.length c1) (.bool (decide (z.2 < 0))) (.slice a2 ts.length c2)
   have UI := (FO.is.base_le (base' := w.heap.size + 3) (by omega)).put4 (p := w.heap.size + 1 + 1) (by omega) (.bool (decide (z.1 < 0))) (.slice a1 qs.length c1) (.bool (decide (z.2 < 0))) (.slice a2 ts.length c2)
   have UB := (((B.setCell (p := ⟨w.heap.size + 1 + 1, 0, none⟩) (by show _ ≤ _ + 1 + 1; omega) (.bool (decide (z.1 < 0)))).setCell (p := ⟨w.heap.size + 1 + 1, 1, none⟩) (by show _ ≤ _ + 1 + 1; omega) (.slice a1 qs.length c1)).setCell (p := ⟨w.heap.size + 1 + 1, 2, none⟩) (by show _ ≤ _ + 1 + 1; omega) (.bool (decide (z.2 < 0)))).setCell (p := ⟨w.heap.size + 1 + 1, 3, none⟩) (by show _ ≤ _ + 1 + 1; omega) (.slice a2 ts.length c2)
   have n0 := U4.c0
   have n1 := U4.c1
   have n2 := U4.c2
   have n3 := U4.c3
   have OUT : Hid _ := UI.base_le (base' := w.heap.size) (by omega)
   clear U4 UI V5 FO
   go_wp2
   exact bodyPost_ret (v := .agg #[.bool (decide (z.1 < 0)), .slice a1 qs.length c1, .bool (decide (z.2 < 0)), .slice a2 ts.length c2]) (by simp [results, Tryz.results5, go_sem, n0, n1, n2, n3]) rfl ⟨_, rfl, by rw [DV.out]; exact OUT.out, UB⟩
  ·obtain ⟨z, DV⟩ : ∃ z : Int × Int, Hid (dsV n rs x y = z) := ⟨_, rfl⟩
   go_enter Tryz.func5, Tryz.ntmps5
   go_wp2_with fail
   generalize (((w.alloc (.cells #[.int .i64 n, .slice a rs.length c] 36)).alloc (.cells #[.int .i64 x, .int .i64 y] 38)).alloc (.cells #[.bool false, .slice none 0 0, .bool false, .slice none 0 0] 32)) = W0 at *
   refine (l5Good_any n a c rs _ S1).mono ?_
   rintro e w1 ⟨rfl, hb⟩
   rw [hg]
   replace V1 := V1.below hb
   replace V2 := V2.below hb
   replace V3 := V3.below hb
   replace S1 := S1.below hb
   have sz0 := hb.size
   replace B := B.trans (hb.mono B.size)
   clear hb k0 k1 k2 k3
   obtain ⟨k2, k3, _, _⟩ := id V2
   obtain ⟨k0, k1, _, _⟩ := id V1
   go_wp2_with fail
   refine (specPtOk x y _).mono ?_
   rintro e w2 ⟨rfl, hb⟩
   rw [hp]
   replace V1 := V1.below hb
   replace V2 := V2.below hb
   replace V3 := V3.below hb
   replace S1 := S1.below hb
   have sz1 := hb.size
   replace B := B.trans (hb.mono B.size)
   clear hb k0 k1 k2 k3
   obtain ⟨k0, k1, _, _⟩ := id V1
   obtain ⟨k2, k3, _, _⟩ := id V2
   go_wp2_with fail
   refine (l6Dist_any n a c rs x y _ S1 hg hp).mono ?_
   rintro e w5 ⟨v, rfl, hI, hb⟩
   rw [DV.out] at hI
   obtain ⟨a1, c1, qs, a2, c2, ts, rfl, FO⟩ := IsFrac.parts hI
   clear hI
   have V5 := V3.below hb
   replace B := B.trans (hb.mono B.size)
   obtain ⟨m0, m1, m2, m3, mf, _⟩ := id V5
   clear hb V3 k0 k1 k2 k3 V1 V2 S1
   have U4 := V5.put (.bool (decide (z.1 < 0))) (.slice a1 qs.length c1) (.bool (decide (z.2 < 0))) (.slice a2 ts.length c2)
   have UI := (FO.is.base_le (base' := w.heap.size + 3) (by omega)).put4 (p := w.heap.size + 1 + 1) (by omega) (.bool (decide (z.1 < 0))) (.slice a1 qs.length c1) (.bool (decide (z.2 < 0))) (.slice a2 ts.length c2)
   have UB := (((B.setCell (p := ⟨w.heap.size + 1 + 1, 0, none⟩) (by show _ ≤ _ + 1 + 1; omega) (.bool (decide (z.1 < 0)))).setCell (p := ⟨w.heap.size + 1 + 1, 1, none⟩) (by show _ ≤ _ + 1 + 1; omega) (.slice a1 qs.length c1)).setCell (p := ⟨w.heap.size + 1 + 1, 2, none⟩) (by show _ ≤ _ + 1 + 1; omega) (.bool (decide (z.2 < 0)))).setCell (p := ⟨w.heap.size + 1 + 1, 3, none⟩) (by show _ ≤ _ + 1 + 1; omega) (.slice a2 ts.length c2)
   have n0 := U4.c0
   have n1 := U4.c1
   have n2 := U4.c2
   have n3 := U4.c3
   have OUT : Hid _ := UI.base_le (base' := w.heap.size) (by omega)
   clear U4 UI V5 FO
   go_wp2
   exact bodyPost_ret (v := .agg #[.bool (decide (z.1 < 0)), .slice a1 qs.length c1, .bool (decide (z.2 < 0)), .slice a2 ts.length c2]) (by simp [results, Tryz.results5, go_sem, n0, n1, n2, n3]) rfl ⟨_, rfl, by rw [DV.out]; exact OUT.out, UB⟩
end Go.Proofs.YtnjbedhealpgcaaGreat
