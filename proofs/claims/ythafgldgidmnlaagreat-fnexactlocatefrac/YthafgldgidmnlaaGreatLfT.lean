/- Where a place of two fractions lies by an area, of the specification: l6InFrac. -/
import Derived.Test.YthafgldgidmnlaaGreatLfS
namespace Go.Proofs.YthafgldgidmnlaaGreat
open Go.RowKit

theorem onE_sd (D E : Int) (ps : List (Int × Int)) (X Y : Int) (j : Nat) : onE (sdR D E ps) X Y j = onB ((ptA ps j).1 * D) ((ptA ps j).2 * E) ((ptA ps (nx ps.length j)).1 * D) ((ptA ps (nx ps.length j)).2 * E) X Y := by
 unfold onE
 rw [sdR_len, sdR_at, sdR_at]
 rfl
theorem hsE_sd (D E : Int) (ps : List (Int × Int)) (X Y : Int) (j : Nat) : hsE (sdR D E ps) X Y j = hitS ((ptA ps j).1 * D) ((ptA ps j).2 * E) ((ptA ps (nx ps.length j)).1 * D) ((ptA ps (nx ps.length j)).2 * E) X Y := by
 unfold hsE
 rw [sdR_len, sdR_at, sdR_at]
 rfl
theorem onB_sg {x y u v D E X Y sd s1 s2 s3 s4 : Int} (h : sgn1 (ar (x * D) (y * E) (u * D) (v * E) X Y) = sd) (h1 : sgn1 (x * D - X * 1) = s1) (h2 : sgn1 (u * D - X * 1) = s2) (h3 : sgn1 (y * E - Y * 1) = s3) (h4 : sgn1 (v * E - Y * 1) = s4) : onB (x * D) (y * E) (u * D) (v * E) X Y = (decide (sd = 0) && (decide (s1 * s2 ≤ 0) && decide (s3 * s4 ≤ 0))) := by
 subst h h1 h2 h3 h4
 rw [Bool.eq_iff_iff]
 unfold onB
 simp only [Bool.and_eq_true, decide_eq_true_eq, sgn1_zero_iff, sgn1_mul_le, btw_mul, Int.mul_one]
theorem hitS_sg {x y u v D E X Y sd s3 s4 : Int} (k : 0 < E) (h : sgn1 (ar (x * D) (y * E) (u * D) (v * E) X Y) = sd) (h3 : sgn1 (y * E - Y * 1) = s3) (h4 : sgn1 (v * E - Y * 1) = s4) : hitS (x * D) (y * E) (u * D) (v * E) X Y = ((decide (0 < s3) != decide (0 < s4)) && ((decide (y < v) && decide (0 < sd)) || (decide (v < y) && decide (sd < 0)))) := by
 subst h h3 h4
 unfold hitS
 have e3 : (0 < sgn1 (y * E - Y * 1)) ↔ Y < y * E := (sgn1_pos_iff _).trans (by omega)
 have e4 : (0 < sgn1 (v * E - Y * 1)) ↔ Y < v * E := (sgn1_pos_iff _).trans (by omega)
 simp only [lt_sd k, sgn1_pos_iff (ar (x * D) (y * E) (u * D) (v * E) X Y), sgn1_neg_iff (ar (x * D) (y * E) (u * D) (v * E) X Y), e3, e4]

set_option maxRecDepth 20000 in
set_option maxHeartbeats 8000000 in
theorem l6InFrac_any (a0 : Option Addr) (c0 : Nat) (ps : List (Int × Int)) {X D Y E : Int} {g h g' h' : Bool} {a b a' b' : Option Addr} {c d c' d' : Nat} {ns ds ms es : List Int} (w : World) (h0 : SeesP w a0 c0 ps) (ok : okL ps = true) (Q : PlS w a c ns b d ds a' c' ms b' d' es) (T : PlT X D Y E g ns h ds g' ms h' es) :
  Calls Tryz.prog 30 #[.slice a0 ps.length c0, (.agg #[.bool g, .slice a ns.length c, .bool h, .slice b ds.length d]), (.agg #[.bool g', .slice a' ms.length c', .bool h', .slice b' es.length d'])] w fun e w' => e = .returned (.int .i64 (inV (sdR D E ps) X Y)) ∧ Below w.heap.size w w' := by
 have hm := h0.max
 have hf := h0.fits
 unfold maxLen at hm
 have B0 := below2 w (.cells #[.bool g, .slice a ns.length c, .bool h, .slice b ds.length d] 39) (.cells #[.bool g', .slice a' ms.length c', .bool h', .slice b' es.length d'] 39)
 have VX := (Box4.new w (lo := 0) (Nat.zero_le _) (.bool g) (.slice a ns.length c) (.bool h) (.slice b ds.length d) 39).below (below1 _ (.cells #[.bool g', .slice a' ms.length c', .bool h', .slice b' es.length d'] 39))
 have VY := Box4.new (w.alloc (.cells #[.bool g, .slice a ns.length c, .bool h, .slice b ds.length d] 39)) (lo := 0) (Nat.zero_le _) (.bool g') (.slice a' ms.length c') (.bool h') (.slice b' es.length d') 39
 rw [World.size_alloc] at VY
 replace Q := Q.below B0
 replace h0 := h0.below B0
 have HT : Hid (PlT X D Y E g ns h ds g' ms h' es) := T
 obtain ⟨os, LO⟩ := Lm.ex 1
 have HO : Hid (Lm os 1 ∧ os.length ≤ 24) := ⟨LO, Nat.le_trans (LO.two (by decide) (by decide)) (by decide)⟩
 clear T LO
 go_enter Tryz.func30, Tryz.ntmps30
 go_wp2
 generalize (w.alloc (.cells #[.bool g, .slice a ns.length c, .bool h, .slice b ds.length d] 39)).alloc (.cells #[.bool g', .slice a' ms.length c', .bool h', .slice b' es.length d'] 39) = W at *
 go_loopw [7, 8, 9, 10, 11, 12, 13, 14, 15] (fun s7 s8 _ _ _ _ _ _ _ wr => ∃ j : Nat, j ≤ ps.length ∧ s8 = .int .i64 j ∧ s7 = .bool (par (hsE (sdR D E ps) X Y) j) ∧ Hid (onR (sdR D E ps) X Y j = false) ∧ Below W.heap.size W wr) (fun _ s8 _ _ _ _ _ _ _ _ => ps.length - (intOf s8).toNat)
 case atStart => exact ⟨0, Nat.zero_le _, rfl, rfl, rfl, Below.refl _ _⟩
 case round =>
  obtain ⟨j, hj, rfl, rfl, T, B⟩ := hrel
  rename World => wr
  by_cases hlt : j < ps.length
  ·obtain ⟨a1, a2⟩ := okL_at ok hlt
   obtain ⟨a3, a4⟩ := okL_at ok (nx_lt hlt)
   obtain ⟨od, Hod⟩ : ∃ b, Hid (par (hsE (sdR D E ps) X Y) j = b) := ⟨_, rfl⟩
   rw [Hod.out]
   go_wp2_with fail
   refine (l5Edge_any a0 c0 ps j _ (h0.below B) hlt).mono ?_
   rintro e w1 ⟨rfl, hb⟩
   replace B := B.trans (hb.mono B.size)
   clear hb
   have E1 : Hid (onE (sdR D E ps) X Y j = onB ((ptA ps j).1 * D) ((ptA ps j).2 * E) ((ptA ps (nx ps.length j)).1 * D) ((ptA ps (nx ps.length j)).2 * E) X Y) := onE_sd D E ps X Y j
   have E2 : Hid (hsE (sdR D E ps) X Y j = hitS ((ptA ps j).1 * D) ((ptA ps j).2 * E) ((ptA ps (nx ps.length j)).1 * D) ((ptA ps (nx ps.length j)).2 * E) X Y) := hsE_sd D E ps X Y j
   generalize (ptA ps j).1 = x at *
   generalize (ptA ps j).2 = y at *
   generalize (ptA ps (nx ps.length j)).1 = u at *
   generalize (ptA ps (nx ps.length j)).2 = v at *
   have V1 := (Box2.new w1 (lo := 0) (Nat.zero_le _) (.int .i64 x) (.int .i64 y) 84).below (below1 _ (.cells #[.int .i64 u, .int .i64 v] 84))
   have V2 := Box2.new (w1.alloc (.cells #[.int .i64 x, .int .i64 y] 84)) (lo := 0) (Nat.zero_le _) (.int .i64 u) (.int .i64 v) 84
   rw [World.size_alloc] at V2
   have bn := below2 w1 (.cells #[.int .i64 x, .int .i64 y] 84) (.cells #[.int .i64 u, .int .i64 v] 84)
   replace B := B.trans (bn.mono B.size)
   clear bn
   obtain ⟨g0, g1, _, _⟩ := id V1
   obtain ⟨g2, g3, _, _⟩ := id V2
   obtain ⟨f0, f1, f2, f3, _, _⟩ := VX.below B
   obtain ⟨f4, f5, f6, f7, _, _⟩ := VY.below B
   go_wp2_with fail
   clear g0 g1 g2 g3 f0 f1 f2 f3 f4 f5 f6 f7
   generalize (w1.alloc (.cells #[.int .i64 x, .int .i64 y] 84)).alloc (.cells #[.int .i64 u, .int .i64 v] 84) = W1 at *
   generalize w1.heap.size = q1 at *
   refine (l6Side_any x y u v _ (Q.below B) HT.out a1 a2 a3 a4).mono ?_
   rintro e w2 ⟨rfl, hb⟩
   replace V1 := V1.below hb
   replace V2 := V2.below hb
   replace B := B.trans (hb.mono B.size)
   clear hb
   obtain ⟨sd, HS⟩ : ∃ z, Hid (sgn1 (ar (x * D) (y * E) (u * D) (v * E) X Y) = z) := ⟨_, rfl⟩
   rw [HS.out]
   obtain ⟨s1, H1⟩ : ∃ z, Hid (sgn1 (x * D - X * 1) = z) := ⟨_, rfl⟩
   obtain ⟨s2, H2⟩ : ∃ z, Hid (sgn1 (u * D - X * 1) = z) := ⟨_, rfl⟩
   obtain ⟨s3, H3⟩ : ∃ z, Hid (sgn1 (y * E - Y * 1) = z) := ⟨_, rfl⟩
   obtain ⟨s4, H4⟩ : ∃ z, Hid (sgn1 (v * E - Y * 1) = z) := ⟨_, rfl⟩
   obtain ⟨us_x, LM_x⟩ := Lm.ex x
   obtain ⟨gf_x, GF_x⟩ : ∃ g, Hid (decide (x < 0) = g) := ⟨_, rfl⟩
   have HM_x : Hid (Lm us_x x ∧ us_x.length ≤ 24 ∧ -9223372036854775808 ≤ x ∧ x ≤ 9223372036854775807) := ⟨LM_x, Nat.le_trans (LM_x.two (crd_lo a1) (crd_hi a1)) (by decide), crd_lo a1, crd_hi a1⟩
   clear LM_x
   obtain ⟨us_u, LM_u⟩ := Lm.ex u
   obtain ⟨gf_u, GF_u⟩ : ∃ g, Hid (decide (u < 0) = g) := ⟨_, rfl⟩
   have HM_u : Hid (Lm us_u u ∧ us_u.length ≤ 24 ∧ -9223372036854775808 ≤ u ∧ u ≤ 9223372036854775807) := ⟨LM_u, Nat.le_trans (LM_u.two (crd_lo a3) (crd_hi a3)) (by decide), crd_lo a3, crd_hi a3⟩
   clear LM_u
   obtain ⟨us_y, LM_y⟩ := Lm.ex y
   obtain ⟨gf_y, GF_y⟩ : ∃ g, Hid (decide (y < 0) = g) := ⟨_, rfl⟩
   have HM_y : Hid (Lm us_y y ∧ us_y.length ≤ 24 ∧ -9223372036854775808 ≤ y ∧ y ≤ 9223372036854775807) := ⟨LM_y, Nat.le_trans (LM_y.two (crd_lo a2) (crd_hi a2)) (by decide), crd_lo a2, crd_hi a2⟩
   clear LM_y
   obtain ⟨us_v, LM_v⟩ := Lm.ex v
   obtain ⟨gf_v, GF_v⟩ : ∃ g, Hid (decide (v < 0) = g) := ⟨_, rfl⟩
   have HM_v : Hid (Lm us_v v ∧ us_v.length ≤ 24 ∧ -9223372036854775808 ≤ v ∧ v ≤ 9223372036854775807) := ⟨LM_v, Nat.le_trans (LM_v.two (crd_lo a4) (crd_hi a4)) (by decide), crd_lo a4, crd_hi a4⟩
   clear LM_v
   go_upto_region 7 with fail
   have N : Below w2.heap.size w2 w2.drew := (Below.refl _ _).drew
   refine wp_region_held_drew (S := fun w' => Below w2.heap.size w2 w') (by kernel_rfl) N (fun hHeld => ?_)
   clear hHeld
   generalize w2.drew = wa0 at *
   refine takeA (i := 0) (h := ?_)
   refine takeA (i := 1) (hy := by intro wq hSw; have y0 := bat hSw V1.c0; have y1 := bat hSw V1.c1; have y2 := bat hSw V2.c0; have y3 := bat hSw V2.c1; have z0 := bat hSw (bat B VX.c0); have z1 := bat hSw (bat B VX.c1); have z2 := bat hSw (bat B VX.c2); have z3 := bat hSw (bat B VX.c3); go_simp <;> with_reducible rfl) (h := ?_)
   refine takeA (i := 3) (hy := by intro wq hSw; have y0 := bat hSw V1.c0; have y1 := bat hSw V1.c1; have y2 := bat hSw V2.c0; have y3 := bat hSw V2.c1; have z0 := bat hSw (bat B VX.c0); have z1 := bat hSw (bat B VX.c1); have z2 := bat hSw (bat B VX.c2); have z3 := bat hSw (bat B VX.c3); go_simp <;> with_reducible rfl) (h := ?_)
   refine rdA (i := 2) (h := fun K hK => ?_)
   go_simp
   refine (wholeS x _ HM_x.out.2.2.1 HM_x.out.2.2.2 HM_x.out.1 GF_x.out HO.out.1).mono ?_
   rintro e wa1 ⟨a5, c5, b5, d5, rfl, S1, S2, hb⟩
   replace N := N.trans (hb.mono N.size)
   clear hb
   refine hK.out _ _ N (fun hHeld => ?_)
   clear hK K hHeld
   try simp only [Act.put, pA, pB, pC]
   refine rdA (i := 4) (h := fun K hK => ?_)
   go_simp
   refine (fcmpS a5 b5 a b c5 d5 c d _ S1 S2 (Q.s1.below (B.trans (N.mono B.size))) (Q.s2.below (B.trans (N.mono B.size))) HM_x.out.1 GF_x.out HO.out.1 (h := false) rfl HT.out.L1 HT.out.G1 HT.out.L2 HT.out.G2 HM_x.out.2.1 HO.out.2 HT.out.l1 HT.out.l2 (by decide) HT.out.p2).mono ?_
   rintro e wa2 ⟨rfl, hb⟩
   replace N := N.trans (hb.mono N.size)
   rw [H1.out]
   clear hb S1 S2
   refine hK.out _ _ N (fun hHeld => ?_)
   clear hK K hHeld
   try simp only [Act.put, pA, pB, pC]
   refine takeA (i := 5) (h := ?_)
   refine wpAnyH_done (by kernel_rfl) ?_ _
   replace V1 := V1.below N
   replace V2 := V2.below N
   replace B := B.trans (N.mono B.size)
   clear N
   go_upto_region 8 with fail
   have N : Below wa2.heap.size wa2 wa2.drew := (Below.refl _ _).drew
   refine wp_region_held_drew (S := fun w' => Below wa2.heap.size wa2 w') (by kernel_rfl) N (fun hHeld => ?_)
   clear hHeld
   generalize wa2.drew = wb0 at *
   refine takeA (i := 0) (h := ?_)
   refine takeA (i := 1) (hy := by intro wq hSw; have y0 := bat hSw V1.c0; have y1 := bat hSw V1.c1; have y2 := bat hSw V2.c0; have y3 := bat hSw V2.c1; have z0 := bat hSw (bat B VX.c0); have z1 := bat hSw (bat B VX.c1); have z2 := bat hSw (bat B VX.c2); have z3 := bat hSw (bat B VX.c3); go_simp <;> with_reducible rfl) (h := ?_)
   refine takeA (i := 3) (hy := by intro wq hSw; have y0 := bat hSw V1.c0; have y1 := bat hSw V1.c1; have y2 := bat hSw V2.c0; have y3 := bat hSw V2.c1; have z0 := bat hSw (bat B VX.c0); have z1 := bat hSw (bat B VX.c1); have z2 := bat hSw (bat B VX.c2); have z3 := bat hSw (bat B VX.c3); go_simp <;> with_reducible rfl) (h := ?_)
   refine rdA (i := 2) (h := fun K hK => ?_)
   go_simp
   refine (wholeS u _ HM_u.out.2.2.1 HM_u.out.2.2.2 HM_u.out.1 GF_u.out HO.out.1).mono ?_
   rintro e wb1 ⟨a5, c5, b5, d5, rfl, S1, S2, hb⟩
   replace N := N.trans (hb.mono N.size)
   clear hb
   refine hK.out _ _ N (fun hHeld => ?_)
   clear hK K hHeld
   try simp only [Act.put, pA, pB, pC]
   refine rdA (i := 4) (h := fun K hK => ?_)
   go_simp
   refine (fcmpS a5 b5 a b c5 d5 c d _ S1 S2 (Q.s1.below (B.trans (N.mono B.size))) (Q.s2.below (B.trans (N.mono B.size))) HM_u.out.1 GF_u.out HO.out.1 (h := false) rfl HT.out.L1 HT.out.G1 HT.out.L2 HT.out.G2 HM_u.out.2.1 HO.out.2 HT.out.l1 HT.out.l2 (by decide) HT.out.p2).mono ?_
   rintro e wb2 ⟨rfl, hb⟩
   replace N := N.trans (hb.mono N.size)
   rw [H2.out]
   clear hb S1 S2
   refine hK.out _ _ N (fun hHeld => ?_)
   clear hK K hHeld
   try simp only [Act.put, pA, pB, pC]
   refine takeA (i := 5) (h := ?_)
   refine wpAnyH_done (by kernel_rfl) ?_ _
   replace V1 := V1.below N
   replace V2 := V2.below N
   replace B := B.trans (N.mono B.size)
   clear N
   go_upto_region 9 with fail
   have N : Below wb2.heap.size wb2 wb2.drew := (Below.refl _ _).drew
   refine wp_region_held_drew (S := fun w' => Below wb2.heap.size wb2 w') (by kernel_rfl) N (fun hHeld => ?_)
   clear hHeld
   generalize wb2.drew = wc0 at *
   refine takeA (i := 0) (h := ?_)
   refine takeA (i := 1) (hy := by intro wq hSw; have y0 := bat hSw V1.c0; have y1 := bat hSw V1.c1; have y2 := bat hSw V2.c0; have y3 := bat hSw V2.c1; have z0 := bat hSw (bat B VY.c0); have z1 := bat hSw (bat B VY.c1); have z2 := bat hSw (bat B VY.c2); have z3 := bat hSw (bat B VY.c3); go_simp <;> with_reducible rfl) (h := ?_)
   refine takeA (i := 3) (hy := by intro wq hSw; have y0 := bat hSw V1.c0; have y1 := bat hSw V1.c1; have y2 := bat hSw V2.c0; have y3 := bat hSw V2.c1; have z0 := bat hSw (bat B VY.c0); have z1 := bat hSw (bat B VY.c1); have z2 := bat hSw (bat B VY.c2); have z3 := bat hSw (bat B VY.c3); go_simp <;> with_reducible rfl) (h := ?_)
   refine rdA (i := 2) (h := fun K hK => ?_)
   go_simp
   refine (wholeS y _ HM_y.out.2.2.1 HM_y.out.2.2.2 HM_y.out.1 GF_y.out HO.out.1).mono ?_
   rintro e wc1 ⟨a5, c5, b5, d5, rfl, S1, S2, hb⟩
   replace N := N.trans (hb.mono N.size)
   clear hb
   refine hK.out _ _ N (fun hHeld => ?_)
   clear hK K hHeld
   try simp only [Act.put, pA, pB, pC]
   refine rdA (i := 4) (h := fun K hK => ?_)
   go_simp
   refine (fcmpS a5 b5 a' b' c5 d5 c' d' _ S1 S2 (Q.s3.below (B.trans (N.mono B.size))) (Q.s4.below (B.trans (N.mono B.size))) HM_y.out.1 GF_y.out HO.out.1 (h := false) rfl HT.out.L3 HT.out.G3 HT.out.L4 HT.out.G4 HM_y.out.2.1 HO.out.2 HT.out.l3 HT.out.l4 (by decide) HT.out.p4).mono ?_
   rintro e wc2 ⟨rfl, hb⟩
   replace N := N.trans (hb.mono N.size)
   rw [H3.out]
   clear hb S1 S2
   refine hK.out _ _ N (fun hHeld => ?_)
   clear hK K hHeld
   try simp only [Act.put, pA, pB, pC]
   refine takeA (i := 5) (h := ?_)
   refine wpAnyH_done (by kernel_rfl) ?_ _
   replace V1 := V1.below N
   replace V2 := V2.below N
   replace B := B.trans (N.mono B.size)
   clear N
   go_upto_region 10 with fail
   have N : Below wc2.heap.size wc2 wc2.drew := (Below.refl _ _).drew
   refine wp_region_held_drew (S := fun w' => Below wc2.heap.size wc2 w') (by kernel_rfl) N (fun hHeld => ?_)
   clear hHeld
   generalize wc2.drew = wd0 at *
   refine takeA (i := 0) (h := ?_)
   refine takeA (i := 1) (hy := by intro wq hSw; have y0 := bat hSw V1.c0; have y1 := bat hSw V1.c1; have y2 := bat hSw V2.c0; have y3 := bat hSw V2.c1; have z0 := bat hSw (bat B VY.c0); have z1 := bat hSw (bat B VY.c1); have z2 := bat hSw (bat B VY.c2); have z3 := bat hSw (bat B VY.c3); go_simp <;> with_reducible rfl) (h := ?_)
   refine takeA (i := 3) (hy := by intro wq hSw; have y0 := bat hSw V1.c0; have y1 := bat hSw V1.c1; have y2 := bat hSw V2.c0; have y3 := bat hSw V2.c1; have z0 := bat hSw (bat B VY.c0); have z1 := bat hSw (bat B VY.c1); have z2 := bat hSw (bat B VY.c2); have z3 := bat hSw (bat B VY.c3); go_simp <;> with_reducible rfl) (h := ?_)
   refine rdA (i := 2) (h := fun K hK => ?_)
   go_simp
   refine (wholeS v _ HM_v.out.2.2.1 HM_v.out.2.2.2 HM_v.out.1 GF_v.out HO.out.1).mono ?_
   rintro e wd1 ⟨a5, c5, b5, d5, rfl, S1, S2, hb⟩
   replace N := N.trans (hb.mono N.size)
   clear hb
   refine hK.out _ _ N (fun hHeld => ?_)
   clear hK K hHeld
   try simp only [Act.put, pA, pB, pC]
   refine rdA (i := 4) (h := fun K hK => ?_)
   go_simp
   refine (fcmpS a5 b5 a' b' c5 d5 c' d' _ S1 S2 (Q.s3.below (B.trans (N.mono B.size))) (Q.s4.below (B.trans (N.mono B.size))) HM_v.out.1 GF_v.out HO.out.1 (h := false) rfl HT.out.L3 HT.out.G3 HT.out.L4 HT.out.G4 HM_v.out.2.1 HO.out.2 HT.out.l3 HT.out.l4 (by decide) HT.out.p4).mono ?_
   rintro e wd2 ⟨rfl, hb⟩
   replace N := N.trans (hb.mono N.size)
   rw [H4.out]
   clear hb S1 S2
   refine hK.out _ _ N (fun hHeld => ?_)
   clear hK K hHeld
   try simp only [Act.put, pA, pB, pC]
   refine takeA (i := 5) (h := ?_)
   refine wpAnyH_done (by kernel_rfl) ?_ _
   replace V1 := V1.below N
   replace V2 := V2.below N
   replace B := B.trans (N.mono B.size)
   clear N
   have w1' : IntKind.i64.wrap (s1 * s2) = s1 * s2 := by rw [← H1.out, ← H2.out]; exact wrap_small (sgn1_prod _ _).1 (sgn1_prod _ _).2
   have w2' : IntKind.i64.wrap (s3 * s4) = s3 * s4 := by rw [← H3.out, ← H4.out]; exact wrap_small (sgn1_prod _ _).1 (sgn1_prod _ _).2
   obtain ⟨on, HON⟩ : ∃ b, Hid (onB (x * D) (y * E) (u * D) (v * E) X Y = b) := ⟨_, rfl⟩
   have HB : Hid (on = (decide (sd = 0) && (decide (s1 * s2 ≤ 0) && decide (s3 * s4 ≤ 0)))) := by
    show _ = _
    rw [← HON.out]
    exact onB_sg HS.out H1.out H2.out H3.out H4.out
   obtain ⟨hit, HH⟩ : ∃ b, Hid (hitS (x * D) (y * E) (u * D) (v * E) X Y = b) := ⟨_, rfl⟩
   have HB2 : Hid (hit = ((decide (0 < s3) != decide (0 < s4)) && ((decide (y < v) && decide (0 < sd)) || (decide (v < y) && decide (sd < 0))))) := by
    show _ = _
    rw [← HH.out]
    exact hitS_sg HT.out.p4 HS.out H3.out H4.out
   clear H1 H2 H3 H4 HS
   obtain ⟨g0, g1, _, _⟩ := id V1
   obtain ⟨g2, g3, _, _⟩ := id V2
   go_upto_region 11 with fail
   go_cut [66] (fun s66 W' => s66 = .bool on ∧ W' = wd2)
   case first =>
    as_aux_lemma =>
     by_cases qa : sd = 0
     ·have b1 : (sd == 0) = true := by simp [qa]
      by_cases q2 : s1 * s2 ≤ 0
      ·by_cases q3 : s3 * s4 ≤ 0
       ·have F : Hid (on = true) := by show _ = _; rw [HB.out]; simp [qa, q2, q3]
        clear qa
        go_wp2
        go_meet
        case rel => exact ⟨by rw [F.out], rfl⟩
       ·have F : Hid (on = false) := by show _ = _; rw [HB.out]; simp [q3]
        clear qa
        go_wp2
        go_meet
        case rel => exact ⟨by rw [F.out], rfl⟩
      ·have F : Hid (on = false) := by show _ = _; rw [HB.out]; simp [q2]
       clear qa
       go_wp2
       go_meet
       case rel => exact ⟨by rw [F.out], rfl⟩
     ·have b1 : (sd == 0) = false := by simp [qa]
      have F : Hid (on = false) := by show _ = _; rw [HB.out]; simp [qa]
      clear qa
      go_wp2
      go_meet
      case rel => exact ⟨by rw [F.out], rfl⟩
   obtain ⟨rfl, rfl⟩ := hcut
   rename World => wd2
   cases on
   ·have T2 : Hid (onR (sdR D E ps) X Y (j + 1) = false) := by show _ = _; simp only [onR]; rw [T.out, E1.out, HON.out]; rfl
    clear T E1 HON HB w1' w2'
    go_upto_region 13 with fail
    go_cut [93] (fun s93 W' => s93 = .bool hit ∧ W' = wd2)
    case first =>
     as_aux_lemma =>
      cases h1 : decide (0 < s3) <;> cases h2 : decide (0 < s4)
      ·have F : hit = false := by rw [HB2.out, h1, h2]; rfl
       go_wp2
       go_meet
       case rel => exact ⟨by rw [F], rfl⟩
      ·cases h3 : decide (y < v) <;> cases h4 : decide (0 < sd) <;> cases h5 : decide (v < y) <;> cases h6 : decide (sd < 0)
       all_goals
        have F := HB2.out
        rw [h1, h2, h3, h4, h5, h6] at F
        go_wp2
        go_meet
        case rel => exact ⟨by rw [F]; rfl, rfl⟩
      ·cases h3 : decide (y < v) <;> cases h4 : decide (0 < sd) <;> cases h5 : decide (v < y) <;> cases h6 : decide (sd < 0)
       all_goals
        have F := HB2.out
        rw [h1, h2, h3, h4, h5, h6] at F
        go_wp2
        go_meet
        case rel => exact ⟨by rw [F]; rfl, rfl⟩
      ·have F : hit = false := by rw [HB2.out, h1, h2]; rfl
       go_wp2
       go_meet
       case rel => exact ⟨by rw [F], rfl⟩
    obtain ⟨rfl, rfl⟩ := hcut
    rename World => wd2
    cases hit
    ·have P : Hid (par (hsE (sdR D E ps) X Y) (j + 1) = od) := by show _ = _; simp only [par]; rw [Hod.out, E2.out, HH.out]; simp
     clear E2 HH HB2 Hod
     go_wp2
     go_roundw
     case rel => exact ⟨j + 1, by omega, by go_num, by rw [P.out], T2, B⟩
     case measure => simp [intOf]; omega
    ·have P : Hid (par (hsE (sdR D E ps) X Y) (j + 1) = !od) := by show _ = _; simp only [par]; rw [Hod.out, E2.out, HH.out]; simp
     clear E2 HH HB2 Hod
     go_wp2
     go_roundw
     case rel => exact ⟨j + 1, by omega, by go_num, by rw [P.out], T2, B⟩
     case measure => simp [intOf]; omega
   ·have RR : onR (sdR D E ps) X Y (j + 1) = true := by simp only [onR]; rw [E1.out, HON.out]; simp
    have Z : Hid (inV (sdR D E ps) X Y = 1) := by show _ = _; unfold inV; rw [onR_mono (show j + 1 ≤ (sdR D E ps).length by rw [sdR_len]; omega) RR]; rfl
    clear RR HON HH HB HB2 E1 E2 T Hod
    go_wp2
    go_ret
    exact ⟨by rw [Z.out] <;> rfl, B0.trans (B.mono B0.size)⟩
  ·obtain rfl : j = ps.length := by omega
   cases hp : par (hsE (sdR D E ps) X Y) ps.length
   ·have Z : Hid (inV (sdR D E ps) X Y = 0) := by show _ = _; unfold inV; rw [sdR_len, T.out, hp]; rfl
    go_wp2
    go_ret
    exact ⟨by rw [Z.out] <;> rfl, B0.trans (B.mono B0.size)⟩
   ·have Z : Hid (inV (sdR D E ps) X Y = 2) := by show _ = _; unfold inV; rw [sdR_len, T.out, hp]; rfl
    go_wp2
    go_ret
    exact ⟨by rw [Z.out] <;> rfl, B0.trans (B.mono B0.size)⟩
end Go.Proofs.YthafgldgidmnlaaGreat
