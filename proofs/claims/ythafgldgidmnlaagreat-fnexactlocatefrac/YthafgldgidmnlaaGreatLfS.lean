/- Where a place of two fractions lies by an area, of the specification: l6Side, l6InFrac, l6LocateFrac, LocateFrac. -/
import Derived.Test.YthafgldgidmnlaaGreatLfI
import Derived.Test.YthafgldgidmnlaaGreatLocS
import Derived.Deep.DeepCutAuto
namespace Go.Proofs.YthafgldgidmnlaaGreat
open Go.RowKit

set_option maxRecDepth 20000 in
set_option maxHeartbeats 8000000 in
theorem l6Side_any (ax ay bx bz : Int) {X D Y E : Int} {g h g' h' : Bool} {a b a' b' : Option Addr} {c d c' d' : Nat} {ns ds ms es : List Int} (w : World) (Q : PlS w a c ns b d ds a' c' ms b' d' es) (T : PlT X D Y E g ns h ds g' ms h' es) (c1 : Crd ax) (d1 : Crd ay) (c2 : Crd bx) (d2 : Crd bz) :
  Calls Tryz.prog 46 #[.agg #[.int .i64 ax, .int .i64 ay], .agg #[.int .i64 bx, .int .i64 bz], (.agg #[.bool g, .slice a ns.length c, .bool h, .slice b ds.length d]), (.agg #[.bool g', .slice a' ms.length c', .bool h', .slice b' es.length d'])] w fun e w' => e = .returned (.int .i64 (sgn1 (ar (ax * D) (ay * E) (bx * D) (bz * E) X Y))) ∧ Below w.heap.size w w' := by
 have B := (below3 w (.cells #[.int .i64 ax, .int .i64 ay] 84) (.cells #[.int .i64 bx, .int .i64 bz] 84) (.cells #[.bool g, .slice a ns.length c, .bool h, .slice b ds.length d] 39)).alloc (by simp; omega) (.cells #[.bool g', .slice a' ms.length c', .bool h', .slice b' es.length d'] 39)
 have V1 := (Box2.new w (lo := 0) (Nat.zero_le _) (.int .i64 ax) (.int .i64 ay) 84).below (below3 _ (.cells #[.int .i64 bx, .int .i64 bz] 84) (.cells #[.bool g, .slice a ns.length c, .bool h, .slice b ds.length d] 39) (.cells #[.bool g', .slice a' ms.length c', .bool h', .slice b' es.length d'] 39))
 have V2 := (Box2.new (w.alloc (.cells #[.int .i64 ax, .int .i64 ay] 84)) (lo := 0) (Nat.zero_le _) (.int .i64 bx) (.int .i64 bz) 84).below (below2 _ (.cells #[.bool g, .slice a ns.length c, .bool h, .slice b ds.length d] 39) (.cells #[.bool g', .slice a' ms.length c', .bool h', .slice b' es.length d'] 39))
 have V3 := (Box4.new ((w.alloc (.cells #[.int .i64 ax, .int .i64 ay] 84)).alloc (.cells #[.int .i64 bx, .int .i64 bz] 84)) (lo := 0) (Nat.zero_le _) (.bool g) (.slice a ns.length c) (.bool h) (.slice b ds.length d) 39).below (below1 _ (.cells #[.bool g', .slice a' ms.length c', .bool h', .slice b' es.length d'] 39))
 have V4 := Box4.new (((w.alloc (.cells #[.int .i64 ax, .int .i64 ay] 84)).alloc (.cells #[.int .i64 bx, .int .i64 bz] 84)).alloc (.cells #[.bool g, .slice a ns.length c, .bool h, .slice b ds.length d] 39)) (lo := 0) (Nat.zero_le _) (.bool g') (.slice a' ms.length c') (.bool h') (.slice b' es.length d') 39
 rw [World.size_alloc] at V2
 rw [World.size_alloc, World.size_alloc] at V3
 rw [World.size_alloc, World.size_alloc, World.size_alloc] at V4
 replace Q := Q.below B
 unfold Crd at c1 d1 c2 d2
 obtain ⟨ny, HNY⟩ : ∃ z, -ay = z := ⟨_, rfl⟩
 obtain ⟨nx', HNX⟩ : ∃ z, -ax = z := ⟨_, rfl⟩
 obtain ⟨dx, HX⟩ : ∃ z, bx - ax = z := ⟨_, rfl⟩
 obtain ⟨dy, HY⟩ : ∃ z, bz - ay = z := ⟨_, rfl⟩
 have wn1 : IntKind.i64.wrap (-ay) = ny := by rw [IntKind.wrap_i64]; omega
 have wn2 : IntKind.i64.wrap (-ax) = nx' := by rw [IntKind.wrap_i64]; omega
 have wd1 : IntKind.i64.wrap (bx - ax) = dx := by rw [IntKind.wrap_i64]; omega
 have wd2 : IntKind.i64.wrap (bz - ay) = dy := by rw [IntKind.wrap_i64]; omega
 have cy' : Crd ny := by unfold Crd; omega
 have cx' : Crd nx' := by unfold Crd; omega
 have rx : -9223372036854775808 ≤ dx ∧ dx ≤ 9223372036854775807 := by omega
 have ry : -9223372036854775808 ≤ dy ∧ dy ≤ 9223372036854775807 := by omega
 obtain ⟨us_uy, LM_uy⟩ := Lm.ex ny
 obtain ⟨gf_uy, GF_uy⟩ : ∃ g, Hid (decide (ny < 0) = g) := ⟨_, rfl⟩
 obtain ⟨us_ux, LM_ux⟩ := Lm.ex nx'
 obtain ⟨gf_ux, GF_ux⟩ : ∃ g, Hid (decide (nx' < 0) = g) := ⟨_, rfl⟩
 obtain ⟨us_ry, LM_ry⟩ := Lm.ex (ny * E)
 obtain ⟨gf_ry, GF_ry⟩ : ∃ g, Hid (decide ((ny * E) < 0) = g) := ⟨_, rfl⟩
 obtain ⟨us_rx, LM_rx⟩ := Lm.ex (nx' * D)
 obtain ⟨gf_rx, GF_rx⟩ : ∃ g, Hid (decide ((nx' * D) < 0) = g) := ⟨_, rfl⟩
 obtain ⟨us_qy, LM_qy⟩ := Lm.ex (Y + ny * E)
 obtain ⟨gf_qy, GF_qy⟩ : ∃ g, Hid (decide ((Y + ny * E) < 0) = g) := ⟨_, rfl⟩
 obtain ⟨us_qx, LM_qx⟩ := Lm.ex (X + nx' * D)
 obtain ⟨gf_qx, GF_qx⟩ : ∃ g, Hid (decide ((X + nx' * D) < 0) = g) := ⟨_, rfl⟩
 obtain ⟨us_vx, LM_vx⟩ := Lm.ex dx
 obtain ⟨gf_vx, GF_vx⟩ : ∃ g, Hid (decide (dx < 0) = g) := ⟨_, rfl⟩
 obtain ⟨us_vy, LM_vy⟩ := Lm.ex dy
 obtain ⟨gf_vy, GF_vy⟩ : ∃ g, Hid (decide (dy < 0) = g) := ⟨_, rfl⟩
 obtain ⟨us_ty, LM_ty⟩ := Lm.ex (dx * (Y + ny * E))
 obtain ⟨gf_ty, GF_ty⟩ : ∃ g, Hid (decide ((dx * (Y + ny * E)) < 0) = g) := ⟨_, rfl⟩
 obtain ⟨us_tx, LM_tx⟩ := Lm.ex (dy * (X + nx' * D))
 obtain ⟨gf_tx, GF_tx⟩ : ∃ g, Hid (decide ((dy * (X + nx' * D)) < 0) = g) := ⟨_, rfl⟩
 obtain ⟨us_zp, LM_zp⟩ := Lm.ex (dx * (Y + ny * E) * D)
 obtain ⟨gf_zp, GF_zp⟩ : ∃ g, Hid (decide ((dx * (Y + ny * E) * D) < 0) = g) := ⟨_, rfl⟩
 obtain ⟨us_zq, LM_zq⟩ := Lm.ex (dy * (X + nx' * D) * E)
 obtain ⟨gf_zq, GF_zq⟩ : ∃ g, Hid (decide ((dy * (X + nx' * D) * E) < 0) = g) := ⟨_, rfl⟩
 obtain ⟨us_zd, LM_zd⟩ := Lm.ex (dx * (Y + ny * E) * D - dy * (X + nx' * D) * E)
 obtain ⟨gf_zd, GF_zd⟩ : ∃ g, Hid (decide ((dx * (Y + ny * E) * D - dy * (X + nx' * D) * E) < 0) = g) := ⟨_, rfl⟩
 have b1 := LM_uy.two (crd_lo cy') (crd_hi cy')
 have b2 := LM_ux.two (crd_lo cx') (crd_hi cx')
 have b3 := LM_uy.mul T.L4 LM_ry
 have b4 := LM_ux.mul T.L2 LM_rx
 have b5 := T.L3.add LM_ry LM_qy (mg_add_le _ _) (L := 26) (by have := T.l3; omega) (by have := T.l4; omega)
 have b6 := T.L1.add LM_rx LM_qx (mg_add_le _ _) (L := 26) (by have := T.l1; omega) (by have := T.l2; omega)
 have b7 := LM_vx.two rx.1 rx.2
 have b8 := LM_vy.two ry.1 ry.2
 have b9 := LM_vx.mul LM_qy LM_ty
 have b10 := LM_vy.mul LM_qx LM_tx
 have b11 := LM_ty.mul T.L2 LM_zp
 have b12 := LM_tx.mul T.L4 LM_zq
 have l1 := T.l1
 have l2 := T.l2
 have l3 := T.l3
 have l4 := T.l4
 have HB1 : Hid (us_uy.length + es.length ≤ 1048576) := (by omega : _ ≤ _)
 have HB2 : Hid (us_ux.length + ds.length ≤ 1048576) := (by omega : _ ≤ _)
 have HB3 : Hid (ms.length ≤ 1048576 ∧ us_ry.length ≤ 1048576) := ⟨by omega, by omega⟩
 have HB4 : Hid (ns.length ≤ 1048576 ∧ us_rx.length ≤ 1048576) := ⟨by omega, by omega⟩
 have HB5 : Hid (us_vx.length + us_qy.length ≤ 1048576) := (by omega : _ ≤ _)
 have HB6 : Hid (us_vy.length + us_qx.length ≤ 1048576) := (by omega : _ ≤ _)
 have HB7 : Hid (us_ty.length + ds.length ≤ 1048576) := (by omega : _ ≤ _)
 have HB8 : Hid (us_tx.length + es.length ≤ 1048576) := (by omega : _ ≤ _)
 have HB9 : Hid (us_zp.length ≤ 1048576 ∧ us_zq.length ≤ 1048576) := ⟨by omega, by omega⟩
 have HC : Hid (ar (ax * D) (ay * E) (bx * D) (bz * E) X Y = (dx * (Y + ny * E) * D - dy * (X + nx' * D) * E)) := by
  show _ = _
  rw [← HX, ← HY, ← HNX, ← HNY]
  unfold ar
  grind
 have HT : Hid (PlT X D Y E g ns h ds g' ms h' es) := T
 have HR : Hid (((-9223372036854775808 ≤ dx ∧ dx ≤ 9223372036854775807) ∧ -9223372036854775808 ≤ dy ∧ dy ≤ 9223372036854775807) ∧ Crd nx' ∧ Crd ny) := ⟨⟨rx, ry⟩, cx', cy'⟩
 have HM_uy : Hid (Lm us_uy ny) := LM_uy
 have HM_ux : Hid (Lm us_ux nx') := LM_ux
 have HM_ry : Hid (Lm us_ry (ny * E)) := LM_ry
 have HM_rx : Hid (Lm us_rx (nx' * D)) := LM_rx
 have HM_qy : Hid (Lm us_qy (Y + ny * E)) := LM_qy
 have HM_qx : Hid (Lm us_qx (X + nx' * D)) := LM_qx
 have HM_vx : Hid (Lm us_vx dx) := LM_vx
 have HM_vy : Hid (Lm us_vy dy) := LM_vy
 have HM_ty : Hid (Lm us_ty (dx * (Y + ny * E))) := LM_ty
 have HM_tx : Hid (Lm us_tx (dy * (X + nx' * D))) := LM_tx
 have HM_zp : Hid (Lm us_zp (dx * (Y + ny * E) * D)) := LM_zp
 have HM_zq : Hid (Lm us_zq (dy * (X + nx' * D) * E)) := LM_zq
 have HM_zd : Hid (Lm us_zd (dx * (Y + ny * E) * D - dy * (X + nx' * D) * E)) := LM_zd
 clear b1 b2 b3 b4 b5 b6 b7 b8 b9 b10 b11 b12 l1 l2 l3 l4 T HX HY HNX HNY c1 c2 d1 d2 rx ry cx' cy' LM_uy LM_ux LM_ry LM_rx LM_qy LM_qx LM_vx LM_vy LM_ty LM_tx LM_zp LM_zq LM_zd
 go_enter Tryz.func46, Tryz.ntmps46
 go_upto_region 1 with fail
 generalize ((((w.alloc (.cells #[.int .i64 ax, .int .i64 ay] 84)).alloc (.cells #[.int .i64 bx, .int .i64 bz] 84)).alloc (.cells #[.bool g, .slice a ns.length c, .bool h, .slice b ds.length d] 39)).alloc (.cells #[.bool g', .slice a' ms.length c', .bool h', .slice b' es.length d'] 39)) = W0 at *
 go_cut [9] (fun s9 W => ∃ (p : Nat) (a5 : Option Addr) (c5 : Nat), s9 = .pointer (some ⟨p, 0, none⟩) ∧ Box2 W0.heap.size W p (.bool gf_qy) (.slice a5 us_qy.length c5) ∧ Own W0.heap.size W a5 c5 us_qy ∧ Below W0.heap.size W0 W)
 case first =>
  as_aux_lemma =>
   rename_i hcJ hcK
   have N : Below W0.heap.size W0 W0.drew := (Below.refl _ _).drew
   refine wp_region_held_drew (S := fun w' => Below W0.heap.size W0 w') (by kernel_rfl) N (fun hHeld => ?_)
   clear hHeld
   generalize W0.drew = ww0 at *
   refine takeA (i := 0) (h := ?_)
   refine takeA (i := 1) (hy := by intro wq hSw; have y0 := bat hSw V1.c0; have y1 := bat hSw V1.c1; have y2 := bat hSw V2.c0; have y3 := bat hSw V2.c1; have z0 := bat hSw V3.c0; have v0 := bat hSw V4.c0; have z1 := bat hSw V3.c1; have v1 := bat hSw V4.c1; have z2 := bat hSw V3.c2; have v2 := bat hSw V4.c2; have z3 := bat hSw V3.c3; have v3 := bat hSw V4.c3; go_simp <;> with_reducible rfl) (h := ?_)
   refine takeA (i := 2) (h := ?_)
   refine takeA (i := 3) (hy := by intro wq hSw; have y0 := bat hSw V1.c0; have y1 := bat hSw V1.c1; have y2 := bat hSw V2.c0; have y3 := bat hSw V2.c1; have z0 := bat hSw V3.c0; have v0 := bat hSw V4.c0; have z1 := bat hSw V3.c1; have v1 := bat hSw V4.c1; have z2 := bat hSw V3.c2; have v2 := bat hSw V4.c2; have z3 := bat hSw V3.c3; have v3 := bat hSw V4.c3; go_simp <;> with_reducible rfl) (h := ?_)
   refine takeA (i := 4) (h := ?_)
   refine takeA (i := 6) (h := ?_)
   refine takeA (i := 7) (hy := by intro wq hSw; have y0 := bat hSw V1.c0; have y1 := bat hSw V1.c1; have y2 := bat hSw V2.c0; have y3 := bat hSw V2.c1; have z0 := bat hSw V3.c0; have v0 := bat hSw V4.c0; have z1 := bat hSw V3.c1; have v1 := bat hSw V4.c1; have z2 := bat hSw V3.c2; have v2 := bat hSw V4.c2; have z3 := bat hSw V3.c3; have v3 := bat hSw V4.c3; go_simp <;> with_reducible rfl) (h := ?_)
   refine capture2 (fun wpx fr0 ha0 hwp => ?_)
   revert N
   revert ww0
   have H3_p6 : ∀ (a1 : Option Addr) (c1 : Nat) (a2 : Option Addr) (c2 : Nat) (a5 : Option Addr) (c5 : Nat) (p6 : Nat) (V : World), Below W0.heap.size W0 V → Own W0.heap.size V a5 c5 us_qy → Box2 W0.heap.size V p6 (.bool false) (.slice none 0 0) → Hid (some p6 ≠ rowOf a5 us_qy) → wpx 1 #[true, true, true, true, true, true, true, true, true, true, true, false] ((((fr0.put (some 19) (.agg #[.bool gf_uy, .slice a1 us_uy.length c1])).put (some 22) (.agg #[.bool gf_ry, .slice a2 us_ry.length c2])).put (some 23) (.agg #[.bool gf_qy, .slice a5 us_qy.length c5])).put (some 9) (.pointer (some ⟨p6, 0, none⟩))) V := by
    as_aux_lemma =>
     intro a1 c1 a2 c2 a5 c5 p6 V N O5 Y6 n_p6
     refine Eq.mpr (hwp _ _ _ _) ?_
     rw [ha0]
     try simp only [Act.put, pA, pB, pC]
     refine rdA (i := 11) (h := fun K hK => ?_)
     have q0 := Y6.c0
     have q1 := Y6.c1
     have qf := Y6.fr
     go_simp
     replace N := Box2.chain N Y6 (.bool gf_qy) (.slice a5 us_qy.length c5)
     replace O5 := O5.put2 n_p6.out (.bool gf_qy) (.slice a5 us_qy.length c5)
     replace Y6 := Y6.put (.bool gf_qy) (.slice a5 us_qy.length c5)
     refine hK.out _ _ N (fun hHeld => ?_)
     clear hK K hHeld
     try simp only [pA, pB, pC]
     clear q0 q1 qf
     generalize ((V.setCell ⟨p6, 0, none⟩ (.bool gf_qy)).setCell ⟨p6, 1, none⟩ (.slice a5 us_qy.length c5)) = Vs0 at *
     refine wpAnyH_done (by kernel_rfl) ?_ _
     refine hcK _ _ (Met.intro (hcJ _ _ ?_))
     (repeat apply Exists.intro)
     refine ⟨?rel, rfl⟩
     case rel => exact ⟨p6, a5, c5, rfl, Y6, O5, N⟩
   have H3 : ∀ (a1 : Option Addr) (c1 : Nat) (a2 : Option Addr) (c2 : Nat) (a5 : Option Addr) (c5 : Nat) (V : World), Below W0.heap.size W0 V → Own W0.heap.size V a5 c5 us_qy → wpx 2 #[true, true, true, true, true, true, true, true, true, true, false, false] (((fr0.put (some 19) (.agg #[.bool gf_uy, .slice a1 us_uy.length c1])).put (some 22) (.agg #[.bool gf_ry, .slice a2 us_ry.length c2])).put (some 23) (.agg #[.bool gf_qy, .slice a5 us_qy.length c5])) V := by
    as_aux_lemma =>
     intro a1 c1 a2 c2 a5 c5 V N O5
     refine Eq.mpr (hwp _ _ _ _) ?_
     rw [ha0]
     try simp only [Act.put, pA, pB, pC]
     refine rdA (i := 10) (h := fun K hK => ?_)
     ·go_simp
      have Y6 := Box2.new V (lo := W0.heap.size) N.size (.bool false) (.slice none 0 0) 37
      have hb := below1 V (.cells #[.bool false, .slice none 0 0] 37)
      have n_p6 : Hid (some V.heap.size ≠ rowOf a5 us_qy) := row_ne_high O5.toCame (Nat.le_refl _)
      replace O5 := O5.below hb
      replace N := N.trans (hb.mono N.size)
      refine hK.out _ _ N (fun hHeld => ?_)
      clear hK K hHeld
      try simp only [pA, pB, pC]
      clear hb
      refine Eq.mp (hwp _ _ _ _) ?_
      exact met2 (H3_p6 a1 c1 a2 c2 a5 c5 V.heap.size _ N O5 Y6 n_p6) (by kernel_rfl) (by rw [ha0]; simp only [Act.put, pA, pB, pC])
   have H2_p6 : ∀ (a1 : Option Addr) (c1 : Nat) (a2 : Option Addr) (c2 : Nat) (p6 : Nat) (V : World), Below W0.heap.size W0 V → Sees V a2 c2 us_ry → Box2 W0.heap.size V p6 (.bool false) (.slice none 0 0) → wpx 2 #[true, true, true, true, true, true, true, true, true, false, true, false] (((fr0.put (some 19) (.agg #[.bool gf_uy, .slice a1 us_uy.length c1])).put (some 22) (.agg #[.bool gf_ry, .slice a2 us_ry.length c2])).put (some 9) (.pointer (some ⟨p6, 0, none⟩))) V := by
    as_aux_lemma =>
     intro a1 c1 a2 c2 p6 V N S2 Y6
     refine Eq.mpr (hwp _ _ _ _) ?_
     rw [ha0]
     try simp only [Act.put, pA, pB, pC]
     refine rdA (i := 9) (h := fun K hK => ?_)
     ·go_simp
      refine (addS a' a2 c' c2 _ (Q.s3.below N) S2 HT.out.L3 HT.out.G3 HM_ry.out GF_ry.out HM_qy.out GF_qy.out HB3.out.1 HB3.out.2).mono ?_
      rintro e V1 ⟨a5, c5, rfl, o5, hb⟩
      have n_p6 : Hid (some p6 ≠ rowOf a5 us_qy) := row_ne_low o5 Y6.lt
      have O5 := o5.base_le (base' := W0.heap.size) N.size
      clear o5
      replace S2 := S2.below hb
      replace Y6 := Y6.below hb
      replace N := N.trans (hb.mono N.size)
      refine hK.out _ _ N (fun hHeld => ?_)
      clear hK K hHeld
      try simp only [pA, pB, pC]
      clear hb
      refine Eq.mp (hwp _ _ _ _) ?_
      exact met2 (H3_p6 a1 c1 a2 c2 a5 c5 p6 _ N O5 Y6 n_p6) (by kernel_rfl) (by rw [ha0]; simp only [Act.put, pA, pB, pC])
   have H2 : ∀ (a1 : Option Addr) (c1 : Nat) (a2 : Option Addr) (c2 : Nat) (V : World), Below W0.heap.size W0 V → Sees V a2 c2 us_ry → wpx 3 #[true, true, true, true, true, true, true, true, true, false, false, false] ((fr0.put (some 19) (.agg #[.bool gf_uy, .slice a1 us_uy.length c1])).put (some 22) (.agg #[.bool gf_ry, .slice a2 us_ry.length c2])) V := by
    as_aux_lemma =>
     intro a1 c1 a2 c2 V N S2
     refine Eq.mpr (hwp _ _ _ _) ?_
     rw [ha0]
     try simp only [Act.put, pA, pB, pC]
     refine wpAnyH_ready (rs := [9, 10]) (by kernel_rfl) (by simp) (AllReadyH.cons (gtA rfl) (fun K hK => ?_) (AllReadyH.cons (gtA rfl) (fun K hK => ?_) AllReadyH.nil))
     ·go_simp
      refine (addS a' a2 c' c2 _ (Q.s3.below N) S2 HT.out.L3 HT.out.G3 HM_ry.out GF_ry.out HM_qy.out GF_qy.out HB3.out.1 HB3.out.2).mono ?_
      rintro e V1 ⟨a5, c5, rfl, o5, hb⟩
      have O5 := o5.base_le (base' := W0.heap.size) N.size
      clear o5
      replace S2 := S2.below hb
      replace N := N.trans (hb.mono N.size)
      refine hK.out _ _ N (fun hHeld => ?_)
      clear hK K hHeld
      try simp only [pA, pB, pC]
      clear hb
      refine Eq.mp (hwp _ _ _ _) ?_
      exact met2 (H3 a1 c1 a2 c2 a5 c5 _ N O5) (by kernel_rfl) (by rw [ha0]; simp only [Act.put, pA, pB, pC])
     ·go_simp
      have Y6 := Box2.new V (lo := W0.heap.size) N.size (.bool false) (.slice none 0 0) 37
      have hb := below1 V (.cells #[.bool false, .slice none 0 0] 37)
      replace S2 := S2.below hb
      replace N := N.trans (hb.mono N.size)
      refine hK.out _ _ N (fun hHeld => ?_)
      clear hK K hHeld
      try simp only [pA, pB, pC]
      clear hb
      refine Eq.mp (hwp _ _ _ _) ?_
      exact met2 (H2_p6 a1 c1 a2 c2 V.heap.size _ N S2 Y6) (by kernel_rfl) (by rw [ha0]; simp only [Act.put, pA, pB, pC])
   have H1_p6 : ∀ (a1 : Option Addr) (c1 : Nat) (p6 : Nat) (V : World), Below W0.heap.size W0 V → Sees V a1 c1 us_uy → Box2 W0.heap.size V p6 (.bool false) (.slice none 0 0) → wpx 3 #[true, true, true, true, true, true, true, true, false, false, true, false] ((fr0.put (some 19) (.agg #[.bool gf_uy, .slice a1 us_uy.length c1])).put (some 9) (.pointer (some ⟨p6, 0, none⟩))) V := by
    as_aux_lemma =>
     intro a1 c1 p6 V N S1 Y6
     refine Eq.mpr (hwp _ _ _ _) ?_
     rw [ha0]
     try simp only [Act.put, pA, pB, pC]
     refine rdA (i := 8) (h := fun K hK => ?_)
     ·go_simp
      refine (mulS a1 b' c1 d' _ S1 (Q.s4.below N) HM_uy.out GF_uy.out HT.out.L4 HT.out.G4 HM_ry.out GF_ry.out HB1.out).mono ?_
      rintro e V1 ⟨a2, c2, rfl, o2, hb⟩
      have S2 := o2.toSees
      clear o2
      replace S1 := S1.below hb
      replace Y6 := Y6.below hb
      replace N := N.trans (hb.mono N.size)
      refine hK.out _ _ N (fun hHeld => ?_)
      clear hK K hHeld
      try simp only [pA, pB, pC]
      clear hb
      refine Eq.mp (hwp _ _ _ _) ?_
      exact met2 (H2_p6 a1 c1 a2 c2 p6 _ N S2 Y6) (by kernel_rfl) (by rw [ha0]; simp only [Act.put, pA, pB, pC])
   have H1 : ∀ (a1 : Option Addr) (c1 : Nat) (V : World), Below W0.heap.size W0 V → Sees V a1 c1 us_uy → wpx 4 #[true, true, true, true, true, true, true, true, false, false, false, false] (fr0.put (some 19) (.agg #[.bool gf_uy, .slice a1 us_uy.length c1])) V := by
    as_aux_lemma =>
     intro a1 c1 V N S1
     refine Eq.mpr (hwp _ _ _ _) ?_
     rw [ha0]
     try simp only [Act.put, pA, pB, pC]
     refine wpAnyH_ready (rs := [8, 10]) (by kernel_rfl) (by simp) (AllReadyH.cons (gtA rfl) (fun K hK => ?_) (AllReadyH.cons (gtA rfl) (fun K hK => ?_) AllReadyH.nil))
     ·go_simp
      refine (mulS a1 b' c1 d' _ S1 (Q.s4.below N) HM_uy.out GF_uy.out HT.out.L4 HT.out.G4 HM_ry.out GF_ry.out HB1.out).mono ?_
      rintro e V1 ⟨a2, c2, rfl, o2, hb⟩
      have S2 := o2.toSees
      clear o2
      replace S1 := S1.below hb
      replace N := N.trans (hb.mono N.size)
      refine hK.out _ _ N (fun hHeld => ?_)
      clear hK K hHeld
      try simp only [pA, pB, pC]
      clear hb
      refine Eq.mp (hwp _ _ _ _) ?_
      exact met2 (H2 a1 c1 a2 c2 _ N S2) (by kernel_rfl) (by rw [ha0]; simp only [Act.put, pA, pB, pC])
     ·go_simp
      have Y6 := Box2.new V (lo := W0.heap.size) N.size (.bool false) (.slice none 0 0) 37
      have hb := below1 V (.cells #[.bool false, .slice none 0 0] 37)
      replace S1 := S1.below hb
      replace N := N.trans (hb.mono N.size)
      refine hK.out _ _ N (fun hHeld => ?_)
      clear hK K hHeld
      try simp only [pA, pB, pC]
      clear hb
      refine Eq.mp (hwp _ _ _ _) ?_
      exact met2 (H1_p6 a1 c1 V.heap.size _ N S1 Y6) (by kernel_rfl) (by rw [ha0]; simp only [Act.put, pA, pB, pC])
   have H0_p6 : ∀ (p6 : Nat) (V : World), Below W0.heap.size W0 V → Box2 W0.heap.size V p6 (.bool false) (.slice none 0 0) → wpx 4 #[true, true, true, true, true, false, true, true, false, false, true, false] (fr0.put (some 9) (.pointer (some ⟨p6, 0, none⟩))) V := by
    as_aux_lemma =>
     intro p6 V N Y6
     refine Eq.mpr (hwp _ _ _ _) ?_
     rw [ha0]
     try simp only [Act.put, pA, pB, pC]
     refine rdA (i := 5) (h := fun K hK => ?_)
     ·go_simp
      refine (ofS ny _ (crd_lo HR.out.2.2) (crd_hi HR.out.2.2) HM_uy.out GF_uy.out).mono ?_
      rintro e V1 ⟨a1, c1, rfl, o1, hb⟩
      have S1 := o1.toSees
      clear o1
      replace Y6 := Y6.below hb
      replace N := N.trans (hb.mono N.size)
      refine hK.out _ _ N (fun hHeld => ?_)
      clear hK K hHeld
      try simp only [pA, pB, pC]
      clear hb
      refine Eq.mp (hwp _ _ _ _) ?_
      exact met2 (H1_p6 a1 c1 p6 _ N S1 Y6) (by kernel_rfl) (by rw [ha0]; simp only [Act.put, pA, pB, pC])
   have H0 : ∀ (V : World), Below W0.heap.size W0 V → wpx 5 #[true, true, true, true, true, false, true, true, false, false, false, false] fr0 V := by
    as_aux_lemma =>
     intro V N
     refine Eq.mpr (hwp _ _ _ _) ?_
     rw [ha0]
     try simp only [Act.put, pA, pB, pC]
     refine wpAnyH_ready (rs := [5, 10]) (by kernel_rfl) (by simp) (AllReadyH.cons (gtA rfl) (fun K hK => ?_) (AllReadyH.cons (gtA rfl) (fun K hK => ?_) AllReadyH.nil))
     ·go_simp
      refine (ofS ny _ (crd_lo HR.out.2.2) (crd_hi HR.out.2.2) HM_uy.out GF_uy.out).mono ?_
      rintro e V1 ⟨a1, c1, rfl, o1, hb⟩
      have S1 := o1.toSees
      clear o1
      replace N := N.trans (hb.mono N.size)
      refine hK.out _ _ N (fun hHeld => ?_)
      clear hK K hHeld
      try simp only [pA, pB, pC]
      clear hb
      refine Eq.mp (hwp _ _ _ _) ?_
      exact met2 (H1 a1 c1 _ N S1) (by kernel_rfl) (by rw [ha0]; simp only [Act.put, pA, pB, pC])
     ·go_simp
      have Y6 := Box2.new V (lo := W0.heap.size) N.size (.bool false) (.slice none 0 0) 37
      have hb := below1 V (.cells #[.bool false, .slice none 0 0] 37)
      replace N := N.trans (hb.mono N.size)
      refine hK.out _ _ N (fun hHeld => ?_)
      clear hK K hHeld
      try simp only [pA, pB, pC]
      clear hb
      refine Eq.mp (hwp _ _ _ _) ?_
      exact met2 (H0_p6 V.heap.size _ N Y6) (by kernel_rfl) (by rw [ha0]; simp only [Act.put, pA, pB, pC])
   intro ww0 N
   exact met2 (H0 ww0 N) (by kernel_rfl) rfl
 rename World => W1
 obtain ⟨p9, a9, c9, rfl, Y9, O9, hb⟩ := hcut
 have S9 := O9.toSees
 replace V1 := V1.below hb
 replace V2 := V2.below hb
 replace V3 := V3.below hb
 replace V4 := V4.below hb
 replace Q := Q.below hb
 replace B := B.trans (hb.mono B.size)
 clear hb O9
 go_upto_region 2 with fail
 go_cut [10] (fun s10 W => ∃ (p : Nat) (a5 : Option Addr) (c5 : Nat), s10 = .pointer (some ⟨p, 0, none⟩) ∧ Box2 W1.heap.size W p (.bool gf_qx) (.slice a5 us_qx.length c5) ∧ Own W1.heap.size W a5 c5 us_qx ∧ Below W1.heap.size W1 W)
 case first =>
  as_aux_lemma =>
   rename_i hcJ hcK
   have N : Below W1.heap.size W1 W1.drew := (Below.refl _ _).drew
   refine wp_region_held_drew (S := fun w' => Below W1.heap.size W1 w') (by kernel_rfl) N (fun hHeld => ?_)
   clear hHeld
   generalize W1.drew = ww0 at *
   refine takeA (i := 0) (h := ?_)
   refine takeA (i := 1) (hy := by intro wq hSw; have y0 := bat hSw V1.c0; have y1 := bat hSw V1.c1; have y2 := bat hSw V2.c0; have y3 := bat hSw V2.c1; have z0 := bat hSw V3.c0; have v0 := bat hSw V4.c0; have z1 := bat hSw V3.c1; have v1 := bat hSw V4.c1; have z2 := bat hSw V3.c2; have v2 := bat hSw V4.c2; have z3 := bat hSw V3.c3; have v3 := bat hSw V4.c3; go_simp <;> with_reducible rfl) (h := ?_)
   refine takeA (i := 2) (h := ?_)
   refine takeA (i := 3) (hy := by intro wq hSw; have y0 := bat hSw V1.c0; have y1 := bat hSw V1.c1; have y2 := bat hSw V2.c0; have y3 := bat hSw V2.c1; have z0 := bat hSw V3.c0; have v0 := bat hSw V4.c0; have z1 := bat hSw V3.c1; have v1 := bat hSw V4.c1; have z2 := bat hSw V3.c2; have v2 := bat hSw V4.c2; have z3 := bat hSw V3.c3; have v3 := bat hSw V4.c3; go_simp <;> with_reducible rfl) (h := ?_)
   refine takeA (i := 4) (h := ?_)
   refine takeA (i := 6) (h := ?_)
   refine takeA (i := 7) (hy := by intro wq hSw; have y0 := bat hSw V1.c0; have y1 := bat hSw V1.c1; have y2 := bat hSw V2.c0; have y3 := bat hSw V2.c1; have z0 := bat hSw V3.c0; have v0 := bat hSw V4.c0; have z1 := bat hSw V3.c1; have v1 := bat hSw V4.c1; have z2 := bat hSw V3.c2; have v2 := bat hSw V4.c2; have z3 := bat hSw V3.c3; have v3 := bat hSw V4.c3; go_simp <;> with_reducible rfl) (h := ?_)
   refine capture2 (fun wpx fr0 ha0 hwp => ?_)
   revert N
   revert ww0
   have H3_p6 : ∀ (a1 : Option Addr) (c1 : Nat) (a2 : Option Addr) (c2 : Nat) (a5 : Option Addr) (c5 : Nat) (p6 : Nat) (V : World), Below W1.heap.size W1 V → Own W1.heap.size V a5 c5 us_qx → Box2 W1.heap.size V p6 (.bool false) (.slice none 0 0) → Hid (some p6 ≠ rowOf a5 us_qx) → wpx 1 #[true, true, true, true, true, true, true, true, true, true, true, false] ((((fr0.put (some 29) (.agg #[.bool gf_ux, .slice a1 us_ux.length c1])).put (some 32) (.agg #[.bool gf_rx, .slice a2 us_rx.length c2])).put (some 33) (.agg #[.bool gf_qx, .slice a5 us_qx.length c5])).put (some 10) (.pointer (some ⟨p6, 0, none⟩))) V := by
    as_aux_lemma =>
     intro a1 c1 a2 c2 a5 c5 p6 V N O5 Y6 n_p6
     refine Eq.mpr (hwp _ _ _ _) ?_
     rw [ha0]
     try simp only [Act.put, pA, pB, pC]
     refine rdA (i := 11) (h := fun K hK => ?_)
     have q0 := Y6.c0
     have q1 := Y6.c1
     have qf := Y6.fr
     go_simp
     replace N := Box2.chain N Y6 (.bool gf_qx) (.slice a5 us_qx.length c5)
     replace O5 := O5.put2 n_p6.out (.bool gf_qx) (.slice a5 us_qx.length c5)
     replace Y6 := Y6.put (.bool gf_qx) (.slice a5 us_qx.length c5)
     refine hK.out _ _ N (fun hHeld => ?_)
     clear hK K hHeld
     try simp only [pA, pB, pC]
     clear q0 q1 qf
     generalize ((V.setCell ⟨p6, 0, none⟩ (.bool gf_qx)).setCell ⟨p6, 1, none⟩ (.slice a5 us_qx.length c5)) = Vs0 at *
     refine wpAnyH_done (by kernel_rfl) ?_ _
     refine hcK _ _ (Met.intro (hcJ _ _ ?_))
     (repeat apply Exists.intro)
     refine ⟨?rel, rfl⟩
     case rel => exact ⟨p6, a5, c5, rfl, Y6, O5, N⟩
   have H3 : ∀ (a1 : Option Addr) (c1 : Nat) (a2 : Option Addr) (c2 : Nat) (a5 : Option Addr) (c5 : Nat) (V : World), Below W1.heap.size W1 V → Own W1.heap.size V a5 c5 us_qx → wpx 2 #[true, true, true, true, true, true, true, true, true, true, false, false] (((fr0.put (some 29) (.agg #[.bool gf_ux, .slice a1 us_ux.length c1])).put (some 32) (.agg #[.bool gf_rx, .slice a2 us_rx.length c2])).put (some 33) (.agg #[.bool gf_qx, .slice a5 us_qx.length c5])) V := by
    as_aux_lemma =>
     intro a1 c1 a2 c2 a5 c5 V N O5
     refine Eq.mpr (hwp _ _ _ _) ?_
     rw [ha0]
     try simp only [Act.put, pA, pB, pC]
     refine rdA (i := 10) (h := fun K hK => ?_)
     ·go_simp
      have Y6 := Box2.new V (lo := W1.heap.size) N.size (.bool false) (.slice none 0 0) 37
      have hb := below1 V (.cells #[.bool false, .slice none 0 0] 37)
      have n_p6 : Hid (some V.heap.size ≠ rowOf a5 us_qx) := row_ne_high O5.toCame (Nat.le_refl _)
      replace O5 := O5.below hb
      replace N := N.trans (hb.mono N.size)
      refine hK.out _ _ N (fun hHeld => ?_)
      clear hK K hHeld
      try simp only [pA, pB, pC]
      clear hb
      refine Eq.mp (hwp _ _ _ _) ?_
      exact met2 (H3_p6 a1 c1 a2 c2 a5 c5 V.heap.size _ N O5 Y6 n_p6) (by kernel_rfl) (by rw [ha0]; simp only [Act.put, pA, pB, pC])
   have H2_p6 : ∀ (a1 : Option Addr) (c1 : Nat) (a2 : Option Addr) (c2 : Nat) (p6 : Nat) (V : World), Below W1.heap.size W1 V → Sees V a2 c2 us_rx → Box2 W1.heap.size V p6 (.bool false) (.slice none 0 0) → wpx 2 #[true, true, true, true, true, true, true, true, true, false, true, false] (((fr0.put (some 29) (.agg #[.bool gf_ux, .slice a1 us_ux.length c1])).put (some 32) (.agg #[.bool gf_rx, .slice a2 us_rx.length c2])).put (some 10) (.pointer (some ⟨p6, 0, none⟩))) V := by
    as_aux_lemma =>
     intro a1 c1 a2 c2 p6 V N S2 Y6
     refine Eq.mpr (hwp _ _ _ _) ?_
     rw [ha0]
     try simp only [Act.put, pA, pB, pC]
     refine rdA (i := 9) (h := fun K hK => ?_)
     ·go_simp
      refine (addS a a2 c c2 _ (Q.s1.below N) S2 HT.out.L1 HT.out.G1 HM_rx.out GF_rx.out HM_qx.out GF_qx.out HB4.out.1 HB4.out.2).mono ?_
      rintro e V1 ⟨a5, c5, rfl, o5, hb⟩
      have n_p6 : Hid (some p6 ≠ rowOf a5 us_qx) := row_ne_low o5 Y6.lt
      have O5 := o5.base_le (base' := W1.heap.size) N.size
      clear o5
      replace S2 := S2.below hb
      replace Y6 := Y6.below hb
      replace N := N.trans (hb.mono N.size)
      refine hK.out _ _ N (fun hHeld => ?_)
      clear hK K hHeld
      try simp only [pA, pB, pC]
      clear hb
      refine Eq.mp (hwp _ _ _ _) ?_
      exact met2 (H3_p6 a1 c1 a2 c2 a5 c5 p6 _ N O5 Y6 n_p6) (by kernel_rfl) (by rw [ha0]; simp only [Act.put, pA, pB, pC])
   have H2 : ∀ (a1 : Option Addr) (c1 : Nat) (a2 : Option Addr) (c2 : Nat) (V : World), Below W1.heap.size W1 V → Sees V a2 c2 us_rx → wpx 3 #[true, true, true, true, true, true, true, true, true, false, false, false] ((fr0.put (some 29) (.agg #[.bool gf_ux, .slice a1 us_ux.length c1])).put (some 32) (.agg #[.bool gf_rx, .slice a2 us_rx.length c2])) V := by
    as_aux_lemma =>
     intro a1 c1 a2 c2 V N S2
     refine Eq.mpr (hwp _ _ _ _) ?_
     rw [ha0]
     try simp only [Act.put, pA, pB, pC]
     refine wpAnyH_ready (rs := [9, 10]) (by kernel_rfl) (by simp) (AllReadyH.cons (gtA rfl) (fun K hK => ?_) (AllReadyH.cons (gtA rfl) (fun K hK => ?_) AllReadyH.nil))
     ·go_simp
      refine (addS a a2 c c2 _ (Q.s1.below N) S2 HT.out.L1 HT.out.G1 HM_rx.out GF_rx.out HM_qx.out GF_qx.out HB4.out.1 HB4.out.2).mono ?_
      rintro e V1 ⟨a5, c5, rfl, o5, hb⟩
      have O5 := o5.base_le (base' := W1.heap.size) N.size
      clear o5
      replace S2 := S2.below hb
      replace N := N.trans (hb.mono N.size)
      refine hK.out _ _ N (fun hHeld => ?_)
      clear hK K hHeld
      try simp only [pA, pB, pC]
      clear hb
      refine Eq.mp (hwp _ _ _ _) ?_
      exact met2 (H3 a1 c1 a2 c2 a5 c5 _ N O5) (by kernel_rfl) (by rw [ha0]; simp only [Act.put, pA, pB, pC])
     ·go_simp
      have Y6 := Box2.new V (lo := W1.heap.size) N.size (.bool false) (.slice none 0 0) 37
      have hb := below1 V (.cells #[.bool false, .slice none 0 0] 37)
      replace S2 := S2.below hb
      replace N := N.trans (hb.mono N.size)
      refine hK.out _ _ N (fun hHeld => ?_)
      clear hK K hHeld
      try simp only [pA, pB, pC]
      clear hb
      refine Eq.mp (hwp _ _ _ _) ?_
      exact met2 (H2_p6 a1 c1 a2 c2 V.heap.size _ N S2 Y6) (by kernel_rfl) (by rw [ha0]; simp only [Act.put, pA, pB, pC])
   have H1_p6 : ∀ (a1 : Option Addr) (c1 : Nat) (p6 : Nat) (V : World), Below W1.heap.size W1 V → Sees V a1 c1 us_ux → Box2 W1.heap.size V p6 (.bool false) (.slice none 0 0) → wpx 3 #[true, true, true, true, true, true, true, true, false, false, true, false] ((fr0.put (some 29) (.agg #[.bool gf_ux, .slice a1 us_ux.length c1])).put (some 10) (.pointer (some ⟨p6, 0, none⟩))) V := by
    as_aux_lemma =>
     intro a1 c1 p6 V N S1 Y6
     refine Eq.mpr (hwp _ _ _ _) ?_
     rw [ha0]
     try simp only [Act.put, pA, pB, pC]
     refine rdA (i := 8) (h := fun K hK => ?_)
     ·go_simp
      refine (mulS a1 b c1 d _ S1 (Q.s2.below N) HM_ux.out GF_ux.out HT.out.L2 HT.out.G2 HM_rx.out GF_rx.out HB2.out).mono ?_
      rintro e V1 ⟨a2, c2, rfl, o2, hb⟩
      have S2 := o2.toSees
      clear o2
      replace S1 := S1.below hb
      replace Y6 := Y6.below hb
      replace N := N.trans (hb.mono N.size)
      refine hK.out _ _ N (fun hHeld => ?_)
      clear hK K hHeld
      try simp only [pA, pB, pC]
      clear hb
      refine Eq.mp (hwp _ _ _ _) ?_
      exact met2 (H2_p6 a1 c1 a2 c2 p6 _ N S2 Y6) (by kernel_rfl) (by rw [ha0]; simp only [Act.put, pA, pB, pC])
   have H1 : ∀ (a1 : Option Addr) (c1 : Nat) (V : World), Below W1.heap.size W1 V → Sees V a1 c1 us_ux → wpx 4 #[true, true, true, true, true, true, true, true, false, false, false, false] (fr0.put (some 29) (.agg #[.bool gf_ux, .slice a1 us_ux.length c1])) V := by
    as_aux_lemma =>
     intro a1 c1 V N S1
     refine Eq.mpr (hwp _ _ _ _) ?_
     rw [ha0]
     try simp only [Act.put, pA, pB, pC]
     refine wpAnyH_ready (rs := [8, 10]) (by kernel_rfl) (by simp) (AllReadyH.cons (gtA rfl) (fun K hK => ?_) (AllReadyH.cons (gtA rfl) (fun K hK => ?_) AllReadyH.nil))
     ·go_simp
      refine (mulS a1 b c1 d _ S1 (Q.s2.below N) HM_ux.out GF_ux.out HT.out.L2 HT.out.G2 HM_rx.out GF_rx.out HB2.out).mono ?_
      rintro e V1 ⟨a2, c2, rfl, o2, hb⟩
      have S2 := o2.toSees
      clear o2
      replace S1 := S1.below hb
      replace N := N.trans (hb.mono N.size)
      refine hK.out _ _ N (fun hHeld => ?_)
      clear hK K hHeld
      try simp only [pA, pB, pC]
      clear hb
      refine Eq.mp (hwp _ _ _ _) ?_
      exact met2 (H2 a1 c1 a2 c2 _ N S2) (by kernel_rfl) (by rw [ha0]; simp only [Act.put, pA, pB, pC])
     ·go_simp
      have Y6 := Box2.new V (lo := W1.heap.size) N.size (.bool false) (.slice none 0 0) 37
      have hb := below1 V (.cells #[.bool false, .slice none 0 0] 37)
      replace S1 := S1.below hb
      replace N := N.trans (hb.mono N.size)
      refine hK.out _ _ N (fun hHeld => ?_)
      clear hK K hHeld
      try simp only [pA, pB, pC]
      clear hb
      refine Eq.mp (hwp _ _ _ _) ?_
      exact met2 (H1_p6 a1 c1 V.heap.size _ N S1 Y6) (by kernel_rfl) (by rw [ha0]; simp only [Act.put, pA, pB, pC])
   have H0_p6 : ∀ (p6 : Nat) (V : World), Below W1.heap.size W1 V → Box2 W1.heap.size V p6 (.bool false) (.slice none 0 0) → wpx 4 #[true, true, true, true, true, false, true, true, false, false, true, false] (fr0.put (some 10) (.pointer (some ⟨p6, 0, none⟩))) V := by
    as_aux_lemma =>
     intro p6 V N Y6
     refine Eq.mpr (hwp _ _ _ _) ?_
     rw [ha0]
     try simp only [Act.put, pA, pB, pC]
     refine rdA (i := 5) (h := fun K hK => ?_)
     ·go_simp
      refine (ofS nx' _ (crd_lo HR.out.2.1) (crd_hi HR.out.2.1) HM_ux.out GF_ux.out).mono ?_
      rintro e V1 ⟨a1, c1, rfl, o1, hb⟩
      have S1 := o1.toSees
      clear o1
      replace Y6 := Y6.below hb
      replace N := N.trans (hb.mono N.size)
      refine hK.out _ _ N (fun hHeld => ?_)
      clear hK K hHeld
      try simp only [pA, pB, pC]
      clear hb
      refine Eq.mp (hwp _ _ _ _) ?_
      exact met2 (H1_p6 a1 c1 p6 _ N S1 Y6) (by kernel_rfl) (by rw [ha0]; simp only [Act.put, pA, pB, pC])
   have H0 : ∀ (V : World), Below W1.heap.size W1 V → wpx 5 #[true, true, true, true, true, false, true, true, false, false, false, false] fr0 V := by
    as_aux_lemma =>
     intro V N
     refine Eq.mpr (hwp _ _ _ _) ?_
     rw [ha0]
     try simp only [Act.put, pA, pB, pC]
     refine wpAnyH_ready (rs := [5, 10]) (by kernel_rfl) (by simp) (AllReadyH.cons (gtA rfl) (fun K hK => ?_) (AllReadyH.cons (gtA rfl) (fun K hK => ?_) AllReadyH.nil))
     ·go_simp
      refine (ofS nx' _ (crd_lo HR.out.2.1) (crd_hi HR.out.2.1) HM_ux.out GF_ux.out).mono ?_
      rintro e V1 ⟨a1, c1, rfl, o1, hb⟩
      have S1 := o1.toSees
      clear o1
      replace N := N.trans (hb.mono N.size)
      refine hK.out _ _ N (fun hHeld => ?_)
      clear hK K hHeld
      try simp only [pA, pB, pC]
      clear hb
      refine Eq.mp (hwp _ _ _ _) ?_
      exact met2 (H1 a1 c1 _ N S1) (by kernel_rfl) (by rw [ha0]; simp only [Act.put, pA, pB, pC])
     ·go_simp
      have Y6 := Box2.new V (lo := W1.heap.size) N.size (.bool false) (.slice none 0 0) 37
      have hb := below1 V (.cells #[.bool false, .slice none 0 0] 37)
      replace N := N.trans (hb.mono N.size)
      refine hK.out _ _ N (fun hHeld => ?_)
      clear hK K hHeld
      try simp only [pA, pB, pC]
      clear hb
      refine Eq.mp (hwp _ _ _ _) ?_
      exact met2 (H0_p6 V.heap.size _ N Y6) (by kernel_rfl) (by rw [ha0]; simp only [Act.put, pA, pB, pC])
   intro ww0 N
   exact met2 (H0 ww0 N) (by kernel_rfl) rfl
 rename World => W2
 obtain ⟨p10, a10, c10, rfl, Y10, O10, hb⟩ := hcut
 have S10 := O10.toSees
 replace V1 := V1.below hb
 replace V2 := V2.below hb
 replace V3 := V3.below hb
 replace V4 := V4.below hb
 replace Q := Q.below hb
 replace Y9 := Y9.below hb
 replace S9 := S9.below hb
 replace B := B.trans (hb.mono B.size)
 clear hb O10
 go_upto_region 3 with fail
 go_cut [11] (fun s11 W => ∃ (p : Nat) (a5 : Option Addr) (c5 : Nat), s11 = .pointer (some ⟨p, 0, none⟩) ∧ Box2 W2.heap.size W p (.bool gf_zp) (.slice a5 us_zp.length c5) ∧ Own W2.heap.size W a5 c5 us_zp ∧ Below W2.heap.size W2 W)
 case first =>
  as_aux_lemma =>
   rename_i hcJ hcK
   have N : Below W2.heap.size W2 W2.drew := (Below.refl _ _).drew
   refine wp_region_held_drew (S := fun w' => Below W2.heap.size W2 w') (by kernel_rfl) N (fun hHeld => ?_)
   clear hHeld
   generalize W2.drew = ww0 at *
   refine takeA (i := 0) (h := ?_)
   refine takeA (i := 1) (hy := by intro wq hSw; have y0 := bat hSw V1.c0; have y1 := bat hSw V1.c1; have y2 := bat hSw V2.c0; have y3 := bat hSw V2.c1; have z0 := bat hSw V3.c0; have v0 := bat hSw V4.c0; have z1 := bat hSw V3.c1; have v1 := bat hSw V4.c1; have z2 := bat hSw V3.c2; have v2 := bat hSw V4.c2; have z3 := bat hSw V3.c3; have v3 := bat hSw V4.c3; have t0 := bat hSw Y9.c0; have t1 := bat hSw Y9.c1; go_simp <;> with_reducible rfl) (h := ?_)
   refine takeA (i := 2) (h := ?_)
   refine takeA (i := 3) (hy := by intro wq hSw; have y0 := bat hSw V1.c0; have y1 := bat hSw V1.c1; have y2 := bat hSw V2.c0; have y3 := bat hSw V2.c1; have z0 := bat hSw V3.c0; have v0 := bat hSw V4.c0; have z1 := bat hSw V3.c1; have v1 := bat hSw V4.c1; have z2 := bat hSw V3.c2; have v2 := bat hSw V4.c2; have z3 := bat hSw V3.c3; have v3 := bat hSw V4.c3; have t0 := bat hSw Y9.c0; have t1 := bat hSw Y9.c1; go_simp <;> with_reducible rfl) (h := ?_)
   refine takeA (i := 4) (h := ?_)
   refine takeA (i := 6) (hy := by intro wq hSw; have y0 := bat hSw V1.c0; have y1 := bat hSw V1.c1; have y2 := bat hSw V2.c0; have y3 := bat hSw V2.c1; have z0 := bat hSw V3.c0; have v0 := bat hSw V4.c0; have z1 := bat hSw V3.c1; have v1 := bat hSw V4.c1; have z2 := bat hSw V3.c2; have v2 := bat hSw V4.c2; have z3 := bat hSw V3.c3; have v3 := bat hSw V4.c3; have t0 := bat hSw Y9.c0; have t1 := bat hSw Y9.c1; go_simp <;> with_reducible rfl) (h := ?_)
   refine takeA (i := 8) (h := ?_)
   refine takeA (i := 9) (hy := by intro wq hSw; have y0 := bat hSw V1.c0; have y1 := bat hSw V1.c1; have y2 := bat hSw V2.c0; have y3 := bat hSw V2.c1; have z0 := bat hSw V3.c0; have v0 := bat hSw V4.c0; have z1 := bat hSw V3.c1; have v1 := bat hSw V4.c1; have z2 := bat hSw V3.c2; have v2 := bat hSw V4.c2; have z3 := bat hSw V3.c3; have v3 := bat hSw V4.c3; have t0 := bat hSw Y9.c0; have t1 := bat hSw Y9.c1; go_simp <;> with_reducible rfl) (h := ?_)
   refine capture2 (fun wpx fr0 ha0 hwp => ?_)
   revert N
   revert ww0
   have H3_p6 : ∀ (a1 : Option Addr) (c1 : Nat) (a2 : Option Addr) (c2 : Nat) (a5 : Option Addr) (c5 : Nat) (p6 : Nat) (V : World), Below W2.heap.size W2 V → Own W2.heap.size V a5 c5 us_zp → Box2 W2.heap.size V p6 (.bool false) (.slice none 0 0) → Hid (some p6 ≠ rowOf a5 us_zp) → wpx 1 #[true, true, true, true, true, true, true, true, true, true, true, true, false] ((((fr0.put (some 39) (.agg #[.bool gf_vx, .slice a1 us_vx.length c1])).put (some 41) (.agg #[.bool gf_ty, .slice a2 us_ty.length c2])).put (some 44) (.agg #[.bool gf_zp, .slice a5 us_zp.length c5])).put (some 11) (.pointer (some ⟨p6, 0, none⟩))) V := by
    as_aux_lemma =>
     intro a1 c1 a2 c2 a5 c5 p6 V N O5 Y6 n_p6
     refine Eq.mpr (hwp _ _ _ _) ?_
     rw [ha0]
     try simp only [Act.put, pA, pB, pC]
     refine rdA (i := 12) (h := fun K hK => ?_)
     have q0 := Y6.c0
     have q1 := Y6.c1
     have qf := Y6.fr
     go_simp
     replace N := Box2.chain N Y6 (.bool gf_zp) (.slice a5 us_zp.length c5)
     replace O5 := O5.put2 n_p6.out (.bool gf_zp) (.slice a5 us_zp.length c5)
     replace Y6 := Y6.put (.bool gf_zp) (.slice a5 us_zp.length c5)
     refine hK.out _ _ N (fun hHeld => ?_)
     clear hK K hHeld
     try simp only [pA, pB, pC]
     clear q0 q1 qf
     generalize ((V.setCell ⟨p6, 0, none⟩ (.bool gf_zp)).setCell ⟨p6, 1, none⟩ (.slice a5 us_zp.length c5)) = Vs0 at *
     refine wpAnyH_done (by kernel_rfl) ?_ _
     refine hcK _ _ (Met.intro (hcJ _ _ ?_))
     (repeat apply Exists.intro)
     refine ⟨?rel, rfl⟩
     case rel => exact ⟨p6, a5, c5, rfl, Y6, O5, N⟩
   have H3 : ∀ (a1 : Option Addr) (c1 : Nat) (a2 : Option Addr) (c2 : Nat) (a5 : Option Addr) (c5 : Nat) (V : World), Below W2.heap.size W2 V → Own W2.heap.size V a5 c5 us_zp → wpx 2 #[true, true, true, true, true, true, true, true, true, true, true, false, false] (((fr0.put (some 39) (.agg #[.bool gf_vx, .slice a1 us_vx.length c1])).put (some 41) (.agg #[.bool gf_ty, .slice a2 us_ty.length c2])).put (some 44) (.agg #[.bool gf_zp, .slice a5 us_zp.length c5])) V := by
    as_aux_lemma =>
     intro a1 c1 a2 c2 a5 c5 V N O5
     refine Eq.mpr (hwp _ _ _ _) ?_
     rw [ha0]
     try simp only [Act.put, pA, pB, pC]
     refine rdA (i := 11) (h := fun K hK => ?_)
     ·go_simp
      have Y6 := Box2.new V (lo := W2.heap.size) N.size (.bool false) (.slice none 0 0) 37
      have hb := below1 V (.cells #[.bool false, .slice none 0 0] 37)
      have n_p6 : Hid (some V.heap.size ≠ rowOf a5 us_zp) := row_ne_high O5.toCame (Nat.le_refl _)
      replace O5 := O5.below hb
      replace N := N.trans (hb.mono N.size)
      refine hK.out _ _ N (fun hHeld => ?_)
      clear hK K hHeld
      try simp only [pA, pB, pC]
      clear hb
      refine Eq.mp (hwp _ _ _ _) ?_
      exact met2 (H3_p6 a1 c1 a2 c2 a5 c5 V.heap.size _ N O5 Y6 n_p6) (by kernel_rfl) (by rw [ha0]; simp only [Act.put, pA, pB, pC])
   have H2_p6 : ∀ (a1 : Option Addr) (c1 : Nat) (a2 : Option Addr) (c2 : Nat) (p6 : Nat) (V : World), Below W2.heap.size W2 V → Sees V a2 c2 us_ty → Box2 W2.heap.size V p6 (.bool false) (.slice none 0 0) → wpx 2 #[true, true, true, true, true, true, true, true, true, true, false, true, false] (((fr0.put (some 39) (.agg #[.bool gf_vx, .slice a1 us_vx.length c1])).put (some 41) (.agg #[.bool gf_ty, .slice a2 us_ty.length c2])).put (some 11) (.pointer (some ⟨p6, 0, none⟩))) V := by
    as_aux_lemma =>
     intro a1 c1 a2 c2 p6 V N S2 Y6
     refine Eq.mpr (hwp _ _ _ _) ?_
     rw [ha0]
     try simp only [Act.put, pA, pB, pC]
     refine rdA (i := 10) (h := fun K hK => ?_)
     ·go_simp
      refine (mulS a2 b c2 d _ S2 (Q.s2.below N) HM_ty.out GF_ty.out HT.out.L2 HT.out.G2 HM_zp.out GF_zp.out HB7.out).mono ?_
      rintro e V1 ⟨a5, c5, rfl, o5, hb⟩
      have n_p6 : Hid (some p6 ≠ rowOf a5 us_zp) := row_ne_low o5 Y6.lt
      have O5 := o5.base_le (base' := W2.heap.size) N.size
      clear o5
      replace S2 := S2.below hb
      replace Y6 := Y6.below hb
      replace N := N.trans (hb.mono N.size)
      refine hK.out _ _ N (fun hHeld => ?_)
      clear hK K hHeld
      try simp only [pA, pB, pC]
      clear hb
      refine Eq.mp (hwp _ _ _ _) ?_
      exact met2 (H3_p6 a1 c1 a2 c2 a5 c5 p6 _ N O5 Y6 n_p6) (by kernel_rfl) (by rw [ha0]; simp only [Act.put, pA, pB, pC])
   have H2 : ∀ (a1 : Option Addr) (c1 : Nat) (a2 : Option Addr) (c2 : Nat) (V : World), Below W2.heap.size W2 V → Sees V a2 c2 us_ty → wpx 3 #[true, true, true, true, true, true, true, true, true, true, false, false, false] ((fr0.put (some 39) (.agg #[.bool gf_vx, .slice a1 us_vx.length c1])).put (some 41) (.agg #[.bool gf_ty, .slice a2 us_ty.length c2])) V := by
    as_aux_lemma =>
     intro a1 c1 a2 c2 V N S2
     refine Eq.mpr (hwp _ _ _ _) ?_
     rw [ha0]
     try simp only [Act.put, pA, pB, pC]
     refine wpAnyH_ready (rs := [10, 11]) (by kernel_rfl) (by simp) (AllReadyH.cons (gtA rfl) (fun K hK => ?_) (AllReadyH.cons (gtA rfl) (fun K hK => ?_) AllReadyH.nil))
     ·go_simp
      refine (mulS a2 b c2 d _ S2 (Q.s2.below N) HM_ty.out GF_ty.out HT.out.L2 HT.out.G2 HM_zp.out GF_zp.out HB7.out).mono ?_
      rintro e V1 ⟨a5, c5, rfl, o5, hb⟩
      have O5 := o5.base_le (base' := W2.heap.size) N.size
      clear o5
      replace S2 := S2.below hb
      replace N := N.trans (hb.mono N.size)
      refine hK.out _ _ N (fun hHeld => ?_)
      clear hK K hHeld
      try simp only [pA, pB, pC]
      clear hb
      refine Eq.mp (hwp _ _ _ _) ?_
      exact met2 (H3 a1 c1 a2 c2 a5 c5 _ N O5) (by kernel_rfl) (by rw [ha0]; simp only [Act.put, pA, pB, pC])
     ·go_simp
      have Y6 := Box2.new V (lo := W2.heap.size) N.size (.bool false) (.slice none 0 0) 37
      have hb := below1 V (.cells #[.bool false, .slice none 0 0] 37)
      replace S2 := S2.below hb
      replace N := N.trans (hb.mono N.size)
      refine hK.out _ _ N (fun hHeld => ?_)
      clear hK K hHeld
      try simp only [pA, pB, pC]
      clear hb
      refine Eq.mp (hwp _ _ _ _) ?_
      exact met2 (H2_p6 a1 c1 a2 c2 V.heap.size _ N S2 Y6) (by kernel_rfl) (by rw [ha0]; simp only [Act.put, pA, pB, pC])
   have H1_p6 : ∀ (a1 : Option Addr) (c1 : Nat) (p6 : Nat) (V : World), Below W2.heap.size W2 V → Sees V a1 c1 us_vx → Box2 W2.heap.size V p6 (.bool false) (.slice none 0 0) → wpx 3 #[true, true, true, true, true, true, true, false, true, true, false, true, false] ((fr0.put (some 39) (.agg #[.bool gf_vx, .slice a1 us_vx.length c1])).put (some 11) (.pointer (some ⟨p6, 0, none⟩))) V := by
    as_aux_lemma =>
     intro a1 c1 p6 V N S1 Y6
     refine Eq.mpr (hwp _ _ _ _) ?_
     rw [ha0]
     try simp only [Act.put, pA, pB, pC]
     refine rdA (i := 7) (h := fun K hK => ?_)
     ·go_simp
      refine (mulS a1 a9 c1 c9 _ S1 (S9.below N) HM_vx.out GF_vx.out HM_qy.out GF_qy.out HM_ty.out GF_ty.out HB5.out).mono ?_
      rintro e V1 ⟨a2, c2, rfl, o2, hb⟩
      have S2 := o2.toSees
      clear o2
      replace S1 := S1.below hb
      replace Y6 := Y6.below hb
      replace N := N.trans (hb.mono N.size)
      refine hK.out _ _ N (fun hHeld => ?_)
      clear hK K hHeld
      try simp only [pA, pB, pC]
      clear hb
      refine Eq.mp (hwp _ _ _ _) ?_
      exact met2 (H2_p6 a1 c1 a2 c2 p6 _ N S2 Y6) (by kernel_rfl) (by rw [ha0]; simp only [Act.put, pA, pB, pC])
   have H1 : ∀ (a1 : Option Addr) (c1 : Nat) (V : World), Below W2.heap.size W2 V → Sees V a1 c1 us_vx → wpx 4 #[true, true, true, true, true, true, true, false, true, true, false, false, false] (fr0.put (some 39) (.agg #[.bool gf_vx, .slice a1 us_vx.length c1])) V := by
    as_aux_lemma =>
     intro a1 c1 V N S1
     refine Eq.mpr (hwp _ _ _ _) ?_
     rw [ha0]
     try simp only [Act.put, pA, pB, pC]
     refine wpAnyH_ready (rs := [7, 11]) (by kernel_rfl) (by simp) (AllReadyH.cons (gtA rfl) (fun K hK => ?_) (AllReadyH.cons (gtA rfl) (fun K hK => ?_) AllReadyH.nil))
     ·go_simp
      refine (mulS a1 a9 c1 c9 _ S1 (S9.below N) HM_vx.out GF_vx.out HM_qy.out GF_qy.out HM_ty.out GF_ty.out HB5.out).mono ?_
      rintro e V1 ⟨a2, c2, rfl, o2, hb⟩
      have S2 := o2.toSees
      clear o2
      replace S1 := S1.below hb
      replace N := N.trans (hb.mono N.size)
      refine hK.out _ _ N (fun hHeld => ?_)
      clear hK K hHeld
      try simp only [pA, pB, pC]
      clear hb
      refine Eq.mp (hwp _ _ _ _) ?_
      exact met2 (H2 a1 c1 a2 c2 _ N S2) (by kernel_rfl) (by rw [ha0]; simp only [Act.put, pA, pB, pC])
     ·go_simp
      have Y6 := Box2.new V (lo := W2.heap.size) N.size (.bool false) (.slice none 0 0) 37
      have hb := below1 V (.cells #[.bool false, .slice none 0 0] 37)
      replace S1 := S1.below hb
      replace N := N.trans (hb.mono N.size)
      refine hK.out _ _ N (fun hHeld => ?_)
      clear hK K hHeld
      try simp only [pA, pB, pC]
      clear hb
      refine Eq.mp (hwp _ _ _ _) ?_
      exact met2 (H1_p6 a1 c1 V.heap.size _ N S1 Y6) (by kernel_rfl) (by rw [ha0]; simp only [Act.put, pA, pB, pC])
   have H0_p6 : ∀ (p6 : Nat) (V : World), Below W2.heap.size W2 V → Box2 W2.heap.size V p6 (.bool false) (.slice none 0 0) → wpx 4 #[true, true, true, true, true, false, true, false, true, true, false, true, false] (fr0.put (some 11) (.pointer (some ⟨p6, 0, none⟩))) V := by
    as_aux_lemma =>
     intro p6 V N Y6
     refine Eq.mpr (hwp _ _ _ _) ?_
     rw [ha0]
     try simp only [Act.put, pA, pB, pC]
     refine rdA (i := 5) (h := fun K hK => ?_)
     ·go_simp
      refine (ofS dx _ HR.out.1.1.1 HR.out.1.1.2 HM_vx.out GF_vx.out).mono ?_
      rintro e V1 ⟨a1, c1, rfl, o1, hb⟩
      have S1 := o1.toSees
      clear o1
      replace Y6 := Y6.below hb
      replace N := N.trans (hb.mono N.size)
      refine hK.out _ _ N (fun hHeld => ?_)
      clear hK K hHeld
      try simp only [pA, pB, pC]
      clear hb
      refine Eq.mp (hwp _ _ _ _) ?_
      exact met2 (H1_p6 a1 c1 p6 _ N S1 Y6) (by kernel_rfl) (by rw [ha0]; simp only [Act.put, pA, pB, pC])
   have H0 : ∀ (V : World), Below W2.heap.size W2 V → wpx 5 #[true, true, true, true, true, false, true, false, true, true, false, false, false] fr0 V := by
    as_aux_lemma =>
     intro V N
     refine Eq.mpr (hwp _ _ _ _) ?_
     rw [ha0]
     try simp only [Act.put, pA, pB, pC]
     refine wpAnyH_ready (rs := [5, 11]) (by kernel_rfl) (by simp) (AllReadyH.cons (gtA rfl) (fun K hK => ?_) (AllReadyH.cons (gtA rfl) (fun K hK => ?_) AllReadyH.nil))
     ·go_simp
      refine (ofS dx _ HR.out.1.1.1 HR.out.1.1.2 HM_vx.out GF_vx.out).mono ?_
      rintro e V1 ⟨a1, c1, rfl, o1, hb⟩
      have S1 := o1.toSees
      clear o1
      replace N := N.trans (hb.mono N.size)
      refine hK.out _ _ N (fun hHeld => ?_)
      clear hK K hHeld
      try simp only [pA, pB, pC]
      clear hb
      refine Eq.mp (hwp _ _ _ _) ?_
      exact met2 (H1 a1 c1 _ N S1) (by kernel_rfl) (by rw [ha0]; simp only [Act.put, pA, pB, pC])
     ·go_simp
      have Y6 := Box2.new V (lo := W2.heap.size) N.size (.bool false) (.slice none 0 0) 37
      have hb := below1 V (.cells #[.bool false, .slice none 0 0] 37)
      replace N := N.trans (hb.mono N.size)
      refine hK.out _ _ N (fun hHeld => ?_)
      clear hK K hHeld
      try simp only [pA, pB, pC]
      clear hb
      refine Eq.mp (hwp _ _ _ _) ?_
      exact met2 (H0_p6 V.heap.size _ N Y6) (by kernel_rfl) (by rw [ha0]; simp only [Act.put, pA, pB, pC])
   intro ww0 N
   exact met2 (H0 ww0 N) (by kernel_rfl) rfl
 rename World => W3
 obtain ⟨p11, a11, c11, rfl, Y11, O11, hb⟩ := hcut
 have S11 := O11.toSees
 replace V1 := V1.below hb
 replace V2 := V2.below hb
 replace V3 := V3.below hb
 replace V4 := V4.below hb
 replace Q := Q.below hb
 replace Y10 := Y10.below hb
 replace S10 := S10.below hb
 replace B := B.trans (hb.mono B.size)
 clear hb O11 Y9 S9
 go_upto_region 4 with fail
 go_cut [12] (fun s12 W => ∃ (p : Nat) (a5 : Option Addr) (c5 : Nat), s12 = .pointer (some ⟨p, 0, none⟩) ∧ Box2 W3.heap.size W p (.bool gf_zq) (.slice a5 us_zq.length c5) ∧ Own W3.heap.size W a5 c5 us_zq ∧ Below W3.heap.size W3 W)
 case first =>
  as_aux_lemma =>
   rename_i hcJ hcK
   have N : Below W3.heap.size W3 W3.drew := (Below.refl _ _).drew
   refine wp_region_held_drew (S := fun w' => Below W3.heap.size W3 w') (by kernel_rfl) N (fun hHeld => ?_)
   clear hHeld
   generalize W3.drew = ww0 at *
   refine takeA (i := 0) (h := ?_)
   refine takeA (i := 1) (hy := by intro wq hSw; have y0 := bat hSw V1.c0; have y1 := bat hSw V1.c1; have y2 := bat hSw V2.c0; have y3 := bat hSw V2.c1; have z0 := bat hSw V3.c0; have v0 := bat hSw V4.c0; have z1 := bat hSw V3.c1; have v1 := bat hSw V4.c1; have z2 := bat hSw V3.c2; have v2 := bat hSw V4.c2; have z3 := bat hSw V3.c3; have v3 := bat hSw V4.c3; have t0 := bat hSw Y10.c0; have t1 := bat hSw Y10.c1; go_simp <;> with_reducible rfl) (h := ?_)
   refine takeA (i := 2) (h := ?_)
   refine takeA (i := 3) (hy := by intro wq hSw; have y0 := bat hSw V1.c0; have y1 := bat hSw V1.c1; have y2 := bat hSw V2.c0; have y3 := bat hSw V2.c1; have z0 := bat hSw V3.c0; have v0 := bat hSw V4.c0; have z1 := bat hSw V3.c1; have v1 := bat hSw V4.c1; have z2 := bat hSw V3.c2; have v2 := bat hSw V4.c2; have z3 := bat hSw V3.c3; have v3 := bat hSw V4.c3; have t0 := bat hSw Y10.c0; have t1 := bat hSw Y10.c1; go_simp <;> with_reducible rfl) (h := ?_)
   refine takeA (i := 4) (h := ?_)
   refine takeA (i := 6) (hy := by intro wq hSw; have y0 := bat hSw V1.c0; have y1 := bat hSw V1.c1; have y2 := bat hSw V2.c0; have y3 := bat hSw V2.c1; have z0 := bat hSw V3.c0; have v0 := bat hSw V4.c0; have z1 := bat hSw V3.c1; have v1 := bat hSw V4.c1; have z2 := bat hSw V3.c2; have v2 := bat hSw V4.c2; have z3 := bat hSw V3.c3; have v3 := bat hSw V4.c3; have t0 := bat hSw Y10.c0; have t1 := bat hSw Y10.c1; go_simp <;> with_reducible rfl) (h := ?_)
   refine takeA (i := 8) (h := ?_)
   refine takeA (i := 9) (hy := by intro wq hSw; have y0 := bat hSw V1.c0; have y1 := bat hSw V1.c1; have y2 := bat hSw V2.c0; have y3 := bat hSw V2.c1; have z0 := bat hSw V3.c0; have v0 := bat hSw V4.c0; have z1 := bat hSw V3.c1; have v1 := bat hSw V4.c1; have z2 := bat hSw V3.c2; have v2 := bat hSw V4.c2; have z3 := bat hSw V3.c3; have v3 := bat hSw V4.c3; have t0 := bat hSw Y10.c0; have t1 := bat hSw Y10.c1; go_simp <;> with_reducible rfl) (h := ?_)
   refine capture2 (fun wpx fr0 ha0 hwp => ?_)
   revert N
   revert ww0
   have H3_p6 : ∀ (a1 : Option Addr) (c1 : Nat) (a2 : Option Addr) (c2 : Nat) (a5 : Option Addr) (c5 : Nat) (p6 : Nat) (V : World), Below W3.heap.size W3 V → Own W3.heap.size V a5 c5 us_zq → Box2 W3.heap.size V p6 (.bool false) (.slice none 0 0) → Hid (some p6 ≠ rowOf a5 us_zq) → wpx 1 #[true, true, true, true, true, true, true, true, true, true, true, true, false] ((((fr0.put (some 50) (.agg #[.bool gf_vy, .slice a1 us_vy.length c1])).put (some 52) (.agg #[.bool gf_tx, .slice a2 us_tx.length c2])).put (some 55) (.agg #[.bool gf_zq, .slice a5 us_zq.length c5])).put (some 12) (.pointer (some ⟨p6, 0, none⟩))) V := by
    as_aux_lemma =>
     intro a1 c1 a2 c2 a5 c5 p6 V N O5 Y6 n_p6
     refine Eq.mpr (hwp _ _ _ _) ?_
     rw [ha0]
     try simp only [Act.put, pA, pB, pC]
     refine rdA (i := 12) (h := fun K hK => ?_)
     have q0 := Y6.c0
     have q1 := Y6.c1
     have qf := Y6.fr
     go_simp
     replace N := Box2.chain N Y6 (.bool gf_zq) (.slice a5 us_zq.length c5)
     replace O5 := O5.put2 n_p6.out (.bool gf_zq) (.slice a5 us_zq.length c5)
     replace Y6 := Y6.put (.bool gf_zq) (.slice a5 us_zq.length c5)
     refine hK.out _ _ N (fun hHeld => ?_)
     clear hK K hHeld
     try simp only [pA, pB, pC]
     clear q0 q1 qf
     generalize ((V.setCell ⟨p6, 0, none⟩ (.bool gf_zq)).setCell ⟨p6, 1, none⟩ (.slice a5 us_zq.length c5)) = Vs0 at *
     refine wpAnyH_done (by kernel_rfl) ?_ _
     refine hcK _ _ (Met.intro (hcJ _ _ ?_))
     (repeat apply Exists.intro)
     refine ⟨?rel, rfl⟩
     case rel => exact ⟨p6, a5, c5, rfl, Y6, O5, N⟩
   have H3 : ∀ (a1 : Option Addr) (c1 : Nat) (a2 : Option Addr) (c2 : Nat) (a5 : Option Addr) (c5 : Nat) (V : World), Below W3.heap.size W3 V → Own W3.heap.size V a5 c5 us_zq → wpx 2 #[true, true, true, true, true, true, true, true, true, true, true, false, false] (((fr0.put (some 50) (.agg #[.bool gf_vy, .slice a1 us_vy.length c1])).put (some 52) (.agg #[.bool gf_tx, .slice a2 us_tx.length c2])).put (some 55) (.agg #[.bool gf_zq, .slice a5 us_zq.length c5])) V := by
    as_aux_lemma =>
     intro a1 c1 a2 c2 a5 c5 V N O5
     refine Eq.mpr (hwp _ _ _ _) ?_
     rw [ha0]
     try simp only [Act.put, pA, pB, pC]
     refine rdA (i := 11) (h := fun K hK => ?_)
     ·go_simp
      have Y6 := Box2.new V (lo := W3.heap.size) N.size (.bool false) (.slice none 0 0) 37
      have hb := below1 V (.cells #[.bool false, .slice none 0 0] 37)
      have n_p6 : Hid (some V.heap.size ≠ rowOf a5 us_zq) := row_ne_high O5.toCame (Nat.le_refl _)
      replace O5 := O5.below hb
      replace N := N.trans (hb.mono N.size)
      refine hK.out _ _ N (fun hHeld => ?_)
      clear hK K hHeld
      try simp only [pA, pB, pC]
      clear hb
      refine Eq.mp (hwp _ _ _ _) ?_
      exact met2 (H3_p6 a1 c1 a2 c2 a5 c5 V.heap.size _ N O5 Y6 n_p6) (by kernel_rfl) (by rw [ha0]; simp only [Act.put, pA, pB, pC])
   have H2_p6 : ∀ (a1 : Option Addr) (c1 : Nat) (a2 : Option Addr) (c2 : Nat) (p6 : Nat) (V : World), Below W3.heap.size W3 V → Sees V a2 c2 us_tx → Box2 W3.heap.size V p6 (.bool false) (.slice none 0 0) → wpx 2 #[true, true, true, true, true, true, true, true, true, true, false, true, false] (((fr0.put (some 50) (.agg #[.bool gf_vy, .slice a1 us_vy.length c1])).put (some 52) (.agg #[.bool gf_tx, .slice a2 us_tx.length c2])).put (some 12) (.pointer (some ⟨p6, 0, none⟩))) V := by
    as_aux_lemma =>
     intro a1 c1 a2 c2 p6 V N S2 Y6
     refine Eq.mpr (hwp _ _ _ _) ?_
     rw [ha0]
     try simp only [Act.put, pA, pB, pC]
     refine rdA (i := 10) (h := fun K hK => ?_)
     ·go_simp
      refine (mulS a2 b' c2 d' _ S2 (Q.s4.below N) HM_tx.out GF_tx.out HT.out.L4 HT.out.G4 HM_zq.out GF_zq.out HB8.out).mono ?_
      rintro e V1 ⟨a5, c5, rfl, o5, hb⟩
      have n_p6 : Hid (some p6 ≠ rowOf a5 us_zq) := row_ne_low o5 Y6.lt
      have O5 := o5.base_le (base' := W3.heap.size) N.size
      clear o5
      replace S2 := S2.below hb
      replace Y6 := Y6.below hb
      replace N := N.trans (hb.mono N.size)
      refine hK.out _ _ N (fun hHeld => ?_)
      clear hK K hHeld
      try simp only [pA, pB, pC]
      clear hb
      refine Eq.mp (hwp _ _ _ _) ?_
      exact met2 (H3_p6 a1 c1 a2 c2 a5 c5 p6 _ N O5 Y6 n_p6) (by kernel_rfl) (by rw [ha0]; simp only [Act.put, pA, pB, pC])
   have H2 : ∀ (a1 : Option Addr) (c1 : Nat) (a2 : Option Addr) (c2 : Nat) (V : World), Below W3.heap.size W3 V → Sees V a2 c2 us_tx → wpx 3 #[true, true, true, true, true, true, true, true, true, true, false, false, false] ((fr0.put (some 50) (.agg #[.bool gf_vy, .slice a1 us_vy.length c1])).put (some 52) (.agg #[.bool gf_tx, .slice a2 us_tx.length c2])) V := by
    as_aux_lemma =>
     intro a1 c1 a2 c2 V N S2
     refine Eq.mpr (hwp _ _ _ _) ?_
     rw [ha0]
     try simp only [Act.put, pA, pB, pC]
     refine wpAnyH_ready (rs := [10, 11]) (by kernel_rfl) (by simp) (AllReadyH.cons (gtA rfl) (fun K hK => ?_) (AllReadyH.cons (gtA rfl) (fun K hK => ?_) AllReadyH.nil))
     ·go_simp
      refine (mulS a2 b' c2 d' _ S2 (Q.s4.below N) HM_tx.out GF_tx.out HT.out.L4 HT.out.G4 HM_zq.out GF_zq.out HB8.out).mono ?_
      rintro e V1 ⟨a5, c5, rfl, o5, hb⟩
      have O5 := o5.base_le (base' := W3.heap.size) N.size
      clear o5
      replace S2 := S2.below hb
      replace N := N.trans (hb.mono N.size)
      refine hK.out _ _ N (fun hHeld => ?_)
      clear hK K hHeld
      try simp only [pA, pB, pC]
      clear hb
      refine Eq.mp (hwp _ _ _ _) ?_
      exact met2 (H3 a1 c1 a2 c2 a5 c5 _ N O5) (by kernel_rfl) (by rw [ha0]; simp only [Act.put, pA, pB, pC])
     ·go_simp
      have Y6 := Box2.new V (lo := W3.heap.size) N.size (.bool false) (.slice none 0 0) 37
      have hb := below1 V (.cells #[.bool false, .slice none 0 0] 37)
      replace S2 := S2.below hb
      replace N := N.trans (hb.mono N.size)
      refine hK.out _ _ N (fun hHeld => ?_)
      clear hK K hHeld
      try simp only [pA, pB, pC]
      clear hb
      refine Eq.mp (hwp _ _ _ _) ?_
      exact met2 (H2_p6 a1 c1 a2 c2 V.heap.size _ N S2 Y6) (by kernel_rfl) (by rw [ha0]; simp only [Act.put, pA, pB, pC])
   have H1_p6 : ∀ (a1 : Option Addr) (c1 : Nat) (p6 : Nat) (V : World), Below W3.heap.size W3 V → Sees V a1 c1 us_vy → Box2 W3.heap.size V p6 (.bool false) (.slice none 0 0) → wpx 3 #[true, true, true, true, true, true, true, false, true, true, false, true, false] ((fr0.put (some 50) (.agg #[.bool gf_vy, .slice a1 us_vy.length c1])).put (some 12) (.pointer (some ⟨p6, 0, none⟩))) V := by
    as_aux_lemma =>
     intro a1 c1 p6 V N S1 Y6
     refine Eq.mpr (hwp _ _ _ _) ?_
     rw [ha0]
     try simp only [Act.put, pA, pB, pC]
     refine rdA (i := 7) (h := fun K hK => ?_)
     ·go_simp
      refine (mulS a1 a10 c1 c10 _ S1 (S10.below N) HM_vy.out GF_vy.out HM_qx.out GF_qx.out HM_tx.out GF_tx.out HB6.out).mono ?_
      rintro e V1 ⟨a2, c2, rfl, o2, hb⟩
      have S2 := o2.toSees
      clear o2
      replace S1 := S1.below hb
      replace Y6 := Y6.below hb
      replace N := N.trans (hb.mono N.size)
      refine hK.out _ _ N (fun hHeld => ?_)
      clear hK K hHeld
      try simp only [pA, pB, pC]
      clear hb
      refine Eq.mp (hwp _ _ _ _) ?_
      exact met2 (H2_p6 a1 c1 a2 c2 p6 _ N S2 Y6) (by kernel_rfl) (by rw [ha0]; simp only [Act.put, pA, pB, pC])
   have H1 : ∀ (a1 : Option Addr) (c1 : Nat) (V : World), Below W3.heap.size W3 V → Sees V a1 c1 us_vy → wpx 4 #[true, true, true, true, true, true, true, false, true, true, false, false, false] (fr0.put (some 50) (.agg #[.bool gf_vy, .slice a1 us_vy.length c1])) V := by
    as_aux_lemma =>
     intro a1 c1 V N S1
     refine Eq.mpr (hwp _ _ _ _) ?_
     rw [ha0]
     try simp only [Act.put, pA, pB, pC]
     refine wpAnyH_ready (rs := [7, 11]) (by kernel_rfl) (by simp) (AllReadyH.cons (gtA rfl) (fun K hK => ?_) (AllReadyH.cons (gtA rfl) (fun K hK => ?_) AllReadyH.nil))
     ·go_simp
      refine (mulS a1 a10 c1 c10 _ S1 (S10.below N) HM_vy.out GF_vy.out HM_qx.out GF_qx.out HM_tx.out GF_tx.out HB6.out).mono ?_
      rintro e V1 ⟨a2, c2, rfl, o2, hb⟩
      have S2 := o2.toSees
      clear o2
      replace S1 := S1.below hb
      replace N := N.trans (hb.mono N.size)
      refine hK.out _ _ N (fun hHeld => ?_)
      clear hK K hHeld
      try simp only [pA, pB, pC]
      clear hb
      refine Eq.mp (hwp _ _ _ _) ?_
      exact met2 (H2 a1 c1 a2 c2 _ N S2) (by kernel_rfl) (by rw [ha0]; simp only [Act.put, pA, pB, pC])
     ·go_simp
      have Y6 := Box2.new V (lo := W3.heap.size) N.size (.bool false) (.slice none 0 0) 37
      have hb := below1 V (.cells #[.bool false, .slice none 0 0] 37)
      replace S1 := S1.below hb
      replace N := N.trans (hb.mono N.size)
      refine hK.out _ _ N (fun hHeld => ?_)
      clear hK K hHeld
      try simp only [pA, pB, pC]
      clear hb
      refine Eq.mp (hwp _ _ _ _) ?_
      exact met2 (H1_p6 a1 c1 V.heap.size _ N S1 Y6) (by kernel_rfl) (by rw [ha0]; simp only [Act.put, pA, pB, pC])
   have H0_p6 : ∀ (p6 : Nat) (V : World), Below W3.heap.size W3 V → Box2 W3.heap.size V p6 (.bool false) (.slice none 0 0) → wpx 4 #[true, true, true, true, true, false, true, false, true, true, false, true, false] (fr0.put (some 12) (.pointer (some ⟨p6, 0, none⟩))) V := by
    as_aux_lemma =>
     intro p6 V N Y6
     refine Eq.mpr (hwp _ _ _ _) ?_
     rw [ha0]
     try simp only [Act.put, pA, pB, pC]
     refine rdA (i := 5) (h := fun K hK => ?_)
     ·go_simp
      refine (ofS dy _ HR.out.1.2.1 HR.out.1.2.2 HM_vy.out GF_vy.out).mono ?_
      rintro e V1 ⟨a1, c1, rfl, o1, hb⟩
      have S1 := o1.toSees
      clear o1
      replace Y6 := Y6.below hb
      replace N := N.trans (hb.mono N.size)
      refine hK.out _ _ N (fun hHeld => ?_)
      clear hK K hHeld
      try simp only [pA, pB, pC]
      clear hb
      refine Eq.mp (hwp _ _ _ _) ?_
      exact met2 (H1_p6 a1 c1 p6 _ N S1 Y6) (by kernel_rfl) (by rw [ha0]; simp only [Act.put, pA, pB, pC])
   have H0 : ∀ (V : World), Below W3.heap.size W3 V → wpx 5 #[true, true, true, true, true, false, true, false, true, true, false, false, false] fr0 V := by
    as_aux_lemma =>
     intro V N
     refine Eq.mpr (hwp _ _ _ _) ?_
     rw [ha0]
     try simp only [Act.put, pA, pB, pC]
     refine wpAnyH_ready (rs := [5, 11]) (by kernel_rfl) (by simp) (AllReadyH.cons (gtA rfl) (fun K hK => ?_) (AllReadyH.cons (gtA rfl) (fun K hK => ?_) AllReadyH.nil))
     ·go_simp
      refine (ofS dy _ HR.out.1.2.1 HR.out.1.2.2 HM_vy.out GF_vy.out).mono ?_
      rintro e V1 ⟨a1, c1, rfl, o1, hb⟩
      have S1 := o1.toSees
      clear o1
      replace N := N.trans (hb.mono N.size)
      refine hK.out _ _ N (fun hHeld => ?_)
      clear hK K hHeld
      try simp only [pA, pB, pC]
      clear hb
      refine Eq.mp (hwp _ _ _ _) ?_
      exact met2 (H1 a1 c1 _ N S1) (by kernel_rfl) (by rw [ha0]; simp only [Act.put, pA, pB, pC])
     ·go_simp
      have Y6 := Box2.new V (lo := W3.heap.size) N.size (.bool false) (.slice none 0 0) 37
      have hb := below1 V (.cells #[.bool false, .slice none 0 0] 37)
      replace N := N.trans (hb.mono N.size)
      refine hK.out _ _ N (fun hHeld => ?_)
      clear hK K hHeld
      try simp only [pA, pB, pC]
      clear hb
      refine Eq.mp (hwp _ _ _ _) ?_
      exact met2 (H0_p6 V.heap.size _ N Y6) (by kernel_rfl) (by rw [ha0]; simp only [Act.put, pA, pB, pC])
   intro ww0 N
   exact met2 (H0 ww0 N) (by kernel_rfl) rfl
 rename World => W4
 obtain ⟨p12, a12, c12, rfl, Y12, O12, hb⟩ := hcut
 have S12 := O12.toSees
 replace Y11 := Y11.below hb
 replace S11 := S11.below hb
 replace B := B.trans (hb.mono B.size)
 clear hb O12 Y10 S10 V1 V2 V3 V4 Q wn1 wn2 wd1 wd2
 obtain ⟨k0, k1, _, _⟩ := id Y11
 obtain ⟨k2, k3, _, _⟩ := id Y12
 go_wp2_with fail
 refine (subS a11 a12 c11 c12 _ S11 S12 HM_zp.out GF_zp.out HM_zq.out GF_zq.out HM_zd.out GF_zd.out HB9.out.1 HB9.out.2).mono ?_
 rintro e w5 ⟨a13, c13, rfl, o13, hb⟩
 replace B := B.trans (hb.mono B.size)
 clear hb k0 k1 k2 k3 Y11 Y12 S11 S12 o13
 obtain ⟨dd, HDD⟩ : ∃ z, Hid ((dx * (Y + ny * E) * D - dy * (X + nx' * D) * E) = z) := ⟨_, rfl⟩
 have HZ := HM_zd.out.zero
 have HF := GF_zd.out
 rw [HDD.out] at HZ HF HC
 clear HDD
 rcases Int.lt_trichotomy dd 0 with q | q | q
 ·have e0 : ((us_zd.length : Int) == 0) = false := by simp; intro e; have := HZ.1 (by rw [e]; rfl); omega
  obtain rfl : gf_zd = true := by rw [← HF]; exact decide_eq_true q
  have HS : Hid (sgn1 dd = -1) := sgn1_neg q
  clear HZ HF
  go_wp2
  go_ret
  exact ⟨by rw [HC.out, HS.out] <;> rfl, B.trans ((below1 _ _).mono B.size)⟩
 ·have e0 : ((us_zd.length : Int) == 0) = true := by simp; exact List.eq_nil_of_length_eq_zero (HZ.2 q)
  have HS : Hid (sgn1 dd = 0) := by show _ = _; rw [q]; rfl
  clear HZ HF
  go_wp2
  go_ret
  exact ⟨by rw [HC.out, HS.out] <;> rfl, B.trans ((below1 _ _).mono B.size)⟩
 ·have e0 : ((us_zd.length : Int) == 0) = false := by simp; intro e; have := HZ.1 (by rw [e]; rfl); omega
  obtain rfl : gf_zd = false := by rw [← HF]; exact decide_eq_false (by omega)
  have HS : Hid (sgn1 dd = 1) := sgn1_pos q
  clear HZ HF
  go_wp2
  go_ret
  exact ⟨by rw [HC.out, HS.out] <;> rfl, B.trans ((below1 _ _).mono B.size)⟩
end Go.Proofs.YthafgldgidmnlaaGreat
