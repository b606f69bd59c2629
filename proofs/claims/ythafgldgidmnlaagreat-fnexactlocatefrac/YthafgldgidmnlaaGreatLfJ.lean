/- A place of two fractions, of the program: rightOf, above, beyond, leftOf. -/
import Derived.Test.YthafgldgidmnlaaGreatLfW
import Derived.Test.YthafgldgidmnlaaGreatBase
import Derived.Test.YthafgldgidmnlaaGreatRing
import Derived.Deep.DeepCutAuto
namespace Go.Proofs.YthafgldgidmnlaaGreat
open Go.RowKit

theorem capture2 {P : Program} {ops : Array Oper} {Q : Exit → Act → World → Prop} {md : Region.Mode} {S : World → Prop} {fuel : Nat} {listed : Array Bool} {a : Act} {w : World}
  (h : ∀ (wp : Nat → Array Bool → Act → World → Prop) (a0 : Act), a0 = a → (∀ f l a w, wp f l a w = wpAnyH P md ops Q S f l a w) → wp fuel listed a0 w) : wpAnyH P md ops Q S fuel listed a w :=
 h (fun f l a w => wpAnyH P md ops Q S f l a w) a rfl (fun _ _ _ _ => rfl)
theorem met2 {wp : Nat → Array Bool → Act → World → Prop} {f : Nat} {l l' : Array Bool} {a a' : Act} {w : World} (h : wp f l' a' w) (e : l = l') (e2 : a = a') : wp f l a w := by subst e e2; exact h
theorem Box4.oldW {lo p q : Nat} {w : World} {x0 x1 x2 x3 : Value} (h : Box4 lo w q x0 x1 x2 x3) (ne : q ≠ p) (u0 u1 : Value) : Box4 lo ((w.setCell ⟨p, 0, none⟩ u0).setCell ⟨p, 1, none⟩ u1) q x0 x1 x2 x3 :=
 ⟨(put_old2 ne u0 u1).trans h.c0, (put_old2 ne u0 u1).trans h.c1, (put_old2 ne u0 u1).trans h.c2, (put_old2 ne u0 u1).trans h.c3, fun o => (put_frozen2 p _ u0 u1).trans (h.fr o), h.lo⟩
theorem crd_lo {n : Int} (h : Crd n) : -9223372036854775808 ≤ n := by unfold Crd at h; omega
theorem crd_hi {n : Int} (h : Crd n) : n ≤ 9223372036854775807 := by unfold Crd at h; omega
structure Sp8 (w : World) (p : Nat) (v0 v1 v2 v3 v4 v5 v6 v7 : Value) : Prop where
 c0 : w.cell? ⟨p, 0, none⟩ = some v0
 c1 : w.cell? ⟨p, 1, none⟩ = some v1
 c2 : w.cell? ⟨p, 2, none⟩ = some v2
 c3 : w.cell? ⟨p, 3, none⟩ = some v3
 c4 : w.cell? ⟨p, 4, none⟩ = some v4
 c5 : w.cell? ⟨p, 5, none⟩ = some v5
 c6 : w.cell? ⟨p, 6, none⟩ = some v6
 c7 : w.cell? ⟨p, 7, none⟩ = some v7
theorem Sp8.new (w : World) (v0 v1 v2 v3 v4 v5 v6 v7 : Value) (t : TypeId) : Sp8 (w.alloc (.cells #[v0, v1, v2, v3, v4, v5, v6, v7] t)) w.heap.size v0 v1 v2 v3 v4 v5 v6 v7 :=
 ⟨cell_new w _ t 0 rfl, cell_new w _ t 1 rfl, cell_new w _ t 2 rfl, cell_new w _ t 3 rfl, cell_new w _ t 4 rfl, cell_new w _ t 5 rfl, cell_new w _ t 6 rfl, cell_new w _ t 7 rfl⟩
theorem Sp8.below {w w' : World} {p : Nat} {v0 v1 v2 v3 v4 v5 v6 v7 : Value} (h : Sp8 w p v0 v1 v2 v3 v4 v5 v6 v7) (hb : Below w.heap.size w w') : Sp8 w' p v0 v1 v2 v3 v4 v5 v6 v7 :=
 ⟨bat hb h.c0, bat hb h.c1, bat hb h.c2, bat hb h.c3, bat hb h.c4, bat hb h.c5, bat hb h.c6, bat hb h.c7⟩
structure PlS (w : World) (a : Option Addr) (c : Nat) (ns : List Int) (b : Option Addr) (d : Nat) (ds : List Int) (a' : Option Addr) (c' : Nat) (ms : List Int) (b' : Option Addr) (d' : Nat) (es : List Int) : Prop where
 s1 : Sees w a c ns
 s2 : Sees w b d ds
 s3 : Sees w a' c' ms
 s4 : Sees w b' d' es
theorem PlS.below {w w' : World} {a b a' b' : Option Addr} {c d c' d' : Nat} {ns ds ms es : List Int} (h : PlS w a c ns b d ds a' c' ms b' d' es) (hb : Below w.heap.size w w') : PlS w' a c ns b d ds a' c' ms b' d' es :=
 ⟨h.s1.below hb, h.s2.below hb, h.s3.below hb, h.s4.below hb⟩
structure PlT (X D Y E : Int) (g : Bool) (ns : List Int) (h : Bool) (ds : List Int) (g' : Bool) (ms : List Int) (h' : Bool) (es : List Int) : Prop where
 L1 : Lm ns X
 G1 : decide (X < 0) = g
 L2 : Lm ds D
 G2 : decide (D < 0) = h
 L3 : Lm ms Y
 G3 : decide (Y < 0) = g'
 L4 : Lm es E
 G4 : decide (E < 0) = h'
 l1 : ns.length ≤ 24
 l2 : ds.length ≤ 24
 l3 : ms.length ≤ 24
 l4 : es.length ≤ 24
 p2 : 0 < D
 p4 : 0 < E
def Pl (w : World) (v : Value) (X D Y E : Int) : Prop :=
 ∃ g a c ns h b d ds g' a' c' ms h' b' d' es, v = .agg #[.bool g, .slice a ns.length c, .bool h, .slice b ds.length d, .bool g', .slice a' ms.length c', .bool h', .slice b' es.length d'] ∧ PlS w a c ns b d ds a' c' ms b' d' es ∧ PlT X D Y E g ns h ds g' ms h' es
theorem Pl.below {w w' : World} {v : Value} {X D Y E : Int} (h : Pl w v X D Y E) (hb : Below w.heap.size w w') : Pl w' v X D Y E := by
 obtain ⟨g, a, c, ns, h, b, d, ds, g', a', c', ms, h', b', d', es, e, Q, T⟩ := h
 exact ⟨g, a, c, ns, h, b, d, ds, g', a', c', ms, h', b', d', es, e, Q.below hb, T⟩
theorem far_len {X D n : Int} {ns ds zs : List Int} (L1 : Lm ns X) (L2 : Lm ds D) (cn : Crd n) (L : Lm zs (X - n * D)) (l1 : ns.length ≤ 24) (l2 : ds.length ≤ 24) : zs.length ≤ 27 := by
 obtain ⟨us, LU⟩ := Lm.ex n
 obtain ⟨ps, LP⟩ := Lm.ex (n * D)
 have lu := LU.two (crd_lo cn) (crd_hi cn)
 have lp := LU.mul L2 LP
 exact L1.add LP L (mg_sub_le _ _) (L := 26) (by omega) (by omega)

set_option maxRecDepth 20000 in
set_option maxHeartbeats 4000000 in
theorem rightOf_f (sp : Value) (X D Y E x : Int) (w : World) (P : Pl w sp X D Y E) (cx : Crd x) :
  Calls Tryz.prog 125 #[sp, .int .i64 x] w fun e w' => e = .returned (.int .i64 (sgn1 (X - x * D))) ∧ Below w.heap.size w w' := by
 obtain ⟨g, a, c, ns, h, b, d, ds, g', a', c', ms, h', b', d', es, rfl, Q, T⟩ := P
 have B := below1 w (.cells #[.bool g, .slice a ns.length c, .bool h, .slice b ds.length d, .bool g', .slice a' ms.length c', .bool h', .slice b' es.length d'] 58)
 have K8 := Sp8.new w (.bool g) (.slice a ns.length c) (.bool h) (.slice b ds.length d) (.bool g') (.slice a' ms.length c') (.bool h') (.slice b' es.length d') 58
 replace Q := Q.below B
 have HT : Hid (PlT X D Y E g ns h ds g' ms h' es) := T
 obtain ⟨z, HZ⟩ : ∃ z, Hid (sgn1 (X - x * D) = z) := ⟨_, rfl⟩
 obtain ⟨us, LU⟩ := Lm.ex x
 obtain ⟨ts, LT⟩ := Lm.ex 1
 obtain ⟨gu, GU⟩ : ∃ g, Hid (decide (x < 0) = g) := ⟨_, rfl⟩
 have HU : Hid (Lm us x ∧ Lm ts 1 ∧ us.length ≤ 24 ∧ ts.length ≤ 24 ∧ -9223372036854775808 ≤ x ∧ x ≤ 9223372036854775807) := ⟨LU, LT, Nat.le_trans (LU.two (crd_lo cx) (crd_hi cx)) (by decide), Nat.le_trans (LT.two (by decide) (by decide)) (by decide), crd_lo cx, crd_hi cx⟩
 clear T LU LT cx
 go_enter Tryz.func125, Tryz.ntmps125
 go_upto_region 1 with fail
 generalize w.alloc (.cells #[.bool g, .slice a ns.length c, .bool h, .slice b ds.length d, .bool g', .slice a' ms.length c', .bool h', .slice b' es.length d'] 58) = W0 at *
 have N : Below W0.heap.size W0 W0.drew := (Below.refl _ _).drew
 refine wp_region_held_drew (S := fun w' => Below W0.heap.size W0 w') (by kernel_rfl) N (fun hHeld => ?_)
 clear hHeld
 generalize W0.drew = ww0 at *
 refine takeA (i := 0) (h := ?_)
 refine takeA (i := 1) (hy := by intro wq hSw; have y0 := bat hSw K8.c0; have y1 := bat hSw K8.c1; have y2 := bat hSw K8.c2; have y3 := bat hSw K8.c3; have y4 := bat hSw K8.c4; have y5 := bat hSw K8.c5; have y6 := bat hSw K8.c6; have y7 := bat hSw K8.c7; go_simp <;> with_reducible rfl) (h := ?_)
 refine takeA (i := 2) (h := ?_)
 refine rdA (i := 3) (h := fun K hK => ?_)
 go_simp
 refine (wholeA x _ HU.out.2.2.2.2.1 HU.out.2.2.2.2.2 HU.out.1 GU.out HU.out.2.1).mono ?_
 rintro e ww1 ⟨a1, c1, b1, d1, rfl, S1, S2, hb⟩
 replace N := N.trans (hb.mono N.size)
 clear hb
 refine hK.out _ _ N (fun hHeld => ?_)
 clear hK K hHeld
 try simp only [Act.put, pA, pB, pC]
 refine rdA (i := 4) (h := fun K hK => ?_)
 go_simp
 refine (fcmpA a b a1 b1 c d c1 d1 _ (Q.s1.below N) (Q.s2.below N) S1 S2 HT.out.L1 HT.out.G1 HT.out.L2 HT.out.G2 HU.out.1 GU.out HU.out.2.1 (h' := false) rfl HT.out.l1 HT.out.l2 HU.out.2.2.1 HU.out.2.2.2.1).mono ?_
 rintro e ww2 ⟨rfl, hb⟩
 replace N := N.trans (hb.mono N.size)
 clear hb S1 S2
 rw [Int.mul_one, HZ.out]
 refine hK.out _ _ N (fun hHeld => ?_)
 clear hK K hHeld
 try simp only [Act.put, pA, pB, pC]
 refine takeA (i := 5) (h := ?_)
 refine wpAnyH_done (by kernel_rfl) ?_ _
 go_wp2
 go_ret
 exact ⟨by rw [HZ.out]; rfl, B.trans (N.mono B.size)⟩

set_option maxRecDepth 20000 in
set_option maxHeartbeats 4000000 in
theorem above_f (sp : Value) (X D Y E x : Int) (w : World) (P : Pl w sp X D Y E) (cx : Crd x) :
  Calls Tryz.prog 123 #[sp, .int .i64 x] w fun e w' => e = .returned (.int .i64 (sgn1 (Y - x * E))) ∧ Below w.heap.size w w' := by
 obtain ⟨g, a, c, ns, h, b, d, ds, g', a', c', ms, h', b', d', es, rfl, Q, T⟩ := P
 have B := below1 w (.cells #[.bool g, .slice a ns.length c, .bool h, .slice b ds.length d, .bool g', .slice a' ms.length c', .bool h', .slice b' es.length d'] 58)
 have K8 := Sp8.new w (.bool g) (.slice a ns.length c) (.bool h) (.slice b ds.length d) (.bool g') (.slice a' ms.length c') (.bool h') (.slice b' es.length d') 58
 replace Q := Q.below B
 have HT : Hid (PlT X D Y E g ns h ds g' ms h' es) := T
 obtain ⟨z, HZ⟩ : ∃ z, Hid (sgn1 (Y - x * E) = z) := ⟨_, rfl⟩
 obtain ⟨us, LU⟩ := Lm.ex x
 obtain ⟨ts, LT⟩ := Lm.ex 1
 obtain ⟨gu, GU⟩ : ∃ g, Hid (decide (x < 0) = g) := ⟨_, rfl⟩
 have HU : Hid (Lm us x ∧ Lm ts 1 ∧ us.length ≤ 24 ∧ ts.length ≤ 24 ∧ -9223372036854775808 ≤ x ∧ x ≤ 9223372036854775807) := ⟨LU, LT, Nat.le_trans (LU.two (crd_lo cx) (crd_hi cx)) (by decide), Nat.le_trans (LT.two (by decide) (by decide)) (by decide), crd_lo cx, crd_hi cx⟩
 clear T LU LT cx
 go_enter Tryz.func123, Tryz.ntmps123
 go_upto_region 1 with fail
 generalize w.alloc (.cells #[.bool g, .slice a ns.length c, .bool h, .slice b ds.length d, .bool g', .slice a' ms.length c', .bool h', .slice b' es.length d'] 58) = W0 at *
 have N : Below W0.heap.size W0 W0.drew := (Below.refl _ _).drew
 refine wp_region_held_drew (S := fun w' => Below W0.heap.size W0 w') (by kernel_rfl) N (fun hHeld => ?_)
 clear hHeld
 generalize W0.drew = ww0 at *
 refine takeA (i := 0) (h := ?_)
 refine takeA (i := 1) (hy := by intro wq hSw; have y0 := bat hSw K8.c0; have y1 := bat hSw K8.c1; have y2 := bat hSw K8.c2; have y3 := bat hSw K8.c3; have y4 := bat hSw K8.c4; have y5 := bat hSw K8.c5; have y6 := bat hSw K8.c6; have y7 := bat hSw K8.c7; go_simp <;> with_reducible rfl) (h := ?_)
 refine takeA (i := 2) (h := ?_)
 refine rdA (i := 3) (h := fun K hK => ?_)
 go_simp
 refine (wholeA x _ HU.out.2.2.2.2.1 HU.out.2.2.2.2.2 HU.out.1 GU.out HU.out.2.1).mono ?_
 rintro e ww1 ⟨a1, c1, b1, d1, rfl, S1, S2, hb⟩
 replace N := N.trans (hb.mono N.size)
 clear hb
 refine hK.out _ _ N (fun hHeld => ?_)
 clear hK K hHeld
 try simp only [Act.put, pA, pB, pC]
 refine rdA (i := 4) (h := fun K hK => ?_)
 go_simp
 refine (fcmpA a' b' a1 b1 c' d' c1 d1 _ (Q.s3.below N) (Q.s4.below N) S1 S2 HT.out.L3 HT.out.G3 HT.out.L4 HT.out.G4 HU.out.1 GU.out HU.out.2.1 (h' := false) rfl HT.out.l3 HT.out.l4 HU.out.2.2.1 HU.out.2.2.2.1).mono ?_
 rintro e ww2 ⟨rfl, hb⟩
 replace N := N.trans (hb.mono N.size)
 clear hb S1 S2
 rw [Int.mul_one, HZ.out]
 refine hK.out _ _ N (fun hHeld => ?_)
 clear hK K hHeld
 try simp only [Act.put, pA, pB, pC]
 refine takeA (i := 5) (h := ?_)
 refine wpAnyH_done (by kernel_rfl) ?_ _
 go_wp2
 go_ret
 exact ⟨by rw [HZ.out]; rfl, B.trans (N.mono B.size)⟩

set_option maxRecDepth 20000 in
set_option maxHeartbeats 4000000 in
theorem beyondA {X D n : Int} {ns ds zs : List Int} {g h f : Bool} (a b : Option Addr) (c d : Nat) (w : World) (s : Sees w a c ns) (t : Sees w b d ds) (cn : Crd n) (L1 : Lm ns X) (G1 : decide (X < 0) = g) (L2 : Lm ds D) (G2 : decide (D < 0) = h) (L3 : Lm zs (X - n * D)) (G3 : decide (X - n * D < 0) = f) (l1 : ns.length ≤ 24) (l2 : ds.length ≤ 24) :
  Calls Tryz.prog 130 #[.agg #[.bool g, .slice a ns.length c, .bool h, .slice b ds.length d], .int .i64 n] w fun e w' => ∃ a5 c5, e = .returned (.agg #[.bool f, .slice a5 zs.length c5]) ∧ Own w.heap.size w' a5 c5 zs ∧ Below w.heap.size w w' := by
 have B := below2 w (.cells #[.bool g, .slice a ns.length c, .bool h, .slice b ds.length d] 39) (.cells #[.bool false, .slice none 0 0] 37)
 have H := (Box4.new w (lo := 0) (Nat.zero_le _) (.bool g) (.slice a ns.length c) (.bool h) (.slice b ds.length d) 39).below (below1 _ (.cells #[.bool false, .slice none 0 0] 37))
 have R := Box2.new (w.alloc (.cells #[.bool g, .slice a ns.length c, .bool h, .slice b ds.length d] 39)) (lo := w.heap.size) (by simp) (.bool false) (.slice none 0 0) 37
 rw [World.size_alloc] at R
 replace s := s.below B
 replace t := t.below B
 obtain ⟨us, LU⟩ := Lm.ex n
 obtain ⟨ps, LP⟩ := Lm.ex (n * D)
 obtain ⟨gu, GU⟩ : ∃ g, Hid (decide (n < 0) = g) := ⟨_, rfl⟩
 obtain ⟨gp, GP⟩ : ∃ g, Hid (decide (n * D < 0) = g) := ⟨_, rfl⟩
 obtain ⟨gq, GQ⟩ : ∃ g, Hid ((!gp && decide (0 < ps.length)) = g) := ⟨_, rfl⟩
 have lu : us.length ≤ 2 := LU.two (crd_lo cn) (crd_hi cn)
 have lp : ps.length ≤ 26 := Nat.le_trans (LU.mul L2 LP) (by omega)
 have HS : Hid (sg g (val ns) + sg gq (val ps) = X - n * D) := by
  show _ = _
  rw [L1.sg G1, ← GQ.out, neg_flag (LP.none GP.out), LP.sg GP.out]
  omega
 have HL : Hid (Lm us n ∧ Lm ps (n * D) ∧ Lm ns X ∧ Lm ds D ∧ Lm zs (X - n * D)) := ⟨LU, LP, L1, L2, L3⟩
 have HG : Hid (decide (D < 0) = h ∧ decide (X - n * D < 0) = f) := ⟨G2, G3⟩
 have HB : Hid (us.length + ds.length ≤ 1048576 ∧ ps.length ≤ 9223372036854775807 ∧ ns.length ≤ 27 ∧ ps.length ≤ 27 ∧ -9223372036854775808 ≤ n ∧ n ≤ 9223372036854775807) := ⟨by omega, by omega, by omega, by omega, crd_lo cn, crd_hi cn⟩
 clear LU LP L1 L2 L3 G1 G2 G3 lu lp l1 l2 cn
 go_enter Tryz.func130, Tryz.ntmps130
 go_upto_region 1 with fail
 generalize (w.alloc (.cells #[.bool g, .slice a ns.length c, .bool h, .slice b ds.length d] 39)).alloc (.cells #[.bool false, .slice none 0 0] 37) = W0 at *
 have N : Below W0.heap.size W0 W0.drew := (Below.refl _ _).drew
 replace H := H.below N
 replace R := R.below N
 refine wp_region_held_drew (S := fun w' => Box4 0 w' w.heap.size (.bool g) (.slice a ns.length c) (.bool h) (.slice b ds.length d)) (by kernel_rfl) H (fun hHeld => ?_)
 clear hHeld
 generalize W0.drew = ww0 at *
 refine takeA (i := 0) (h := ?_)
 refine takeA (i := 1) (hy := by intro wq hSw; have y0 := hSw.c0; have y1 := hSw.c1; have y2 := hSw.c2; have y3 := hSw.c3; go_simp <;> with_reducible rfl) (h := ?_)
 refine takeA (i := 2) (h := ?_)
 refine takeA (i := 4) (h := ?_)
 refine takeA (i := 5) (hy := by intro wq hSw; have y0 := hSw.c0; have y1 := hSw.c1; have y2 := hSw.c2; have y3 := hSw.c3; go_simp <;> with_reducible rfl) (h := ?_)
 refine rdA (i := 3) (h := fun K hK => ?_)
 go_simp
 refine (ofA n _ HB.out.2.2.2.2.1 HB.out.2.2.2.2.2 HL.out.1 GU.out).mono ?_
 rintro e ww1 ⟨a1, c1, rfl, o1, hb⟩
 replace H := H.below hb
 replace R := R.below hb
 replace N := N.trans (hb.mono N.size)
 clear hb
 refine hK.out _ _ H (fun hHeld => ?_)
 clear hK K hHeld
 try simp only [Act.put, pA, pB, pC]
 refine rdA (i := 6) (h := fun K hK => ?_)
 go_simp
 refine (mulA a1 b c1 d _ o1.toSees (t.below N) HL.out.1 GU.out HL.out.2.2.2.1 HG.out.1 HL.out.2.1 GP.out HB.out.1).mono ?_
 rintro e ww2 ⟨a2, c2, rfl, o2, hb⟩
 replace H := H.below hb
 replace R := R.below hb
 replace N := N.trans (hb.mono N.size)
 clear hb o1
 refine hK.out _ _ H (fun hHeld => ?_)
 clear hK K hHeld
 try simp only [Act.put, pA, pB, pC]
 refine rdA (i := 7) (h := fun K hK => ?_)
 go_simp
 refine (negatedC gp a2 c2 ps.length _ HB.out.2.1).mono ?_
 rintro e ww3 ⟨rfl, hb⟩
 replace H := H.below hb
 replace R := R.below hb
 replace N := N.trans (hb.mono N.size)
 replace o2 := o2.below hb
 rw [GQ.out]
 clear hb
 refine hK.out _ _ H (fun hHeld => ?_)
 clear hK K hHeld
 try simp only [Act.put, pA, pB, pC]
 refine rdA (i := 8) (h := fun K hK => ?_)
 go_simp
 have kS := Box4.new ww3 (lo := 0) (Nat.zero_le _) (.bool g) (.slice a ns.length c) (.bool gq) (.slice a2 ps.length c2) 37
 have hb := below1 ww3 (.cells #[.bool g, .slice a ns.length c, .bool gq, .slice a2 ps.length c2] 37)
 replace H := H.below hb
 replace R := R.below hb
 replace o2 := o2.below hb
 replace N := N.trans (hb.mono N.size)
 clear hb
 generalize ww3.alloc (.cells #[.bool g, .slice a ns.length c, .bool gq, .slice a2 ps.length c2] 37) = ww4 at *
 generalize ww3.heap.size = pS at *
 refine hK.out _ _ H (fun hHeld => ?_)
 clear hK K hHeld
 try simp only [Act.put, pA, pB, pC]
 refine rdA (i := 9) (h := fun K hK => ?_)
 go_simp
 refine (sumC _ 2 27 _ _ _ _ _ (Parts.two kS.c0 kS.c1 kS.c2 kS.c3 (s.below N) o2.toSees HL.out.2.2.1.2.1 HL.out.2.1.2.1 HB.out.2.2.1 HB.out.2.2.2.1) (by decide)).mono ?_
 rintro e ww5 ⟨v5, rfl, hI, hb⟩
 rw [psum_two, HS.out] at hI
 obtain ⟨a3, c3, rfl, o3⟩ := hI.lm HL.out.2.2.2.2 HG.out.2
 have nR := row_ne_low o3 R.lt
 replace o3 := o3.base_le (base' := w.heap.size) (by have := N.size; have := B.size; omega)
 replace H := H.below hb
 replace R := R.below hb
 replace N := N.trans (hb.mono N.size)
 clear hb kS o2
 refine hK.out _ _ H (fun hHeld => ?_)
 clear hK K hHeld
 try simp only [Act.put, pA, pB, pC]
 refine rdA (i := 10) (h := fun K hK => ?_)
 have q0 := R.c0
 have q1 := R.c1
 have qf := R.fr
 go_simp
 clear q0 q1 qf
 have OZ : Hid _ := o3.put2 nR (.bool f) (.slice a3 zs.length c3)
 have UB := Box2.chain (B.trans (N.mono B.size)) R (.bool f) (.slice a3 zs.length c3)
 replace H := H.oldW (p := w.heap.size + 1) (by omega) (.bool f) (.slice a3 zs.length c3)
 replace R := R.put (.bool f) (.slice a3 zs.length c3)
 have n0 := R.c0
 have n1 := R.c1
 clear o3 N
 refine hK.out _ _ H (fun hHeld => ?_)
 clear hK K hHeld
 try simp only [Act.put, pA, pB, pC]
 refine wpAnyH_done (by kernel_rfl) ?_ _
 go_wp2
 exact bodyPost_ret (v := .agg #[.bool f, .slice a3 zs.length c3]) (by simp [results, Tryz.results130, go_sem, n0, n1]) rfl ⟨a3, c3, rfl, OZ.out, UB⟩

set_option maxRecDepth 20000 in
set_option maxHeartbeats 8000000 in
theorem leftOf_f (sp : Value) (X D Y E ax ay bx bz : Int) (w : World) (P : Pl w sp X D Y E) (c1 : Crd ax) (d1 : Crd ay) (c2 : Crd bx) (d2 : Crd bz) :
  Calls Tryz.prog 124 #[sp, .agg #[.int .i64 ax, .int .i64 ay], .agg #[.int .i64 bx, .int .i64 bz]] w fun e w' => e = .returned (.int .i64 (sgn1 (ar (ax * D) (ay * E) (bx * D) (bz * E) X Y))) ∧ Below w.heap.size w w' := by
 obtain ⟨g, a, c, ns, h, b, d, ds, g', a', c', ms, h', b', d', es, rfl, Q, T⟩ := P
 have B := below3 w (.cells #[.bool g, .slice a ns.length c, .bool h, .slice b ds.length d, .bool g', .slice a' ms.length c', .bool h', .slice b' es.length d'] 58) (.cells #[.int .i64 ax, .int .i64 ay] 84) (.cells #[.int .i64 bx, .int .i64 bz] 84)
 have K8 := (Sp8.new w (.bool g) (.slice a ns.length c) (.bool h) (.slice b ds.length d) (.bool g') (.slice a' ms.length c') (.bool h') (.slice b' es.length d') 58).below (below2 _ (.cells #[.int .i64 ax, .int .i64 ay] 84) (.cells #[.int .i64 bx, .int .i64 bz] 84))
 have V1 := (Box2.new (w.alloc (.cells #[.bool g, .slice a ns.length c, .bool h, .slice b ds.length d, .bool g', .slice a' ms.length c', .bool h', .slice b' es.length d'] 58)) (lo := 0) (Nat.zero_le _) (.int .i64 ax) (.int .i64 ay) 84).below (below1 _ (.cells #[.int .i64 bx, .int .i64 bz] 84))
 have V2 := Box2.new ((w.alloc (.cells #[.bool g, .slice a ns.length c, .bool h, .slice b ds.length d, .bool g', .slice a' ms.length c', .bool h', .slice b' es.length d'] 58)).alloc (.cells #[.int .i64 ax, .int .i64 ay] 84)) (lo := 0) (Nat.zero_le _) (.int .i64 bx) (.int .i64 bz) 84
 rw [World.size_alloc] at V1
 rw [World.size_alloc, World.size_alloc] at V2
 replace Q := Q.below B
 obtain ⟨dx, HX⟩ : ∃ z, bx - ax = z := ⟨_, rfl⟩
 obtain ⟨dy, HY⟩ : ∃ z, bz - ay = z := ⟨_, rfl⟩
 have rx : -9223372036854775808 ≤ dx ∧ dx ≤ 9223372036854775807 := by have := crd_lo c1; have := crd_hi c1; have := crd_lo c2; have := crd_hi c2; unfold Crd at c1 c2; omega
 have ry : -9223372036854775808 ≤ dy ∧ dy ≤ 9223372036854775807 := by unfold Crd at d1 d2; omega
 obtain ⟨us, LU⟩ := Lm.ex dx
 obtain ⟨vs, LV⟩ := Lm.ex dy
 obtain ⟨qs, LQ⟩ := Lm.ex (Y - ay * E)
 obtain ⟨ps, LP⟩ := Lm.ex (X - ax * D)
 obtain ⟨rs, LR⟩ := Lm.ex ((Y - ay * E) * D)
 obtain ⟨ss, LS⟩ := Lm.ex ((X - ax * D) * E)
 obtain ⟨zs, LZ⟩ := Lm.ex (dx * ((Y - ay * E) * D))
 obtain ⟨ts, LT⟩ := Lm.ex (dy * ((X - ax * D) * E))
 obtain ⟨gu, GU⟩ : ∃ g, Hid (decide (dx < 0) = g) := ⟨_, rfl⟩
 obtain ⟨gv, GV⟩ : ∃ g, Hid (decide (dy < 0) = g) := ⟨_, rfl⟩
 obtain ⟨gq, GQ⟩ : ∃ g, Hid (decide (Y - ay * E < 0) = g) := ⟨_, rfl⟩
 obtain ⟨gp, GP⟩ : ∃ g, Hid (decide (X - ax * D < 0) = g) := ⟨_, rfl⟩
 obtain ⟨gr, GR⟩ : ∃ g, Hid (decide ((Y - ay * E) * D < 0) = g) := ⟨_, rfl⟩
 obtain ⟨gs, GS⟩ : ∃ g, Hid (decide ((X - ax * D) * E < 0) = g) := ⟨_, rfl⟩
 obtain ⟨gz, GZ⟩ : ∃ g, Hid (decide (dx * ((Y - ay * E) * D) < 0) = g) := ⟨_, rfl⟩
 obtain ⟨gt, GT⟩ : ∃ g, Hid (decide (dy * ((X - ax * D) * E) < 0) = g) := ⟨_, rfl⟩
 have bq := far_len T.L3 T.L4 d1 LQ T.l3 T.l4
 have bp := far_len T.L1 T.L2 c1 LP T.l1 T.l2
 have br := LQ.mul T.L2 LR
 have bs := LP.mul T.L4 LS
 have bu := LU.two rx.1 rx.2
 have bv := LV.two ry.1 ry.2
 have hl := T.l2
 have hl' := T.l4
 have HB : Hid ((us.length + rs.length ≤ 1048576 ∧ vs.length + ss.length ≤ 1048576) ∧ qs.length + ds.length ≤ 1048576 ∧ ps.length + es.length ≤ 1048576) := ⟨⟨by omega, by omega⟩, by omega, by omega⟩
 obtain ⟨z, HZ⟩ : ∃ z, Hid (sgn1 (ar (ax * D) (ay * E) (bx * D) (bz * E) X Y) = z) := ⟨_, rfl⟩
 have HC : Hid (cmpZ (dx * ((Y - ay * E) * D)) (dy * ((X - ax * D) * E)) = z) := by
  show _ = _
  rw [cmpZ_sgn, ← HZ.out, ← HX, ← HY]
  unfold ar
  congr 1
  grind
 have HT : Hid (PlT X D Y E g ns h ds g' ms h' es) := T
 have HU : Hid (Lm us dx ∧ Lm vs dy ∧ Lm qs (Y - ay * E) ∧ Lm ps (X - ax * D) ∧ Lm rs ((Y - ay * E) * D) ∧ Lm ss ((X - ax * D) * E) ∧ Lm zs (dx * ((Y - ay * E) * D)) ∧ Lm ts (dy * ((X - ax * D) * E))) := ⟨LU, LV, LQ, LP, LR, LS, LZ, LT⟩
 have HR : Hid ((-9223372036854775808 ≤ dx ∧ dx ≤ 9223372036854775807) ∧ -9223372036854775808 ≤ dy ∧ dy ≤ 9223372036854775807) := ⟨rx, ry⟩
 have HX' : Hid (bx - ax = dx ∧ bz - ay = dy) := ⟨HX, HY⟩
 have HD : Hid ((Crd ax ∧ Crd ay) ∧ Crd bx ∧ Crd bz) := ⟨⟨c1, d1⟩, c2, d2⟩
 clear LU LV LQ LP LR LS LZ LT rx ry bq bp br bs bu bv hl hl' T HX HY c1 c2 d1 d2
 obtain ⟨k0, k1, _, _⟩ := id V1
 obtain ⟨k2, k3, _, _⟩ := id V2
 go_enter Tryz.func124, Tryz.ntmps124
 go_wp2_with fail
 generalize (((w.alloc (.cells #[.bool g, .slice a ns.length c, .bool h, .slice b ds.length d, .bool g', .slice a' ms.length c', .bool h', .slice b' es.length d'] 58)).alloc (.cells #[.int .i64 ax, .int .i64 ay] 84)).alloc (.cells #[.int .i64 bx, .int .i64 bz] 84)) = W0 at *
 refine (way_any ax ay bx bz _ HD.out.1.1 HD.out.1.2 HD.out.2.1 HD.out.2.2).mono ?_
 rintro e w1 ⟨rfl, hb⟩
 rw [HX'.out.1, HX'.out.2]
 replace Q := Q.below hb
 replace K8 := K8.below hb
 replace V1 := V1.below hb
 replace B := B.trans (hb.mono B.size)
 clear hb k0 k1 k2 k3 V2
 have bn := below1 w1 (.cells #[.int .i64 dx, .int .i64 dy] 84)
 have V3 := Box2.new w1 (lo := 0) (Nat.zero_le _) (.int .i64 dx) (.int .i64 dy) 84
 replace Q := Q.below bn
 replace K8 := K8.below bn
 replace V1 := V1.below bn
 replace B := B.trans (bn.mono B.size)
 clear bn
 go_upto_region 2 with fail
 generalize w1.alloc (.cells #[.int .i64 dx, .int .i64 dy] 84) = W1 at *
 generalize w1.heap.size = q7 at *
 go_cut [8] (fun s8 W => ∃ (p : Nat) (a5 : Option Addr) (c5 : Nat), s8 = .pointer (some ⟨p, 0, none⟩) ∧ Box2 W1.heap.size W p (.bool gz) (.slice a5 zs.length c5) ∧ Own W1.heap.size W a5 c5 zs ∧ Below W1.heap.size W1 W)
 case first =>
  as_aux_lemma =>
   rename_i hcJ hcK
   have N : Below W1.heap.size W1 W1.drew := (Below.refl _ _).drew
   refine wp_region_held_drew (S := fun w' => Below W1.heap.size W1 w') (by kernel_rfl) N (fun hHeld => ?_)
   clear hHeld
   generalize W1.drew = ww0 at *
   refine takeA (i := 0) (h := ?_)
   refine takeA (i := 1) (hy := by intro wq hSw; have y0 := bat hSw K8.c0; have y1 := bat hSw K8.c1; have y2 := bat hSw K8.c2; have y3 := bat hSw K8.c3; have y4 := bat hSw K8.c4; have y5 := bat hSw K8.c5; have y6 := bat hSw K8.c6; have y7 := bat hSw K8.c7; have z0 := bat hSw V1.c0; have z1 := bat hSw V1.c1; have z2 := bat hSw V3.c0; have z3 := bat hSw V3.c1; go_simp <;> with_reducible rfl) (h := ?_)
   refine takeA (i := 3) (h := ?_)
   refine takeA (i := 4) (hy := by intro wq hSw; have y0 := bat hSw K8.c0; have y1 := bat hSw K8.c1; have y2 := bat hSw K8.c2; have y3 := bat hSw K8.c3; have y4 := bat hSw K8.c4; have y5 := bat hSw K8.c5; have y6 := bat hSw K8.c6; have y7 := bat hSw K8.c7; have z0 := bat hSw V1.c0; have z1 := bat hSw V1.c1; have z2 := bat hSw V3.c0; have z3 := bat hSw V3.c1; go_simp <;> with_reducible rfl) (h := ?_)
   refine takeA (i := 5) (h := ?_)
   refine takeA (i := 6) (hy := by intro wq hSw; have y0 := bat hSw K8.c0; have y1 := bat hSw K8.c1; have y2 := bat hSw K8.c2; have y3 := bat hSw K8.c3; have y4 := bat hSw K8.c4; have y5 := bat hSw K8.c5; have y6 := bat hSw K8.c6; have y7 := bat hSw K8.c7; have z0 := bat hSw V1.c0; have z1 := bat hSw V1.c1; have z2 := bat hSw V3.c0; have z3 := bat hSw V3.c1; go_simp <;> with_reducible rfl) (h := ?_)
   refine takeA (i := 8) (h := ?_)
   refine takeA (i := 9) (h := ?_)
   refine takeA (i := 10) (hy := by intro wq hSw; have y0 := bat hSw K8.c0; have y1 := bat hSw K8.c1; have y2 := bat hSw K8.c2; have y3 := bat hSw K8.c3; have y4 := bat hSw K8.c4; have y5 := bat hSw K8.c5; have y6 := bat hSw K8.c6; have y7 := bat hSw K8.c7; have z0 := bat hSw V1.c0; have z1 := bat hSw V1.c1; have z2 := bat hSw V3.c0; have z3 := bat hSw V3.c1; go_simp <;> with_reducible rfl) (h := ?_)
   refine capture2 (fun wpx fr0 ha0 hwp => ?_)
   revert N
   revert ww0
   have H4_p6 : ∀ (a1 : Option Addr) (c1 : Nat) (a2 : Option Addr) (c2 : Nat) (a3 : Option Addr) (c3 : Nat) (a5 : Option Addr) (c5 : Nat) (p6 : Nat) (V : World), Below W1.heap.size W1 V → Own W1.heap.size V a5 c5 zs → Box2 W1.heap.size V p6 (.bool false) (.slice none 0 0) → Hid (some p6 ≠ rowOf a5 zs) → wpx 1 #[true, true, true, true, true, true, true, true, true, true, true, true, true, true, false] (((((fr0.put (some 15) (.agg #[.bool gu, .slice a1 us.length c1])).put (some 20) (.agg #[.bool gq, .slice a2 qs.length c2])).put (some 24) (.agg #[.bool gr, .slice a3 rs.length c3])).put (some 25) (.agg #[.bool gz, .slice a5 zs.length c5])).put (some 8) (.pointer (some ⟨p6, 0, none⟩))) V := by
    as_aux_lemma =>
     intro a1 c1 a2 c2 a3 c3 a5 c5 p6 V N O5 Y6 n_p6
     refine Eq.mpr (hwp _ _ _ _) ?_
     rw [ha0]
     try simp only [Act.put, pA, pB, pC]
     refine rdA (i := 14) (h := fun K hK => ?_)
     have q0 := Y6.c0
     have q1 := Y6.c1
     have qf := Y6.fr
     go_simp
     replace N := Box2.chain N Y6 (.bool gz) (.slice a5 zs.length c5)
     replace O5 := O5.put2 n_p6.out (.bool gz) (.slice a5 zs.length c5)
     replace Y6 := Y6.put (.bool gz) (.slice a5 zs.length c5)
     refine hK.out _ _ N (fun hHeld => ?_)
     clear hK K hHeld
     try simp only [pA, pB, pC]
     clear q0 q1 qf
     generalize ((V.setCell ⟨p6, 0, none⟩ (.bool gz)).setCell ⟨p6, 1, none⟩ (.slice a5 zs.length c5)) = Vs0 at *
     refine wpAnyH_done (by kernel_rfl) ?_ _
     refine hcK _ _ (Met.intro (hcJ _ _ ?_))
     (repeat apply Exists.intro)
     refine ⟨?rel, rfl⟩
     case rel => exact ⟨p6, a5, c5, rfl, Y6, O5, N⟩
   have H4 : ∀ (a1 : Option Addr) (c1 : Nat) (a2 : Option Addr) (c2 : Nat) (a3 : Option Addr) (c3 : Nat) (a5 : Option Addr) (c5 : Nat) (V : World), Below W1.heap.size W1 V → Own W1.heap.size V a5 c5 zs → wpx 2 #[true, true, true, true, true, true, true, true, true, true, true, true, true, false, false] ((((fr0.put (some 15) (.agg #[.bool gu, .slice a1 us.length c1])).put (some 20) (.agg #[.bool gq, .slice a2 qs.length c2])).put (some 24) (.agg #[.bool gr, .slice a3 rs.length c3])).put (some 25) (.agg #[.bool gz, .slice a5 zs.length c5])) V := by
    as_aux_lemma =>
     intro a1 c1 a2 c2 a3 c3 a5 c5 V N O5
     refine Eq.mpr (hwp _ _ _ _) ?_
     rw [ha0]
     try simp only [Act.put, pA, pB, pC]
     refine rdA (i := 13) (h := fun K hK => ?_)
     ·go_simp
      have Y6 := Box2.new V (lo := W1.heap.size) N.size (.bool false) (.slice none 0 0) 37
      have hb := below1 V (.cells #[.bool false, .slice none 0 0] 37)
      have n_p6 : Hid (some V.heap.size ≠ rowOf a5 zs) := row_ne_high O5.toCame (Nat.le_refl _)
      replace O5 := O5.below hb
      replace N := N.trans (hb.mono N.size)
      refine hK.out _ _ N (fun hHeld => ?_)
      clear hK K hHeld
      try simp only [pA, pB, pC]
      clear hb
      refine Eq.mp (hwp _ _ _ _) ?_
      exact met2 (H4_p6 a1 c1 a2 c2 a3 c3 a5 c5 V.heap.size _ N O5 Y6 n_p6) (by kernel_rfl) (by rw [ha0]; simp only [Act.put, pA, pB, pC])
   have H3_p6 : ∀ (a1 : Option Addr) (c1 : Nat) (a2 : Option Addr) (c2 : Nat) (a3 : Option Addr) (c3 : Nat) (p6 : Nat) (V : World), Below W1.heap.size W1 V → Sees V a1 c1 us → Sees V a3 c3 rs → Box2 W1.heap.size V p6 (.bool false) (.slice none 0 0) → wpx 2 #[true, true, true, true, true, true, true, true, true, true, true, true, false, true, false] ((((fr0.put (some 15) (.agg #[.bool gu, .slice a1 us.length c1])).put (some 20) (.agg #[.bool gq, .slice a2 qs.length c2])).put (some 24) (.agg #[.bool gr, .slice a3 rs.length c3])).put (some 8) (.pointer (some ⟨p6, 0, none⟩))) V := by
    as_aux_lemma =>
     intro a1 c1 a2 c2 a3 c3 p6 V N S1 S3 Y6
     refine Eq.mpr (hwp _ _ _ _) ?_
     rw [ha0]
     try simp only [Act.put, pA, pB, pC]
     refine rdA (i := 12) (h := fun K hK => ?_)
     ·go_simp
      refine (mulA a1 a3 c1 c3 _ S1 S3 HU.out.1 GU.out HU.out.2.2.2.2.1 GR.out HU.out.2.2.2.2.2.2.1 GZ.out HB.out.1.1).mono ?_
      rintro e V1 ⟨a5, c5, rfl, o5, hb⟩
      have n_p6 : Hid (some p6 ≠ rowOf a5 zs) := row_ne_low o5 Y6.lt
      have O5 := o5.base_le (base' := W1.heap.size) N.size
      clear o5
      replace S1 := S1.below hb
      replace S3 := S3.below hb
      replace Y6 := Y6.below hb
      replace N := N.trans (hb.mono N.size)
      refine hK.out _ _ N (fun hHeld => ?_)
      clear hK K hHeld
      try simp only [pA, pB, pC]
      clear hb
      refine Eq.mp (hwp _ _ _ _) ?_
      exact met2 (H4_p6 a1 c1 a2 c2 a3 c3 a5 c5 p6 _ N O5 Y6 n_p6) (by kernel_rfl) (by rw [ha0]; simp only [Act.put, pA, pB, pC])
   have H3 : ∀ (a1 : Option Addr) (c1 : Nat) (a2 : Option Addr) (c2 : Nat) (a3 : Option Addr) (c3 : Nat) (V : World), Below W1.heap.size W1 V → Sees V a1 c1 us → Sees V a3 c3 rs → wpx 3 #[true, true, true, true, true, true, true, true, true, true, true, true, false, false, false] (((fr0.put (some 15) (.agg #[.bool gu, .slice a1 us.length c1])).put (some 20) (.agg #[.bool gq, .slice a2 qs.length c2])).put (some 24) (.agg #[.bool gr, .slice a3 rs.length c3])) V := by
    as_aux_lemma =>
     intro a1 c1 a2 c2 a3 c3 V N S1 S3
     refine Eq.mpr (hwp _ _ _ _) ?_
     rw [ha0]
     try simp only [Act.put, pA, pB, pC]
     refine wpAnyH_ready (rs := [12, 13]) (by kernel_rfl) (by simp) (AllReadyH.cons (gtA rfl) (fun K hK => ?_) (AllReadyH.cons (gtA rfl) (fun K hK => ?_) AllReadyH.nil))
     ·go_simp
      refine (mulA a1 a3 c1 c3 _ S1 S3 HU.out.1 GU.out HU.out.2.2.2.2.1 GR.out HU.out.2.2.2.2.2.2.1 GZ.out HB.out.1.1).mono ?_
      rintro e V1 ⟨a5, c5, rfl, o5, hb⟩
      have O5 := o5.base_le (base' := W1.heap.size) N.size
      clear o5
      replace S1 := S1.below hb
      replace S3 := S3.below hb
      replace N := N.trans (hb.mono N.size)
      refine hK.out _ _ N (fun hHeld => ?_)
      clear hK K hHeld
      try simp only [pA, pB, pC]
      clear hb
      refine Eq.mp (hwp _ _ _ _) ?_
      exact met2 (H4 a1 c1 a2 c2 a3 c3 a5 c5 _ N O5) (by kernel_rfl) (by rw [ha0]; simp only [Act.put, pA, pB, pC])
     ·go_simp
      have Y6 := Box2.new V (lo := W1.heap.size) N.size (.bool false) (.slice none 0 0) 37
      have hb := below1 V (.cells #[.bool false, .slice none 0 0] 37)
      replace S1 := S1.below hb
      replace S3 := S3.below hb
      replace N := N.trans (hb.mono N.size)
      refine hK.out _ _ N (fun hHeld => ?_)
      clear hK K hHeld
      try simp only [pA, pB, pC]
      clear hb
      refine Eq.mp (hwp _ _ _ _) ?_
      exact met2 (H3_p6 a1 c1 a2 c2 a3 c3 V.heap.size _ N S1 S3 Y6) (by kernel_rfl) (by rw [ha0]; simp only [Act.put, pA, pB, pC])
   have H2_p6 : ∀ (a1 : Option Addr) (c1 : Nat) (a2 : Option Addr) (c2 : Nat) (p6 : Nat) (V : World), Below W1.heap.size W1 V → Sees V a1 c1 us → Sees V a2 c2 qs → Box2 W1.heap.size V p6 (.bool false) (.slice none 0 0) → wpx 3 #[true, true, true, true, true, true, true, true, true, true, true, false, false, true, false] (((fr0.put (some 15) (.agg #[.bool gu, .slice a1 us.length c1])).put (some 20) (.agg #[.bool gq, .slice a2 qs.length c2])).put (some 8) (.pointer (some ⟨p6, 0, none⟩))) V := by
    as_aux_lemma =>
     intro a1 c1 a2 c2 p6 V N S1 S2 Y6
     refine Eq.mpr (hwp _ _ _ _) ?_
     rw [ha0]
     try simp only [Act.put, pA, pB, pC]
     refine rdA (i := 11) (h := fun K hK => ?_)
     ·go_simp
      refine (mulA a2 b c2 d _ S2 (Q.s2.below N) HU.out.2.2.1 GQ.out HT.out.L2 HT.out.G2 HU.out.2.2.2.2.1 GR.out HB.out.2.1).mono ?_
      rintro e V1 ⟨a3, c3, rfl, o3, hb⟩
      have S3 := o3.toSees
      clear o3
      replace S1 := S1.below hb
      replace S2 := S2.below hb
      replace Y6 := Y6.below hb
      replace N := N.trans (hb.mono N.size)
      refine hK.out _ _ N (fun hHeld => ?_)
      clear hK K hHeld
      try simp only [pA, pB, pC]
      clear hb
      refine Eq.mp (hwp _ _ _ _) ?_
      exact met2 (H3_p6 a1 c1 a2 c2 a3 c3 p6 _ N S1 S3 Y6) (by kernel_rfl) (by rw [ha0]; simp only [Act.put, pA, pB, pC])
   have H2 : ∀ (a1 : Option Addr) (c1 : Nat) (a2 : Option Addr) (c2 : Nat) (V : World), Below W1.heap.size W1 V → Sees V a1 c1 us → Sees V a2 c2 qs → wpx 4 #[true, true, true, true, true, true, true, true, true, true, true, false, false, false, false] ((fr0.put (some 15) (.agg #[.bool gu, .slice a1 us.length c1])).put (some 20) (.agg #[.bool gq, .slice a2 qs.length c2])) V := by
    as_aux_lemma =>
     intro a1 c1 a2 c2 V N S1 S2
     refine Eq.mpr (hwp _ _ _ _) ?_
     rw [ha0]
     try simp only [Act.put, pA, pB, pC]
     refine wpAnyH_ready (rs := [11, 13]) (by kernel_rfl) (by simp) (AllReadyH.cons (gtA rfl) (fun K hK => ?_) (AllReadyH.cons (gtA rfl) (fun K hK => ?_) AllReadyH.nil))
     ·go_simp
      refine (mulA a2 b c2 d _ S2 (Q.s2.below N) HU.out.2.2.1 GQ.out HT.out.L2 HT.out.G2 HU.out.2.2.2.2.1 GR.out HB.out.2.1).mono ?_
      rintro e V1 ⟨a3, c3, rfl, o3, hb⟩
      have S3 := o3.toSees
      clear o3
      replace S1 := S1.below hb
      replace S2 := S2.below hb
      replace N := N.trans (hb.mono N.size)
      refine hK.out _ _ N (fun hHeld => ?_)
      clear hK K hHeld
      try simp only [pA, pB, pC]
      clear hb
      refine Eq.mp (hwp _ _ _ _) ?_
      exact met2 (H3 a1 c1 a2 c2 a3 c3 _ N S1 S3) (by kernel_rfl) (by rw [ha0]; simp only [Act.put, pA, pB, pC])
     ·go_simp
      have Y6 := Box2.new V (lo := W1.heap.size) N.size (.bool false) (.slice none 0 0) 37
      have hb := below1 V (.cells #[.bool false, .slice none 0 0] 37)
      replace S1 := S1.below hb
      replace S2 := S2.below hb
      replace N := N.trans (hb.mono N.size)
      refine hK.out _ _ N (fun hHeld => ?_)
      clear hK K hHeld
      try simp only [pA, pB, pC]
      clear hb
      refine Eq.mp (hwp _ _ _ _) ?_
      exact met2 (H2_p6 a1 c1 a2 c2 V.heap.size _ N S1 S2 Y6) (by kernel_rfl) (by rw [ha0]; simp only [Act.put, pA, pB, pC])
   have H1_p6 : ∀ (a1 : Option Addr) (c1 : Nat) (p6 : Nat) (V : World), Below W1.heap.size W1 V → Sees V a1 c1 us → Box2 W1.heap.size V p6 (.bool false) (.slice none 0 0) → wpx 4 #[true, true, true, true, true, true, true, false, true, true, true, false, false, true, false] ((fr0.put (some 15) (.agg #[.bool gu, .slice a1 us.length c1])).put (some 8) (.pointer (some ⟨p6, 0, none⟩))) V := by
    as_aux_lemma =>
     intro a1 c1 p6 V N S1 Y6
     refine Eq.mpr (hwp _ _ _ _) ?_
     rw [ha0]
     try simp only [Act.put, pA, pB, pC]
     refine rdA (i := 7) (h := fun K hK => ?_)
     ·go_simp
      refine (beyondA a' b' c' d' _ (Q.s3.below N) (Q.s4.below N) HD.out.1.2 HT.out.L3 HT.out.G3 HT.out.L4 HT.out.G4 HU.out.2.2.1 GQ.out HT.out.l3 HT.out.l4).mono ?_
      rintro e V1 ⟨a2, c2, rfl, o2, hb⟩
      have S2 := o2.toSees
      clear o2
      replace S1 := S1.below hb
      replace Y6 := Y6.below hb
      replace N := N.trans (hb.mono N.size)
      refine hK.out _ _ N (fun hHeld => ?_)
      clear hK K hHeld
      try simp only [pA, pB, pC]
      clear hb
      refine Eq.mp (hwp _ _ _ _) ?_
      exact met2 (H2_p6 a1 c1 a2 c2 p6 _ N S1 S2 Y6) (by kernel_rfl) (by rw [ha0]; simp only [Act.put, pA, pB, pC])
   have H1 : ∀ (a1 : Option Addr) (c1 : Nat) (V : World), Below W1.heap.size W1 V → Sees V a1 c1 us → wpx 5 #[true, true, true, true, true, true, true, false, true, true, true, false, false, false, false] (fr0.put (some 15) (.agg #[.bool gu, .slice a1 us.length c1])) V := by
    as_aux_lemma =>
     intro a1 c1 V N S1
     refine Eq.mpr (hwp _ _ _ _) ?_
     rw [ha0]
     try simp only [Act.put, pA, pB, pC]
     refine wpAnyH_ready (rs := [7, 13]) (by kernel_rfl) (by simp) (AllReadyH.cons (gtA rfl) (fun K hK => ?_) (AllReadyH.cons (gtA rfl) (fun K hK => ?_) AllReadyH.nil))
     ·go_simp
      refine (beyondA a' b' c' d' _ (Q.s3.below N) (Q.s4.below N) HD.out.1.2 HT.out.L3 HT.out.G3 HT.out.L4 HT.out.G4 HU.out.2.2.1 GQ.out HT.out.l3 HT.out.l4).mono ?_
      rintro e V1 ⟨a2, c2, rfl, o2, hb⟩
      have S2 := o2.toSees
      clear o2
      replace S1 := S1.below hb
      replace N := N.trans (hb.mono N.size)
      refine hK.out _ _ N (fun hHeld => ?_)
      clear hK K hHeld
      try simp only [pA, pB, pC]
      clear hb
      refine Eq.mp (hwp _ _ _ _) ?_
      exact met2 (H2 a1 c1 a2 c2 _ N S1 S2) (by kernel_rfl) (by rw [ha0]; simp only [Act.put, pA, pB, pC])
     ·go_simp
      have Y6 := Box2.new V (lo := W1.heap.size) N.size (.bool false) (.slice none 0 0) 37
      have hb := below1 V (.cells #[.bool false, .slice none 0 0] 37)
      replace S1 := S1.below hb
      replace N := N.trans (hb.mono N.size)
      refine hK.out _ _ N (fun hHeld => ?_)
      clear hK K hHeld
      try simp only [pA, pB, pC]
      clear hb
      refine Eq.mp (hwp _ _ _ _) ?_
      exact met2 (H1_p6 a1 c1 V.heap.size _ N S1 Y6) (by kernel_rfl) (by rw [ha0]; simp only [Act.put, pA, pB, pC])
   have H0_p6 : ∀ (p6 : Nat) (V : World), Below W1.heap.size W1 V → Box2 W1.heap.size V p6 (.bool false) (.slice none 0 0) → wpx 5 #[true, true, false, true, true, true, true, false, true, true, true, false, false, true, false] (fr0.put (some 8) (.pointer (some ⟨p6, 0, none⟩))) V := by
    as_aux_lemma =>
     intro p6 V N Y6
     refine Eq.mpr (hwp _ _ _ _) ?_
     rw [ha0]
     try simp only [Act.put, pA, pB, pC]
     refine rdA (i := 2) (h := fun K hK => ?_)
     ·go_simp
      refine (ofA dx _ HR.out.1.1 HR.out.1.2 HU.out.1 GU.out).mono ?_
      rintro e V1 ⟨a1, c1, rfl, o1, hb⟩
      have S1 := o1.toSees
      clear o1
      replace Y6 := Y6.below hb
      replace N := N.trans (hb.mono N.size)
      refine hK.out _ _ N (fun hHeld => ?_)
      clear hK K hHeld
      try simp only [pA, pB, pC]
      clear hb
      refine Eq.mp (hwp _ _ _ _) ?_
      exact met2 (H1_p6 a1 c1 p6 _ N S1 Y6) (by kernel_rfl) (by rw [ha0]; simp only [Act.put, pA, pB, pC])
   have H0 : ∀ (V : World), Below W1.heap.size W1 V → wpx 6 #[true, true, false, true, true, true, true, false, true, true, true, false, false, false, false] fr0 V := by
    as_aux_lemma =>
     intro V N
     refine Eq.mpr (hwp _ _ _ _) ?_
     rw [ha0]
     try simp only [Act.put, pA, pB, pC]
     refine wpAnyH_ready (rs := [2, 13]) (by kernel_rfl) (by simp) (AllReadyH.cons (gtA rfl) (fun K hK => ?_) (AllReadyH.cons (gtA rfl) (fun K hK => ?_) AllReadyH.nil))
     ·go_simp
      refine (ofA dx _ HR.out.1.1 HR.out.1.2 HU.out.1 GU.out).mono ?_
      rintro e V1 ⟨a1, c1, rfl, o1, hb⟩
      have S1 := o1.toSees
      clear o1
      replace N := N.trans (hb.mono N.size)
      refine hK.out _ _ N (fun hHeld => ?_)
      clear hK K hHeld
      try simp only [pA, pB, pC]
      clear hb
      refine Eq.mp (hwp _ _ _ _) ?_
      exact met2 (H1 a1 c1 _ N S1) (by kernel_rfl) (by rw [ha0]; simp only [Act.put, pA, pB, pC])
     ·go_simp
      have Y6 := Box2.new V (lo := W1.heap.size) N.size (.bool false) (.slice none 0 0) 37
      have hb := below1 V (.cells #[.bool false, .slice none 0 0] 37)
      replace N := N.trans (hb.mono N.size)
      refine hK.out _ _ N (fun hHeld => ?_)
      clear hK K hHeld
      try simp only [pA, pB, pC]
      clear hb
      refine Eq.mp (hwp _ _ _ _) ?_
      exact met2 (H0_p6 V.heap.size _ N Y6) (by kernel_rfl) (by rw [ha0]; simp only [Act.put, pA, pB, pC])
   intro ww0 N
   exact met2 (H0 ww0 N) (by kernel_rfl) rfl
 rename World => W2
 obtain ⟨p8, a8, c8, rfl, Y8, O8, hb⟩ := hcut
 replace Q := Q.below hb
 replace K8 := K8.below hb
 replace V1 := V1.below hb
 replace V3 := V3.below hb
 replace B := B.trans (hb.mono B.size)
 clear hb
 go_upto_region 3 with fail
 go_cut [9] (fun s9 W => ∃ (p : Nat) (a5 : Option Addr) (c5 : Nat), s9 = .pointer (some ⟨p, 0, none⟩) ∧ Box2 W2.heap.size W p (.bool gt) (.slice a5 ts.length c5) ∧ Own W2.heap.size W a5 c5 ts ∧ Below W2.heap.size W2 W)
 case first =>
  as_aux_lemma =>
   rename_i hcJ hcK
   have N : Below W2.heap.size W2 W2.drew := (Below.refl _ _).drew
   refine wp_region_held_drew (S := fun w' => Below W2.heap.size W2 w') (by kernel_rfl) N (fun hHeld => ?_)
   clear hHeld
   generalize W2.drew = ww0 at *
   refine takeA (i := 0) (h := ?_)
   refine takeA (i := 1) (hy := by intro wq hSw; have y0 := bat hSw K8.c0; have y1 := bat hSw K8.c1; have y2 := bat hSw K8.c2; have y3 := bat hSw K8.c3; have y4 := bat hSw K8.c4; have y5 := bat hSw K8.c5; have y6 := bat hSw K8.c6; have y7 := bat hSw K8.c7; have z0 := bat hSw V1.c0; have z1 := bat hSw V1.c1; have z2 := bat hSw V3.c0; have z3 := bat hSw V3.c1; go_simp <;> with_reducible rfl) (h := ?_)
   refine takeA (i := 3) (h := ?_)
   refine takeA (i := 4) (hy := by intro wq hSw; have y0 := bat hSw K8.c0; have y1 := bat hSw K8.c1; have y2 := bat hSw K8.c2; have y3 := bat hSw K8.c3; have y4 := bat hSw K8.c4; have y5 := bat hSw K8.c5; have y6 := bat hSw K8.c6; have y7 := bat hSw K8.c7; have z0 := bat hSw V1.c0; have z1 := bat hSw V1.c1; have z2 := bat hSw V3.c0; have z3 := bat hSw V3.c1; go_simp <;> with_reducible rfl) (h := ?_)
   refine takeA (i := 5) (h := ?_)
   refine takeA (i := 6) (hy := by intro wq hSw; have y0 := bat hSw K8.c0; have y1 := bat hSw K8.c1; have y2 := bat hSw K8.c2; have y3 := bat hSw K8.c3; have y4 := bat hSw K8.c4; have y5 := bat hSw K8.c5; have y6 := bat hSw K8.c6; have y7 := bat hSw K8.c7; have z0 := bat hSw V1.c0; have z1 := bat hSw V1.c1; have z2 := bat hSw V3.c0; have z3 := bat hSw V3.c1; go_simp <;> with_reducible rfl) (h := ?_)
   refine takeA (i := 8) (h := ?_)
   refine takeA (i := 9) (h := ?_)
   refine takeA (i := 10) (hy := by intro wq hSw; have y0 := bat hSw K8.c0; have y1 := bat hSw K8.c1; have y2 := bat hSw K8.c2; have y3 := bat hSw K8.c3; have y4 := bat hSw K8.c4; have y5 := bat hSw K8.c5; have y6 := bat hSw K8.c6; have y7 := bat hSw K8.c7; have z0 := bat hSw V1.c0; have z1 := bat hSw V1.c1; have z2 := bat hSw V3.c0; have z3 := bat hSw V3.c1; go_simp <;> with_reducible rfl) (h := ?_)
   refine capture2 (fun wpx fr0 ha0 hwp => ?_)
   revert N
   revert ww0
   have H4_p6 : ∀ (a1 : Option Addr) (c1 : Nat) (a2 : Option Addr) (c2 : Nat) (a3 : Option Addr) (c3 : Nat) (a5 : Option Addr) (c5 : Nat) (p6 : Nat) (V : World), Below W2.heap.size W2 V → Own W2.heap.size V a5 c5 ts → Box2 W2.heap.size V p6 (.bool false) (.slice none 0 0) → Hid (some p6 ≠ rowOf a5 ts) → wpx 1 #[true, true, true, true, true, true, true, true, true, true, true, true, true, true, false] (((((fr0.put (some 28) (.agg #[.bool gv, .slice a1 vs.length c1])).put (some 33) (.agg #[.bool gp, .slice a2 ps.length c2])).put (some 37) (.agg #[.bool gs, .slice a3 ss.length c3])).put (some 38) (.agg #[.bool gt, .slice a5 ts.length c5])).put (some 9) (.pointer (some ⟨p6, 0, none⟩))) V := by
    as_aux_lemma =>
     intro a1 c1 a2 c2 a3 c3 a5 c5 p6 V N O5 Y6 n_p6
     refine Eq.mpr (hwp _ _ _ _) ?_
     rw [ha0]
     try simp only [Act.put, pA, pB, pC]
     refine rdA (i := 14) (h := fun K hK => ?_)
     have q0 := Y6.c0
     have q1 := Y6.c1
     have qf := Y6.fr
     go_simp
     replace N := Box2.chain N Y6 (.bool gt) (.slice a5 ts.length c5)
     replace O5 := O5.put2 n_p6.out (.bool gt) (.slice a5 ts.length c5)
     replace Y6 := Y6.put (.bool gt) (.slice a5 ts.length c5)
     refine hK.out _ _ N (fun hHeld => ?_)
     clear hK K hHeld
     try simp only [pA, pB, pC]
     clear q0 q1 qf
     generalize ((V.setCell ⟨p6, 0, none⟩ (.bool gt)).setCell ⟨p6, 1, none⟩ (.slice a5 ts.length c5)) = Vs0 at *
     refine wpAnyH_done (by kernel_rfl) ?_ _
     refine hcK _ _ (Met.intro (hcJ _ _ ?_))
     (repeat apply Exists.intro)
     refine ⟨?rel, rfl⟩
     case rel => exact ⟨p6, a5, c5, rfl, Y6, O5, N⟩
   have H4 : ∀ (a1 : Option Addr) (c1 : Nat) (a2 : Option Addr) (c2 : Nat) (a3 : Option Addr) (c3 : Nat) (a5 : Option Addr) (c5 : Nat) (V : World), Below W2.heap.size W2 V → Own W2.heap.size V a5 c5 ts → wpx 2 #[true, true, true, true, true, true, true, true, true, true, true, true, true, false, false] ((((fr0.put (some 28) (.agg #[.bool gv, .slice a1 vs.length c1])).put (some 33) (.agg #[.bool gp, .slice a2 ps.length c2])).put (some 37) (.agg #[.bool gs, .slice a3 ss.length c3])).put (some 38) (.agg #[.bool gt, .slice a5 ts.length c5])) V := by
    as_aux_lemma =>
     intro a1 c1 a2 c2 a3 c3 a5 c5 V N O5
     refine Eq.mpr (hwp _ _ _ _) ?_
     rw [ha0]
     try simp only [Act.put, pA, pB, pC]
     refine rdA (i := 13) (h := fun K hK => ?_)
     ·go_simp
      have Y6 := Box2.new V (lo := W2.heap.size) N.size (.bool false) (.slice none 0 0) 37
      have hb := below1 V (.cells #[.bool false, .slice none 0 0] 37)
      have n_p6 : Hid (some V.heap.size ≠ rowOf a5 ts) := row_ne_high O5.toCame (Nat.le_refl _)
      replace O5 := O5.below hb
      replace N := N.trans (hb.mono N.size)
      refine hK.out _ _ N (fun hHeld => ?_)
      clear hK K hHeld
      try simp only [pA, pB, pC]
      clear hb
      refine Eq.mp (hwp _ _ _ _) ?_
      exact met2 (H4_p6 a1 c1 a2 c2 a3 c3 a5 c5 V.heap.size _ N O5 Y6 n_p6) (by kernel_rfl) (by rw [ha0]; simp only [Act.put, pA, pB, pC])
   have H3_p6 : ∀ (a1 : Option Addr) (c1 : Nat) (a2 : Option Addr) (c2 : Nat) (a3 : Option Addr) (c3 : Nat) (p6 : Nat) (V : World), Below W2.heap.size W2 V → Sees V a1 c1 vs → Sees V a3 c3 ss → Box2 W2.heap.size V p6 (.bool false) (.slice none 0 0) → wpx 2 #[true, true, true, true, true, true, true, true, true, true, true, true, false, true, false] ((((fr0.put (some 28) (.agg #[.bool gv, .slice a1 vs.length c1])).put (some 33) (.agg #[.bool gp, .slice a2 ps.length c2])).put (some 37) (.agg #[.bool gs, .slice a3 ss.length c3])).put (some 9) (.pointer (some ⟨p6, 0, none⟩))) V := by
    as_aux_lemma =>
     intro a1 c1 a2 c2 a3 c3 p6 V N S1 S3 Y6
     refine Eq.mpr (hwp _ _ _ _) ?_
     rw [ha0]
     try simp only [Act.put, pA, pB, pC]
     refine rdA (i := 12) (h := fun K hK => ?_)
     ·go_simp
      refine (mulA a1 a3 c1 c3 _ S1 S3 HU.out.2.1 GV.out HU.out.2.2.2.2.2.1 GS.out HU.out.2.2.2.2.2.2.2 GT.out HB.out.1.2).mono ?_
      rintro e V1 ⟨a5, c5, rfl, o5, hb⟩
      have n_p6 : Hid (some p6 ≠ rowOf a5 ts) := row_ne_low o5 Y6.lt
      have O5 := o5.base_le (base' := W2.heap.size) N.size
      clear o5
      replace S1 := S1.below hb
      replace S3 := S3.below hb
      replace Y6 := Y6.below hb
      replace N := N.trans (hb.mono N.size)
      refine hK.out _ _ N (fun hHeld => ?_)
      clear hK K hHeld
      try simp only [pA, pB, pC]
      clear hb
      refine Eq.mp (hwp _ _ _ _) ?_
      exact met2 (H4_p6 a1 c1 a2 c2 a3 c3 a5 c5 p6 _ N O5 Y6 n_p6) (by kernel_rfl) (by rw [ha0]; simp only [Act.put, pA, pB, pC])
   have H3 : ∀ (a1 : Option Addr) (c1 : Nat) (a2 : Option Addr) (c2 : Nat) (a3 : Option Addr) (c3 : Nat) (V : World), Below W2.heap.size W2 V → Sees V a1 c1 vs → Sees V a3 c3 ss → wpx 3 #[true, true, true, true, true, true, true, true, true, true, true, true, false, false, false] (((fr0.put (some 28) (.agg #[.bool gv, .slice a1 vs.length c1])).put (some 33) (.agg #[.bool gp, .slice a2 ps.length c2])).put (some 37) (.agg #[.bool gs, .slice a3 ss.length c3])) V := by
    as_aux_lemma =>
     intro a1 c1 a2 c2 a3 c3 V N S1 S3
     refine Eq.mpr (hwp _ _ _ _) ?_
     rw [ha0]
     try simp only [Act.put, pA, pB, pC]
     refine wpAnyH_ready (rs := [12, 13]) (by kernel_rfl) (by simp) (AllReadyH.cons (gtA rfl) (fun K hK => ?_) (AllReadyH.cons (gtA rfl) (fun K hK => ?_) AllReadyH.nil))
     ·go_simp
      refine (mulA a1 a3 c1 c3 _ S1 S3 HU.out.2.1 GV.out HU.out.2.2.2.2.2.1 GS.out HU.out.2.2.2.2.2.2.2 GT.out HB.out.1.2).mono ?_
      rintro e V1 ⟨a5, c5, rfl, o5, hb⟩
      have O5 := o5.base_le (base' := W2.heap.size) N.size
      clear o5
      replace S1 := S1.below hb
      replace S3 := S3.below hb
      replace N := N.trans (hb.mono N.size)
      refine hK.out _ _ N (fun hHeld => ?_)
      clear hK K hHeld
      try simp only [pA, pB, pC]
      clear hb
      refine Eq.mp (hwp _ _ _ _) ?_
      exact met2 (H4 a1 c1 a2 c2 a3 c3 a5 c5 _ N O5) (by kernel_rfl) (by rw [ha0]; simp only [Act.put, pA, pB, pC])
     ·go_simp
      have Y6 := Box2.new V (lo := W2.heap.size) N.size (.bool false) (.slice none 0 0) 37
      have hb := below1 V (.cells #[.bool false, .slice none 0 0] 37)
      replace S1 := S1.below hb
      replace S3 := S3.below hb
      replace N := N.trans (hb.mono N.size)
      refine hK.out _ _ N (fun hHeld => ?_)
      clear hK K hHeld
      try simp only [pA, pB, pC]
      clear hb
      refine Eq.mp (hwp _ _ _ _) ?_
      exact met2 (H3_p6 a1 c1 a2 c2 a3 c3 V.heap.size _ N S1 S3 Y6) (by kernel_rfl) (by rw [ha0]; simp only [Act.put, pA, pB, pC])
   have H2_p6 : ∀ (a1 : Option Addr) (c1 : Nat) (a2 : Option Addr) (c2 : Nat) (p6 : Nat) (V : World), Below W2.heap.size W2 V → Sees V a1 c1 vs → Sees V a2 c2 ps → Box2 W2.heap.size V p6 (.bool false) (.slice none 0 0) → wpx 3 #[true, true, true, true, true, true, true, true, true, true, true, false, false, true, false] (((fr0.put (some 28) (.agg #[.bool gv, .slice a1 vs.length c1])).put (some 33) (.agg #[.bool gp, .slice a2 ps.length c2])).put (some 9) (.pointer (some ⟨p6, 0, none⟩))) V := by
    as_aux_lemma =>
     intro a1 c1 a2 c2 p6 V N S1 S2 Y6
     refine Eq.mpr (hwp _ _ _ _) ?_
     rw [ha0]
     try simp only [Act.put, pA, pB, pC]
     refine rdA (i := 11) (h := fun K hK => ?_)
     ·go_simp
      refine (mulA a2 b' c2 d' _ S2 (Q.s4.below N) HU.out.2.2.2.1 GP.out HT.out.L4 HT.out.G4 HU.out.2.2.2.2.2.1 GS.out HB.out.2.2).mono ?_
      rintro e V1 ⟨a3, c3, rfl, o3, hb⟩
      have S3 := o3.toSees
      clear o3
      replace S1 := S1.below hb
      replace S2 := S2.below hb
      replace Y6 := Y6.below hb
      replace N := N.trans (hb.mono N.size)
      refine hK.out _ _ N (fun hHeld => ?_)
      clear hK K hHeld
      try simp only [pA, pB, pC]
      clear hb
      refine Eq.mp (hwp _ _ _ _) ?_
      exact met2 (H3_p6 a1 c1 a2 c2 a3 c3 p6 _ N S1 S3 Y6) (by kernel_rfl) (by rw [ha0]; simp only [Act.put, pA, pB, pC])
   have H2 : ∀ (a1 : Option Addr) (c1 : Nat) (a2 : Option Addr) (c2 : Nat) (V : World), Below W2.heap.size W2 V → Sees V a1 c1 vs → Sees V a2 c2 ps → wpx 4 #[true, true, true, true, true, true, true, true, true, true, true, false, false, false, false] ((fr0.put (some 28) (.agg #[.bool gv, .slice a1 vs.length c1])).put (some 33) (.agg #[.bool gp, .slice a2 ps.length c2])) V := by
    as_aux_lemma =>
     intro a1 c1 a2 c2 V N S1 S2
     refine Eq.mpr (hwp _ _ _ _) ?_
     rw [ha0]
     try simp only [Act.put, pA, pB, pC]
     refine wpAnyH_ready (rs := [11, 13]) (by kernel_rfl) (by simp) (AllReadyH.cons (gtA rfl) (fun K hK => ?_) (AllReadyH.cons (gtA rfl) (fun K hK => ?_) AllReadyH.nil))
     ·go_simp
      refine (mulA a2 b' c2 d' _ S2 (Q.s4.below N) HU.out.2.2.2.1 GP.out HT.out.L4 HT.out.G4 HU.out.2.2.2.2.2.1 GS.out HB.out.2.2).mono ?_
      rintro e V1 ⟨a3, c3, rfl, o3, hb⟩
      have S3 := o3.toSees
      clear o3
      replace S1 := S1.below hb
      replace S2 := S2.below hb
      replace N := N.trans (hb.mono N.size)
      refine hK.out _ _ N (fun hHeld => ?_)
      clear hK K hHeld
      try simp only [pA, pB, pC]
      clear hb
      refine Eq.mp (hwp _ _ _ _) ?_
      exact met2 (H3 a1 c1 a2 c2 a3 c3 _ N S1 S3) (by kernel_rfl) (by rw [ha0]; simp only [Act.put, pA, pB, pC])
     ·go_simp
      have Y6 := Box2.new V (lo := W2.heap.size) N.size (.bool false) (.slice none 0 0) 37
      have hb := below1 V (.cells #[.bool false, .slice none 0 0] 37)
      replace S1 := S1.below hb
      replace S2 := S2.below hb
      replace N := N.trans (hb.mono N.size)
      refine hK.out _ _ N (fun hHeld => ?_)
      clear hK K hHeld
      try simp only [pA, pB, pC]
      clear hb
      refine Eq.mp (hwp _ _ _ _) ?_
      exact met2 (H2_p6 a1 c1 a2 c2 V.heap.size _ N S1 S2 Y6) (by kernel_rfl) (by rw [ha0]; simp only [Act.put, pA, pB, pC])
   have H1_p6 : ∀ (a1 : Option Addr) (c1 : Nat) (p6 : Nat) (V : World), Below W2.heap.size W2 V → Sees V a1 c1 vs → Box2 W2.heap.size V p6 (.bool false) (.slice none 0 0) → wpx 4 #[true, true, true, true, true, true, true, false, true, true, true, false, false, true, false] ((fr0.put (some 28) (.agg #[.bool gv, .slice a1 vs.length c1])).put (some 9) (.pointer (some ⟨p6, 0, none⟩))) V := by
    as_aux_lemma =>
     intro a1 c1 p6 V N S1 Y6
     refine Eq.mpr (hwp _ _ _ _) ?_
     rw [ha0]
     try simp only [Act.put, pA, pB, pC]
     refine rdA (i := 7) (h := fun K hK => ?_)
     ·go_simp
      refine (beyondA a b c d _ (Q.s1.below N) (Q.s2.below N) HD.out.1.1 HT.out.L1 HT.out.G1 HT.out.L2 HT.out.G2 HU.out.2.2.2.1 GP.out HT.out.l1 HT.out.l2).mono ?_
      rintro e V1 ⟨a2, c2, rfl, o2, hb⟩
      have S2 := o2.toSees
      clear o2
      replace S1 := S1.below hb
      replace Y6 := Y6.below hb
      replace N := N.trans (hb.mono N.size)
      refine hK.out _ _ N (fun hHeld => ?_)
      clear hK K hHeld
      try simp only [pA, pB, pC]
      clear hb
      refine Eq.mp (hwp _ _ _ _) ?_
      exact met2 (H2_p6 a1 c1 a2 c2 p6 _ N S1 S2 Y6) (by kernel_rfl) (by rw [ha0]; simp only [Act.put, pA, pB, pC])
   have H1 : ∀ (a1 : Option Addr) (c1 : Nat) (V : World), Below W2.heap.size W2 V → Sees V a1 c1 vs → wpx 5 #[true, true, true, true, true, true, true, false, true, true, true, false, false, false, false] (fr0.put (some 28) (.agg #[.bool gv, .slice a1 vs.length c1])) V := by
    as_aux_lemma =>
     intro a1 c1 V N S1
     refine Eq.mpr (hwp _ _ _ _) ?_
     rw [ha0]
     try simp only [Act.put, pA, pB, pC]
     refine wpAnyH_ready (rs := [7, 13]) (by kernel_rfl) (by simp) (AllReadyH.cons (gtA rfl) (fun K hK => ?_) (AllReadyH.cons (gtA rfl) (fun K hK => ?_) AllReadyH.nil))
     ·go_simp
      refine (beyondA a b c d _ (Q.s1.below N) (Q.s2.below N) HD.out.1.1 HT.out.L1 HT.out.G1 HT.out.L2 HT.out.G2 HU.out.2.2.2.1 GP.out HT.out.l1 HT.out.l2).mono ?_
      rintro e V1 ⟨a2, c2, rfl, o2, hb⟩
      have S2 := o2.toSees
      clear o2
      replace S1 := S1.below hb
      replace N := N.trans (hb.mono N.size)
      refine hK.out _ _ N (fun hHeld => ?_)
      clear hK K hHeld
      try simp only [pA, pB, pC]
      clear hb
      refine Eq.mp (hwp _ _ _ _) ?_
      exact met2 (H2 a1 c1 a2 c2 _ N S1 S2) (by kernel_rfl) (by rw [ha0]; simp only [Act.put, pA, pB, pC])
     ·go_simp
      have Y6 := Box2.new V (lo := W2.heap.size) N.size (.bool false) (.slice none 0 0) 37
      have hb := below1 V (.cells #[.bool false, .slice none 0 0] 37)
      replace S1 := S1.below hb
      replace N := N.trans (hb.mono N.size)
      refine hK.out _ _ N (fun hHeld => ?_)
      clear hK K hHeld
      try simp only [pA, pB, pC]
      clear hb
      refine Eq.mp (hwp _ _ _ _) ?_
      exact met2 (H1_p6 a1 c1 V.heap.size _ N S1 Y6) (by kernel_rfl) (by rw [ha0]; simp only [Act.put, pA, pB, pC])
   have H0_p6 : ∀ (p6 : Nat) (V : World), Below W2.heap.size W2 V → Box2 W2.heap.size V p6 (.bool false) (.slice none 0 0) → wpx 5 #[true, true, false, true, true, true, true, false, true, true, true, false, false, true, false] (fr0.put (some 9) (.pointer (some ⟨p6, 0, none⟩))) V := by
    as_aux_lemma =>
     intro p6 V N Y6
     refine Eq.mpr (hwp _ _ _ _) ?_
     rw [ha0]
     try simp only [Act.put, pA, pB, pC]
     refine rdA (i := 2) (h := fun K hK => ?_)
     ·go_simp
      refine (ofA dy _ HR.out.2.1 HR.out.2.2 HU.out.2.1 GV.out).mono ?_
      rintro e V1 ⟨a1, c1, rfl, o1, hb⟩
      have S1 := o1.toSees
      clear o1
      replace Y6 := Y6.below hb
      replace N := N.trans (hb.mono N.size)
      refine hK.out _ _ N (fun hHeld => ?_)
      clear hK K hHeld
      try simp only [pA, pB, pC]
      clear hb
      refine Eq.mp (hwp _ _ _ _) ?_
      exact met2 (H1_p6 a1 c1 p6 _ N S1 Y6) (by kernel_rfl) (by rw [ha0]; simp only [Act.put, pA, pB, pC])
   have H0 : ∀ (V : World), Below W2.heap.size W2 V → wpx 6 #[true, true, false, true, true, true, true, false, true, true, true, false, false, false, false] fr0 V := by
    as_aux_lemma =>
     intro V N
     refine Eq.mpr (hwp _ _ _ _) ?_
     rw [ha0]
     try simp only [Act.put, pA, pB, pC]
     refine wpAnyH_ready (rs := [2, 13]) (by kernel_rfl) (by simp) (AllReadyH.cons (gtA rfl) (fun K hK => ?_) (AllReadyH.cons (gtA rfl) (fun K hK => ?_) AllReadyH.nil))
     ·go_simp
      refine (ofA dy _ HR.out.2.1 HR.out.2.2 HU.out.2.1 GV.out).mono ?_
      rintro e V1 ⟨a1, c1, rfl, o1, hb⟩
      have S1 := o1.toSees
      clear o1
      replace N := N.trans (hb.mono N.size)
      refine hK.out _ _ N (fun hHeld => ?_)
      clear hK K hHeld
      try simp only [pA, pB, pC]
      clear hb
      refine Eq.mp (hwp _ _ _ _) ?_
      exact met2 (H1 a1 c1 _ N S1) (by kernel_rfl) (by rw [ha0]; simp only [Act.put, pA, pB, pC])
     ·go_simp
      have Y6 := Box2.new V (lo := W2.heap.size) N.size (.bool false) (.slice none 0 0) 37
      have hb := below1 V (.cells #[.bool false, .slice none 0 0] 37)
      replace N := N.trans (hb.mono N.size)
      refine hK.out _ _ N (fun hHeld => ?_)
      clear hK K hHeld
      try simp only [pA, pB, pC]
      clear hb
      refine Eq.mp (hwp _ _ _ _) ?_
      exact met2 (H0_p6 V.heap.size _ N Y6) (by kernel_rfl) (by rw [ha0]; simp only [Act.put, pA, pB, pC])
   intro ww0 N
   exact met2 (H0 ww0 N) (by kernel_rfl) rfl
 rename World => W3
 obtain ⟨p9, a9, c9, rfl, Y9, O9, hb⟩ := hcut
 replace Y8 := Y8.below hb
 have S8 := O8.toSees.below hb
 have S9 := O9.toSees
 replace B := B.trans (hb.mono B.size)
 clear hb Q K8 V1 V3 O8 O9
 obtain ⟨k0, k1, _, _⟩ := id Y8
 obtain ⟨k2, k3, _, _⟩ := id Y9
 go_wp2_with fail
 refine (comparedC gz gt a8 a9 c8 c9 zs ts _ S8 S9 HU.out.2.2.2.2.2.2.1.2.1 HU.out.2.2.2.2.2.2.2.2.1 (HU.out.2.2.2.2.2.2.1.none GZ.out) (HU.out.2.2.2.2.2.2.2.none GT.out)).mono ?_
 rintro e w4 ⟨rfl, hb⟩
 rw [HU.out.2.2.2.2.2.2.1.sg GZ.out, HU.out.2.2.2.2.2.2.2.sg GT.out, HC.out]
 replace B := B.trans (hb.mono B.size)
 clear hb k0 k1 k2 k3 Y8 Y9 S8 S9
 go_wp2
 go_ret
 exact ⟨by rw [HZ.out]; rfl, B⟩
end Go.Proofs.YthafgldgidmnlaaGreat
