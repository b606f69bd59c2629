/- Where a place of two fractions lies by an area, of the specification: l6LocateFrac, LocateFrac. -/
import Derived.Test.YthafgldgidmnlaaGreatLfT
namespace Go.Proofs.YthafgldgidmnlaaGreat
open Go.RowKit

set_option maxRecDepth 20000 in
set_option maxHeartbeats 8000000 in
theorem l6LocateFrac_any {X D Y E : Int} (n : Int) (a : Option Addr) (c : Nat) (rs : List (List (Int × Int))) (g h g' h' : Bool) (a1 b1 a2 b2 : Option Addr) (c1 d1 c2 d2 : Nat) (ns ds ms es : List Int) (w : World) (hs : SeesS w a c rs) (Q : PlS w a1 c1 ns b1 d1 ds a2 c2 ms b2 d2 es) (T : PlT X D Y E g ns h ds g' ms h' es) (h0 : 0 < rs.length) (ok : ∀ i, i < rs.length → okL (rowA rs i) = true) :
  Calls Tryz.prog 16 #[.agg #[.int .i64 n, .slice a rs.length c], .agg #[.bool g, .slice a1 ns.length c1, .bool h, .slice b1 ds.length d1], .agg #[.bool g', .slice a2 ms.length c2, .bool h', .slice b2 es.length d2]] w fun e w' => e = .returned (.int .i64 (lcS (sdS D E rs) (X, Y) (rs.length - 1))) ∧ Below w.heap.size w w' := by
 have hm := hs.max
 have hf := hs.fits
 unfold maxLen at hm
 have B := below3 w (.cells #[.int .i64 n, .slice a rs.length c] 35) (.cells #[.bool g, .slice a1 ns.length c1, .bool h, .slice b1 ds.length d1] 39) (.cells #[.bool g', .slice a2 ms.length c2, .bool h', .slice b2 es.length d2] 39)
 have V1 := (Box2.new w (lo := 0) (Nat.zero_le _) (.int .i64 n) (.slice a rs.length c) 35).below (below2 _ (.cells #[.bool g, .slice a1 ns.length c1, .bool h, .slice b1 ds.length d1] 39) (.cells #[.bool g', .slice a2 ms.length c2, .bool h', .slice b2 es.length d2] 39))
 have V2 := (Box4.new (w.alloc (.cells #[.int .i64 n, .slice a rs.length c] 35)) (lo := 0) (Nat.zero_le _) (.bool g) (.slice a1 ns.length c1) (.bool h) (.slice b1 ds.length d1) 39).below (below1 _ (.cells #[.bool g', .slice a2 ms.length c2, .bool h', .slice b2 es.length d2] 39))
 have V3 := Box4.new ((w.alloc (.cells #[.int .i64 n, .slice a rs.length c] 35)).alloc (.cells #[.bool g, .slice a1 ns.length c1, .bool h, .slice b1 ds.length d1] 39)) (lo := 0) (Nat.zero_le _) (.bool g') (.slice a2 ms.length c2) (.bool h') (.slice b2 es.length d2) 39
 rw [World.size_alloc] at V2
 rw [World.size_alloc, World.size_alloc] at V3
 replace hs := hs.below B
 replace Q := Q.below B
 obtain ⟨b, off, rfl, hc⟩ := hs.cells (by intro e; simp [e] at h0)
 obtain ⟨a0, c0, g0, P0⟩ := hc 0 h0
 rw [Nat.add_zero] at g0
 have O0 := ok 0 h0
 have HST : Hid (∀ j, lcS (sdS D E rs) (X, Y) j ≠ 2 → j ≤ rs.length - 1 → lcS (sdS D E rs) (X, Y) (rs.length - 1) = lcS (sdS D E rs) (X, Y) j) := fun j q hj => lcS_stay q _ hj
 have HI : Hid (lcS (sdS D E rs) (X, Y) 0 = inV (sdR D E (rowA rs 0)) X Y) := by
  show inV (rowA (sdS D E rs) 0) X Y = _
  rw [sdS_at]
 have hrl : (0 : Int) < rs.length := by omega
 have HT : Hid (PlT X D Y E g ns h ds g' ms h' es) := T
 clear T hs
 go_enter Tryz.func16, Tryz.ntmps16
 go_upto_region 1 with fail
 generalize (((w.alloc (.cells #[.int .i64 n, .slice (some ⟨b, off, none⟩) rs.length c] 35)).alloc (.cells #[.bool g, .slice a1 ns.length c1, .bool h, .slice b1 ds.length d1] 39)).alloc (.cells #[.bool g', .slice a2 ms.length c2, .bool h', .slice b2 es.length d2] 39)) = W0 at *
 generalize rowA rs 0 = p0 at *
 have N : Below W0.heap.size W0 W0.drew := (Below.refl _ _).drew
 refine wp_region_held_drew (S := fun w' => Below W0.heap.size W0 w') (by kernel_rfl) N (fun hHeld => ?_)
 clear hHeld
 generalize W0.drew = ww0 at *
 refine takeA (i := 0) (h := ?_)
 refine takeA (i := 1) (hy := by intro wq hSw; have y0 := bat hSw V1.c0; have y1 := bat hSw V1.c1; have y2 := bat hSw g0; have z0 := bat hSw V2.c0; have v0 := bat hSw V3.c0; have z1 := bat hSw V2.c1; have v1 := bat hSw V3.c1; have z2 := bat hSw V2.c2; have v2 := bat hSw V3.c2; have z3 := bat hSw V2.c3; have v3 := bat hSw V3.c3; go_simp <;> with_reducible rfl) (h := ?_)
 refine takeA (i := 2) (h := ?_)
 refine takeA (i := 3) (hy := by intro wq hSw; have y0 := bat hSw V1.c0; have y1 := bat hSw V1.c1; have y2 := bat hSw g0; have z0 := bat hSw V2.c0; have v0 := bat hSw V3.c0; have z1 := bat hSw V2.c1; have v1 := bat hSw V3.c1; have z2 := bat hSw V2.c2; have v2 := bat hSw V3.c2; have z3 := bat hSw V2.c3; have v3 := bat hSw V3.c3; go_simp <;> with_reducible rfl) (h := ?_)
 refine takeA (i := 4) (hy := by intro wq hSw; have y0 := bat hSw V1.c0; have y1 := bat hSw V1.c1; have y2 := bat hSw g0; have z0 := bat hSw V2.c0; have v0 := bat hSw V3.c0; have z1 := bat hSw V2.c1; have v1 := bat hSw V3.c1; have z2 := bat hSw V2.c2; have v2 := bat hSw V3.c2; have z3 := bat hSw V2.c3; have v3 := bat hSw V3.c3; go_simp <;> with_reducible rfl) (h := ?_)
 refine takeA (i := 5) (hy := by intro wq hSw; have y0 := bat hSw V1.c0; have y1 := bat hSw V1.c1; have y2 := bat hSw g0; have z0 := bat hSw V2.c0; have v0 := bat hSw V3.c0; have z1 := bat hSw V2.c1; have v1 := bat hSw V3.c1; have z2 := bat hSw V2.c2; have v2 := bat hSw V3.c2; have z3 := bat hSw V2.c3; have v3 := bat hSw V3.c3; go_simp <;> with_reducible rfl) (h := ?_)
 refine rdA (i := 6) (h := fun K hK => ?_)
 go_simp
 refine (l6InFrac_any a0 c0 p0 _ (P0.below N) O0 (Q.below N) HT.out).mono ?_
 rintro e ww1 ⟨rfl, hb⟩
 rw [← HI.out]
 replace N := N.trans (hb.mono N.size)
 clear hb
 refine hK.out _ _ N (fun hHeld => ?_)
 clear hK K hHeld
 try simp only [Act.put, pA, pB, pC]
 refine takeA (i := 7) (h := ?_)
 refine wpAnyH_done (by kernel_rfl) ?_ _
 have NN := N
 clear N g0 P0 O0
 go_wp2
 go_loopw [7, 8] (fun s7 s8 wr => ∃ j : Nat, 1 ≤ j ∧ j ≤ rs.length ∧ s8 = .int .i64 j ∧ s7 = .int .i64 (lcS (sdS D E rs) (X, Y) (j - 1)) ∧ Below W0.heap.size W0 wr) (fun _ s8 _ => rs.length - (intOf s8).toNat)
 case atStart => exact ⟨1, by omega, by omega, rfl, rfl, NN⟩
 case round =>
  clear NN
  obtain ⟨j, j1, hj, rfl, rfl, NN⟩ := hrel
  rename World => wr
  obtain ⟨i, rfl⟩ : ∃ i, j = i + 1 := ⟨j - 1, by omega⟩
  rw [Nat.add_sub_cancel] at *
  obtain ⟨k0, k1, _, _⟩ := V1.below NN
  by_cases hlt : i + 1 < rs.length
  ·have hlt2 : ((i : Int) + 1) < (rs.length : Int) := by omega
   obtain ⟨lc, HLC⟩ : ∃ z, Hid (lcS (sdS D E rs) (X, Y) i = z) := ⟨_, rfl⟩
   rw [HLC.out]
   by_cases h2 : lc = 2
   ·subst h2
    obtain ⟨a3, c3, g3, O⟩ := hc (i + 1) hlt
    have OK := ok (i + 1) hlt
    have HN : Hid (lcS (sdS D E rs) (X, Y) (i + 1) = 2 - inV (sdR D E (rowA rs (i + 1))) X Y) := by
     show (if lcS (sdS D E rs) (X, Y) i = 2 then 2 - inV (rowA (sdS D E rs) (i + 1)) X Y else _) = _
     rw [HLC.out, if_pos rfl, sdS_at]
    have hiv := inV_cases (sdR D E (rowA rs (i + 1))) X Y
    have g4 := bat NN g3
    replace O := O.below NN
    generalize rowA rs (i + 1) = ps at *
    obtain ⟨iv, HIV⟩ : ∃ z, Hid (inV (sdR D E ps) X Y = z) := ⟨_, rfl⟩
    rw [HIV.out] at hiv HN
    have hi1 : (0 : Int) ≤ (i : Int) + 1 := by omega
    have hwv : IntKind.i64.wrap (2 - iv) = 2 - iv := by rw [IntKind.wrap_i64]; omega
    clear g3
    go_upto_region 5 with fail
    clear k0 k1
    have N : Below wr.heap.size wr wr.drew := (Below.refl _ _).drew
    refine wp_region_held_drew (S := fun w' => Below wr.heap.size wr w') (by kernel_rfl) N (fun hHeld => ?_)
    clear hHeld
    generalize wr.drew = wb0 at *
    refine takeA (i := 0) (h := ?_)
    refine takeA (i := 1) (hy := by intro wq hSw; have y0 := bat hSw (bat NN V1.c0); have y1 := bat hSw (bat NN V1.c1); have y2 := bat hSw g4; have z0 := bat hSw (bat NN V2.c0); have v0 := bat hSw (bat NN V3.c0); have z1 := bat hSw (bat NN V2.c1); have v1 := bat hSw (bat NN V3.c1); have z2 := bat hSw (bat NN V2.c2); have v2 := bat hSw (bat NN V3.c2); have z3 := bat hSw (bat NN V2.c3); have v3 := bat hSw (bat NN V3.c3); go_simp <;> with_reducible rfl) (h := ?_)
    refine takeA (i := 2) (h := ?_)
    refine takeA (i := 3) (h := ?_)
    refine takeA (i := 4) (hy := by intro wq hSw; have y0 := bat hSw (bat NN V1.c0); have y1 := bat hSw (bat NN V1.c1); have y2 := bat hSw g4; have z0 := bat hSw (bat NN V2.c0); have v0 := bat hSw (bat NN V3.c0); have z1 := bat hSw (bat NN V2.c1); have v1 := bat hSw (bat NN V3.c1); have z2 := bat hSw (bat NN V2.c2); have v2 := bat hSw (bat NN V3.c2); have z3 := bat hSw (bat NN V2.c3); have v3 := bat hSw (bat NN V3.c3); go_simp <;> with_reducible rfl) (h := ?_)
    refine takeA (i := 5) (hy := by intro wq hSw; have y0 := bat hSw (bat NN V1.c0); have y1 := bat hSw (bat NN V1.c1); have y2 := bat hSw g4; have z0 := bat hSw (bat NN V2.c0); have v0 := bat hSw (bat NN V3.c0); have z1 := bat hSw (bat NN V2.c1); have v1 := bat hSw (bat NN V3.c1); have z2 := bat hSw (bat NN V2.c2); have v2 := bat hSw (bat NN V3.c2); have z3 := bat hSw (bat NN V2.c3); have v3 := bat hSw (bat NN V3.c3); go_simp <;> with_reducible rfl) (h := ?_)
    refine takeA (i := 6) (hy := by intro wq hSw; have y0 := bat hSw (bat NN V1.c0); have y1 := bat hSw (bat NN V1.c1); have y2 := bat hSw g4; have z0 := bat hSw (bat NN V2.c0); have v0 := bat hSw (bat NN V3.c0); have z1 := bat hSw (bat NN V2.c1); have v1 := bat hSw (bat NN V3.c1); have z2 := bat hSw (bat NN V2.c2); have v2 := bat hSw (bat NN V3.c2); have z3 := bat hSw (bat NN V2.c3); have v3 := bat hSw (bat NN V3.c3); go_simp <;> with_reducible rfl) (h := ?_)
    refine rdA (i := 7) (h := fun K hK => ?_)
    go_simp
    refine (l6InFrac_any a3 c3 ps _ (O.below N) OK ((Q.below NN).below N) HT.out).mono ?_
    rintro e wb1 ⟨rfl, hb⟩
    rw [HIV.out]
    replace N := N.trans (hb.mono N.size)
    clear hb
    refine hK.out _ _ N (fun hHeld => ?_)
    clear hK K hHeld
    try simp only [Act.put, pA, pB, pC]
    refine takeA (i := 8) (h := ?_)
    refine takeA (i := 9) (h := ?_)
    refine wpAnyH_done (by kernel_rfl) ?_ _
    replace NN := NN.trans (N.mono NN.size)
    clear N g4 O
    go_wp2
    go_roundw
    case rel => exact ⟨i + 2, by omega, by omega, by go_num, (by rw [show i + 2 - 1 = i + 1 by omega, HN.out]), NN⟩
    case measure => simp [intOf]; omega
   ·have b2 : (lc == 2) = false := by simp [h2]
    have F : Hid (lcS (sdS D E rs) (X, Y) (rs.length - 1) = lc) := by
     show _ = _
     rw [HST.out i (by rw [HLC.out]; exact h2) (by omega), HLC.out]
    go_wp2
    go_ret
    exact ⟨by rw [F.out]; rfl, B.trans (NN.mono B.size)⟩
  ·have hie : Hid (rs.length - 1 = i) := (by omega : rs.length - 1 = i)
   have hlt2 : ¬ ((i : Int) + 1) < (rs.length : Int) := by omega
   go_wp2
   go_ret
   exact ⟨by rw [hie.out]; rfl, B.trans (NN.mono B.size)⟩

set_option maxRecDepth 20000 in
set_option maxHeartbeats 8000000 in
theorem specLocateFrac (n : Int) (a : Option Addr) (c : Nat) (rs : List (List (Int × Int))) (g h g' h' : Bool) (a1 b1 a2 b2 : Option Addr) (c1 d1 c2 d2 : Nat) (ns ds ms es : List Int) (w : World) (hs : SeesS w a c rs) (Q : PlS w a1 c1 ns b1 d1 ds a2 c2 ms b2 d2 es) :
  Calls Tryz.prog 6 #[.agg #[.int .i64 n, .slice a rs.length c], .agg #[.bool g, .slice a1 ns.length c1, .bool h, .slice b1 ds.length d1], .agg #[.bool g', .slice a2 ms.length c2, .bool h', .slice b2 es.length d2]] w fun e w' => e = .returned (.int .i64 (lfV n rs g ns h ds g' ms h' es)) ∧ Below w.heap.size w w' := by
 have B := below3 w (.cells #[.int .i64 n, .slice a rs.length c] 35) (.cells #[.bool g, .slice a1 ns.length c1, .bool h, .slice b1 ds.length d1] 39) (.cells #[.bool g', .slice a2 ms.length c2, .bool h', .slice b2 es.length d2] 39)
 have V1 := (Box2.new w (lo := 0) (Nat.zero_le _) (.int .i64 n) (.slice a rs.length c) 35).below (below2 _ (.cells #[.bool g, .slice a1 ns.length c1, .bool h, .slice b1 ds.length d1] 39) (.cells #[.bool g', .slice a2 ms.length c2, .bool h', .slice b2 es.length d2] 39))
 have V2 := (Box4.new (w.alloc (.cells #[.int .i64 n, .slice a rs.length c] 35)) (lo := 0) (Nat.zero_le _) (.bool g) (.slice a1 ns.length c1) (.bool h) (.slice b1 ds.length d1) 39).below (below1 _ (.cells #[.bool g', .slice a2 ms.length c2, .bool h', .slice b2 es.length d2] 39))
 have V3 := Box4.new ((w.alloc (.cells #[.int .i64 n, .slice a rs.length c] 35)).alloc (.cells #[.bool g, .slice a1 ns.length c1, .bool h, .slice b1 ds.length d1] 39)) (lo := 0) (Nat.zero_le _) (.bool g') (.slice a2 ms.length c2) (.bool h') (.slice b2 es.length d2) 39
 rw [World.size_alloc] at V2
 rw [World.size_alloc, World.size_alloc] at V3
 replace hs := hs.below B
 replace Q := Q.below B
 obtain ⟨k0, k1, _, _⟩ := id V1
 go_enter Tryz.func6, Tryz.ntmps6
 go_wp2_with fail
 generalize (((w.alloc (.cells #[.int .i64 n, .slice a rs.length c] 35)).alloc (.cells #[.bool g, .slice a1 ns.length c1, .bool h, .slice b1 ds.length d1] 39)).alloc (.cells #[.bool g', .slice a2 ms.length c2, .bool h', .slice b2 es.length d2] 39)) = W0 at *
 refine (l6Area_any n a c rs _ hs).mono ?_
 rintro e w1 ⟨rfl, hb⟩
 replace V1 := V1.below hb
 replace V2 := V2.below hb
 replace V3 := V3.below hb
 replace hs := hs.below hb
 replace Q := Q.below hb
 replace B := B.trans (hb.mono B.size)
 clear hb k0 k1
 cases hg : (decide (n = 5) && goodB n rs)
 ·have F : Hid (lfV n rs g ns h ds g' ms h' es = 0) := lfV_no (by rw [hg, Bool.and_false])
  go_wp2
  go_ret
  exact ⟨by rw [F.out]; rfl, B⟩
 obtain ⟨k0, k1, k2, k3, _, _⟩ := id V2
 go_wp2_with fail
 refine (specFracOk g h a1 b1 c1 d1 ns ds _ Q.s1 Q.s2).mono ?_
 rintro e w2 ⟨rfl, hb⟩
 replace V1 := V1.below hb
 replace V2 := V2.below hb
 replace V3 := V3.below hb
 replace hs := hs.below hb
 replace Q := Q.below hb
 replace B := B.trans (hb.mono B.size)
 clear hb k0 k1 k2 k3
 cases e1 : fOk g ns h ds
 ·have F : Hid (lfV n rs g ns h ds g' ms h' es = 0) := lfV_no (by rw [e1]; rfl)
  go_wp2
  go_ret
  exact ⟨by rw [F.out]; rfl, B⟩
 obtain ⟨k0, k1, k2, k3, _, _⟩ := id V3
 go_wp2_with fail
 refine (specFracOk g' h' a2 b2 c2 d2 ms es _ Q.s3 Q.s4).mono ?_
 rintro e w3 ⟨rfl, hb⟩
 replace V1 := V1.below hb
 replace V2 := V2.below hb
 replace V3 := V3.below hb
 replace hs := hs.below hb
 replace Q := Q.below hb
 replace B := B.trans (hb.mono B.size)
 clear hb k0 k1 k2 k3
 cases e2 : fOk g' ms h' es
 ·have F : Hid (lfV n rs g ns h ds g' ms h' es = 0) := lfV_no (by rw [e1, e2]; rfl)
  go_wp2
  go_ret
  exact ⟨by rw [F.out]; rfl, B⟩
 have HV : Hid (lfV n rs g ns h ds g' ms h' es = lcS (sdS (tk h ds) (tk h' es) rs) (tk g ns, tk g' ms) (rs.length - 1)) := lfV_yes (by rw [e1, e2, hg]; rfl)
 rw [Bool.and_eq_true, decide_eq_true_eq] at hg
 obtain ⟨rfl, hg⟩ := hg
 have T := PlT.of Q e1 e2
 have hn0 := (areaR_of hg).n0
 have hrow := goodA_rows hg
 obtain ⟨z, HZ⟩ : ∃ z, Hid (lcS (sdS (tk h ds) (tk h' es) rs) (tk g ns, tk g' ms) (rs.length - 1) = z) := ⟨_, rfl⟩
 have C := fun (W : World) (S : SeesS W a c rs) (Q : PlS W a1 c1 ns b1 d1 ds a2 c2 ms b2 d2 es) => l6LocateFrac_any 5 a c rs g h g' h' a1 b1 a2 b2 c1 d1 c2 d2 ns ds ms es W S Q T hn0 hrow
 clear T hg e1 e2 hn0 hrow
 obtain ⟨k0, k1, _, _⟩ := id V1
 obtain ⟨k2, k3, k4, k5, _, _⟩ := id V2
 obtain ⟨k6, k7, k8, k9, _, _⟩ := id V3
 go_wp2_with fail
 refine (C _ hs Q).mono ?_
 rintro e w4 ⟨rfl, hb⟩
 rw [HZ.out]
 replace B := B.trans (hb.mono B.size)
 clear hb k0 k1 k2 k3 k4 k5 k6 k7 k8 k9 C
 go_wp2
 go_ret
 exact ⟨by rw [HV.out, HZ.out]; rfl, B⟩
end Go.Proofs.YthafgldgidmnlaaGreat
