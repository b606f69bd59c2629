/- The law on LocateFrac: at every argument the program's LocateFrac is the specification's; it writes into no argument. -/
import Derived.Test.YthafgldgidmnlaaGreatLfU
import Derived.Test.YthafgldgidmnlaaGreatShapeM
import Derived.Test.YthafgldgidmnlaaGreatFracL
namespace Go.Proofs.YthafgldgidmnlaaGreat
open Go.RowKit

set_option maxRecDepth 20000 in
set_option maxHeartbeats 16000000 in
theorem lawLocateFrac (n : Int) (a : Option Addr) (c : Nat) (rs : List (List (Int × Int))) (g h g' h' : Bool) (a1 b1 a2 b2 : Option Addr) (c1 d1 c2 d2 : Nat) (ns ds ms es : List Int) (w : World) (hs : SeesS w a c rs) (C1 : Came w a1 c1 ns) (C2 : Came w b1 d1 ds) (C3 : Came w a2 c2 ms) (C4 : Came w b2 d2 es) :
  Calls Tryz.prog 3 #[.agg #[.int .i64 n, .slice a rs.length c], .agg #[.bool g, .slice a1 ns.length c1, .bool h, .slice b1 ds.length d1], .agg #[.bool g', .slice a2 ms.length c2, .bool h', .slice b2 es.length d2]] w fun e w' => e = .returned (.bool true) ∧ Below w.heap.size w w' := by
 have B := below3 w (.cells #[.int .i64 n, .slice a rs.length c] 24) (.cells #[.bool g, .slice a1 ns.length c1, .bool h, .slice b1 ds.length d1] 29) (.cells #[.bool g', .slice a2 ms.length c2, .bool h', .slice b2 es.length d2] 29)
 have V1 := (Box2.new w (lo := 0) (Nat.zero_le _) (.int .i64 n) (.slice a rs.length c) 24).below (below2 _ (.cells #[.bool g, .slice a1 ns.length c1, .bool h, .slice b1 ds.length d1] 29) (.cells #[.bool g', .slice a2 ms.length c2, .bool h', .slice b2 es.length d2] 29))
 have V2 := (Box4.new (w.alloc (.cells #[.int .i64 n, .slice a rs.length c] 24)) (lo := 0) (Nat.zero_le _) (.bool g) (.slice a1 ns.length c1) (.bool h) (.slice b1 ds.length d1) 29).below (below1 _ (.cells #[.bool g', .slice a2 ms.length c2, .bool h', .slice b2 es.length d2] 29))
 have V3 := Box4.new ((w.alloc (.cells #[.int .i64 n, .slice a rs.length c] 24)).alloc (.cells #[.bool g, .slice a1 ns.length c1, .bool h, .slice b1 ds.length d1] 29)) (lo := 0) (Nat.zero_le _) (.bool g') (.slice a2 ms.length c2) (.bool h') (.slice b2 es.length d2) 29
 rw [World.size_alloc] at V2
 rw [World.size_alloc, World.size_alloc] at V3
 replace hs := hs.below B
 replace C1 := C1.below B
 replace C2 := C2.below B
 replace C3 := C3.below B
 replace C4 := C4.below B
 have hl1 : ns.length ≤ 9223372036854775807 := by have := C1.fits; have := C1.max; unfold maxLen at this; omega
 have hl2 : ds.length ≤ 9223372036854775807 := by have := C2.fits; have := C2.max; unfold maxLen at this; omega
 have hl3 : ms.length ≤ 9223372036854775807 := by have := C3.fits; have := C3.max; unfold maxLen at this; omega
 have hl4 : es.length ≤ 9223372036854775807 := by have := C4.fits; have := C4.max; unfold maxLen at this; omega
 have HL : Hid (ns.length ≤ 9223372036854775807 ∧ ds.length ≤ 9223372036854775807 ∧ ms.length ≤ 9223372036854775807 ∧ es.length ≤ 9223372036854775807) := ⟨hl1, hl2, hl3, hl4⟩
 clear hl1 hl2 hl3 hl4
 obtain ⟨z, HZ⟩ : ∃ z, Hid (lfV n rs g ns h ds g' ms h' es = z) := ⟨_, rfl⟩
 have hzz : (z != z) = false := by simp
 obtain ⟨k0, k1, _, _⟩ := id V1
 go_enter Tryz.func3, Tryz.ntmps3
 go_wp2_with fail
 generalize (((w.alloc (.cells #[.int .i64 n, .slice a rs.length c] 24)).alloc (.cells #[.bool g, .slice a1 ns.length c1, .bool h, .slice b1 ds.length d1] 29)).alloc (.cells #[.bool g', .slice a2 ms.length c2, .bool h', .slice b2 es.length d2] 29)) = W0 at *
 refine (szShape_any n a c rs 1048576 _ hs (by omega)).mono ?_
 rintro e w1 ⟨z1, rfl, hz1, hb⟩
 replace V1 := V1.below hb
 replace V2 := V2.below hb
 replace V3 := V3.below hb
 replace hs := hs.below hb
 replace C1 := C1.below hb
 replace C2 := C2.below hb
 replace C3 := C3.below hb
 replace C4 := C4.below hb
 replace B := B.trans (hb.mono B.size)
 clear hb k0 k1
 rcases hz1 with rfl | ⟨z10, hz1⟩
 ·go_wp2
  go_ret
  exact ⟨rfl, B⟩
 have L1 : Hid (upto rs rs.length ≤ 1048576) := by show _ ≤ _; omega
 have hz1' : z1 ≤ 1048576 := by omega
 have y1 : ¬ z1 < 0 := by omega
 clear hz1
 obtain ⟨k0, k1, k2, k3, _, _⟩ := id V2
 go_wp2_with fail
 refine (szF g h a1 b1 c1 d1 ns.length ds.length z1 _ ⟨z10, hz1'⟩ HL.out.1 HL.out.2.1).mono ?_
 rintro e w2 ⟨rfl, hb⟩
 replace V1 := V1.below hb
 replace V2 := V2.below hb
 replace V3 := V3.below hb
 replace hs := hs.below hb
 replace C1 := C1.below hb
 replace C2 := C2.below hb
 replace C3 := C3.below hb
 replace C4 := C4.below hb
 replace B := B.trans (hb.mono B.size)
 clear hb k0 k1 k2 k3
 by_cases q1 : z1 - ns.length - ds.length < 0
 ·rw [if_pos q1]
  clear q1
  go_wp2
  go_ret
  exact ⟨rfl, B⟩
 rw [if_neg q1]
 obtain ⟨z2, HZ2⟩ : ∃ q : Int, z1 - ns.length - ds.length = q := ⟨_, rfl⟩
 rw [HZ2]
 have L2 : Hid (ns.length ≤ 1048576 ∧ ds.length ≤ 1048576) := ⟨by omega, by omega⟩
 have HR2 : Hid (0 ≤ z2 ∧ z2 ≤ 1048576) := ⟨by omega, by omega⟩
 have y2 : ¬ z2 < 0 := by omega
 clear q1 HZ2 y1 z10 hz1'
 obtain ⟨k0, k1, k2, k3, _, _⟩ := id V3
 go_wp2_with fail
 refine (szF g' h' a2 b2 c2 d2 ms.length es.length z2 _ HR2.out HL.out.2.2.1 HL.out.2.2.2).mono ?_
 rintro e w3 ⟨rfl, hb⟩
 replace V1 := V1.below hb
 replace V2 := V2.below hb
 replace V3 := V3.below hb
 replace hs := hs.below hb
 replace C1 := C1.below hb
 replace C2 := C2.below hb
 replace C3 := C3.below hb
 replace C4 := C4.below hb
 replace B := B.trans (hb.mono B.size)
 clear hb k0 k1 k2 k3
 by_cases q2 : z2 - ms.length - es.length < 0
 ·rw [if_pos q2]
  clear q2
  go_wp2
  go_ret
  exact ⟨rfl, B⟩
 rw [if_neg q2]
 obtain ⟨z3, HZ3⟩ : ∃ q : Int, z2 - ms.length - es.length = q := ⟨_, rfl⟩
 rw [HZ3]
 have L3 : Hid (ms.length ≤ 1048576 ∧ es.length ≤ 1048576) := by have := HR2.out; exact ⟨by omega, by omega⟩
 have y3 : ¬ z3 < 0 := by omega
 clear q2 HZ3 y2 HR2
 go_upto_region 11 with fail
 have N : Below w3.heap.size w3 w3.drew := (Below.refl _ _).drew
 refine wp_region_held_drew (S := fun w' => Below w3.heap.size w3 w') (by kernel_rfl) N (fun hHeld => ?_)
 clear hHeld
 generalize w3.drew = wa0 at *
 refine takeA (i := 0) (hy := by intro wq hSw; have v10 := bat hSw V1.c0; have v11 := bat hSw V1.c1; have v20 := bat hSw V2.c0; have v21 := bat hSw V2.c1; have v22 := bat hSw V2.c2; have v23 := bat hSw V2.c3; have v30 := bat hSw V3.c0; have v31 := bat hSw V3.c1; have v32 := bat hSw V3.c2; have v33 := bat hSw V3.c3; go_simp <;> with_reducible rfl) (h := ?_)
 refine takeA (i := 2) (hy := by intro wq hSw; have v10 := bat hSw V1.c0; have v11 := bat hSw V1.c1; have v20 := bat hSw V2.c0; have v21 := bat hSw V2.c1; have v22 := bat hSw V2.c2; have v23 := bat hSw V2.c3; have v30 := bat hSw V3.c0; have v31 := bat hSw V3.c1; have v32 := bat hSw V3.c2; have v33 := bat hSw V3.c3; go_simp <;> with_reducible rfl) (h := ?_)
 refine takeA (i := 4) (hy := by intro wq hSw; have v10 := bat hSw V1.c0; have v11 := bat hSw V1.c1; have v20 := bat hSw V2.c0; have v21 := bat hSw V2.c1; have v22 := bat hSw V2.c2; have v23 := bat hSw V2.c3; have v30 := bat hSw V3.c0; have v31 := bat hSw V3.c1; have v32 := bat hSw V3.c2; have v33 := bat hSw V3.c3; go_simp <;> with_reducible rfl) (h := ?_)
 refine rdA (i := 1) (h := fun K hK => ?_)
 go_simp
 refine (toShape_any n a c rs _ (hs.below N) L1.out).mono ?_
 rintro e wa1 ⟨a4, c4, rfl, o4, hb⟩
 have S4 := o4.sees
 replace N := N.trans (hb.mono N.size)
 clear hb o4
 refine hK.out _ _ N (fun hHeld => ?_)
 clear hK K hHeld
 try simp only [Act.put, pA, pB, pC]
 refine rdA (i := 3) (h := fun K hK => ?_)
 go_simp
 refine (toF g h a1 b1 c1 d1 ns ds _ (C1.below N) (C2.below N) L2.out.1 L2.out.2).mono ?_
 rintro e wa2 ⟨a5, c5, b5, d5, rfl, o5, o6, _, hb⟩
 have S5 := o5.toSees
 have S6 := o6.toSees
 replace S4 := S4.below hb
 replace N := N.trans (hb.mono N.size)
 clear hb o5 o6
 refine hK.out _ _ N (fun hHeld => ?_)
 clear hK K hHeld
 try simp only [Act.put, pA, pB, pC]
 refine rdA (i := 5) (h := fun K hK => ?_)
 go_simp
 refine (toF g' h' a2 b2 c2 d2 ms es _ (C3.below N) (C4.below N) L3.out.1 L3.out.2).mono ?_
 rintro e wa3 ⟨a7, c7, b7, d7, rfl, o7, o8, _, hb⟩
 have S7 := o7.toSees
 have S8 := o8.toSees
 replace S4 := S4.below hb
 replace S5 := S5.below hb
 replace S6 := S6.below hb
 replace N := N.trans (hb.mono N.size)
 clear hb o7 o8
 refine hK.out _ _ N (fun hHeld => ?_)
 clear hK K hHeld
 try simp only [Act.put, pA, pB, pC]
 refine rdA (i := 6) (h := fun K hK => ?_)
 go_simp
 refine (specLocateFrac n a4 c4 rs g h g' h' a5 b5 a7 b7 c5 d5 c7 d7 ns ds ms es _ S4 ⟨S5, S6, S7, S8⟩).mono ?_
 rintro e wa4 ⟨rfl, hb⟩
 rw [HZ.out]
 replace N := N.trans (hb.mono N.size)
 clear hb S4 S5 S6 S7 S8
 refine hK.out _ _ N (fun hHeld => ?_)
 clear hK K hHeld
 try simp only [Act.put, pA, pB, pC]
 refine takeA (i := 7) (h := ?_)
 refine wpAnyH_done (by kernel_rfl) ?_ _
 replace V1 := V1.below N
 replace V2 := V2.below N
 replace V3 := V3.below N
 replace hs := hs.below N
 replace C1 := C1.below N
 replace C2 := C2.below N
 replace C3 := C3.below N
 replace C4 := C4.below N
 replace B := B.trans (N.mono B.size)
 clear N y3
 obtain ⟨k0, k1, _, _⟩ := id V1
 go_wp2_with fail
 refine (toShape_any n a c rs _ hs L1.out).mono ?_
 rintro e x1 ⟨a4, c4, rfl, o4, hb⟩
 have S4 := o4.sees
 replace V1 := V1.below hb
 replace V2 := V2.below hb
 replace V3 := V3.below hb
 replace hs := hs.below hb
 replace C1 := C1.below hb
 replace C2 := C2.below hb
 replace C3 := C3.below hb
 replace C4 := C4.below hb
 replace B := B.trans (hb.mono B.size)
 clear hb k0 k1 o4
 have hb := below1 x1 (.cells #[.int .i64 n, .slice a4 rs.length c4] 35)
 have V4 := Box2.new x1 (lo := 0) (Nat.zero_le _) (.int .i64 n) (.slice a4 rs.length c4) 35
 replace V1 := V1.below hb
 replace V2 := V2.below hb
 replace V3 := V3.below hb
 replace hs := hs.below hb
 replace C1 := C1.below hb
 replace C2 := C2.below hb
 replace C3 := C3.below hb
 replace C4 := C4.below hb
 replace S4 := S4.below hb
 replace B := B.trans (hb.mono B.size)
 clear hb
 go_upto_region 13 with fail
 generalize x1.alloc (.cells #[.int .i64 n, .slice a4 rs.length c4] 35) = X1 at *
 generalize x1.heap.size = p9 at *
 obtain ⟨k0, k1, k2, k3, _, _⟩ := id V2
 go_wp2_with fail
 refine (toF g h a1 b1 c1 d1 ns ds _ C1 C2 L2.out.1 L2.out.2).mono ?_
 rintro e x2 ⟨a5, c5, b5, d5, rfl, o5, o6, _, hb⟩
 have S5 := o5.toSees
 have S6 := o6.toSees
 replace V1 := V1.below hb
 replace V2 := V2.below hb
 replace V3 := V3.below hb
 replace V4 := V4.below hb
 replace hs := hs.below hb
 replace C1 := C1.below hb
 replace C2 := C2.below hb
 replace C3 := C3.below hb
 replace C4 := C4.below hb
 replace S4 := S4.below hb
 replace B := B.trans (hb.mono B.size)
 clear hb k0 k1 k2 k3 o5 o6
 have hb := below1 x2 (.cells #[.bool g, .slice a5 ns.length c5, .bool h, .slice b5 ds.length d5] 39)
 have V5 := Box4.new x2 (lo := 0) (Nat.zero_le _) (.bool g) (.slice a5 ns.length c5) (.bool h) (.slice b5 ds.length d5) 39
 replace V1 := V1.below hb
 replace V2 := V2.below hb
 replace V3 := V3.below hb
 replace V4 := V4.below hb
 replace hs := hs.below hb
 replace C1 := C1.below hb
 replace C2 := C2.below hb
 replace C3 := C3.below hb
 replace C4 := C4.below hb
 replace S4 := S4.below hb
 replace S5 := S5.below hb
 replace S6 := S6.below hb
 replace B := B.trans (hb.mono B.size)
 clear hb
 go_upto_region 14 with fail
 generalize x2.alloc (.cells #[.bool g, .slice a5 ns.length c5, .bool h, .slice b5 ds.length d5] 39) = X2 at *
 generalize x2.heap.size = p10 at *
 obtain ⟨k0, k1, k2, k3, _, _⟩ := id V3
 go_wp2_with fail
 refine (toF g' h' a2 b2 c2 d2 ms es _ C3 C4 L3.out.1 L3.out.2).mono ?_
 rintro e x3 ⟨a7, c7, b7, d7, rfl, o7, o8, _, hb⟩
 have S7 := o7.toSees
 have S8 := o8.toSees
 replace V1 := V1.below hb
 replace V2 := V2.below hb
 replace V3 := V3.below hb
 replace V4 := V4.below hb
 replace V5 := V5.below hb
 replace hs := hs.below hb
 replace C1 := C1.below hb
 replace C2 := C2.below hb
 replace C3 := C3.below hb
 replace C4 := C4.below hb
 replace S4 := S4.below hb
 replace S5 := S5.below hb
 replace S6 := S6.below hb
 replace B := B.trans (hb.mono B.size)
 clear hb k0 k1 k2 k3 o7 o8
 have hb := below1 x3 (.cells #[.bool g', .slice a7 ms.length c7, .bool h', .slice b7 es.length d7] 39)
 have V6 := Box4.new x3 (lo := 0) (Nat.zero_le _) (.bool g') (.slice a7 ms.length c7) (.bool h') (.slice b7 es.length d7) 39
 replace V1 := V1.below hb
 replace V2 := V2.below hb
 replace V3 := V3.below hb
 replace V4 := V4.below hb
 replace V5 := V5.below hb
 replace hs := hs.below hb
 replace C1 := C1.below hb
 replace C2 := C2.below hb
 replace C3 := C3.below hb
 replace C4 := C4.below hb
 replace S4 := S4.below hb
 replace S5 := S5.below hb
 replace S6 := S6.below hb
 replace S7 := S7.below hb
 replace S8 := S8.below hb
 replace B := B.trans (hb.mono B.size)
 clear hb
 go_upto_region 15 with fail
 generalize x3.alloc (.cells #[.bool g', .slice a7 ms.length c7, .bool h', .slice b7 es.length d7] 39) = X3 at *
 generalize x3.heap.size = p11 at *
 obtain ⟨k0, k1, _, _⟩ := id V4
 obtain ⟨k2, k3, k4, k5, _, _⟩ := id V5
 obtain ⟨k6, k7, k8, k9, _, _⟩ := id V6
 go_wp2_with fail
 refine (implLocateFrac n a4 c4 rs g h g' h' a5 b5 a7 b7 c5 d5 c7 d7 ns ds ms es _ S4 ⟨S5, S6, S7, S8⟩).mono ?_
 rintro e x4 ⟨rfl, hb⟩
 rw [HZ.out]
 replace V1 := V1.below hb
 replace V2 := V2.below hb
 replace V3 := V3.below hb
 replace V4 := V4.below hb
 replace V5 := V5.below hb
 replace V6 := V6.below hb
 replace hs := hs.below hb
 replace C1 := C1.below hb
 replace C2 := C2.below hb
 replace C3 := C3.below hb
 replace C4 := C4.below hb
 replace S4 := S4.below hb
 replace S5 := S5.below hb
 replace S6 := S6.below hb
 replace S7 := S7.below hb
 replace S8 := S8.below hb
 replace B := B.trans (hb.mono B.size)
 clear hb k0 k1 k2 k3 k4 k5 k6 k7 k8 k9
 go_upto_region 18 with fail
 have N : Below x4.heap.size x4 x4.drew := (Below.refl _ _).drew
 refine wp_region_held_drew (S := fun w' => Below x4.heap.size x4 w') (by kernel_rfl) N (fun hHeld => ?_)
 clear hHeld
 generalize x4.drew = wb0 at *
 refine takeA (i := 0) (hy := by intro wq hSw; have v10 := bat hSw V1.c0; have v11 := bat hSw V1.c1; have v40 := bat hSw V4.c0; have v41 := bat hSw V4.c1; go_simp <;> with_reducible rfl) (h := ?_)
 refine takeA (i := 1) (hy := by intro wq hSw; have v10 := bat hSw V1.c0; have v11 := bat hSw V1.c1; have v40 := bat hSw V4.c0; have v41 := bat hSw V4.c1; go_simp <;> with_reducible rfl) (h := ?_)
 refine rdA (i := 2) (h := fun K hK => ?_)
 go_simp
 refine (toShape_any n a c rs _ (hs.below N) L1.out).mono ?_
 rintro e wb1 ⟨a9, c9, rfl, o9, hb⟩
 replace N := N.trans (hb.mono N.size)
 clear hb
 refine hK.out _ _ N (fun hHeld => ?_)
 clear hK K hHeld
 try simp only [Act.put, pA, pB, pC]
 refine rdA (i := 3) (h := fun K hK => ?_)
 go_simp
 refine (eqShape_any n a4 a9 c4 c9 rs _ (S4.below N) o9.sees).mono ?_
 rintro e wb2 ⟨rfl, hb⟩
 replace N := N.trans (hb.mono N.size)
 clear hb o9
 refine hK.out _ _ N (fun hHeld => ?_)
 clear hK K hHeld
 try simp only [Act.put, pA, pB, pC]
 refine takeA (i := 4) (h := ?_)
 refine wpAnyH_done (by kernel_rfl) ?_ _
 replace V2 := V2.below N
 replace V3 := V3.below N
 replace V5 := V5.below N
 replace V6 := V6.below N
 replace C1 := C1.below N
 replace C2 := C2.below N
 replace C3 := C3.below N
 replace C4 := C4.below N
 replace S5 := S5.below N
 replace S6 := S6.below N
 replace S7 := S7.below N
 replace S8 := S8.below N
 replace B := B.trans (N.mono B.size)
 clear N V1 V4 hs S4
 go_upto_region 20 with fail
 have N : Below wb2.heap.size wb2 wb2.drew := (Below.refl _ _).drew
 refine wp_region_held_drew (S := fun w' => Below wb2.heap.size wb2 w') (by kernel_rfl) N (fun hHeld => ?_)
 clear hHeld
 generalize wb2.drew = wc0 at *
 refine takeA (i := 0) (hy := by intro wq hSw; have v20 := bat hSw V2.c0; have v21 := bat hSw V2.c1; have v22 := bat hSw V2.c2; have v23 := bat hSw V2.c3; have v50 := bat hSw V5.c0; have v51 := bat hSw V5.c1; have v52 := bat hSw V5.c2; have v53 := bat hSw V5.c3; go_simp <;> with_reducible rfl) (h := ?_)
 refine takeA (i := 1) (hy := by intro wq hSw; have v20 := bat hSw V2.c0; have v21 := bat hSw V2.c1; have v22 := bat hSw V2.c2; have v23 := bat hSw V2.c3; have v50 := bat hSw V5.c0; have v51 := bat hSw V5.c1; have v52 := bat hSw V5.c2; have v53 := bat hSw V5.c3; go_simp <;> with_reducible rfl) (h := ?_)
 refine rdA (i := 2) (h := fun K hK => ?_)
 go_simp
 refine (toF g h a1 b1 c1 d1 ns ds _ (C1.below N) (C2.below N) L2.out.1 L2.out.2).mono ?_
 rintro e wc1 ⟨a9, c9, b9, d9, rfl, o9, o10, _, hb⟩
 replace N := N.trans (hb.mono N.size)
 clear hb
 refine hK.out _ _ N (fun hHeld => ?_)
 clear hK K hHeld
 try simp only [Act.put, pA, pB, pC]
 refine rdA (i := 3) (h := fun K hK => ?_)
 go_simp
 refine (eqF g h a5 a9 b5 b9 c5 c9 d5 d9 ns ds _ (S5.below N) o9.toSees (S6.below N) o10.toSees).mono ?_
 rintro e wc2 ⟨rfl, hb⟩
 replace N := N.trans (hb.mono N.size)
 clear hb o9 o10
 refine hK.out _ _ N (fun hHeld => ?_)
 clear hK K hHeld
 try simp only [Act.put, pA, pB, pC]
 refine takeA (i := 4) (h := ?_)
 refine wpAnyH_done (by kernel_rfl) ?_ _
 replace V3 := V3.below N
 replace V6 := V6.below N
 replace C3 := C3.below N
 replace C4 := C4.below N
 replace S7 := S7.below N
 replace S8 := S8.below N
 replace B := B.trans (N.mono B.size)
 clear N V2 V5 C1 C2 S5 S6
 go_upto_region 22 with fail
 have N : Below wc2.heap.size wc2 wc2.drew := (Below.refl _ _).drew
 refine wp_region_held_drew (S := fun w' => Below wc2.heap.size wc2 w') (by kernel_rfl) N (fun hHeld => ?_)
 clear hHeld
 generalize wc2.drew = wd0 at *
 refine takeA (i := 0) (hy := by intro wq hSw; have v30 := bat hSw V3.c0; have v31 := bat hSw V3.c1; have v32 := bat hSw V3.c2; have v33 := bat hSw V3.c3; have v60 := bat hSw V6.c0; have v61 := bat hSw V6.c1; have v62 := bat hSw V6.c2; have v63 := bat hSw V6.c3; go_simp <;> with_reducible rfl) (h := ?_)
 refine takeA (i := 1) (hy := by intro wq hSw; have v30 := bat hSw V3.c0; have v31 := bat hSw V3.c1; have v32 := bat hSw V3.c2; have v33 := bat hSw V3.c3; have v60 := bat hSw V6.c0; have v61 := bat hSw V6.c1; have v62 := bat hSw V6.c2; have v63 := bat hSw V6.c3; go_simp <;> with_reducible rfl) (h := ?_)
 refine rdA (i := 2) (h := fun K hK => ?_)
 go_simp
 refine (toF g' h' a2 b2 c2 d2 ms es _ (C3.below N) (C4.below N) L3.out.1 L3.out.2).mono ?_
 rintro e wd1 ⟨a9, c9, b9, d9, rfl, o9, o10, _, hb⟩
 replace N := N.trans (hb.mono N.size)
 clear hb
 refine hK.out _ _ N (fun hHeld => ?_)
 clear hK K hHeld
 try simp only [Act.put, pA, pB, pC]
 refine rdA (i := 3) (h := fun K hK => ?_)
 go_simp
 refine (eqF g' h' a7 a9 b7 b9 c7 c9 d7 d9 ms es _ (S7.below N) o9.toSees (S8.below N) o10.toSees).mono ?_
 rintro e wd2 ⟨rfl, hb⟩
 replace N := N.trans (hb.mono N.size)
 clear hb o9 o10
 refine hK.out _ _ N (fun hHeld => ?_)
 clear hK K hHeld
 try simp only [Act.put, pA, pB, pC]
 refine takeA (i := 4) (h := ?_)
 refine wpAnyH_done (by kernel_rfl) ?_ _
 replace B := B.trans (N.mono B.size)
 clear N V3 V6 C3 C4 S7 S8
 go_wp2
 go_ret
 exact ⟨rfl, B⟩
end Go.Proofs.YthafgldgidmnlaaGreat
