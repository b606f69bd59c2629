/- The law on ShapesMeet: at every argument the program's ShapesMeet is the specification's; it writes into no argument. -/
import Derived.Test.YtgpkaakpipbbiaaMeetS
import Derived.Test.YtgpkaakpipbbiaaShapeM
namespace Go.Proofs.Ytgpkaakpipbbiaa
open Go.RowKit

theorem keepU4 {W W' : World} {p q : Nat} {v0 v1 v2 v3 : Value} (k : W.cell? ⟨p, 0, none⟩ = some v0 ∧ W.cell? ⟨p, 1, none⟩ = some v1 ∧ W.cell? ⟨q, 0, none⟩ = some v2 ∧ W.cell? ⟨q, 1, none⟩ = some v3) (hb : Below W.heap.size W W') :
    W'.cell? ⟨p, 0, none⟩ = some v0 ∧ W'.cell? ⟨p, 1, none⟩ = some v1 ∧ W'.cell? ⟨q, 0, none⟩ = some v2 ∧ W'.cell? ⟨q, 1, none⟩ = some v3 :=
  ⟨bat hb k.1, bat hb k.2.1, bat hb k.2.2.1, bat hb k.2.2.2⟩

set_option maxRecDepth 20000 in
set_option maxHeartbeats 2000000 in
theorem lawShapesMeet (n m : Int) (a b : Option Addr) (c d : Nat) (rs ts : List (List (Int × Int))) (w : World) (h : SeesS w a c rs) (k : SeesS w b d ts) :
    Calls Try.prog 5 #[.agg #[.int .i64 n, .slice a rs.length c], .agg #[.int .i64 m, .slice b ts.length d]] w fun e w' => e = .returned (.bool true) ∧ Below w.heap.size w w' := by
  have B0 := below2 w (.cells #[.int .i64 n, .slice a rs.length c] 24) (.cells #[.int .i64 m, .slice b ts.length d] 24)
  have V1 : Box2 0 ((w.alloc (.cells #[.int .i64 n, .slice a rs.length c] 24)).alloc (.cells #[.int .i64 m, .slice b ts.length d] 24)) w.heap.size (.int .i64 n) (.slice a rs.length c) := (Box2.new w (lo := 0) (by omega) _ _ _).below (below1 _ _)
  have V2 : Box2 0 ((w.alloc (.cells #[.int .i64 n, .slice a rs.length c] 24)).alloc (.cells #[.int .i64 m, .slice b ts.length d] 24)) (w.heap.size + 1) (.int .i64 m) (.slice b ts.length d) := by have := Box2.new (w.alloc (.cells #[.int .i64 n, .slice a rs.length c] 24)) (lo := 0) (by omega) (.int .i64 m) (.slice b ts.length d) 24; simpa using this
  have S1 := h.below B0
  have S2 := k.below B0
  obtain ⟨z, HZ⟩ : ∃ z, Hid (smV n rs m ts = z) := ⟨_, rfl⟩
  have hzz : (z != z) = false := by cases z <;> rfl
  clear h k
  go_enter Try.func5, Try.ntmps5
  go_wp2_with fail
  generalize (w.alloc (.cells #[.int .i64 n, .slice a rs.length c] 24)).alloc (.cells #[.int .i64 m, .slice b ts.length d] 24) = W0 at *
  refine (szShape_any n a c rs 1048576 _ S1 (by omega)).mono ?_
  rintro e w1 ⟨z1, rfl, hz1, hb⟩
  replace B0 := B0.trans (hb.mono B0.size)
  replace S1 := S1.below hb
  replace S2 := S2.below hb
  replace V1 := V1.below hb
  replace V2 := V2.below hb
  clear hb
  rcases hz1 with rfl | ⟨z10, hz1⟩
  · go_wp2
    go_ret
    exact ⟨rfl, B0⟩
  · have L1 : Hid (upto rs rs.length ≤ 1048576) := by show _ ≤ _; omega
    have z11 : z1 ≤ 1048576 := by omega
    clear hz1
    obtain ⟨k0, k1, _, _⟩ := id V1
    obtain ⟨k2, k3, _, _⟩ := id V2
    go_wp2_with fail
    refine (szShape_any m b d ts z1 _ S2 ⟨z10, z11⟩).mono ?_
    rintro e w2 ⟨z2, rfl, hz2, hb⟩
    replace B0 := B0.trans (hb.mono B0.size)
    replace S1 := S1.below hb
    replace S2 := S2.below hb
    replace V1 := V1.below hb
    replace V2 := V2.below hb
    clear hb k0 k1 k2 k3
    rcases hz2 with rfl | ⟨z20, hz2⟩
    · go_wp2
      go_ret
      exact ⟨rfl, B0⟩
    · have L2 : Hid (upto ts ts.length ≤ 1048576) := by show _ ≤ _; omega
      clear hz2
      have K0 : w2.cell? ⟨w.heap.size, 0, none⟩ = some (.int .i64 n) ∧ w2.cell? ⟨w.heap.size, 1, none⟩ = some (.slice a rs.length c) ∧ w2.cell? ⟨w.heap.size + 1, 0, none⟩ = some (.int .i64 m) ∧ w2.cell? ⟨w.heap.size + 1, 1, none⟩ = some (.slice b ts.length d) := ⟨V1.c0, V1.c1, V2.c0, V2.c1⟩
      go_wp2_with fail
      go_region_held3 (fun w' => w'.cell? ⟨w.heap.size, 0, none⟩ = some (.int .i64 n) ∧ w'.cell? ⟨w.heap.size, 1, none⟩ = some (.slice a rs.length c) ∧ w'.cell? ⟨w.heap.size + 1, 0, none⟩ = some (.int .i64 m) ∧ w'.cell? ⟨w.heap.size + 1, 1, none⟩ = some (.slice b ts.length d))
        (first | exact K0 | exact m1 | exact m2 | exact m3)
        (first
        | (go_at_call_of 9 (Value.slice a rs.length c); refine (toShape_any n a c rs _ (S1.below (Below.refl _ _).drew) L1.out).mono ?_; rintro e x1 ⟨a3, c3, rfl, o3, hb⟩; have N1 := (Below.refl w2.heap.size w2).drew.trans (hb.mono (by simp)); have m1 := keepU4 K0 N1; clear hb)
        | (go_at_call_of 9 (Value.slice b ts.length d); refine (toShape_any m b d ts _ (S2.below N1) L2.out).mono ?_; rintro e x2 ⟨a4, c4, rfl, o4, hb⟩; have N2 := N1.trans (hb.mono N1.size); have m2 := keepU4 K0 N2; replace o3 := o3.below hb; clear hb)
        | (go_at_call 15; refine (specShapesMeet n m a3 a4 c3 c4 rs ts _ o3.sees o4.sees).mono ?_; rintro e x3 ⟨rfl, hb⟩; have N3 := N2.trans (hb.mono N2.size); have m3 := keepU4 K0 N3; rw [HZ.out]; clear hb o3 o4))
      all_goals
        replace B0 := B0.trans (N3.mono B0.size)
        replace S1 := S1.below N3
        replace S2 := S2.below N3
        replace V1 := V1.below N3
        replace V2 := V2.below N3
        clear N1 N2 N3 m1 m2 m3 K0
        obtain ⟨k0, k1, _, _⟩ := id V1
        obtain ⟨k2, k3, _, _⟩ := id V2
        go_wp2_with fail
        refine (toShape_any n a c rs _ S1 L1.out).mono ?_
        rintro e x4 ⟨a5, c5, rfl, o5, hb⟩
        have bn := below1 x4 (.cells #[.int .i64 n, .slice a5 rs.length c5] 31)
        replace bn := hb.trans (bn.mono hb.size)
        have V3 := Box2.new x4 (lo := 0) (by omega) (.int .i64 n) (.slice a5 rs.length c5) 31
        replace o5 := o5.below (below1 x4 (.cells #[.int .i64 n, .slice a5 rs.length c5] 31))
        replace B0 := B0.trans (bn.mono B0.size)
        replace S1 := S1.below bn
        replace S2 := S2.below bn
        replace V1 := V1.below bn
        replace V2 := V2.below bn
        clear hb bn k0 k1 k2 k3
        obtain ⟨k0, k1, _, _⟩ := id V1
        obtain ⟨k2, k3, _, _⟩ := id V2
        go_wp2_with fail
        generalize x4.alloc (.cells #[.int .i64 n, .slice a5 rs.length c5] 31) = W5 at *
        generalize x4.heap.size = q3 at *
        refine (toShape_any m b d ts _ S2 L2.out).mono ?_
        rintro e x6 ⟨a7, c7, rfl, o7, hb⟩
        have bn := below1 x6 (.cells #[.int .i64 m, .slice a7 ts.length c7] 31)
        replace bn := hb.trans (bn.mono hb.size)
        have V4 := Box2.new x6 (lo := 0) (by omega) (.int .i64 m) (.slice a7 ts.length c7) 31
        replace o7 := o7.below (below1 x6 (.cells #[.int .i64 m, .slice a7 ts.length c7] 31))
        replace o5 := o5.below bn
        replace B0 := B0.trans (bn.mono B0.size)
        replace S1 := S1.below bn
        replace S2 := S2.below bn
        replace V1 := V1.below bn
        replace V2 := V2.below bn
        replace V3 := V3.below bn
        clear hb bn k0 k1 k2 k3
        obtain ⟨k0, k1, _, _⟩ := id V1
        obtain ⟨k2, k3, _, _⟩ := id V2
        obtain ⟨k4, k5, _, _⟩ := id V3
        obtain ⟨k6, k7, _, _⟩ := id V4
        go_wp2_with fail
        generalize x6.alloc (.cells #[.int .i64 m, .slice a7 ts.length c7] 31) = W7 at *
        generalize x6.heap.size = q4 at *
        refine (implShapesMeet n m a5 a7 c5 c7 rs ts _ o5.sees o7.sees).mono ?_
        rintro e x8 ⟨rfl, hb⟩
        rw [HZ.out]
        replace B0 := B0.trans (hb.mono B0.size)
        replace S1 := S1.below hb
        replace S2 := S2.below hb
        replace V1 := V1.below hb
        replace V2 := V2.below hb
        replace V3 := V3.below hb
        replace V4 := V4.below hb
        replace o5 := o5.below hb
        replace o7 := o7.below hb
        clear hb k0 k1 k2 k3 k4 k5 k6 k7
        have K1 : x8.cell? ⟨q3, 0, none⟩ = some (.int .i64 n) ∧ x8.cell? ⟨q3, 1, none⟩ = some (.slice a5 rs.length c5) ∧ x8.cell? ⟨w.heap.size, 0, none⟩ = some (.int .i64 n) ∧ x8.cell? ⟨w.heap.size, 1, none⟩ = some (.slice a rs.length c) := ⟨V3.c0, V3.c1, V1.c0, V1.c1⟩
        go_wp2_with fail
        go_region_held3 (fun w' => w'.cell? ⟨q3, 0, none⟩ = some (.int .i64 n) ∧ w'.cell? ⟨q3, 1, none⟩ = some (.slice a5 rs.length c5) ∧ w'.cell? ⟨w.heap.size, 0, none⟩ = some (.int .i64 n) ∧ w'.cell? ⟨w.heap.size, 1, none⟩ = some (.slice a rs.length c))
          (first | exact K1 | exact m1 | exact m2)
          (first
          | (go_at_call 9; refine (toShape_any n a c rs _ (S1.below (Below.refl _ _).drew) L1.out).mono ?_; rintro e y1 ⟨a8, c8, rfl, o8, hb⟩; have N1 := (Below.refl x8.heap.size x8).drew.trans (hb.mono (by simp)); have m1 := keepU4 K1 N1; clear hb)
          | (go_at_call 12; refine (eqShape_any n a5 a8 c5 c8 rs _ (o5.below N1).sees o8.sees).mono ?_; rintro e y2 ⟨rfl, hb⟩; have N2 := N1.trans (hb.mono N1.size); have m2 := keepU4 K1 N2; clear hb o8))
        all_goals
          replace B0 := B0.trans (N2.mono B0.size)
          replace S2 := S2.below N2
          replace o7 := o7.below N2
          have K2 : y2.cell? ⟨q4, 0, none⟩ = some (.int .i64 m) ∧ y2.cell? ⟨q4, 1, none⟩ = some (.slice a7 ts.length c7) ∧ y2.cell? ⟨w.heap.size + 1, 0, none⟩ = some (.int .i64 m) ∧ y2.cell? ⟨w.heap.size + 1, 1, none⟩ = some (.slice b ts.length d) := ⟨(V4.below N2).c0, (V4.below N2).c1, (V2.below N2).c0, (V2.below N2).c1⟩
          clear V1 V2 V3 V4 N1 N2 m1 m2 K1
          go_wp2_with fail
          go_region_held3 (fun w' => w'.cell? ⟨q4, 0, none⟩ = some (.int .i64 m) ∧ w'.cell? ⟨q4, 1, none⟩ = some (.slice a7 ts.length c7) ∧ w'.cell? ⟨w.heap.size + 1, 0, none⟩ = some (.int .i64 m) ∧ w'.cell? ⟨w.heap.size + 1, 1, none⟩ = some (.slice b ts.length d))
            (first | exact K2 | exact m1 | exact m2)
            (first
            | (go_at_call 9; refine (toShape_any m b d ts _ (S2.below (Below.refl _ _).drew) L2.out).mono ?_; rintro e y3 ⟨a8, c8, rfl, o8, hb⟩; have N1 := (Below.refl y2.heap.size y2).drew.trans (hb.mono (by simp)); have m1 := keepU4 K2 N1; clear hb)
            | (go_at_call 12; refine (eqShape_any m a7 a8 c7 c8 ts _ (o7.below N1).sees o8.sees).mono ?_; rintro e y4 ⟨rfl, hb⟩; have N2 := N1.trans (hb.mono N1.size); have m2 := keepU4 K2 N2; clear hb o8))
          all_goals
            go_wp2
            go_ret
            exact ⟨rfl, B0.trans (N2.mono B0.size)⟩
end Go.Proofs.Ytgpkaakpipbbiaa
