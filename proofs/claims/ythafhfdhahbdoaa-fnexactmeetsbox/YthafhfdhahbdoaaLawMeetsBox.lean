/- The law on MeetsBox: at every argument the program's MeetsBox is the specification's; it writes into no argument. -/
import Derived.Test.YthafhfdhahbdoaaMBoxW
import Derived.Test.YthafhfdhahbdoaaShapeM
import Derived.Test.YthafhfdhahbdoaaPtG
namespace Go.Proofs.Ythafhfdhahbdoaa
open Go.RowKit

theorem keepM6 {W W' : World} {p q : Nat} {v0 v1 v2 v3 v4 v5 : Value} (k : W.cell? ⟨p, 0, none⟩ = some v0 ∧ W.cell? ⟨p, 1, none⟩ = some v1 ∧ W.cell? ⟨q, 0, none⟩ = some v2 ∧ W.cell? ⟨q, 1, none⟩ = some v3 ∧ W.cell? ⟨q, 2, none⟩ = some v4 ∧ W.cell? ⟨q, 3, none⟩ = some v5) (hb : Below W.heap.size W W') :
    W'.cell? ⟨p, 0, none⟩ = some v0 ∧ W'.cell? ⟨p, 1, none⟩ = some v1 ∧ W'.cell? ⟨q, 0, none⟩ = some v2 ∧ W'.cell? ⟨q, 1, none⟩ = some v3 ∧ W'.cell? ⟨q, 2, none⟩ = some v4 ∧ W'.cell? ⟨q, 3, none⟩ = some v5 :=
  ⟨bat hb k.1, bat hb k.2.1, bat hb k.2.2.1, bat hb k.2.2.2.1, bat hb k.2.2.2.2.1, bat hb k.2.2.2.2.2⟩
theorem keepM4 {W W' : World} {p q : Nat} {v0 v1 v2 v3 : Value} (k : W.cell? ⟨p, 0, none⟩ = some v0 ∧ W.cell? ⟨p, 1, none⟩ = some v1 ∧ W.cell? ⟨q, 0, none⟩ = some v2 ∧ W.cell? ⟨q, 1, none⟩ = some v3) (hb : Below W.heap.size W W') :
    W'.cell? ⟨p, 0, none⟩ = some v0 ∧ W'.cell? ⟨p, 1, none⟩ = some v1 ∧ W'.cell? ⟨q, 0, none⟩ = some v2 ∧ W'.cell? ⟨q, 1, none⟩ = some v3 :=
  ⟨bat hb k.1, bat hb k.2.1, bat hb k.2.2.1, bat hb k.2.2.2⟩


set_option maxRecDepth 20000 in
set_option maxHeartbeats 4000000 in
theorem lawMeetsBox (n : Int) (a : Option Addr) (c : Nat) (rs : List (List (Int × Int))) (b1 b2 b3 b4 : Int) (w : World) (h : SeesS w a c rs) :
    Calls Try.prog 3 #[.agg #[.int .i64 n, .slice a rs.length c], .agg #[.int .i64 b1, .int .i64 b2, .int .i64 b3, .int .i64 b4]] w fun e w' => e = .returned (.bool true) ∧ Below w.heap.size w w' := by
  have B0 := below2 w (.cells #[.int .i64 n, .slice a rs.length c] 24) (.cells #[.int .i64 b1, .int .i64 b2, .int .i64 b3, .int .i64 b4] 28)
  have V1 : Box2 0 ((w.alloc (.cells #[.int .i64 n, .slice a rs.length c] 24)).alloc (.cells #[.int .i64 b1, .int .i64 b2, .int .i64 b3, .int .i64 b4] 28)) w.heap.size (.int .i64 n) (.slice a rs.length c) := (Box2.new w (lo := 0) (by omega) _ _ _).below (below1 _ _)
  have V2 := Box4.new (w.alloc (.cells #[.int .i64 n, .slice a rs.length c] 24)) (lo := 0) (by omega) (.int .i64 b1) (.int .i64 b2) (.int .i64 b3) (.int .i64 b4) 28
  rw [World.size_alloc] at V2
  have S1 := h.below B0
  obtain ⟨z, HZ⟩ : ∃ z, Hid (mbV n rs b1 b2 b3 b4 = z) := ⟨_, rfl⟩
  have hzz : (z != z) = false := by cases z <;> rfl
  clear h
  go_enter Try.func3, Try.ntmps3
  go_wp2_with fail
  generalize (w.alloc (.cells #[.int .i64 n, .slice a rs.length c] 24)).alloc (.cells #[.int .i64 b1, .int .i64 b2, .int .i64 b3, .int .i64 b4] 28) = W0 at *
  refine (szShape_any n a c rs 1048576 _ S1 (by omega)).mono ?_
  rintro e w1 ⟨z1, rfl, hz1, hb⟩
  replace B0 := B0.trans (hb.mono B0.size)
  replace S1 := S1.below hb
  replace V1 := V1.below hb
  replace V2 := V2.below hb
  clear hb
  rcases hz1 with rfl | ⟨z10, hz1⟩
  · go_wp2
    go_ret
    exact ⟨rfl, B0⟩
  · have L1 : Hid (upto rs rs.length ≤ 1048576) := by show _ ≤ _; omega
    clear hz1
    have K0 : w1.cell? ⟨w.heap.size, 0, none⟩ = some (.int .i64 n) ∧ w1.cell? ⟨w.heap.size, 1, none⟩ = some (.slice a rs.length c) ∧ w1.cell? ⟨w.heap.size + 1, 0, none⟩ = some (.int .i64 b1) ∧ w1.cell? ⟨w.heap.size + 1, 1, none⟩ = some (.int .i64 b2) ∧ w1.cell? ⟨w.heap.size + 1, 2, none⟩ = some (.int .i64 b3) ∧ w1.cell? ⟨w.heap.size + 1, 3, none⟩ = some (.int .i64 b4) := ⟨V1.c0, V1.c1, V2.c0, V2.c1, V2.c2, V2.c3⟩
    go_wp2_with fail
    go_region_held3 (fun w' => w'.cell? ⟨w.heap.size, 0, none⟩ = some (.int .i64 n) ∧ w'.cell? ⟨w.heap.size, 1, none⟩ = some (.slice a rs.length c) ∧ w'.cell? ⟨w.heap.size + 1, 0, none⟩ = some (.int .i64 b1) ∧ w'.cell? ⟨w.heap.size + 1, 1, none⟩ = some (.int .i64 b2) ∧ w'.cell? ⟨w.heap.size + 1, 2, none⟩ = some (.int .i64 b3) ∧ w'.cell? ⟨w.heap.size + 1, 3, none⟩ = some (.int .i64 b4))
      (first | exact K0 | exact m1 | exact m2 | exact m3)
      (first
      | (go_at_call 6; refine (toShape_any n a c rs _ (S1.below (Below.refl _ _).drew) L1.out).mono ?_; rintro e x1 ⟨a3, c3, rfl, o3, hb⟩; have N1 := (Below.refl w1.heap.size w1).drew.trans (hb.mono (by simp)); have m1 := keepM6 K0 N1; clear hb)
      | (go_at_call 7; refine (toBox_any _ _ _ _ _).mono ?_; rintro e x2 ⟨rfl, hb⟩; have N2 := N1.trans (hb.mono N1.size); have m2 := keepM6 K0 N2; replace o3 := o3.below hb; clear hb)
      | (go_at_call 5; refine (specMeetsBox n a3 c3 rs b1 b2 b3 b4 _ o3.sees).mono ?_; rintro e x3 ⟨rfl, hb⟩; have N3 := N2.trans (hb.mono N2.size); have m3 := keepM6 K0 N3; rw [HZ.out]; clear hb o3))
    all_goals
      replace B0 := B0.trans (N3.mono B0.size)
      replace S1 := S1.below N3
      replace V1 := V1.below N3
      replace V2 := V2.below N3
      clear N1 N2 N3 m1 m2 m3 K0
      obtain ⟨k0, k1, _, _⟩ := id V1
      go_wp2_with fail
      refine (toShape_any n a c rs _ S1 L1.out).mono ?_
      rintro e x4 ⟨a5, c5, rfl, o5, hb⟩
      have bn := below1 x4 (.cells #[.int .i64 n, .slice a5 rs.length c5] 33)
      replace bn := hb.trans (bn.mono hb.size)
      have V3 := Box2.new x4 (lo := 0) (by omega) (.int .i64 n) (.slice a5 rs.length c5) 33
      replace o5 := o5.below (below1 x4 (.cells #[.int .i64 n, .slice a5 rs.length c5] 33))
      replace B0 := B0.trans (bn.mono B0.size)
      replace S1 := S1.below bn
      replace V1 := V1.below bn
      replace V2 := V2.below bn
      clear hb bn k0 k1
      go_upto_region 7 with fail
      generalize x4.alloc (.cells #[.int .i64 n, .slice a5 rs.length c5] 33) = W5 at *
      generalize x4.heap.size = q5 at *
      have K0 : W5.cell? ⟨q5, 0, none⟩ = some (.int .i64 n) ∧ W5.cell? ⟨q5, 1, none⟩ = some (.slice a5 rs.length c5) ∧ W5.cell? ⟨w.heap.size + 1, 0, none⟩ = some (.int .i64 b1) ∧ W5.cell? ⟨w.heap.size + 1, 1, none⟩ = some (.int .i64 b2) ∧ W5.cell? ⟨w.heap.size + 1, 2, none⟩ = some (.int .i64 b3) ∧ W5.cell? ⟨w.heap.size + 1, 3, none⟩ = some (.int .i64 b4) := ⟨V3.c0, V3.c1, V2.c0, V2.c1, V2.c2, V2.c3⟩
      go_region_held3 (fun w' => w'.cell? ⟨q5, 0, none⟩ = some (.int .i64 n) ∧ w'.cell? ⟨q5, 1, none⟩ = some (.slice a5 rs.length c5) ∧ w'.cell? ⟨w.heap.size + 1, 0, none⟩ = some (.int .i64 b1) ∧ w'.cell? ⟨w.heap.size + 1, 1, none⟩ = some (.int .i64 b2) ∧ w'.cell? ⟨w.heap.size + 1, 2, none⟩ = some (.int .i64 b3) ∧ w'.cell? ⟨w.heap.size + 1, 3, none⟩ = some (.int .i64 b4))
        (first | exact K0 | exact m1 | exact m2)
        (first
        | (go_at_call 7; refine (toBox_any _ _ _ _ _).mono ?_; rintro e x6 ⟨rfl, hb⟩; have N1 := (Below.refl W5.heap.size W5).drew.trans (hb.mono (by simp)); have m1 := keepM6 K0 N1; clear hb)
        | (go_at_call 8; refine (implMeetsBox n a5 c5 rs b1 b2 b3 b4 _ (o5.below N1).sees).mono ?_; rintro e x7 ⟨rfl, hb⟩; have N2 := N1.trans (hb.mono N1.size); have m2 := keepM6 K0 N2; rw [HZ.out]; clear hb))
      all_goals
        replace B0 := B0.trans (N2.mono B0.size)
        replace S1 := S1.below N2
        replace V1 := V1.below N2
        replace V3 := V3.below N2
        replace o5 := o5.below N2
        clear N1 N2 m1 m2 K0 V2
        have K1 : x7.cell? ⟨q5, 0, none⟩ = some (.int .i64 n) ∧ x7.cell? ⟨q5, 1, none⟩ = some (.slice a5 rs.length c5) ∧ x7.cell? ⟨w.heap.size, 0, none⟩ = some (.int .i64 n) ∧ x7.cell? ⟨w.heap.size, 1, none⟩ = some (.slice a rs.length c) := ⟨V3.c0, V3.c1, V1.c0, V1.c1⟩
        go_wp2_with fail
        go_region_held3 (fun w' => w'.cell? ⟨q5, 0, none⟩ = some (.int .i64 n) ∧ w'.cell? ⟨q5, 1, none⟩ = some (.slice a5 rs.length c5) ∧ w'.cell? ⟨w.heap.size, 0, none⟩ = some (.int .i64 n) ∧ w'.cell? ⟨w.heap.size, 1, none⟩ = some (.slice a rs.length c))
          (first | exact K1 | exact m1 | exact m2)
          (first
          | (go_at_call 6; refine (toShape_any n a c rs _ (S1.below (Below.refl _ _).drew) L1.out).mono ?_; rintro e y1 ⟨a8, c8, rfl, o8, hb⟩; have N1 := (Below.refl x7.heap.size x7).drew.trans (hb.mono (by simp)); have m1 := keepM4 K1 N1; clear hb)
          | (go_at_call 9; refine (eqShape_any n a5 a8 c5 c8 rs _ (o5.below N1).sees o8.sees).mono ?_; rintro e y2 ⟨rfl, hb⟩; have N2 := N1.trans (hb.mono N1.size); have m2 := keepM4 K1 N2; clear hb o8))
        all_goals
          go_wp2
          go_ret
          exact ⟨rfl, B0.trans (N2.mono B0.size)⟩
end Go.Proofs.Ythafhfdhahbdoaa

