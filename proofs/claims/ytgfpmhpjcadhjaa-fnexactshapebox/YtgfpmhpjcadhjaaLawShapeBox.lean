/- The law on ShapeBox: at every argument the program's ShapeBox is the specification's, field by field; it writes into no argument. -/
import Derived.Test.YtgfpmhpjcadhjaaSBox
import Derived.Test.YtgfpmhpjcadhjaaShapeM
namespace Go.Proofs.Ytgfpmhpjcadhjaa
open Go.RowKit

theorem keepS4 {W W' : World} {p q : Nat} {v0 v1 v2 v3 : Value} (k : W.cell? ⟨p, 0, none⟩ = some v0 ∧ W.cell? ⟨p, 1, none⟩ = some v1 ∧ W.cell? ⟨q, 0, none⟩ = some v2 ∧ W.cell? ⟨q, 1, none⟩ = some v3) (hb : Below W.heap.size W W') :
    W'.cell? ⟨p, 0, none⟩ = some v0 ∧ W'.cell? ⟨p, 1, none⟩ = some v1 ∧ W'.cell? ⟨q, 0, none⟩ = some v2 ∧ W'.cell? ⟨q, 1, none⟩ = some v3 :=
  ⟨bat hb k.1, bat hb k.2.1, bat hb k.2.2.1, bat hb k.2.2.2⟩

set_option maxRecDepth 20000 in
set_option maxHeartbeats 2000000 in
theorem lawShapeBox (n : Int) (a : Option Addr) (c : Nat) (rs : List (List (Int × Int))) (w : World) (h : SeesS w a c rs) :
    Calls Try.prog 3 #[.agg #[.int .i64 n, .slice a rs.length c]] w fun e w' => e = .returned (.bool true) ∧ Below w.heap.size w w' := by
  have B0 := below1 w (.cells #[.int .i64 n, .slice a rs.length c] 24)
  have V1 : Box2 0 (w.alloc (.cells #[.int .i64 n, .slice a rs.length c] 24)) w.heap.size (.int .i64 n) (.slice a rs.length c) := Box2.new w (lo := 0) (by omega) _ _ _
  have S1 := h.below B0
  obtain ⟨u1, H1⟩ : ∃ u, Hid (sbA n rs = u) := ⟨_, rfl⟩
  obtain ⟨u2, H2⟩ : ∃ u, Hid (sbB n rs = u) := ⟨_, rfl⟩
  obtain ⟨u3, H3⟩ : ∃ u, Hid (sbC n rs = u) := ⟨_, rfl⟩
  obtain ⟨u4, H4⟩ : ∃ u, Hid (sbD n rs = u) := ⟨_, rfl⟩
  clear h
  go_enter Try.func3, Try.ntmps3
  go_wp2_with fail
  generalize w.alloc (.cells #[.int .i64 n, .slice a rs.length c] 24) = W0 at *
  refine (szShape_any n a c rs 1048576 _ S1 (by omega)).mono ?_
  rintro e w1 ⟨z1, rfl, hz1, hb⟩
  replace B0 := B0.trans (hb.mono B0.size)
  replace S1 := S1.below hb
  replace V1 := V1.below hb
  clear hb
  rcases hz1 with rfl | ⟨z10, hz1⟩
  · go_wp2
    go_ret
    exact ⟨rfl, B0⟩
  · have L1 : Hid (upto rs rs.length ≤ 1048576) := by show _ ≤ _; omega
    clear hz1
    obtain ⟨k0, k1, _, _⟩ := id V1
    go_wp2_with fail
    refine (toShape_any n a c rs _ S1 L1.out).mono ?_
    rintro e w2 ⟨a3, c3, rfl, o3, hb⟩
    replace B0 := B0.trans (hb.mono B0.size)
    replace S1 := S1.below hb
    replace V1 := V1.below hb
    clear hb k0 k1
    go_wp2_with fail
    refine (specShapeBox n a3 c3 rs _ o3.sees).mono ?_
    rintro e w3 ⟨rfl, hb⟩
    rw [H1.out, H2.out, H3.out, H4.out]
    have bn := below1 w3 (.cells #[.int .i64 u1, .int .i64 u2, .int .i64 u3, .int .i64 u4] 29)
    replace bn := hb.trans (bn.mono hb.size)
    have K0 := Box4.new w3 (lo := 0) (by omega) (.int .i64 u1) (.int .i64 u2) (.int .i64 u3) (.int .i64 u4) 29
    replace B0 := B0.trans (bn.mono B0.size)
    replace S1 := S1.below bn
    replace V1 := V1.below bn
    clear hb bn o3
    obtain ⟨k0, k1, _, _⟩ := id V1
    go_wp2_with fail
    generalize w3.alloc (.cells #[.int .i64 u1, .int .i64 u2, .int .i64 u3, .int .i64 u4] 29) = W3 at *
    generalize w3.heap.size = q3 at *
    refine (toShape_any n a c rs _ S1 L1.out).mono ?_
    rintro e x4 ⟨a5, c5, rfl, o5, hb⟩
    have bn := below1 x4 (.cells #[.int .i64 n, .slice a5 rs.length c5] 33)
    replace bn := hb.trans (bn.mono hb.size)
    have V3 := Box2.new x4 (lo := 0) (by omega) (.int .i64 n) (.slice a5 rs.length c5) 33
    replace o5 := o5.below (below1 x4 (.cells #[.int .i64 n, .slice a5 rs.length c5] 33))
    replace B0 := B0.trans (bn.mono B0.size)
    replace S1 := S1.below bn
    replace V1 := V1.below bn
    replace K0 := K0.below bn
    clear hb bn k0 k1
    obtain ⟨k4, k5, _, _⟩ := id V3
    go_wp2_with fail
    generalize x4.alloc (.cells #[.int .i64 n, .slice a5 rs.length c5] 33) = W5 at *
    generalize x4.heap.size = q5 at *
    refine (implShapeBox n a5 c5 rs _ o5.sees).mono ?_
    rintro e x6 ⟨rfl, hb⟩
    rw [H1.out, H2.out, H3.out, H4.out]
    have bn := below1 x6 (.cells #[.int .i64 u1, .int .i64 u2, .int .i64 u3, .int .i64 u4] 29)
    replace bn := hb.trans (bn.mono hb.size)
    have K1 := Box4.new x6 (lo := 0) (by omega) (.int .i64 u1) (.int .i64 u2) (.int .i64 u3) (.int .i64 u4) 29
    replace B0 := B0.trans (bn.mono B0.size)
    replace S1 := S1.below bn
    replace V1 := V1.below bn
    replace V3 := V3.below bn
    replace o5 := o5.below bn
    replace K0 := K0.below bn
    clear hb bn k4 k5
    obtain ⟨m0, m1, m2, m3, _, _⟩ := id K0
    obtain ⟨p0, p1, p2, p3, _, _⟩ := id K1
    go_wp2_with fail
    generalize x6.alloc (.cells #[.int .i64 u1, .int .i64 u2, .int .i64 u3, .int .i64 u4] 29) = W6 at *
    generalize x6.heap.size = q6 at *
    refine (eqBox_any _ _ _ _ _ _ _ _ _).mono ?_
    rintro e x8 ⟨rfl, hb⟩
    rw [eqX_refl]
    replace B0 := B0.trans (hb.mono B0.size)
    replace S1 := S1.below hb
    replace V1 := V1.below hb
    replace V3 := V3.below hb
    replace o5 := o5.below hb
    clear hb m0 m1 m2 m3 p0 p1 p2 p3 K0 K1
    have K1 : x8.cell? ⟨q5, 0, none⟩ = some (.int .i64 n) ∧ x8.cell? ⟨q5, 1, none⟩ = some (.slice a5 rs.length c5) ∧ x8.cell? ⟨w.heap.size, 0, none⟩ = some (.int .i64 n) ∧ x8.cell? ⟨w.heap.size, 1, none⟩ = some (.slice a rs.length c) := ⟨V3.c0, V3.c1, V1.c0, V1.c1⟩
    go_wp2_with fail
    go_region_held3 (fun w' => w'.cell? ⟨q5, 0, none⟩ = some (.int .i64 n) ∧ w'.cell? ⟨q5, 1, none⟩ = some (.slice a5 rs.length c5) ∧ w'.cell? ⟨w.heap.size, 0, none⟩ = some (.int .i64 n) ∧ w'.cell? ⟨w.heap.size, 1, none⟩ = some (.slice a rs.length c))
      (first | exact K1 | exact m1 | exact m2)
      (first
      | (go_at_call 7; refine (toShape_any n a c rs _ (S1.below (Below.refl _ _).drew) L1.out).mono ?_; rintro e y1 ⟨a8, c8, rfl, o8, hb⟩; have N1 := (Below.refl x8.heap.size x8).drew.trans (hb.mono (by simp)); have m1 := keepS4 K1 N1; clear hb)
      | (go_at_call 10; refine (eqShape_any n a5 a8 c5 c8 rs _ (o5.below N1).sees o8.sees).mono ?_; rintro e y2 ⟨rfl, hb⟩; have N2 := N1.trans (hb.mono N1.size); have m2 := keepS4 K1 N2; clear hb o8))
    all_goals
      go_wp2
      go_ret
      exact ⟨rfl, B0.trans (N2.mono B0.size)⟩
end Go.Proofs.Ytgfpmhpjcadhjaa
