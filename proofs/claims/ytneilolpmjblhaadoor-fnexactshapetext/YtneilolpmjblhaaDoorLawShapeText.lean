/- The law on ShapeText: at every argument the program's ShapeText is the specification's, byte by byte; it writes into no argument. -/
import Derived.Test.YtneilolpmjblhaaDoorTxtK
import Derived.Test.YtneilolpmjblhaaDoorShapeM
namespace Go.Proofs.YtneilolpmjblhaaDoor
open Go.RowKit

theorem keepG4 {W W' : World} {p q : Nat} {v0 v1 v2 v3 : Value} (k : W.cell? ⟨p, 0, none⟩ = some v0 ∧ W.cell? ⟨p, 1, none⟩ = some v1 ∧ W.cell? ⟨q, 0, none⟩ = some v2 ∧ W.cell? ⟨q, 1, none⟩ = some v3) (hb : Below W.heap.size W W') :
    W'.cell? ⟨p, 0, none⟩ = some v0 ∧ W'.cell? ⟨p, 1, none⟩ = some v1 ∧ W'.cell? ⟨q, 0, none⟩ = some v2 ∧ W'.cell? ⟨q, 1, none⟩ = some v3 :=
  ⟨bat hb k.1, bat hb k.2.1, bat hb k.2.2.1, bat hb k.2.2.2⟩

set_option maxRecDepth 20000 in
set_option maxHeartbeats 4000000 in
theorem lawShapeText (n : Int) (a : Option Addr) (c : Nat) (rs : List (List (Int × Int))) (w : World) (h : SeesS w a c rs) (HT0 : ∀ w', Below w.heap.size w w' → PowT w') (HW0 : ∀ w', Below w.heap.size w w' → TabW w') :
    Calls Tryd.prog 3 #[.agg #[.int .i64 n, .slice a rs.length c]] w fun e w' => e = .returned (.bool true) ∧ Below w.heap.size w w' := by
  have B0 := below1 w (.cells #[.int .i64 n, .slice a rs.length c] 24)
  have V1 : Box2 0 (w.alloc (.cells #[.int .i64 n, .slice a rs.length c] 24)) w.heap.size (.int .i64 n) (.slice a rs.length c) := Box2.new w (lo := 0) (by omega) _ _ _
  have HT : Hid (∀ w', Below w.heap.size w w' → PowT w') := HT0
  have HW : Hid (∀ w', Below w.heap.size w w' → TabW w') := HW0
  clear HT0 HW0
  obtain ⟨es, HE⟩ : ∃ u, Hid (txT n rs = u) := ⟨_, rfl⟩
  have hlw := V1.lt
  go_enter Tryd.func3, Tryd.ntmps3
  go_wp2_with fail
  generalize w.alloc (.cells #[.int .i64 n, .slice a rs.length c] 24) = W0 at *
  refine (szShape_any n a c rs 1048576 _ (h.below B0) (by omega)).mono ?_
  rintro e w1 ⟨z1, rfl, hz1, hb⟩
  replace B0 := B0.trans (hb.mono B0.size)
  replace V1 := V1.below hb
  have hlw := V1.lt
  clear hb
  rcases hz1 with rfl | ⟨z10, hz1⟩
  · go_wp2
    go_ret
    exact ⟨rfl, B0⟩
  · have L1 : Hid (upto rs rs.length ≤ 1048576) := by show _ ≤ _; omega
    clear hz1
    obtain ⟨k0, k1, _, _⟩ := id V1
    go_wp2_with fail
    refine (toShape_any n a c rs _ (h.below B0) L1.out).mono ?_
    rintro e w2 ⟨a3, c3, rfl, o3, hb⟩
    replace B0 := B0.trans (hb.mono B0.size)
    replace V1 := V1.below hb
    clear hb k0 k1
    go_wp2_with fail
    refine (specText n a3 c3 rs _ o3.sees).mono ?_
    rintro e w3 ⟨rfl, hb⟩
    rw [HE.out]
    replace B0 := B0.trans (hb.mono B0.size)
    replace V1 := V1.below hb
    clear hb o3
    have hlw3 := V1.lt
    obtain ⟨k0, k1, _, _⟩ := id V1
    go_wp2_with fail
    refine (toShape_any n a c rs _ (h.below B0) L1.out).mono ?_
    rintro e x4 ⟨a5, c5, rfl, o5, hb⟩
    have bn := below1 x4 (.cells #[.int .i64 n, .slice a5 rs.length c5] 29)
    have V3 := Box2.new x4 (lo := 0) (by omega) (.int .i64 n) (.slice a5 rs.length c5) 29
    have NB : Below w3.heap.size w3 (x4.alloc (.cells #[.int .i64 n, .slice a5 rs.length c5] 29)) := hb.trans (bn.mono hb.size)
    have O5 := o5.below bn
    have hx4 : x4.heap.size ≤ (x4.alloc (.cells #[.int .i64 n, .slice a5 rs.length c5] 29)).heap.size := bn.size
    have hw3x : w3.heap.size ≤ x4.heap.size := hb.size
    have BX : Below x4.heap.size x4 (x4.alloc (.cells #[.int .i64 n, .slice a5 rs.length c5] 29)) := bn
    replace B0 := B0.trans (NB.mono B0.size)
    replace V1 := V1.below NB
    clear hb bn k0 k1 o5 NB
    obtain ⟨k4, k5, _, _⟩ := id V3
    go_wp2_with fail
    generalize x4.alloc (.cells #[.int .i64 n, .slice a5 rs.length c5] 29) = W5 at *
    generalize hq5 : x4.heap.size = q5 at *
    refine (implText n a5 c5 rs _ O5.sees (fun w' q => HT.out w' (B0.trans (q.mono B0.size))) (fun w' q => HW.out w' (B0.trans (q.mono B0.size)))).mono ?_
    rintro e x6 ⟨rfl, hb⟩
    rw [HE.out]
    replace BX := BX.trans (hb.mono hx4)
    replace B0 := B0.trans (hb.mono B0.size)
    replace V1 := V1.below hb
    replace V3 := V3.below hb
    replace O5 := O5.below hb
    clear hb k4 k5
    have K1 : x6.cell? ⟨q5, 0, none⟩ = some (.int .i64 n) ∧ x6.cell? ⟨q5, 1, none⟩ = some (.slice a5 rs.length c5) ∧ x6.cell? ⟨w.heap.size, 0, none⟩ = some (.int .i64 n) ∧ x6.cell? ⟨w.heap.size, 1, none⟩ = some (.slice a rs.length c) := ⟨V3.c0, V3.c1, V1.c0, V1.c1⟩
    have S1 := h.below B0
    go_wp2_with fail
    go_region_held3 (fun w' => w'.cell? ⟨q5, 0, none⟩ = some (.int .i64 n) ∧ w'.cell? ⟨q5, 1, none⟩ = some (.slice a5 rs.length c5) ∧ w'.cell? ⟨w.heap.size, 0, none⟩ = some (.int .i64 n) ∧ w'.cell? ⟨w.heap.size, 1, none⟩ = some (.slice a rs.length c))
      (first | exact K1 | exact m1 | exact m2)
      (first
      | (go_at_call 6; refine (toShape_any n a c rs _ (S1.below (Below.refl _ _).drew) L1.out).mono ?_; rintro e y1 ⟨a8, c8, rfl, o8, hb⟩; have N1 := (Below.refl x6.heap.size x6).drew.trans (hb.mono (by simp)); have m1 := keepG4 K1 N1; clear hb)
      | (go_at_call 8; refine (eqShape_any n a5 a8 c5 c8 rs _ (O5.below N1).sees o8.sees).mono ?_; rintro e y2 ⟨rfl, hb⟩; have N2 := N1.trans (hb.mono N1.size); have m2 := keepG4 K1 N2; clear hb o8))
    all_goals
      replace B0 := B0.trans (N2.mono B0.size)
      clear N1 m1 m2 K1 S1 N2
      go_wp2
      go_ret
      exact ⟨rfl, B0⟩
end Go.Proofs.YtneilolpmjblhaaDoor
