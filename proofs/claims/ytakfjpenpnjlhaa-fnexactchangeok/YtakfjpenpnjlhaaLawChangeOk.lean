/- The law on ChangeOk: at every argument the program's ChangeOk is the specification's; it writes into no argument. -/
import Derived.Test.YtakfjpenpnjlhaaChL
import Derived.Deep.RegionHeld3
namespace Go.Proofs.Ytakfjpenpnjlhaa
open Go.RowKit

def Four (w : World) (p : Nat) (x0 x1 x2 x3 : Value) : Prop := w.cell? ⟨p, 0, none⟩ = some x0 ∧ w.cell? ⟨p, 1, none⟩ = some x1 ∧ w.cell? ⟨p, 2, none⟩ = some x2 ∧ w.cell? ⟨p, 3, none⟩ = some x3

set_option maxRecDepth 20000 in
set_option maxHeartbeats 2000000 in
theorem lawChangeOk (kd ix n : Int) (a : Option Addr) (c : Nat) (rs : List (List (Int × Int))) (w : World) (h : SeesS w a c rs) :
    Calls Try.prog 3 #[.agg #[.int .i64 kd, .int .i64 ix, .int .i64 n, .slice a rs.length c]] w fun e w' => e = .returned (.bool true) ∧ Below w.heap.size w w' := by
  have B0 := below1 w (.cells #[.int .i64 kd, .int .i64 ix, .int .i64 n, .slice a rs.length c] 26)
  have V1 := Box4.new w (lo := 0) (by omega) (.int .i64 kd) (.int .i64 ix) (.int .i64 n) (.slice a rs.length c) 26
  have S1 := h.below B0
  obtain ⟨u1, H1⟩ : ∃ u, Hid (chB kd ix n rs = u) := ⟨_, rfl⟩
  have hu : (u1 != u1) = false := by cases u1 <;> rfl
  clear h
  go_enter Try.func3, Try.ntmps3
  go_wp2_with fail
  generalize w.alloc (.cells #[.int .i64 kd, .int .i64 ix, .int .i64 n, .slice a rs.length c] 26) = W0 at *
  refine (szChange_any kd ix n a c rs 1048576 _ S1 (by omega)).mono ?_
  rintro e w1 ⟨z1, rfl, hz1, hb⟩
  replace B0 := B0.trans (hb.mono B0.size)
  replace S1 := S1.below hb
  replace V1 := V1.below hb
  clear hb
  rcases hz1 with rfl | ⟨z10, hz1⟩
  · go_wp2
    go_ret
    exact ⟨rfl, B0⟩
  · have L1 : Hid (upto rs rs.length ≤ 1048576) := by show _ ≤ _; omega
    clear hz1
    obtain ⟨k0, k1, k2, k3, _, _⟩ := id V1
    go_wp2_with fail
    refine (toChangeE kd ix n a c rs _ S1 L1.out).mono ?_
    rintro e w2 ⟨rfl, o3, hb, _, _⟩
    replace B0 := B0.trans (hb.mono B0.size)
    replace S1 := S1.below hb
    replace V1 := V1.below hb
    generalize w1.heap.size + 6 = g3 at *
    clear hb k0 k1 k2 k3
    go_wp2_with fail
    refine (specChangeOk kd ix n _ _ rs _ o3.sees).mono ?_
    rintro e w3 ⟨rfl, hb⟩
    rw [H1.out]
    replace B0 := B0.trans (hb.mono B0.size)
    replace S1 := S1.below hb
    replace V1 := V1.below hb
    clear hb o3
    obtain ⟨k0, k1, k2, k3, _, _⟩ := id V1
    go_wp2_with fail
    refine (toChangeE kd ix n a c rs _ S1 L1.out).mono ?_
    rintro e x4 ⟨rfl, o5, hb, _, _⟩
    generalize w3.heap.size + 6 = g5 at *
    have bn := below1 x4 (.cells #[.int .i64 kd, .int .i64 ix, .int .i64 n, .slice (some ⟨g5, 0, none⟩) rs.length rs.length] 33)
    replace bn := hb.trans (bn.mono hb.size)
    have V3 := Box4.new x4 (lo := 0) (by omega) (.int .i64 kd) (.int .i64 ix) (.int .i64 n) (.slice (some ⟨g5, 0, none⟩) rs.length rs.length) 33
    replace o5 := o5.below (below1 x4 (.cells #[.int .i64 kd, .int .i64 ix, .int .i64 n, .slice (some ⟨g5, 0, none⟩) rs.length rs.length] 33))
    replace B0 := B0.trans (bn.mono B0.size)
    replace S1 := S1.below bn
    replace V1 := V1.below bn
    clear hb bn k0 k1 k2 k3
    obtain ⟨k0, k1, k2, k3, _, _⟩ := id V3
    go_wp2_with fail
    generalize x4.alloc (.cells #[.int .i64 kd, .int .i64 ix, .int .i64 n, .slice (some ⟨g5, 0, none⟩) rs.length rs.length] 33) = W5 at *
    generalize x4.heap.size = q5 at *
    refine (implChangeOk kd ix n _ _ rs _ o5.sees).mono ?_
    rintro e x6 ⟨rfl, hb⟩
    rw [H1.out]
    replace B0 := B0.trans (hb.mono B0.size)
    replace S1 := S1.below hb
    replace V1 := V1.below hb
    replace V3 := V3.below hb
    replace o5 := o5.below hb
    clear hb k0 k1 k2 k3
    have K1 : (x6.cell? ⟨q5, 0, none⟩ = some (.int .i64 kd) ∧ x6.cell? ⟨q5, 1, none⟩ = some (.int .i64 ix) ∧ x6.cell? ⟨q5, 2, none⟩ = some (.int .i64 n) ∧ x6.cell? ⟨q5, 3, none⟩ = some (.slice (some ⟨g5, 0, none⟩) rs.length rs.length)) ∧ (x6.cell? ⟨w.heap.size, 0, none⟩ = some (.int .i64 kd) ∧ x6.cell? ⟨w.heap.size, 1, none⟩ = some (.int .i64 ix) ∧ x6.cell? ⟨w.heap.size, 2, none⟩ = some (.int .i64 n) ∧ x6.cell? ⟨w.heap.size, 3, none⟩ = some (.slice a rs.length c)) := ⟨⟨V3.c0, V3.c1, V3.c2, V3.c3⟩, ⟨V1.c0, V1.c1, V1.c2, V1.c3⟩⟩
    have keep : ∀ {w' : World}, Below x6.heap.size x6 w' → (w'.cell? ⟨q5, 0, none⟩ = some (.int .i64 kd) ∧ w'.cell? ⟨q5, 1, none⟩ = some (.int .i64 ix) ∧ w'.cell? ⟨q5, 2, none⟩ = some (.int .i64 n) ∧ w'.cell? ⟨q5, 3, none⟩ = some (.slice (some ⟨g5, 0, none⟩) rs.length rs.length)) ∧ (w'.cell? ⟨w.heap.size, 0, none⟩ = some (.int .i64 kd) ∧ w'.cell? ⟨w.heap.size, 1, none⟩ = some (.int .i64 ix) ∧ w'.cell? ⟨w.heap.size, 2, none⟩ = some (.int .i64 n) ∧ w'.cell? ⟨w.heap.size, 3, none⟩ = some (.slice a rs.length c)) := fun hb => ⟨⟨bat hb K1.1.1, bat hb K1.1.2.1, bat hb K1.1.2.2.1, bat hb K1.1.2.2.2⟩, ⟨bat hb K1.2.1, bat hb K1.2.2.1, bat hb K1.2.2.2.1, bat hb K1.2.2.2.2⟩⟩
    go_wp2_with fail
    go_region_held3 (fun w' => (w'.cell? ⟨q5, 0, none⟩ = some (.int .i64 kd) ∧ w'.cell? ⟨q5, 1, none⟩ = some (.int .i64 ix) ∧ w'.cell? ⟨q5, 2, none⟩ = some (.int .i64 n) ∧ w'.cell? ⟨q5, 3, none⟩ = some (.slice (some ⟨g5, 0, none⟩) rs.length rs.length)) ∧ (w'.cell? ⟨w.heap.size, 0, none⟩ = some (.int .i64 kd) ∧ w'.cell? ⟨w.heap.size, 1, none⟩ = some (.int .i64 ix) ∧ w'.cell? ⟨w.heap.size, 2, none⟩ = some (.int .i64 n) ∧ w'.cell? ⟨w.heap.size, 3, none⟩ = some (.slice a rs.length c)))
      (first | exact K1 | exact m1 | exact m2)
      (first
      | (go_at_call 8; refine (toChangeE kd ix n a c rs _ (S1.below (Below.refl _ _).drew) L1.out).mono ?_; rintro e y1 ⟨rfl, o8, hb, _, _⟩; have N1 := (Below.refl x6.heap.size x6).drew.trans (hb.mono (by simp)); have m1 := keep N1; clear hb)
      | (go_at_call 10; refine (eqChange_any kd ix n _ _ _ _ rs _ (o5.below N1).sees o8.sees).mono ?_; rintro e y2 ⟨rfl, hb⟩; have N2 := N1.trans (hb.mono N1.size); have m2 := keep N2; clear hb o8))
    all_goals
      go_wp2
      go_ret
      exact ⟨rfl, B0.trans (N2.mono B0.size)⟩
end Go.Proofs.Ytakfjpenpnjlhaa
