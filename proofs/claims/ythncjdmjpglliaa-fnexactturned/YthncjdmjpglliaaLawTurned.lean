/- The law on Turned: at every argument the program's Turned is the specification's, field by field; it writes into no argument and keeps nothing of one; its answer owns its memory. -/
import Derived.Test.YthncjdmjpglliaaTrnS
import Derived.Test.YthncjdmjpglliaaMarkH
namespace Go.Proofs.Ythncjdmjpglliaa
open Go.RowKit

theorem upto_map (f : Int × Int → Int × Int) (rs : List (List (Int × Int))) : ∀ j, upto (rs.map (·.map f)) j = upto rs j
  | 0 => by simp [upto]
  | j + 1 => by simp only [upto]; rw [upto_map f rs j, rowA_map, List.length_map]
theorem trnV_upto {k q : Int} {rs : List (List (Int × Int))} : upto (trnV k q rs) (trnV k q rs).length = upto rs rs.length ∧ (trnV k q rs).length = rs.length := by
  unfold trnV
  cases goodB k rs
  · exact ⟨rfl, rfl⟩
  · simp only [if_true]
    rw [List.length_map, upto_map]
    exact ⟨rfl, rfl⟩

set_option maxRecDepth 20000 in
set_option maxHeartbeats 4000000 in
theorem lawTurned (n q : Int) (a : Option Addr) (c : Nat) (rs : List (List (Int × Int))) (w : World) (h : SeesS w a c rs) :
    Calls Try.prog 3 #[.agg #[.int .i64 n, .slice a rs.length c], .int .i64 q] w fun e w' => e = .returned (.bool true) ∧ Below w.heap.size w w' := by
  have B0 := below1 w (.cells #[.int .i64 n, .slice a rs.length c] 24)
  have V1 : Box2 0 (w.alloc (.cells #[.int .i64 n, .slice a rs.length c] 24)) w.heap.size (.int .i64 n) (.slice a rs.length c) := Box2.new w (lo := 0) (by omega) _ _ _
  obtain ⟨ts, HT⟩ : ∃ u, Hid (trnV n q rs = u) := ⟨_, rfl⟩
  have TL := (trnV_upto (k := n) (q := q) (rs := rs))
  rw [HT.out] at TL
  obtain ⟨TU0, tl⟩ := TL
  have TU : Hid (upto ts ts.length = upto rs rs.length) := TU0
  have hlw := V1.lt
  clear TU0 tl
  go_enter Try.func3, Try.ntmps3
  go_wp2_with fail
  generalize w.alloc (.cells #[.int .i64 n, .slice a rs.length c] 24) = W0 at *
  refine (szShape_any n a c rs 1048576 _ (h.below B0) (by omega)).mono ?_
  rintro e w1 ⟨z1, rfl, hz1, hb⟩
  replace B0 := B0.trans (hb.mono B0.size)
  replace V1 := V1.below hb
  have hlw := V1.lt
  clear hb
  rcases hz1 with rfl | ⟨z10, hz1⟩
  · go_wp2
    go_ret
    exact ⟨rfl, B0⟩
  · have L1 : Hid (upto rs rs.length ≤ 1048576) := by show _ ≤ _; omega
    have L2 : Hid (upto ts ts.length ≤ 1048576) := by show _ ≤ _; rw [TU.out]; exact L1.out
    clear hz1
    obtain ⟨k0, k1, _, _⟩ := id V1
    go_wp2_with fail
    refine (toShapeX n a c rs _ (h.below B0) L1.out).mono ?_
    rintro e w2 ⟨a3, c3, rfl, o3, hb, m3⟩
    replace B0 := B0.trans (hb.mono B0.size)
    replace V1 := V1.below hb
    clear hb k0 k1
    go_wp2_with fail
    refine (specTurned n q a3 c3 rs _ o3.sees m3 L1.out).mono ?_
    rintro e w3 ⟨v0, vs0, rfl, R0, hb⟩
    rw [HT.out] at R0
    replace B0 := B0.trans (hb.mono B0.size)
    replace V1 := V1.below hb
    clear hb o3 m3
    obtain ⟨e0, f0, rfl, _, _⟩ := R0.shape
    have l0 := R0.len.out
    rw [l0] at R0 ⊢
    have Q0 : Hid ((∀ k, (Value.slice e0 ts.length f0).ownBlock = some k → k < w3.heap.size) ∧ ∀ u ∈ vs0, ∀ k, u.ownBlock = some k → k < w3.heap.size) := ⟨fun k hk => (R0.lts.1 k hk).2, fun u hu k hk => (R0.lts.2 u hu k hk).2⟩
    have hlw3 := V1.lt
    have bn := below1 w3 (.cells #[.int .i64 n, .slice e0 ts.length f0] 28)
    have V2 := Box2.new w3 (lo := 0) (by omega) (.int .i64 n) (.slice e0 ts.length f0) 28
    have hz4 : w3.heap.size < (w3.alloc (.cells #[.int .i64 n, .slice e0 ts.length f0] 28)).heap.size := V2.lt
    replace B0 := B0.trans (bn.mono B0.size)
    replace V1 := V1.below bn
    replace R0 := R0.below bn
    clear bn l0
    obtain ⟨k0, k1, _, _⟩ := id V1
    go_wp2_with fail
    generalize w3.alloc (.cells #[.int .i64 n, .slice e0 ts.length f0] 28) = W4 at *
    generalize w3.heap.size = q3 at *
    refine (toShape_any n a c rs _ (h.below B0) L1.out).mono ?_
    rintro e x4 ⟨a5, c5, rfl, o5, hb⟩
    have M5 : Hid (∀ b off, a5 = some ⟨b, off, none⟩ → MarkS (b + 1) x4.heap.size x4 b off rs) := fun b off e => by
      subst e
      exact o5.mark
    have bn := below1 x4 (.cells #[.int .i64 n, .slice a5 rs.length c5] 28)
    have V3 := Box2.new x4 (lo := 0) (by omega) (.int .i64 n) (.slice a5 rs.length c5) 28
    have NB := hb.trans (bn.mono hb.size)
    have O5 := o5.below bn
    have hw3x : W4.heap.size ≤ x4.heap.size := hb.size
    have hx4 : x4.heap.size < (x4.alloc (.cells #[.int .i64 n, .slice a5 rs.length c5] 28)).heap.size := V3.lt
    have BX : Below x4.heap.size x4 (x4.alloc (.cells #[.int .i64 n, .slice a5 rs.length c5] 28)) := bn
    replace B0 := B0.trans (NB.mono B0.size)
    replace V1 := V1.below NB
    replace V2 := V2.below NB
    replace R0 := R0.below NB
    clear hb bn k0 k1 o5 NB
    obtain ⟨k4, k5, _, _⟩ := id V3
    go_wp2_with fail
    generalize x4.alloc (.cells #[.int .i64 n, .slice a5 rs.length c5] 28) = W5 at *
    generalize hq5 : x4.heap.size = q5 at *
    refine (implTurned n q a5 c5 rs _ O5.sees L1.out).mono ?_
    rintro e x6 ⟨v1, vs1, rfl, R1, hb⟩
    rw [HT.out] at R1
    obtain ⟨e1, f1, rfl, _, _⟩ := R1.shape
    have l1 := R1.len.out
    rw [l1] at R1 ⊢
    have Q1 : Hid ((∀ k, (Value.slice e1 ts.length f1).ownBlock = some k → W5.heap.size ≤ k) ∧ ∀ u ∈ vs1, ∀ k, u.ownBlock = some k → W5.heap.size ≤ k) := ⟨fun k hk => (R1.lts.1 k hk).1, fun u hu k hk => (R1.lts.2 u hu k hk).1⟩
    have Q2 : Hid (∀ u ∈ vs1, u.ownBlock ≠ some x6.heap.size) := fun u hu e => by have := (R1.lts.2 u hu _ e).2; omega
    have bn := below1 x6 (.cells #[.int .i64 n, .slice e1 ts.length f1] 28)
    have V4 := Box2.new x6 (lo := 0) (by omega) (.int .i64 n) (.slice e1 ts.length f1) 28
    have hx6 : W5.heap.size ≤ x6.heap.size := hb.size
    replace hb := hb.trans (bn.mono hb.size)
    replace R1 := R1.below bn
    replace BX := BX.trans (hb.mono (Nat.le_of_lt hx4))
    replace B0 := B0.trans (hb.mono B0.size)
    replace V1 := V1.below hb
    replace V2 := V2.below hb
    replace V3 := V3.below hb
    replace R0 := R0.below hb
    replace O5 := O5.below hb
    clear hb bn k4 k5 l1
    obtain ⟨k4, k5, _, _⟩ := id V4
    obtain ⟨k6, k7, _, _⟩ := id V2
    go_wp2_with fail
    generalize x6.alloc (.cells #[.int .i64 n, .slice e1 ts.length f1] 28) = X7 at *
    generalize hq6 : x6.heap.size = q6 at *
    generalize hqW : W5.heap.size = qW at *
    refine (eqShape_any n e1 e0 f1 f0 ts _ R1.sees R0.sees).mono ?_
    rintro e x8 ⟨rfl, hb⟩
    replace BX := BX.trans (hb.mono (by have := BX.size; omega))
    replace B0 := B0.trans (hb.mono B0.size)
    replace V1 := V1.below hb
    replace V2 := V2.below hb
    replace V3 := V3.below hb
    replace V4 := V4.below hb
    replace R0 := R0.below hb
    replace R1 := R1.below hb
    replace O5 := O5.below hb
    clear hb k4 k5 k6 k7
    have K1 : x8.cell? ⟨q5, 0, none⟩ = some (.int .i64 n) ∧ x8.cell? ⟨q5, 1, none⟩ = some (.slice a5 rs.length c5) ∧ x8.cell? ⟨w.heap.size, 0, none⟩ = some (.int .i64 n) ∧ x8.cell? ⟨w.heap.size, 1, none⟩ = some (.slice a rs.length c) := ⟨V3.c0, V3.c1, V1.c0, V1.c1⟩
    have S1 := h.below B0
    go_wp2_with fail
    go_region_held3 (fun w' => w'.cell? ⟨q5, 0, none⟩ = some (.int .i64 n) ∧ w'.cell? ⟨q5, 1, none⟩ = some (.slice a5 rs.length c5) ∧ w'.cell? ⟨w.heap.size, 0, none⟩ = some (.int .i64 n) ∧ w'.cell? ⟨w.heap.size, 1, none⟩ = some (.slice a rs.length c))
      (first | exact K1 | exact m1 | exact m2)
      (first
      | (go_at_call 7; refine (toShape_any n a c rs _ (S1.below (Below.refl _ _).drew) L1.out).mono ?_; rintro e y1 ⟨a8, c8, rfl, o8, hb⟩; have N1 := (Below.refl x8.heap.size x8).drew.trans (hb.mono (by simp)); have m1 := keepG4 K1 N1; clear hb)
      | (go_at_call 9; refine (eqShape_any n a5 a8 c5 c8 rs _ (O5.below N1).sees o8.sees).mono ?_; rintro e y2 ⟨rfl, hb⟩; have N2 := N1.trans (hb.mono N1.size); have m2 := keepG4 K1 N2; clear hb o8))
    all_goals
      replace BX := BX.trans (N2.mono (by have := BX.size; omega))
      replace B0 := B0.trans (N2.mono B0.size)
      replace V1 := V1.below N2
      replace V2 := V2.below N2
      replace V3 := V3.below N2
      replace V4 := V4.below N2
      replace R0 := R0.below N2
      replace R1 := R1.below N2
      replace O5 := O5.below N2
      clear N1 N2 m1 m2 K1 S1
      have BX' : Below x4.heap.size x4 y2 := by rw [hq5]; exact BX
      obtain ⟨k4, k5, _, _⟩ := id V3
      go_wp2_with fail
      refine (markShape_any n W4.heap.size q5 a5 c5 rs _ O5 (fun b off e => (M5.out b off e).below BX') L1.out).mono ?_
      rintro e y3 ⟨kk, rfl, kk0, PU⟩
      have bn := below1 y2 (.cells #[.int .i64 n, .slice a5 rs.length c5] 28)
      replace R0 := (R0.below bn).puts PU (fun k hk => .inl (by have := Q0.out.1 k hk; omega)) (fun u hu k hk => .inl (by have := Q0.out.2 u hu k hk; omega))
      replace R1 := (R1.below bn).puts PU (fun k hk => .inr (by have := Q1.out.1 k hk; omega)) (fun u hu k hk => .inr (by have := Q1.out.2 u hu k hk; omega))
      replace V1 := (V1.below bn).puts PU (.inl (by omega))
      replace V2 := (V2.below bn).puts PU (.inl hz4)
      replace V4 := (V4.below bn).puts PU (.inr (by omega))
      replace B0 := belowPuts (B0.trans (bn.mono B0.size)) PU (by omega)
      have hkk : ¬ kk < 0 := by omega
      clear bn PU BX BX' k4 k5 V3 O5 M5
      obtain ⟨k4, k5, _, _⟩ := id V4
      obtain ⟨k6, k7, _, _⟩ := id V2
      go_wp2_with fail
      refine (eqShape_any n e1 e0 f1 f0 ts _ R1.sees R0.sees).mono ?_
      rintro e y4 ⟨rfl, hb⟩
      replace B0 := B0.trans (hb.mono B0.size)
      replace V1 := V1.below hb
      replace V2 := V2.below hb
      replace V4 := V4.below hb
      replace R0 := R0.below hb
      replace R1 := R1.below hb
      clear hb k4 k5 k6 k7
      obtain ⟨k4, k5, _, _⟩ := id V4
      go_wp2_with fail
      refine (markShR n qW e1 f1 vs1 ts _ R1 L2.out).mono ?_
      rintro e y5 ⟨rfl, R5, B5, KB⟩
      have bn := below1 y4 (.cells #[.int .i64 n, .slice e1 ts.length f1] 28)
      have U0 := (R0.below bn).under B5 (fun k hk => by have := Q0.out.1 k hk; omega) (fun u hu k hk => by have := Q0.out.2 u hu k hk; omega)
      replace V1 := (V1.below bn).under B5 (by omega)
      replace V2 := (V2.below bn).under B5 (by omega)
      replace V4 := (V4.below bn).but KB Q2.out
      replace B0 := (B0.trans (bn.mono B0.size)).trans (B5.mono (by omega))
      have kp := (kOf_bd L2.out (Nat.le_refl _)).1
      have S5 : Hid (SeesS y5 e1 f1 (mkRs ts ts.length)) := R5.sees
      clear bn B5 KB R1 R5 R0 k4 k5
      obtain ⟨k9, hk9⟩ : ∃ k, Hid (kOf ts ts.length = k) := ⟨_, rfl⟩
      rw [hk9.out] at kp ⊢
      have hk9n : (k9 != k9) = false := by simp
      obtain ⟨k4, k5, _, _⟩ := id V4
      go_wp2_with fail
      refine (heldShR n e1 f1 ts _ S5.out L2.out).mono ?_
      rintro e y6 ⟨rfl, hb⟩
      rw [hk9.out]
      replace B0 := B0.trans (hb.mono B0.size)
      replace V1 := V1.below hb
      replace V2 := V2.below hb
      replace V4 := V4.below hb
      replace U0 := U0.below hb
      have S6 : Hid (SeesS y6 e1 f1 (mkRs ts ts.length)) := S5.out.below hb
      clear hb S5 k4 k5
      obtain ⟨k0, k1, _, _⟩ := id V1
      go_wp2_with fail
      refine (toShape_any n a c rs _ (h.below B0) L1.out).mono ?_
      rintro e y7 ⟨a9, c9, rfl, o9, hb⟩
      replace B0 := B0.trans (hb.mono B0.size)
      replace V2 := V2.below hb
      replace V4 := V4.below hb
      replace U0 := U0.below hb
      have S7 : Hid (SeesS y7 e1 f1 (mkRs ts ts.length)) := S6.out.below hb
      clear hb k0 k1 S6
      go_wp2_with fail
      refine (implTurned n q a9 c9 rs _ o9.sees L1.out).mono ?_
      rintro e y8 ⟨v2, vs2, rfl, R2, hb⟩
      rw [HT.out] at R2
      obtain ⟨e2, f2, rfl, _, _⟩ := R2.shape
      have l2 := R2.len.out
      rw [l2] at R2 ⊢
      have bn := below1 y8 (.cells #[.int .i64 n, .slice e2 ts.length f2] 28)
      have V5 := Box2.new y8 (lo := 0) (by omega) (.int .i64 n) (.slice e2 ts.length f2) 28
      replace hb := hb.trans (bn.mono hb.size)
      replace B0 := B0.trans (hb.mono B0.size)
      replace V2 := V2.below hb
      replace V4 := V4.below hb
      replace U0 := U0.below hb
      have S8 : Hid (SeesS (y8.alloc (.cells #[.int .i64 n, .slice e2 ts.length f2] 28)) e1 f1 (mkRs ts ts.length)) := S7.out.below hb
      replace R2 := R2.below bn
      clear hb bn o9 l2 S7
      obtain ⟨k4, k5, _, _⟩ := id V5
      obtain ⟨k6, k7, _, _⟩ := id V2
      go_wp2_with fail
      generalize y8.alloc (.cells #[.int .i64 n, .slice e2 ts.length f2] 28) = Y9 at *
      refine (eqShape_any n e2 e0 f2 f0 ts _ R2.sees U0.sees).mono ?_
      rintro e y9 ⟨rfl, hb⟩
      replace B0 := B0.trans (hb.mono B0.size)
      replace V4 := V4.below hb
      have S9 : Hid (SeesS y9 e1 f1 (mkRs ts ts.length)) := S8.out.below hb
      clear hb k4 k5 k6 k7 S8
      obtain ⟨k4, k5, _, _⟩ := id V4
      go_wp2_with fail
      refine (heldShR n e1 f1 ts _ S9.out L2.out).mono ?_
      rintro e y10 ⟨rfl, hb⟩
      rw [hk9.out]
      replace B0 := B0.trans (hb.mono B0.size)
      clear hb
      go_wp2
      go_ret
      exact ⟨rfl, B0⟩
end Go.Proofs.Ythncjdmjpglliaa
