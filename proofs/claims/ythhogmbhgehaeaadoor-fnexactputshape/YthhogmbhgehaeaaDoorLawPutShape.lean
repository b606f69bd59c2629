/- The law on PutShape: at every argument the program's PutShape is the specification's, byte by byte; it writes into no argument and keeps nothing of one; its answer owns its memory. -/
import Derived.Test.YthhogmbhgehaeaaDoorPutK
import Derived.Test.YthhogmbhgehaeaaDoorPutE
import Derived.Test.YthhogmbhgehaeaaDoorLawSegments
namespace Go.Proofs.YthhogmbhgehaeaaDoor
open Go.RowKit

theorem RowB.puts {base lo hi : Nat} {w w' : World} {v : Value} {es : List Int} (h : RowB base w v es) (P : Puts lo hi w w') (ne : ∀ k, v.ownBlock = some k → k < lo ∨ hi ≤ k) : RowB base w' v es :=
  P (fun W => RowB base W v es) (fun W b o u h1 h2 q => World.ownsRow.kept q (grownBy_setCell (grownBy_refl W (some b)) rfl u) (by
    cases e : v.ownBlock with
    | none => exact .inl rfl
    | some k => exact .inr (by have := ne k e; intro q; simp only [Option.some.injEq] at q; omega))) h
theorem shB_le {k : Int} {rs : List (List (Int × Int))} (h1 : rs.length ≤ 12) (h2 : ∀ i, i < rs.length → (rowA rs i).length ≤ 60) (h0 : 0 < rs.length) : (shB k rs).length ≤ 1000000 := by
  have l0 := h2 0 h0
  have fp := flat_le ptP 21 (ps := rowA rs 0) (fun i hi => by rw [ptP_len]; omega) _ (Nat.le_refl _)
  have fl := flat_le lnP 1000 (ps := rs) (fun i hi => by have := h2 i hi; rw [rowA_at hi]; unfold lnP; rw [List.length_append, hdB_len, lnB_len]; omega) _ (Nat.le_refl _)
  have fr := flat_le rgB 1000 (ps := rs) (fun i hi => by have := h2 i hi; rw [rowA_at hi]; unfold rgB; rw [lnB_len, List.length_append, List.length_take]; omega) _ (Nat.le_refl _)
  rw [List.take_length] at fp fl fr
  unfold shB
  rw [List.length_append, hdB_len]
  split
  · rw [ptB_len]; omega
  · split
    · rw [List.length_append, leB_len]; omega
    · split
      · rw [lnB_len]; omega
      · rw [List.length_append, leB_len]
        split <;> omega
theorem putB_le (k : Int) (rs : List (List (Int × Int))) : (putB k rs).length ≤ 1000000 := by
  unfold putB
  cases g : goodB k rs
  · simp
  · obtain ⟨_, h1, h2⟩ := goodS_rows g
    exact shB_le h1 (fun i hi => (h2 i hi).2.2) (good_some g)

set_option maxRecDepth 20000 in
set_option maxHeartbeats 4000000 in
theorem lawPutShape (n : Int) (a : Option Addr) (c : Nat) (rs : List (List (Int × Int))) (w : World) (h : SeesS w a c rs) (HT0 : ∀ w', Below w.heap.size w w' → TabB w') :
    Calls Tryd.prog 3 #[.agg #[.int .i64 n, .slice a rs.length c]] w fun e w' => e = .returned (.bool true) ∧ Below w.heap.size w w' := by
  have B0 := below1 w (.cells #[.int .i64 n, .slice a rs.length c] 24)
  have V1 : Box2 0 (w.alloc (.cells #[.int .i64 n, .slice a rs.length c] 24)) w.heap.size (.int .i64 n) (.slice a rs.length c) := Box2.new w (lo := 0) (by omega) _ _ _
  have HT : Hid (∀ w', Below w.heap.size w w' → TabB w') := HT0
  clear HT0
  have ML := putB_le n rs
  obtain ⟨es, HE⟩ : ∃ u, Hid (putB n rs = u) := ⟨_, rfl⟩
  rw [HE.out] at ML
  have hlw := V1.lt
  go_enter Tryd.func3, Tryd.ntmps3
  go_wp2_with fail
  generalize w.alloc (.cells #[.int .i64 n, .slice a rs.length c] 24) = W0 at *
  refine (szShape_any n a c rs 1048576 _ (h.below B0) (by omega)).mono ?_
  rintro e w1 ⟨z1, rfl, hz1, hb⟩
  replace B0 := B0.trans (hb.mono B0.size)
  replace V1 := V1.below hb
  have hlw := V1.lt
  clear hb
  rcases hz1 with rfl | ⟨z10, hz1⟩
  · go_wp2
    go_ret
    exact ⟨rfl, B0⟩
  · have L1 : Hid (upto rs rs.length ≤ 1048576) := by show _ ≤ _; omega
    clear hz1
    obtain ⟨k0, k1, _, _⟩ := id V1
    go_wp2_with fail
    refine (toShape_any n a c rs _ (h.below B0) L1.out).mono ?_
    rintro e w2 ⟨a3, c3, rfl, o3, hb⟩
    replace B0 := B0.trans (hb.mono B0.size)
    replace V1 := V1.below hb
    clear hb k0 k1
    go_wp2_with fail
    refine (specPut n a3 c3 rs _ o3.sees).mono ?_
    rintro e w3 ⟨v0, rfl, R0, hb⟩
    rw [HE.out] at R0
    replace B0 := B0.trans (hb.mono B0.size)
    replace V1 := V1.below hb
    clear hb o3
    obtain ⟨e0, f0, rfl, _, _⟩ := R0.shape'
    have Q0 : Hid (∀ k, (Value.slice e0 es.length f0).ownBlock = some k → k < w3.heap.size) := fun k hk => (World.ownsRow.lt R0 k hk).2
    have hlw3 := V1.lt
    obtain ⟨k0, k1, _, _⟩ := id V1
    go_wp2_with fail
    refine (toShape_any n a c rs _ (h.below B0) L1.out).mono ?_
    rintro e x4 ⟨a5, c5, rfl, o5, hb⟩
    have M5 : Hid (∀ b off, a5 = some ⟨b, off, none⟩ → MarkS (b + 1) x4.heap.size x4 b off rs) := fun b off e => by
      subst e
      exact o5.mark
    have bn := below1 x4 (.cells #[.int .i64 n, .slice a5 rs.length c5] 30)
    have V3 := Box2.new x4 (lo := 0) (by omega) (.int .i64 n) (.slice a5 rs.length c5) 30
    have NB : Below w3.heap.size w3 (x4.alloc (.cells #[.int .i64 n, .slice a5 rs.length c5] 30)) := hb.trans (bn.mono hb.size)
    have O5 := o5.below bn
    have hx4 : x4.heap.size ≤ (x4.alloc (.cells #[.int .i64 n, .slice a5 rs.length c5] 30)).heap.size := bn.size
    have hw3x : w3.heap.size ≤ x4.heap.size := hb.size
    have BX : Below x4.heap.size x4 (x4.alloc (.cells #[.int .i64 n, .slice a5 rs.length c5] 30)) := bn
    replace B0 := B0.trans (NB.mono B0.size)
    replace V1 := V1.below NB
    replace R0 := R0.below NB
    clear hb bn k0 k1 o5 NB
    obtain ⟨k4, k5, _, _⟩ := id V3
    go_wp2_with fail
    generalize x4.alloc (.cells #[.int .i64 n, .slice a5 rs.length c5] 30) = W5 at *
    generalize hq5 : x4.heap.size = q5 at *
    refine (implPut n a5 c5 rs _ O5.sees (fun w' q => HT.out w' (B0.trans (q.mono B0.size)))).mono ?_
    rintro e x6 ⟨v1, rfl, R1, hb⟩
    rw [HE.out] at R1
    obtain ⟨e1, f1, rfl, _, _⟩ := R1.shape'
    have Q1 : Hid (∀ k, (Value.slice e1 es.length f1).ownBlock = some k → q5 ≤ k) := fun k hk => by have := (World.ownsRow.lt R1 k hk).1; omega
    replace BX := BX.trans (hb.mono hx4)
    replace B0 := B0.trans (hb.mono B0.size)
    replace V1 := V1.below hb
    replace V3 := V3.below hb
    replace R0 := R0.below hb
    replace O5 := O5.below hb
    clear hb k4 k5
    go_wp2_with fail
    refine (eqB _ _ _ _ es _ R1 R0).mono ?_
    rintro e x8 ⟨rfl, hb⟩
    replace BX := BX.trans (hb.mono (by have := BX.size; omega))
    replace B0 := B0.trans (hb.mono B0.size)
    replace V1 := V1.below hb
    replace V3 := V3.below hb
    replace R0 := R0.below hb
    replace R1 := R1.below hb
    replace O5 := O5.below hb
    clear hb
    have K1 : x8.cell? ⟨q5, 0, none⟩ = some (.int .i64 n) ∧ x8.cell? ⟨q5, 1, none⟩ = some (.slice a5 rs.length c5) ∧ x8.cell? ⟨w.heap.size, 0, none⟩ = some (.int .i64 n) ∧ x8.cell? ⟨w.heap.size, 1, none⟩ = some (.slice a rs.length c) := ⟨V3.c0, V3.c1, V1.c0, V1.c1⟩
    have S1 := h.below B0
    go_wp2_with fail
    go_region_held3 (fun w' => w'.cell? ⟨q5, 0, none⟩ = some (.int .i64 n) ∧ w'.cell? ⟨q5, 1, none⟩ = some (.slice a5 rs.length c5) ∧ w'.cell? ⟨w.heap.size, 0, none⟩ = some (.int .i64 n) ∧ w'.cell? ⟨w.heap.size, 1, none⟩ = some (.slice a rs.length c))
      (first | exact K1 | exact m1 | exact m2)
      (first
      | (go_at_call 6; refine (toShape_any n a c rs _ (S1.below (Below.refl _ _).drew) L1.out).mono ?_; rintro e y1 ⟨a8, c8, rfl, o8, hb⟩; have N1 := (Below.refl x8.heap.size x8).drew.trans (hb.mono (by simp)); have m1 := keepG4 K1 N1; clear hb)
      | (go_at_call 9; refine (eqShape_any n a5 a8 c5 c8 rs _ (O5.below N1).sees o8.sees).mono ?_; rintro e y2 ⟨rfl, hb⟩; have N2 := N1.trans (hb.mono N1.size); have m2 := keepG4 K1 N2; clear hb o8))
    all_goals
      replace BX := BX.trans (N2.mono (by have := BX.size; omega))
      replace B0 := B0.trans (N2.mono B0.size)
      replace V1 := V1.below N2
      replace V3 := V3.below N2
      replace R0 := R0.below N2
      replace R1 := R1.below N2
      replace O5 := O5.below N2
      clear N1 N2 m1 m2 K1 S1
      have BX' : Below x4.heap.size x4 y2 := by rw [hq5]; exact BX
      obtain ⟨k4, k5, _, _⟩ := id V3
      go_wp2_with fail
      refine (markShape_any n w3.heap.size q5 a5 c5 rs _ O5 (fun b off e => (M5.out b off e).below BX') L1.out).mono ?_
      rintro e y3 ⟨kk, rfl, kk0, PU⟩
      have bn := below1 y2 (.cells #[.int .i64 n, .slice a5 rs.length c5] 30)
      replace R0 := (R0.below bn).puts PU (fun k hk => .inl (Q0.out k hk))
      replace R1 := (R1.below bn).puts PU (fun k hk => .inr (Q1.out k hk))
      replace V1 := (V1.below bn).puts PU (.inl hlw3)
      replace B0 := belowPuts (B0.trans (bn.mono B0.size)) PU (Nat.le_of_lt hlw3)
      have hkk : ¬ kk < 0 := by omega
      clear bn PU BX BX' k4 k5 V3 O5 M5
      go_wp2_with fail
      refine (eqB _ _ _ _ es _ R1 R0).mono ?_
      rintro e y4 ⟨rfl, hb⟩
      replace B0 := B0.trans (hb.mono B0.size)
      replace V1 := V1.below hb
      replace R0 := R0.below hb
      replace R1 := R1.below hb
      clear hb
      go_wp2_with fail
      refine (markB _ _ es _ R1 ML).mono ?_
      rintro e y5 ⟨rfl, RM, G5⟩
      have hy4 : w.heap.size < y4.heap.size := V1.lt
      have nR : ∀ k, (Value.slice e0 es.length f0).ownBlock = some k → (Value.slice e1 es.length f1).ownBlock ≠ some k := fun k hk q => by
        have := Q0.out k hk
        have := Q1.out k q
        omega
      replace R0 : RowB _ y5 (.slice e0 es.length f0) es := World.ownsRow.kept R0 G5 (by
        cases e : (Value.slice e0 es.length f0).ownBlock with
        | none => exact .inl rfl
        | some k => exact .inr (fun q => nR k e q.symm))
      replace V1 := Ext.box (v := .slice e1 es.length f1) (v' := .slice e1 es.length f1) ⟨G5, .inl rfl⟩ V1 (fun q => by have := Q1.out _ q; omega)
      replace B0 := B0.grown G5 B0.size (fun k hk => by have := Q1.out k hk; omega)
      clear R1 G5 nR hy4
      go_wp2_with fail
      refine (heldB _ _ es.length _ RM ML).mono ?_
      rintro e y6 ⟨rfl, rfl⟩
      obtain ⟨k0, k1, _, _⟩ := id V1
      go_wp2_with fail
      refine (toShape_any n a c rs _ (h.below B0) L1.out).mono ?_
      rintro e y7 ⟨a9, c9, rfl, o9, hb⟩
      replace B0 := B0.trans (hb.mono B0.size)
      replace R0 := R0.below hb
      replace RM := RM.below hb
      clear hb k0 k1
      go_wp2_with fail
      refine (implPut n a9 c9 rs _ o9.sees (fun w' q => HT.out w' (B0.trans (q.mono B0.size)))).mono ?_
      rintro e y8 ⟨v2, rfl, R2, hb⟩
      rw [HE.out] at R2
      obtain ⟨e2, f2, rfl, _, _⟩ := R2.shape'
      replace B0 := B0.trans (hb.mono B0.size)
      replace R0 := R0.below hb
      replace RM := RM.below hb
      clear hb o9
      go_wp2_with fail
      refine (eqB _ _ _ _ es _ R2 R0).mono ?_
      rintro e y9 ⟨rfl, hb⟩
      replace B0 := B0.trans (hb.mono B0.size)
      replace RM := RM.below hb
      clear hb
      go_wp2_with fail
      refine (heldB _ _ es.length _ RM ML).mono ?_
      rintro e y10 ⟨rfl, rfl⟩
      go_wp2
      go_ret
      exact ⟨rfl, B0⟩
end Go.Proofs.YthhogmbhgehaeaaDoor
