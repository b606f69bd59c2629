import Derived.Test.YtinlomcaagdbiaaGreatTrG
import Derived.Test.YtinlomcaagdbiaaGreatTrZ
import Derived.Lib.SliceRun
/- Nodes at work, of the program: joined over them, fit, leafOf, innerOf, empty. -/
namespace Go.Proofs.YtinlomcaagdbiaaGreat
open Go.RowKit

set_option maxRecDepth 20000 in
theorem ndAround_any (p : Nat) (x1 x2 x3 x4 : Int) (w : World) (h : Four w p 0 (x1, x2, x3, x4)) :
  Calls Tryz.prog 182 #[.pointer (some ⟨p, 0, none⟩)] w fun e w' => e = .returned (.agg #[.int .i64 x1, .int .i64 x2, .int .i64 x3, .int .i64 x4]) ∧ Below w.heap.size w w' := by
 have B0 := below1 w (.cells #[.int .i64 0, .int .i64 0, .int .i64 0, .int .i64 0] 27)
 have B := below1 w (.cells #[.int .i64 x1, .int .i64 x2, .int .i64 x3, .int .i64 x4] 27)
 obtain ⟨g1, g2, g3, g4⟩ := h.below B0
 dsimp only at g1 g2 g3 g4
 simp only [Nat.zero_add] at g1 g2 g3 g4
 go_enter Tryz.func182, Tryz.ntmps182
 go_wp2
 exact bodyPost_ret (v := .agg #[.int .i64 x1, .int .i64 x2, .int .i64 x3, .int .i64 x4]) (by simp [results, Tryz.results182, go_sem]) rfl ⟨rfl, B⟩

set_option maxRecDepth 20000 in
set_option maxHeartbeats 4000000 in
theorem joinedNd_any (a : Option Addr) (c : Nat) (qs : List Ptr) (bs : List Bx) (w : World) (h : SeesTp w a c qs) (hl : qs.length = bs.length) (hk : ∀ i, i < bs.length → (ptAt qs i).2 = 0 ∧ Four w (ptAt qs i).1 0 (bxAt bs i)) :
  Calls Tryz.prog 129 #[.slice a bs.length c] w fun e w' => e = .returned (bxV (jnI bs)) ∧ Below w.heap.size w w' := by
 have hm := h.max
 have hf := h.fits
 rw [hl] at hf
 unfold maxLen at hm
 have Z4 := (.cells #[.int .i64 0, .int .i64 0, .int .i64 0, .int .i64 0] 27 : Obj)
 clear Z4
 have B0 := below1 w (.cells #[.int .i64 0, .int .i64 0, .int .i64 0, .int .i64 0] 27)
 have RR := Box4.new w (lo := w.heap.size) (Nat.le_refl _) (.int .i64 0) (.int .i64 0) (.int .i64 0) (.int .i64 0) 27
 by_cases h0 : bs.length = 0
 ·have e0 : ((bs.length : Int) == 0) = true := by simp; exact List.eq_nil_of_length_eq_zero h0
  have HV : Hid (bxV (jnI bs) = .agg #[.int .i64 0, .int .i64 0, .int .i64 0, .int .i64 0]) := by show _ = _; unfold jnI; rw [if_pos h0]; rfl
  clear h0
  have RR' := RR.put (.int .i64 0) (.int .i64 0) (.int .i64 0) (.int .i64 0)
  have B' := Box4.chain B0 RR (.int .i64 0) (.int .i64 0) (.int .i64 0) (.int .i64 0)
  have q0 := RR'.c0
  have q1 := RR'.c1
  have q2 := RR'.c2
  have q3 := RR'.c3
  obtain ⟨r0, r1, r2, r3, rf, _⟩ := id RR
  go_enter Tryz.func129, Tryz.ntmps129
  go_wp2
  first
  | exact bodyPost_ret (v := .agg #[.int .i64 0, .int .i64 0, .int .i64 0, .int .i64 0]) (by simp [results, Tryz.results129, go_sem, q0, q1, q2, q3]) rfl ⟨by rw [HV.out], B'⟩
  | exact bodyPost_ret (v := .agg #[.int .i64 0, .int .i64 0, .int .i64 0, .int .i64 0]) (by simp [results, Tryz.results129, go_sem]) rfl ⟨by rw [HV.out], B0⟩
 ·have e0 : ((bs.length : Int) == 0) = false := by simp; intro e; exact h0 (by rw [e]; rfl)
  have HV : Hid (jnI bs = jnJ bs bs.length) := by show _ = _; unfold jnI; rw [if_neg h0]
  have hpos : 0 < bs.length := by omega
  have hposZ : (0 : Int) < (bs.length : Int) := by omega
  obtain ⟨b1, o1, ea, hc⟩ := h.cells (by intro e; rw [e] at hl; simp at hl; omega)
  subst ea
  have g5 := hc 0 (by omega)
  obtain ⟨e20, F0⟩ := hk 0 hpos
  have HC : Hid (∀ i, i < bs.length → w.cell? ⟨b1, o1 + i, none⟩ = some (.pointer (some ⟨(ptAt qs i).1, 0, none⟩)) ∧ Four w (ptAt qs i).1 0 (bxAt bs i)) := fun i hi => ⟨by have := hc i (by omega); unfold ptV at this; rw [(hk i hi).1] at this; exact this, (hk i hi).2⟩
  obtain ⟨⟨y1, y2, y3, y4⟩, uy⟩ : ∃ x, Hid (bxAt bs 0 = x) := ⟨_, rfl⟩
  rw [uy.out] at F0
  unfold ptV at g5
  rw [e20] at g5
  simp only [Nat.add_zero] at g5
  replace g5 := bat B0 g5
  replace F0 := F0.below B0
  generalize (ptAt qs 0).1 = n0 at *
  clear hc h0 e20
  go_enter Tryz.func129, Tryz.ntmps129
  go_wp2_with fail
  generalize w.alloc (.cells #[.int .i64 0, .int .i64 0, .int .i64 0, .int .i64 0] 27) = W0 at *
  refine (ndAround_any n0 y1 y2 y3 y4 _ F0).mono ?_
  rintro e w1 ⟨rfl, hb⟩
  replace RR := RR.below hb
  replace B0 := B0.trans (hb.mono B0.size)
  clear hb g5 F0
  have bn := below1 w1 (.cells #[.int .i64 y1, .int .i64 y2, .int .i64 y3, .int .i64 y4] 27)
  have O := Box4.new w1 (lo := w.heap.size) B0.size (.int .i64 y1) (.int .i64 y2) (.int .i64 y3) (.int .i64 y4) 27
  have hp3 : w.heap.size < w1.heap.size := RR.lt
  replace RR := RR.below bn
  replace B0 := B0.trans (bn.mono B0.size)
  clear bn
  go_upto_region 4 with fail
  generalize w1.alloc (.cells #[.int .i64 y1, .int .i64 y2, .int .i64 y3, .int .i64 y4] 27) = W1 at *
  generalize w1.heap.size = p3 at *
  go_wp2
  go_loopw [5, 17] (fun _ s17 wr => ∃ (j : Nat) (y : Bx), j ≤ bs.length ∧ s17 = .int .i64 j ∧ Hid (jnJ bs j = y) ∧ Box4 w.heap.size wr p3 (.int .i64 y.1) (.int .i64 y.2.1) (.int .i64 y.2.2.1) (.int .i64 y.2.2.2) ∧ Box4 w.heap.size wr w.heap.size (.int .i64 0) (.int .i64 0) (.int .i64 0) (.int .i64 0) ∧ Below w.heap.size w wr) (fun _ s17 _ => bs.length - (intOf s17).toNat)
  case atStart => exact ⟨0, (y1, y2, y3, y4), Nat.zero_le _, rfl, uy.out, O, RR, B0⟩
  case round =>
   clear O RR B0
   obtain ⟨j, y, hj, rfl, J, O, RR, B⟩ := hrel
   rename World => wr
   obtain ⟨z1, z2, z3, z4⟩ := y
   dsimp only at O
   by_cases hlt : j < bs.length
   ·obtain ⟨g5, FJ⟩ := HC.out j hlt
    have HJ : Hid (jnJ bs (j + 1) = jn2 (z1, z2, z3, z4) (bxAt bs j)) := by show jn2 (jnJ bs j) _ = _; rw [J.out]
    obtain ⟨⟨x1, x2, x3, x4⟩, ux⟩ : ∃ x, Hid (bxAt bs j = x) := ⟨_, rfl⟩
    rw [ux.out] at FJ HJ
    replace g5 := bat B g5
    replace FJ := FJ.below B
    generalize (ptAt qs j).1 = nj at *
    go_wp2_with fail
    refine (ndAround_any nj x1 x2 x3 x4 _ FJ).mono ?_
    rintro e w2 ⟨rfl, hb⟩
    replace O := O.below hb
    replace RR := RR.below hb
    replace B := B.trans (hb.mono B.size)
    clear hb g5 FJ J
    go_wp2_with fail
    refine (enclose_any w.heap.size p3 z1 z2 z3 z4 x1 x2 x3 x4 _ O).mono ?_
    rintro e w3 ⟨rfl, O3, G⟩
    have R3 := RR.grownT G (by intro e; injection e with e; omega)
    have B3 := B.grown G B.size (fun k e => by injection e with e; omega)
    clear O RR B G
    go_wp2
    go_roundw
    case rel => exact ⟨j + 1, jn2 (z1, z2, z3, z4) (x1, x2, x3, x4), by omega, by go_num, HJ, O3, R3, B3⟩
    case measure => simp [intOf]; omega
   ·obtain rfl : j = bs.length := by omega
    have HW : Hid (bxV (jnI bs) = .agg #[.int .i64 z1, .int .i64 z2, .int .i64 z3, .int .i64 z4]) := by show _ = _; rw [HV.out, J.out]; rfl
    obtain ⟨o0, o1', o2, o3, _, _⟩ := id O
    obtain ⟨r0, r1, r2, r3, rf, _⟩ := id RR
    have RR' := RR.put (.int .i64 z1) (.int .i64 z2) (.int .i64 z3) (.int .i64 z4)
    have B' := Box4.chain B RR (.int .i64 z1) (.int .i64 z2) (.int .i64 z3) (.int .i64 z4)
    have q0 := RR'.c0
    have q1 := RR'.c1
    have q2 := RR'.c2
    have q3 := RR'.c3
    clear O RR B J RR' HV
    go_wp2
    exact bodyPost_ret (v := .agg #[.int .i64 z1, .int .i64 z2, .int .i64 z3, .int .i64 z4]) (by simp [results, Tryz.results129, go_sem, q0, q1, q2, q3]) rfl ⟨by rw [HW.out], B'⟩

structure Wk6 (w : World) (p : Nat) (x : Bx) (v1 v2 : Value) : Prop where
 four : Four w p 0 x
 c4 : w.cell? ⟨p, 4, none⟩ = some v1
 c5 : w.cell? ⟨p, 5, none⟩ = some v2
 fr : ∀ o, w.frozen? ⟨p, o, none⟩ = false
 pl : Plain w p
theorem Wk6.lt {w : World} {p : Nat} {x : Bx} {v1 v2 : Value} (h : Wk6 w p x v1 v2) : p < w.heap.size := World.block_lt_of_cell? _ _ h.c4
theorem Wk6.below {w w' : World} {p : Nat} {x : Bx} {v1 v2 : Value} (h : Wk6 w p x v1 v2) (hb : Below w.heap.size w w') : Wk6 w' p x v1 v2 := ⟨h.four.below hb, bat hb h.c4, bat hb h.c5, fun o => (hb.frozen (p := ⟨p, o, none⟩) h.lt).trans (h.fr o), h.pl.below hb⟩
theorem Wk6.new (w : World) (v1 v2 : Value) (T : TypeId) : Wk6 (w.alloc (.cells #[.int .i64 0, .int .i64 0, .int .i64 0, .int .i64 0, v1, v2] T)) w.heap.size (0, 0, 0, 0) v1 v2 :=
 ⟨⟨cell_new w _ T 0 rfl, cell_new w _ T 1 rfl, cell_new w _ T 2 rfl, cell_new w _ T 3 rfl⟩, cell_new w _ T 4 rfl, cell_new w _ T 5 rfl, fun o => frozen_new _ _ _ o, Plain.new w _ T⟩
theorem Wk6.box {w : World} {p : Nat} {x : Bx} {v1 v2 : Value} (h : Wk6 w p x v1 v2) (y1 y2 y3 y4 : Int) : Wk6 ((((w.setCell ⟨p, 0, none⟩ (.int .i64 y1)).setCell ⟨p, 1, none⟩ (.int .i64 y2)).setCell ⟨p, 2, none⟩ (.int .i64 y3)).setCell ⟨p, 3, none⟩ (.int .i64 y4)) p (y1, y2, y3, y4) v1 v2 := by
 have f := put4_at (w := w) (g := p) (o := 0) (x := (y1, y2, y3, y4)) (fun k hk => by
  obtain ⟨g1, g2, g3, g4⟩ := h.four
  rcases (show k = 0 ∨ k = 1 ∨ k = 2 ∨ k = 3 by omega) with rfl | rfl | rfl | rfl
  ·exact ⟨_, g1⟩
  ·exact ⟨_, g2⟩
  ·exact ⟨_, g3⟩
  ·exact ⟨_, g4⟩)
 refine ⟨f, ?_, ?_, fun o => ?_, (((h.pl.put _).put _).put _).put _⟩
 ·exact (cell_other (.inr (by decide)) _).trans ((cell_other (.inr (by decide)) _).trans ((cell_other (.inr (by decide)) _).trans ((cell_other (.inr (by decide)) _).trans h.c4)))
 ·exact (cell_other (.inr (by decide)) _).trans ((cell_other (.inr (by decide)) _).trans ((cell_other (.inr (by decide)) _).trans ((cell_other (.inr (by decide)) _).trans h.c5)))
 ·exact (World.frozen?_setCell ..).trans ((World.frozen?_setCell ..).trans ((World.frozen?_setCell ..).trans ((World.frozen?_setCell ..).trans (h.fr o))))

set_option maxRecDepth 20000 in
set_option maxHeartbeats 4000000 in
theorem leafOf_any (a : Option Addr) (c : Nat) (bs : List Bx) (is : List Int) (w : World) (h : SeesIt w a c bs is) :
  Calls Tryz.prog 83 #[.slice a bs.length c] w fun e w' => e = .returned (.pointer (some ⟨w.heap.size, 0, none⟩)) ∧ Wk6 w' w.heap.size (jnI bs) (.slice a bs.length c) (.slice none 0 0) ∧ Below w.heap.size w w' := by
 have B := below1 w (.cells #[.int .i64 0, .int .i64 0, .int .i64 0, .int .i64 0, .slice a bs.length c, .slice none 0 0] 110)
 have K := Wk6.new w (.slice a bs.length c) (.slice none 0 0) 110
 obtain ⟨⟨n1, n2, n3, n4⟩, HN⟩ : ∃ n, Hid (jnI bs = n) := ⟨_, rfl⟩
 have HV : Hid (bxV (jnI bs) = .agg #[.int .i64 n1, .int .i64 n2, .int .i64 n3, .int .i64 n4]) := by show _ = _; rw [HN.out]; rfl
 rw [HN.out]
 replace h := h.below B
 have F : ∀ W, Wk6 W w.heap.size (0, 0, 0, 0) (.slice a bs.length c) (.slice none 0 0) → SeesIt W a c bs is → Below w.heap.size w W → Calls Tryz.prog 110 #[.pointer (some ⟨w.heap.size, 0, none⟩)] W fun e w' => e = .returned (.tuple #[]) ∧ Wk6 w' w.heap.size (n1, n2, n3, n4) (.slice a bs.length c) (.slice none 0 0) ∧ Below w.heap.size w w' := by
  intro W K h B
  obtain ⟨_, k4, k5, _, _⟩ := id K
  go_enter Tryz.func110, Tryz.ntmps110
  go_wp2_with fail
  refine (joinedIt_any a c bs is _ h).mono ?_
  rintro e w1 ⟨rfl, hb⟩
  rw [HV.out]
  replace K := K.below hb
  replace B := B.trans (hb.mono B.size)
  clear hb k4 k5 h
  obtain ⟨⟨z0, z1, z2, z3⟩, _, k5, zf, _⟩ := id K
  dsimp only at z0 z1 z2 z3
  simp only [Nat.zero_add] at z0 z1 z2 z3
  have K2 := K.box n1 n2 n3 n4
  have q5 := K2.c5
  have B2 := (((B.setCell (p := ⟨w.heap.size, 0, none⟩) (Nat.le_refl _) (.int .i64 n1)).setCell (p := ⟨w.heap.size, 1, none⟩) (Nat.le_refl _) (.int .i64 n2)).setCell (p := ⟨w.heap.size, 2, none⟩) (Nat.le_refl _) (.int .i64 n3)).setCell (p := ⟨w.heap.size, 3, none⟩) (Nat.le_refl _) (.int .i64 n4)
  clear K B
  go_wp2
  exact bodyPost_end (results_none Tryz.results110 _ _ _) rfl ⟨rfl, K2, B2⟩
 go_enter Tryz.func83, Tryz.ntmps83
 go_wp2_with fail
 refine (F _ K h B).mono ?_
 rintro e w1 ⟨rfl, K1, B1⟩
 clear F K h B
 go_wp2
 go_ret
 exact ⟨rfl, K1, B1⟩

set_option maxRecDepth 20000 in
set_option maxHeartbeats 4000000 in
theorem innerOf_any (a : Option Addr) (c : Nat) (qs : List Ptr) (bs : List Bx) (w : World) (h : SeesTp w a c qs) (hl : qs.length = bs.length) (hk : ∀ i, i < bs.length → (ptAt qs i).2 = 0 ∧ Four w (ptAt qs i).1 0 (bxAt bs i)) (h0 : 0 < bs.length) :
  Calls Tryz.prog 85 #[.slice a bs.length c] w fun e w' => e = .returned (.pointer (some ⟨w.heap.size, 0, none⟩)) ∧ Wk6 w' w.heap.size (jnI bs) (.slice none 0 0) (.slice a bs.length c) ∧ Below w.heap.size w w' := by
 have B := below1 w (.cells #[.int .i64 0, .int .i64 0, .int .i64 0, .int .i64 0, .slice none 0 0, .slice a bs.length c] 110)
 have K := Wk6.new w (.slice none 0 0) (.slice a bs.length c) 110
 obtain ⟨⟨n1, n2, n3, n4⟩, HN⟩ : ∃ n, Hid (jnI bs = n) := ⟨_, rfl⟩
 have HV : Hid (bxV (jnI bs) = .agg #[.int .i64 n1, .int .i64 n2, .int .i64 n3, .int .i64 n4]) := by show _ = _; rw [HN.out]; rfl
 rw [HN.out]
 have hpZ : (0 : Int) < (bs.length : Int) := by omega
 have C : Hid (∀ W, Below w.heap.size w W → Calls Tryz.prog 129 #[.slice a bs.length c] W fun e w' => e = .returned (bxV (jnI bs)) ∧ Below W.heap.size W w') := fun W hb => joinedNd_any a c qs bs W (h.below hb) hl (fun i hi => ⟨(hk i hi).1, (hk i hi).2.below hb⟩)
 clear h hk hl
 have F : ∀ W, Wk6 W w.heap.size (0, 0, 0, 0) (.slice none 0 0) (.slice a bs.length c) → Below w.heap.size w W → Calls Tryz.prog 110 #[.pointer (some ⟨w.heap.size, 0, none⟩)] W fun e w' => e = .returned (.tuple #[]) ∧ Wk6 w' w.heap.size (n1, n2, n3, n4) (.slice none 0 0) (.slice a bs.length c) ∧ Below w.heap.size w w' := by
  intro W K B
  obtain ⟨_, k4, k5, _, _⟩ := id K
  go_enter Tryz.func110, Tryz.ntmps110
  go_wp2_with fail
  refine (joinedIt_any none 0 [] [] _ ⟨rfl, Nat.le_refl _, by simp [maxLen], fun e => absurd rfl e⟩).mono ?_
  rintro e w1 ⟨rfl, hb⟩
  have e0 : bxV (jnI []) = .agg #[.int .i64 0, .int .i64 0, .int .i64 0, .int .i64 0] := rfl
  rw [e0]
  replace K := K.below hb
  replace B := B.trans (hb.mono B.size)
  clear hb k4 k5 e0
  obtain ⟨⟨z0, z1, z2, z3⟩, _, k5, zf, _⟩ := id K
  dsimp only at z0 z1 z2 z3
  simp only [Nat.zero_add] at z0 z1 z2 z3
  have K2 := K.box 0 0 0 0
  have q5 := K2.c5
  have B2 := (((B.setCell (p := ⟨w.heap.size, 0, none⟩) (Nat.le_refl _) (.int .i64 0)).setCell (p := ⟨w.heap.size, 1, none⟩) (Nat.le_refl _) (.int .i64 0)).setCell (p := ⟨w.heap.size, 2, none⟩) (Nat.le_refl _) (.int .i64 0)).setCell (p := ⟨w.heap.size, 3, none⟩) (Nat.le_refl _) (.int .i64 0)
  clear K B
  go_upto_region 1 with fail
  clear z0 z1 z2 z3 zf k5 q5
  generalize (((w1.setCell ⟨w.heap.size, 0, none⟩ (.int .i64 0)).setCell ⟨w.heap.size, 1, none⟩ (.int .i64 0)).setCell ⟨w.heap.size, 2, none⟩ (.int .i64 0)).setCell ⟨w.heap.size, 3, none⟩ (.int .i64 0) = W2 at *
  have q5 := K2.c5
  go_wp2_with fail
  refine (C.out _ B2).mono ?_
  rintro e w3 ⟨rfl, hb⟩
  rw [HV.out]
  replace K2 := K2.below hb
  replace B2 := B2.trans (hb.mono B2.size)
  clear hb q5
  obtain ⟨⟨z0, z1, z2, z3⟩, _, k5, zf, _⟩ := id K2
  dsimp only at z0 z1 z2 z3
  simp only [Nat.zero_add] at z0 z1 z2 z3
  have K3 := K2.box n1 n2 n3 n4
  have B3 := (((B2.setCell (p := ⟨w.heap.size, 0, none⟩) (Nat.le_refl _) (.int .i64 n1)).setCell (p := ⟨w.heap.size, 1, none⟩) (Nat.le_refl _) (.int .i64 n2)).setCell (p := ⟨w.heap.size, 2, none⟩) (Nat.le_refl _) (.int .i64 n3)).setCell (p := ⟨w.heap.size, 3, none⟩) (Nat.le_refl _) (.int .i64 n4)
  clear K2 B2
  go_wp2
  exact bodyPost_end (results_none Tryz.results110 _ _ _) rfl ⟨rfl, K3, B3⟩
 go_enter Tryz.func85, Tryz.ntmps85
 go_wp2_with fail
 refine (F _ K B).mono ?_
 rintro e w1 ⟨rfl, K1, B1⟩
 clear F K B C
 go_wp2
 go_ret
 exact ⟨rfl, K1, B1⟩

end Go.Proofs.YtinlomcaagdbiaaGreat

/- The kids of a level's nodes, of the program (kidsOfAll over *Node). -/
namespace Go.Proofs.YtinlomcaagdbiaaGreat
open Go.RowKit

theorem ptAt_append (qs rs : List Ptr) (i : Nat) : ptAt (qs ++ rs) i = if i < qs.length then ptAt qs i else ptAt rs (i - qs.length) := by
 unfold ptAt
 split
 ·rw [List.getElem?_append_left (by assumption)]
 ·rw [List.getElem?_append_right (by omega)]
theorem ndA_append (qs rs : List Nd) (i : Nat) : ndA (qs ++ rs) i = if i < qs.length then ndA qs i else ndA rs (i - qs.length) := by
 unfold ndA
 split
 ·rw [List.getElem?_append_left (by assumption)]
 ·rw [List.getElem?_append_right (by omega)]
end Go.Proofs.YtinlomcaagdbiaaGreat

/- A node put to work, of the program: slices.Clone of pointers, (*Node).atWork. -/
namespace Go.Proofs.YtinlomcaagdbiaaGreat
open Go.RowKit

theorem infoWp : (Tryz.prog.info? 58).map (fun i => (i.zero, i.size, i.bytes)) = some (some (.pointer none), 1, 8) := by kernel_rfl
theorem infoIt : (Tryz.prog.info? 112).map (fun i => (i.zero, i.size, i.bytes)) = some (some (.agg #[.int .i64 0, .int .i64 0, .int .i64 0, .int .i64 0, .int .i64 0]), 5, 40) := by kernel_rfl
def RowWp (base : Nat) (w : World) (v : Value) (qs : List Ptr) : Prop := w.ownsRow base 58 1 v qs.length (qs.map ptV)
theorem RowWp.nil (base : Nat) (w : World) : RowWp base w (.slice none 0 0) [] := ⟨rfl, .inl ⟨rfl, rfl⟩⟩
theorem RowWp.snoc {base : Nat} {w : World} {v : Value} {qs : List Ptr} {q : Ptr} (h : w.ownsRow base 58 1 v (qs.length + 1) (qs.map ptV ++ [q].map ptV)) : RowWp base w v (qs ++ [q]) := by
 unfold RowWp
 rw [List.map_append, List.length_append]
 exact h
theorem RowWp.sees {base : Nat} {w : World} {v : Value} {qs : List Ptr} (h : RowWp base w v qs) : ∃ a cap, v = .slice a qs.length cap ∧ SeesTp w a cap qs ∧ From base qs.length a := by
 rcases h.2 with ⟨hv, h0⟩ | ⟨g, cap', cur, hv, hb, hh, hf, hm, hs, ht⟩
 ·exact ⟨none, 0, by rw [hv, h0], ⟨by omega, by simp [maxLen], fun hn => absurd (List.eq_nil_of_length_eq_zero h0) hn⟩, fun b off e => by cases e⟩
 ·refine ⟨_, cap', hv, ⟨hf, hm, fun _ => ⟨g, 0, rfl, fun i hi => ?_⟩⟩, fun b off e _ => by injection e with e; injection e with e; omega⟩
  have hk : (qs.map ptV)[i]? = some (ptV (ptAt qs i)) := by
   rw [List.getElem?_map, List.getElem?_eq_getElem hi]
   unfold ptAt
   rw [List.getElem?_eq_getElem hi]
   rfl
  rw [← ht] at hk
  rw [List.getElem?_take_of_lt (by omega)] at hk
  rw [Nat.zero_add]
  exact (cell_of_row w g i _ _ _ hh).trans (by simpa using hk)
abbrev It := Bx × Int
def itC (xs : List It) : List Value := xs.flatMap fun x => [.int .i64 x.1.1, .int .i64 x.1.2.1, .int .i64 x.1.2.2.1, .int .i64 x.1.2.2.2, .int .i64 x.2]
theorem itC_append (ps qs : List It) : itC (ps ++ qs) = itC ps ++ itC qs := by simp [itC]
def itAt (xs : List It) (i : Nat) : It := xs[i]?.getD ((0, 0, 0, 0), 0)
theorem itC_at : ∀ (xs : List It) (j : Nat), j < xs.length → (itC xs)[j * 5]? = some (.int .i64 (itAt xs j).1.1) ∧ (itC xs)[j * 5 + 1]? = some (.int .i64 (itAt xs j).1.2.1) ∧ (itC xs)[j * 5 + 2]? = some (.int .i64 (itAt xs j).1.2.2.1) ∧ (itC xs)[j * 5 + 3]? = some (.int .i64 (itAt xs j).1.2.2.2) ∧ (itC xs)[j * 5 + 4]? = some (.int .i64 (itAt xs j).2)
 | [], j, h => absurd h (by simp)
 | p :: r, 0, _ => ⟨rfl, rfl, rfl, rfl, rfl⟩
 | p :: r, j + 1, h => by
  have ih := itC_at r j (by simpa using h)
  have e : itC (p :: r) = [.int .i64 p.1.1, .int .i64 p.1.2.1, .int .i64 p.1.2.2.1, .int .i64 p.1.2.2.2, .int .i64 p.2] ++ itC r := rfl
  have eb : itAt (p :: r) (j + 1) = itAt r j := rfl
  rw [e, eb, show (j + 1) * 5 = 5 + j * 5 by omega, show 5 + j * 5 + 1 = 5 + (j * 5 + 1) by omega, show 5 + j * 5 + 2 = 5 + (j * 5 + 2) by omega, show 5 + j * 5 + 3 = 5 + (j * 5 + 3) by omega, show 5 + j * 5 + 4 = 5 + (j * 5 + 4) by omega, List.getElem?_append_right (by simp), List.getElem?_append_right (by simp), List.getElem?_append_right (by simp), List.getElem?_append_right (by simp), List.getElem?_append_right (by simp)]
  simpa using ih
theorem itC_ones (xs : List It) : ∀ u ∈ itC xs, u.oneCell' = true := by
 intro u hu
 simp only [itC, List.mem_flatMap] at hu
 obtain ⟨p, _, h⟩ := hu
 simp only [List.mem_cons, List.not_mem_nil, or_false] at h
 rcases h with rfl | rfl | rfl | rfl | rfl <;> rfl
def RowIt (base : Nat) (w : World) (v : Value) (xs : List It) : Prop := w.ownsRow base 112 5 v xs.length (itC xs)
theorem RowIt.nil (base : Nat) (w : World) : RowIt base w (.slice none 0 0) [] := ⟨rfl, .inl ⟨rfl, rfl⟩⟩
theorem RowIt.snoc {base : Nat} {w : World} {v : Value} {xs : List It} {x : It} (h : w.ownsRow base 112 5 v (xs.length + 1) (itC xs ++ itC [x])) : RowIt base w v (xs ++ [x]) := by
 unfold RowIt
 rw [itC_append, List.length_append]
 exact h
theorem RowIt.sees {base : Nat} {w : World} {v : Value} {xs : List It} (h : RowIt base w v xs) : ∃ a cap, v = .slice a xs.length cap ∧ SeesIt w a cap (xs.map Prod.fst) (xs.map Prod.snd) ∧ From base xs.length a := by
 rcases h.2 with ⟨hv, h0⟩ | ⟨q, cap', cur, hv, hb, hh, hf, hm, hs, ht⟩
 ·exact ⟨none, 0, by rw [hv, h0], ⟨by simp, by simp; exact List.eq_nil_of_length_eq_zero h0, by simp [maxLen], fun hn => absurd (by rw [List.eq_nil_of_length_eq_zero h0]; rfl) hn⟩, fun b off e => by cases e⟩
 ·refine ⟨_, cap', hv, ⟨by simp, by simpa using hf, hm, fun _ => ⟨q, 0, rfl, fun i hi => ?_⟩⟩, fun b off e _ => by injection e with e; injection e with e; omega⟩
  rw [List.length_map] at hi
  have c : ∀ k u, (itC xs)[k]? = some u → w.cell? ⟨q, 0 + k, none⟩ = some u := by
   intro k u hk
   rw [← ht] at hk
   have hk2 : k < xs.length * 5 := by
    have := (List.getElem?_eq_some_iff.mp hk).1
    rw [List.length_take] at this
    omega
   rw [List.getElem?_take_of_lt hk2] at hk
   rw [Nat.zero_add]
   exact (cell_of_row w q k _ _ _ hh).trans (by simpa using hk)
  obtain ⟨c1, c2, c3, c4, c5⟩ := itC_at xs i hi
  have e1 : bxAt (xs.map Prod.fst) i = (itAt xs i).1 := by unfold bxAt itAt; rw [List.getElem?_map]; cases xs[i]? <;> rfl
  have e2 : (xs.map Prod.snd)[i]?.getD 0 = (itAt xs i).2 := by unfold itAt; rw [List.getElem?_map]; cases xs[i]? <;> rfl
  rw [e1, e2]
  refine ⟨⟨c _ _ c1, ?_, ?_, ?_⟩, ?_⟩
  ·have := c _ _ c2; rwa [← Nat.add_assoc] at this
  ·have := c _ _ c3; rwa [← Nat.add_assoc] at this
  ·have := c _ _ c4; rwa [← Nat.add_assoc] at this
  ·have := c _ _ c5; rwa [← Nat.add_assoc] at this
theorem it_new (w : World) (e : TypeId) (x y u v n : Int) : ∀ j z, (itC [((x, y, u, v), n)])[j]? = some z → (w.alloc (.cells #[.int .i64 x, .int .i64 y, .int .i64 u, .int .i64 v, .int .i64 n] e)).cell? ((⟨w.heap.size, 0, none⟩ : Addr).add j) = some z := by
 intro j z hz
 rcases j with _ | _ | _ | _ | _ | j
 ·simp [itC] at hz; subst hz; exact cell_new w #[.int .i64 x, .int .i64 y, .int .i64 u, .int .i64 v, .int .i64 n] e 0 rfl
 ·simp [itC] at hz; subst hz; exact cell_new w #[.int .i64 x, .int .i64 y, .int .i64 u, .int .i64 v, .int .i64 n] e 1 rfl
 ·simp [itC] at hz; subst hz; exact cell_new w #[.int .i64 x, .int .i64 y, .int .i64 u, .int .i64 v, .int .i64 n] e 2 rfl
 ·simp [itC] at hz; subst hz; exact cell_new w #[.int .i64 x, .int .i64 y, .int .i64 u, .int .i64 v, .int .i64 n] e 3 rfl
 ·simp [itC] at hz; subst hz; exact cell_new w #[.int .i64 x, .int .i64 y, .int .i64 u, .int .i64 v, .int .i64 n] e 4 rfl
 ·simp [itC] at hz

end Go.Proofs.YtinlomcaagdbiaaGreat
