/- The law on turns: FnTurns. -/
import Derived.Test.YtokmphhpnoochabDrawT
import Derived.Test.YtokmphhpnoochabBig
import Derived.Test.YtokmphhpnoochabPtU
import Derived.Test.YtokmphhpnoochabPtM
import Derived.Test.YtokmphhpnoochabBoxL
namespace Go.Proofs.Ytokmphhpnoochab
open Go.RowKit

theorem sgn1_zero (n : Int) : sgn1 n = 0 ↔ n = 0 := by unfold sgn1; split <;> (try split) <;> omega
theorem sgn1_minus (n : Int) : sgn1 (-n) = -sgn1 n := by unfold sgn1; split <;> (try split) <;> (try split) <;> (try split) <;> omega
theorem ar_round (ax ay bx bz cx cy : Int) : ar bx bz cx cy ax ay = ar ax ay bx bz cx cy := by unfold ar; grind
theorem ar_self (ax ay bx bz : Int) : ar ax ay bx bz ax ay = 0 := by unfold ar; grind
theorem on_self (ax ay bx bz : Int) : onB ax ay bx bz ax ay = true := by
  unfold onB
  rw [ar_self]
  simp [btw, inB]
  omega
theorem tX_ok {x y : Int} (h : ptOk x y = true) : tX x y = x := by unfold tX; rw [h]; rfl
theorem tY_ok {x y : Int} (h : ptOk x y = true) : tY x y = y := by unfold tY; rw [h]; rfl
theorem ok_crd {x y : Int} (h : ptOk x y = true) : Crd x ∧ Crd y := by
  unfold ptOk at h
  simp only [Bool.and_eq_true, inB_true] at h
  exact h
/-- The box of two points. -/
theorem box_two {x1 y1 x2 y2 : Int} (h1 : ptOk x1 y1 = true) (h2 : ptOk x2 y2 = true) :
    bA [(x1, y1), (x2, y2)] = min x1 x2 ∧ bB [(x1, y1), (x2, y2)] = min y1 y2 ∧ bC [(x1, y1), (x2, y2)] = max x1 x2 ∧ bD [(x1, y1), (x2, y2)] = max y1 y2 := by
  have hb : bOk [(x1, y1), (x2, y2)] = true := by simp [bOk, okL, h1, h2]
  obtain ⟨e1, e2, e3, e4⟩ := b_good hb
  rw [e1, e2, e3, e4]
  simp only [hd, fA, fB, fC, fD, List.foldl_cons, List.foldl_nil, List.getElem?_cons_zero, Option.getD_some]
  omega
theorem seesP2 (w : World) (a b c d : Int) (t : TypeId) : SeesP (w.alloc (.cells #[.int .i64 a, .int .i64 b, .int .i64 c, .int .i64 d] t)) (some ⟨w.heap.size, 0, none⟩) 2 [(a, b), (c, d)] := by
  refine ⟨by simp, by simp [maxLen], fun _ => ⟨_, _, rfl, fun i hi => ?_⟩⟩
  have : i = 0 ∨ i = 1 := by simp at hi; omega
  rcases this with rfl | rfl
  all_goals exact ⟨cell_new _ _ _ _ rfl, cell_new _ _ _ _ rfl⟩
theorem on_box {x1 y1 x2 y2 x3 y3 : Int} (h1 : ptOk x1 y1 = true) (h2 : ptOk x2 y2 = true) (h3 : ptOk x3 y3 = true) :
    onB x1 y1 x2 y2 x3 y3 = (decide (sgn1 (ar x1 y1 x2 y2 x3 y3) = 0) && inX (min x1 x2) (min y1 y2) (max x1 x2) (max y1 y2) x3 y3) := by
  obtain ⟨c1, d1⟩ := ok_crd h1
  obtain ⟨c2, d2⟩ := ok_crd h2
  have hb : boxOk (min x1 x2) (min y1 y2) (max x1 x2) (max y1 y2) = true := crd_boxOk (crd_min c1 c2) (crd_min d1 d2) (crd_max c1 c2) (crd_max d1 d2) (by omega) (by omega)
  unfold inX onB
  rw [hb, h3, Bool.eq_iff_iff]
  simp [btw, inB, sgn1_zero]
  omega

set_option maxRecDepth 20000 in
set_option maxHeartbeats 8000000 in
theorem lawTurns (a : Option Addr) (n cap : Nat) (w : World) (hB : Byt w a n) :
    Calls Try.prog 3 #[.slice a n cap] w fun e w' => e = .returned (.bool true) ∧ Below w.heap.size w w' := by
  by_cases hs : n ≤ 1048576
  · have HM : Hid (n ≤ 1048576) := hs
    have hd : decide (1048576 < (n : Int)) = false := decide_eq_false (by omega)
    clear hs
    go_enter Try.func3, Try.ntmps3
    go_wp2_with fail
    refine (bigB_any a n cap _).mono ?_
    rintro e w0 ⟨rfl, rfl⟩
    rw [hd]
    clear hd
    go_wp2_with fail
    refine (drawTurn_any a n cap _ hB HM.out).mono ?_
    rintro e w1 ⟨x1, y1, x2, y2, x3, y3, rfl, B0⟩
    clear hB
    go_wp2_with fail
    have k0 := ptbox3 w1 x1 y1 x2 y2 x3 y3 25
    have bn := ptbelow3 w1 x1 y1 x2 y2 x3 y3 25
    generalize (((w1.alloc (.cells #[.int .i64 x1, .int .i64 y1] 25)).alloc (.cells #[.int .i64 x2, .int .i64 y2] 25)).alloc (.cells #[.int .i64 x3, .int .i64 y3] 25)) = W0 at *
    replace B0 := B0.trans (bn.mono B0.size)
    clear bn HM
    have B : Below W0.heap.size W0 W0 := Below.refl _ _
    have K := k0
    obtain ⟨k1, k2, k3, k4, k5, k6⟩ := k0
    by_cases hall : ptOk x1 y1 = true ∧ ptOk x2 y2 = true ∧ ptOk x3 y3 = true
    · obtain ⟨h1, h2, h3⟩ := hall
      have X1 := tX_ok h1
      have Y1 := tY_ok h1
      have X2 := tX_ok h2
      have Y2 := tY_ok h2
      have X3 := tX_ok h3
      have Y3 := tY_ok h3
      have HX : Hid (tX x1 y1 = x1 ∧ tY x1 y1 = y1 ∧ tX x2 y2 = x2 ∧ tY x2 y2 = y2 ∧ tX x3 y3 = x3 ∧ tY x3 y3 = y3) := ⟨X1, Y1, X2, Y2, X3, Y3⟩
      obtain ⟨t, ht⟩ : ∃ t, sgn1 (ar x1 y1 x2 y2 x3 y3) = t := ⟨_, rfl⟩
      have F0 : Hid (sgn1 (ar x1 y1 x2 y2 x3 y3) = t) := ht
      have F1 : Hid (sgn1 (ar x2 y2 x1 y1 x3 y3) = -t) := by show _ = -t; rw [ar_swap, sgn1_minus, ht]
      have F2 : Hid (sgn1 (ar x2 y2 x3 y3 x1 y1) = t) := by show _ = t; rw [ar_round, ht]
      have F4 : Hid (onB x1 y1 x2 y2 x1 y1 = true) := on_self _ _ _ _
      obtain ⟨ib, hib⟩ : ∃ b, inX (min x1 x2) (min y1 y2) (max x1 x2) (max y1 y2) x3 y3 = b := ⟨_, rfl⟩
      have F3 : Hid (onB x1 y1 x2 y2 x3 y3 = (decide (t = 0) && ib)) := by show _ = _; rw [on_box h1 h2 h3, ht, hib]
      have F5 : Hid (inX (min x1 x2) (min y1 y2) (max x1 x2) (max y1 y2) x3 y3 = ib) := hib
      have F6 : Hid (bA [(x1, y1), (x2, y2)] = min x1 x2 ∧ bB [(x1, y1), (x2, y2)] = min y1 y2 ∧ bC [(x1, y1), (x2, y2)] = max x1 x2 ∧ bD [(x1, y1), (x2, y2)] = max y1 y2) := box_two h1 h2
      have tb : -1 ≤ t ∧ t ≤ 1 := by rcases sgn1_cases (ar x1 y1 x2 y2 x3 y3) with e | e | e <;> rw [ht] at e <;> omega
      obtain ⟨tl, tu⟩ := tb
      clear ht hib X1 Y1 X2 Y2 X3 Y3
      go_wp2_with (go_at_call 9; refine (specPtOk _ _ _).mono ?_; rintro e w2 ⟨rfl, hb⟩; (first | rw [h1] | rw [h2] | rw [h3]); replace B := B.trans (hb.mono B.size); clear hb; obtain ⟨k1, k2, k3, k4, k5, k6⟩ := ptkeep3 K B)
      clear h1 h2 h3
      refine (implTurn _ _ _ _ _ _ _).mono ?_
      rintro e w3 ⟨rfl, hb⟩
      obtain ⟨X1, Y1, X2, Y2, X3, Y3⟩ := HX.out
      rw [X1, Y1, X2, Y2, X3, Y3, F0.out]
      clear X1 Y1 X2 Y2 X3 Y3
      replace B := B.trans (hb.mono B.size)
      clear hb
      obtain ⟨k1, k2, k3, k4, k5, k6⟩ := ptkeep3 K B
      go_wp2_with fail
      have SP := seesP2 w3 x1 y1 x2 y2 25
      replace B := B.trans ((below1 w3 (.cells #[.int .i64 x1, .int .i64 y1, .int .i64 x2, .int .i64 y2] 25)).mono B.size)
      refine (implBoxOf _ _ _ _ SP).mono ?_
      rintro e w4 ⟨rfl, hb⟩
      obtain ⟨b1, b2, b3, b4⟩ := F6.out
      rw [b1, b2, b3, b4]
      clear b1 b2 b3 b4 SP
      replace B := B.trans (hb.mono B.size)
      clear hb
      have P4 := Box4.new w4 (Nat.le_refl _) (.int .i64 (min x1 x2)) (.int .i64 (min y1 y2)) (.int .i64 (max x1 x2)) (.int .i64 (max y1 y2)) 31
      obtain ⟨k1, k2, k3, k4, k5, k6⟩ := ptkeep3 K B
      have z3 : w1.heap.size + 1 + 1 < w4.heap.size := World.block_lt_of_cell? _ _ k5
      have z2 : w1.heap.size + 1 < w4.heap.size := by omega
      have z1 : w1.heap.size < w4.heap.size := by omega
      go_wp2_with fail
      replace B := B.trans ((below1 w4 (.cells #[.int .i64 (min x1 x2), .int .i64 (min y1 y2), .int .i64 (max x1 x2), .int .i64 (max y1 y2)] 31)).mono B.size)
      generalize w4.alloc (.cells #[.int .i64 (min x1 x2), .int .i64 (min y1 y2), .int .i64 (max x1 x2), .int .i64 (max y1 y2)] 31) = W4 at *
      generalize w4.heap.size = q at *
      obtain ⟨k1, k2, k3, k4, k5, k6⟩ := ptkeep3 K B
      obtain ⟨c0, c1, c2, c3, _, _⟩ := id P4
      clear z1 z2 z3
      obtain ⟨X1, Y1, X2, Y2, X3, Y3⟩ := HX.out
      by_cases t0 : t = 0 <;> cases ib
      all_goals
        go_wp2_with (first
          | (go_at_call 11; refine (implTurn _ _ _ _ _ _ _).mono ?_; rintro e w2 ⟨rfl, hb⟩; rw [X1, Y1, X2, Y2, X3, Y3]; (first | rw [F1.out] | rw [F2.out]); replace B := B.trans (hb.mono B.size); replace P4 := P4.below hb; clear hb; obtain ⟨k1, k2, k3, k4, k5, k6⟩ := ptkeep3 K B; obtain ⟨c0, c1, c2, c3, _, _⟩ := id P4)
          | (go_at_call 13; refine (implOnSeg _ _ _ _ _ _ _).mono ?_; rintro e w2 ⟨rfl, hb⟩; (first | (rw [X1, Y1, X2, Y2, X3, Y3, F3.out]) | (rw [X1, Y1, X2, Y2, F4.out])); replace B := B.trans (hb.mono B.size); replace P4 := P4.below hb; clear hb; obtain ⟨k1, k2, k3, k4, k5, k6⟩ := ptkeep3 K B; obtain ⟨c0, c1, c2, c3, _, _⟩ := id P4)
          | (go_at_call 14; refine (implInBox _ _ _ _ _ _ _).mono ?_; rintro e w2 ⟨rfl, hb⟩; rw [F5.out]; replace B := B.trans (hb.mono B.size); replace P4 := P4.below hb; clear hb; obtain ⟨k1, k2, k3, k4, k5, k6⟩ := ptkeep3 K B; obtain ⟨c0, c1, c2, c3, _, _⟩ := id P4))
        go_ret
        exact ⟨rfl, B0.trans (B.mono B0.size)⟩
    · cases h1 : ptOk x1 y1 <;> cases h2 : ptOk x2 y2 <;> cases h3 : ptOk x3 y3
      all_goals
        first
        | (exfalso; exact hall ⟨h1, h2, h3⟩)
        | skip
      all_goals
        go_wp2_with (go_at_call 9; refine (specPtOk _ _ _).mono ?_; rintro e w2 ⟨rfl, hb⟩; (first | rw [h1] | rw [h2] | rw [h3]); replace B := B.trans (hb.mono B.size); clear hb; obtain ⟨k1, k2, k3, k4, k5, k6⟩ := ptkeep3 K B)
        have k0 := ptkeep3 K B
        replace B0 := B0.trans (B.mono B0.size)
        clear B K k1 k2 k3 k4 k5 k6
        rename World => W9
        have B : Below W9.heap.size W9 W9 := Below.refl _ _
        go_region_held3 (fun w' => w'.cell? ⟨w1.heap.size, 0, none⟩ = some (.int .i64 x1) ∧ w'.cell? ⟨w1.heap.size, 1, none⟩ = some (.int .i64 y1) ∧ w'.cell? ⟨w1.heap.size + 1, 0, none⟩ = some (.int .i64 x2) ∧ w'.cell? ⟨w1.heap.size + 1, 1, none⟩ = some (.int .i64 y2) ∧ w'.cell? ⟨w1.heap.size + 1 + 1, 0, none⟩ = some (.int .i64 x3) ∧ w'.cell? ⟨w1.heap.size + 1 + 1, 1, none⟩ = some (.int .i64 y3))
          (first | exact k0 | exact ptkeep3 k0 B | exact ptkeep3 k0 B.drew)
          (first
          | (go_at_call 10; refine (implPtOk _ _ _).mono ?_; rintro e w8 ⟨rfl, hb⟩; rw [h1]; (first | replace B := B.trans (hb.mono B.size) | replace B := B.drew.trans (hb.mono B.drew.size)))
          | (go_at_call 9; refine (specPtOk _ _ _).mono ?_; rintro e w8 ⟨rfl, hb⟩; rw [h1]; (first | replace B := B.trans (hb.mono B.size) | replace B := B.drew.trans (hb.mono B.drew.size))))
        go_wp2
        go_ret
        exact ⟨rfl, B0.trans (B.mono B0.size)⟩
  · have hd : decide (1048576 < (n : Int)) = true := decide_eq_true (by omega)
    go_enter Try.func3, Try.ntmps3
    go_wp2_with fail
    refine (bigB_any a n cap _).mono ?_
    rintro e w0 ⟨rfl, rfl⟩
    rw [hd]
    go_wp2
    go_ret
    exact ⟨rfl, Below.refl _ _⟩
end Go.Proofs.Ytokmphhpnoochab
