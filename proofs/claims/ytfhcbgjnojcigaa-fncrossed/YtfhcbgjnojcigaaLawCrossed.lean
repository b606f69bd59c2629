/- The law on crossings: FnCrossed. -/
import Derived.Test.YtfhcbgjnojcigaaCurF
import Derived.Test.YtfhcbgjnojcigaaCrossI
import Derived.Test.YtfhcbgjnojcigaaCrossedM
import Derived.Test.YtfhcbgjnojcigaaCrossB
import Derived.Test.YtfhcbgjnojcigaaGapsW
import Derived.BigRegion
import Derived.Deep.DeepCutAuto
namespace Go.Proofs.Ytfhcbgjnojcigaa
open Go.RowKit

theorem Box2.lowM {lo lo' p : Nat} {w : World} {x0 x1 : Value} (h : Box2 lo w p x0 x1) (k : lo' ≤ lo) : Box2 lo' w p x0 x1 := ⟨h.c0, h.c1, h.fr, Nat.le_trans k h.lo⟩
theorem tX_ok {x y : Int} (h : ptOk x y = true) : tX x y = x ∧ tY x y = y := by unfold tX tY; rw [h]; exact ⟨rfl, rfl⟩
theorem tX_no {x y : Int} (h : ptOk x y = false) : tX x y = 0 ∧ tY x y = 0 := by unfold tX tY; rw [h]; exact ⟨rfl, rfl⟩
set_option maxRecDepth 20000 in
set_option maxHeartbeats 8000000 in
theorem lawCrossed (a : Option Addr) (n cap : Nat) (w : World) (hB : Byt w a n) :
    Calls Try.prog 3 #[.slice a n cap] w fun e w' => e = .returned (.bool true) ∧ Below w.heap.size w w' := by
  by_cases hs : n ≤ 1048576
  · have HM : Hid (n ≤ 1048576) := hs
    have hd : decide (1048576 < (n : Int)) = false := decide_eq_false (by omega)
    clear hs
    go_enter Try.func3, Try.ntmps3
    go_wp2_with fail
    refine (big_any a n cap _).mono ?_
    rintro e w0 ⟨rfl, rfl⟩
    rw [hd]
    clear hd
    go_wp2_with fail
    refine (drawCross_any a n cap _ hB HM.out).mono ?_
    rintro e w1 ⟨x1, y1, x2, y2, x3, y3, x4, y4, rfl, B⟩
    clear hB HM
    obtain ⟨⟨kk, n1, d1, n2, d2⟩, hc⟩ : ∃ q, crV (tX x1 y1) (tY x1 y1) (tX x2 y2) (tY x2 y2) (tX x3 y3) (tY x3 y3) (tX x4 y4) (tY x4 y4) = q := ⟨_, rfl⟩
    have hc2 : crV (tX x4 y4) (tY x4 y4) (tX x3 y3) (tY x3 y3) (tX x2 y2) (tY x2 y2) (tX x1 y1) (tY x1 y1) = (kk, n1, d1, n2, d2) := (crV_rev (tX x1 y1) (tY x1 y1) (tX x2 y2) (tY x2 y2) (tX x3 y3) (tY x3 y3) (tX x4 y4) (tY x4 y4)).trans hc
    have BB := crV_bound (tX_crd x1 y1) (tY_crd x1 y1) (tX_crd x2 y2) (tY_crd x2 y2) (tX_crd x3 y3) (tY_crd x3 y3) (tX_crd x4 y4) (tY_crd x4 y4) hc
    have PD := crV_pos hc
    have KK := crV_kind (tX x1 y1) (tY x1 y1) (tX x2 y2) (tY x2 y2) (tX x3 y3) (tY x3 y3) (tX x4 y4) (tY x4 y4)
    rw [hc] at KK
    dsimp only at KK
    have HC : Hid (crV (tX x1 y1) (tY x1 y1) (tX x2 y2) (tY x2 y2) (tX x3 y3) (tY x3 y3) (tX x4 y4) (tY x4 y4) = (kk, n1, d1, n2, d2)) := hc
    have HC2 : Hid (crV (tX x4 y4) (tY x4 y4) (tX x3 y3) (tY x3 y3) (tX x2 y2) (tY x2 y2) (tX x1 y1) (tY x1 y1) = (kk, n1, d1, n2, d2)) := hc2
    have HB : Hid ((mg n1 ≤ 40000000000000000000000 ∧ mg d1 ≤ 40000000000000000000000 ∧ mg n2 ≤ 40000000000000000000000 ∧ mg d2 ≤ 40000000000000000000000) ∧ 0 < d1 ∧ 0 < d2) := ⟨BB, PD⟩
    clear hc hc2 BB PD
    obtain ⟨m, HMt⟩ : ∃ m, Hid (metI (tX x1 y1) (tY x1 y1) (tX x2 y2) (tY x2 y2) (tX x3 y3) (tY x3 y3) (tX x4 y4) (tY x4 y4) = m) := ⟨_, rfl⟩
    rw [HMt.out] at KK
    obtain ⟨f1, F1⟩ : ∃ f, Hid (decide (n1 < 0) = f) := ⟨_, rfl⟩
    obtain ⟨f2, F2⟩ : ∃ f, Hid (decide (d1 < 0) = f) := ⟨_, rfl⟩
    obtain ⟨f3, F3⟩ : ∃ f, Hid (decide (n2 < 0) = f) := ⟨_, rfl⟩
    obtain ⟨f4, F4⟩ : ∃ f, Hid (decide (d2 < 0) = f) := ⟨_, rfl⟩
    obtain ⟨k0, k1, k2, k3, k4, k5, k6, k7⟩ := ptbox4 w1 x1 y1 x2 y2 x3 y3 x4 y4 25
    have hb := ptbelow4 w1 x1 y1 x2 y2 x3 y3 x4 y4 25
    replace B := B.trans (hb.mono B.size)
    clear hb
    go_wp2_with fail
    generalize ((((w1.alloc (.cells #[.int .i64 x1, .int .i64 y1] 25)).alloc (.cells #[.int .i64 x2, .int .i64 y2] 25)).alloc (.cells #[.int .i64 x3, .int .i64 y3] 25)).alloc (.cells #[.int .i64 x4, .int .i64 y4] 25)) = W1 at *
    generalize w1.heap.size = q0 at *
    refine (implCross x1 y1 x2 y2 x3 y3 x4 y4 _ kk n1 d1 n2 d2 HC.out).mono ?_
    rintro e w2 ⟨v1, v2, rfl, TF, hb⟩
    obtain ⟨a1A, c1A, z1A, b1A, e1A, t1A, a2A, c2A, z2A, b2A, e2A, t2A, rfl, rfl, ⟨o1A, o2A, o3A, o4A⟩, ⟨m1, u1, m2, u2, m3, u3, m4, u4⟩, _⟩ := TF
    rw [F1.out, F2.out, F3.out, F4.out]
    have L1A : Hid ((Nrm z1A ∧ z1A.length ≤ 24 ∧ val z1A = mg n1) ∧ (Nrm t1A ∧ t1A.length ≤ 24 ∧ val t1A = mg d1)) := ⟨⟨m1, Nat.le_trans (len_few o1A.lim m1 u1 HB.out.1.1) (by decide), u1⟩, ⟨m2, Nat.le_trans (len_few o2A.lim m2 u2 HB.out.1.2.1) (by decide), u2⟩⟩
    have L2A : Hid ((Nrm z2A ∧ z2A.length ≤ 24 ∧ val z2A = mg n2) ∧ (Nrm t2A ∧ t2A.length ≤ 24 ∧ val t2A = mg d2)) := ⟨⟨m3, Nat.le_trans (len_few o3A.lim m3 u3 HB.out.1.2.2.1) (by decide), u3⟩, ⟨m4, Nat.le_trans (len_few o4A.lim m4 u4 HB.out.1.2.2.2) (by decide), u4⟩⟩
    clear m1 u1 m2 u2 m3 u3 m4 u4
    replace k0 := bat hb k0
    replace k1 := bat hb k1
    replace k2 := bat hb k2
    replace k3 := bat hb k3
    replace k4 := bat hb k4
    replace k5 := bat hb k5
    replace k6 := bat hb k6
    replace k7 := bat hb k7
    replace B := B.trans (hb.mono B.size)
    clear hb
    have bn := below2 w2 (.cells #[.bool f1, .slice a1A z1A.length c1A, .bool f2, .slice b1A t1A.length e1A] 32) (.cells #[.bool f3, .slice a2A z2A.length c2A, .bool f4, .slice b2A t2A.length e2A] 32)
    obtain ⟨g0, g1, g2, g3, _, _⟩ := (Box4.new w2 (lo := 0) (by omega) (.bool f1) (.slice a1A z1A.length c1A) (.bool f2) (.slice b1A t1A.length e1A) 32).below (below1 _ (.cells #[.bool f3, .slice a2A z2A.length c2A, .bool f4, .slice b2A t2A.length e2A] 32))
    have VB := Box4.new (w2.alloc (.cells #[.bool f1, .slice a1A z1A.length c1A, .bool f2, .slice b1A t1A.length e1A] 32)) (lo := 0) (by omega) (.bool f3) (.slice a2A z2A.length c2A) (.bool f4) (.slice b2A t2A.length e2A) 32
    rw [World.size_alloc] at VB
    obtain ⟨h0, h1, h2, h3, _, _⟩ := VB
    replace k0 := bat bn k0
    replace k1 := bat bn k1
    replace k2 := bat bn k2
    replace k3 := bat bn k3
    replace k4 := bat bn k4
    replace k5 := bat bn k5
    replace k6 := bat bn k6
    replace k7 := bat bn k7
    replace o1A := o1A.below bn
    replace o2A := o2A.below bn
    replace o3A := o3A.below bn
    replace o4A := o4A.below bn
    replace B := B.trans (bn.mono B.size)
    clear bn
    go_wp2_with fail
    generalize (w2.alloc (.cells #[.bool f1, .slice a1A z1A.length c1A, .bool f2, .slice b1A t1A.length e1A] 32)).alloc (.cells #[.bool f3, .slice a2A z2A.length c2A, .bool f4, .slice b2A t2A.length e2A] 32) = W2 at *
    generalize w2.heap.size = q2 at *
    refine (implCross x4 y4 x3 y3 x2 y2 x1 y1 _ kk n1 d1 n2 d2 HC2.out).mono ?_
    rintro e w3 ⟨v1, v2, rfl, TF, hb⟩
    obtain ⟨a1B, c1B, z1B, b1B, e1B, t1B, a2B, c2B, z2B, b2B, e2B, t2B, rfl, rfl, ⟨o1B, o2B, o3B, o4B⟩, ⟨m1, u1, m2, u2, m3, u3, m4, u4⟩, _⟩ := TF
    rw [F1.out, F2.out, F3.out, F4.out]
    have L1B : Hid ((Nrm z1B ∧ z1B.length ≤ 24 ∧ val z1B = mg n1) ∧ (Nrm t1B ∧ t1B.length ≤ 24 ∧ val t1B = mg d1)) := ⟨⟨m1, Nat.le_trans (len_few o1B.lim m1 u1 HB.out.1.1) (by decide), u1⟩, ⟨m2, Nat.le_trans (len_few o2B.lim m2 u2 HB.out.1.2.1) (by decide), u2⟩⟩
    have L2B : Hid ((Nrm z2B ∧ z2B.length ≤ 24 ∧ val z2B = mg n2) ∧ (Nrm t2B ∧ t2B.length ≤ 24 ∧ val t2B = mg d2)) := ⟨⟨m3, Nat.le_trans (len_few o3B.lim m3 u3 HB.out.1.2.2.1) (by decide), u3⟩, ⟨m4, Nat.le_trans (len_few o4B.lim m4 u4 HB.out.1.2.2.2) (by decide), u4⟩⟩
    clear m1 u1 m2 u2 m3 u3 m4 u4
    replace k0 := bat hb k0
    replace k1 := bat hb k1
    replace k2 := bat hb k2
    replace k3 := bat hb k3
    replace k4 := bat hb k4
    replace k5 := bat hb k5
    replace k6 := bat hb k6
    replace k7 := bat hb k7
    replace g0 := bat hb g0
    replace g1 := bat hb g1
    replace g2 := bat hb g2
    replace g3 := bat hb g3
    replace h0 := bat hb h0
    replace h1 := bat hb h1
    replace h2 := bat hb h2
    replace h3 := bat hb h3
    replace o1A := o1A.below hb
    replace o2A := o2A.below hb
    replace o3A := o3A.below hb
    replace o4A := o4A.below hb
    replace B := B.trans (hb.mono B.size)
    clear hb
    have bn := below2 w3 (.cells #[.bool f1, .slice a1B z1B.length c1B, .bool f2, .slice b1B t1B.length e1B] 32) (.cells #[.bool f3, .slice a2B z2B.length c2B, .bool f4, .slice b2B t2B.length e2B] 32)
    obtain ⟨i0, i1, i2, i3, _, _⟩ := (Box4.new w3 (lo := 0) (by omega) (.bool f1) (.slice a1B z1B.length c1B) (.bool f2) (.slice b1B t1B.length e1B) 32).below (below1 _ (.cells #[.bool f3, .slice a2B z2B.length c2B, .bool f4, .slice b2B t2B.length e2B] 32))
    have VB := Box4.new (w3.alloc (.cells #[.bool f1, .slice a1B z1B.length c1B, .bool f2, .slice b1B t1B.length e1B] 32)) (lo := 0) (by omega) (.bool f3) (.slice a2B z2B.length c2B) (.bool f4) (.slice b2B t2B.length e2B) 32
    rw [World.size_alloc] at VB
    obtain ⟨j0, j1, j2, j3, _, _⟩ := VB
    replace k0 := bat bn k0
    replace k1 := bat bn k1
    replace k2 := bat bn k2
    replace k3 := bat bn k3
    replace k4 := bat bn k4
    replace k5 := bat bn k5
    replace k6 := bat bn k6
    replace k7 := bat bn k7
    replace g0 := bat bn g0
    replace g1 := bat bn g1
    replace g2 := bat bn g2
    replace g3 := bat bn g3
    replace h0 := bat bn h0
    replace h1 := bat bn h1
    replace h2 := bat bn h2
    replace h3 := bat bn h3
    replace o1A := o1A.below bn
    replace o2A := o2A.below bn
    replace o3A := o3A.below bn
    replace o4A := o4A.below bn
    replace o1B := o1B.below bn
    replace o2B := o2B.below bn
    replace o3B := o3B.below bn
    replace o4B := o4B.below bn
    replace B := B.trans (bn.mono B.size)
    clear bn
    go_upto_region 6 with fail
    generalize (w3.alloc (.cells #[.bool f1, .slice a1B z1B.length c1B, .bool f2, .slice b1B t1B.length e1B] 32)).alloc (.cells #[.bool f3, .slice a2B z2B.length c2B, .bool f4, .slice b2B t2B.length e2B] 32) = W3 at *
    generalize w3.heap.size = q3 at *
    have ZZ : Hid (cmpZ (n1 * d1) (n1 * d1) = 0 ∧ cmpZ (n2 * d2) (n2 * d2) = 0) := by unfold cmpZ; simp [Hid]
    go_cut [94] (fun s W => s = .bool false ∧ Below W3.heap.size W3 W)
    case first =>
      have hkm : (kk != 0) = m := KK
      clear KK
      cases m
      · skip
        refine wp_region_held_drew (S := Below W3.heap.size W3) (by kernel_rfl) ((Below.refl _ _).drew) (fun hHeld => ?_)
        have N : Below W3.heap.size W3 W3.drew := hHeld
        revert hHeld N
        generalize W3.drew = ww0
        intro hHeld N
        refine takeQ (i := 0) (gt rfl) (by kernel_rfl) (fun _ _ _ h => h) (by rfl) (by intro wq hSw; have q0 := bat hSw k0; have q1 := bat hSw k1; have q2 := bat hSw k2; have q3 := bat hSw k3; have q4 := bat hSw k4; have q5 := bat hSw k5; have q6 := bat hSw k6; have q7 := bat hSw k7; have q8 := bat hSw g0; have q9 := bat hSw g1; have q10 := bat hSw g2; have q11 := bat hSw g3; have q12 := bat hSw h0; have q13 := bat hSw h1; have q14 := bat hSw h2; have q15 := bat hSw h3; have q16 := bat hSw i0; have q17 := bat hSw i1; have q18 := bat hSw i2; have q19 := bat hSw i3; have q20 := bat hSw j0; have q21 := bat hSw j1; have q22 := bat hSw j2; have q23 := bat hSw j3; go_simp <;> with_reducible rfl) (by assumption) ?_
        try simp only [Act.put, sA, sB, sC]
        refine takeQ (i := 1) (gt rfl) (by kernel_rfl) (fun _ _ _ h => h) (by rfl) (by intro wq hSw; have q0 := bat hSw k0; have q1 := bat hSw k1; have q2 := bat hSw k2; have q3 := bat hSw k3; have q4 := bat hSw k4; have q5 := bat hSw k5; have q6 := bat hSw k6; have q7 := bat hSw k7; have q8 := bat hSw g0; have q9 := bat hSw g1; have q10 := bat hSw g2; have q11 := bat hSw g3; have q12 := bat hSw h0; have q13 := bat hSw h1; have q14 := bat hSw h2; have q15 := bat hSw h3; have q16 := bat hSw i0; have q17 := bat hSw i1; have q18 := bat hSw i2; have q19 := bat hSw i3; have q20 := bat hSw j0; have q21 := bat hSw j1; have q22 := bat hSw j2; have q23 := bat hSw j3; go_simp <;> with_reducible rfl) (by assumption) ?_
        try simp only [Act.put, sA, sB, sC]
        refine takeQ (i := 2) (gt rfl) (by kernel_rfl) (fun _ _ _ h => h) (by rfl) (by intro wq hSw; have q0 := bat hSw k0; have q1 := bat hSw k1; have q2 := bat hSw k2; have q3 := bat hSw k3; have q4 := bat hSw k4; have q5 := bat hSw k5; have q6 := bat hSw k6; have q7 := bat hSw k7; have q8 := bat hSw g0; have q9 := bat hSw g1; have q10 := bat hSw g2; have q11 := bat hSw g3; have q12 := bat hSw h0; have q13 := bat hSw h1; have q14 := bat hSw h2; have q15 := bat hSw h3; have q16 := bat hSw i0; have q17 := bat hSw i1; have q18 := bat hSw i2; have q19 := bat hSw i3; have q20 := bat hSw j0; have q21 := bat hSw j1; have q22 := bat hSw j2; have q23 := bat hSw j3; go_simp <;> with_reducible rfl) (by assumption) ?_
        try simp only [Act.put, sA, sB, sC]
        refine takeQ (i := 3) (gt rfl) (by kernel_rfl) (fun _ _ _ h => h) (by rfl) (by intro wq hSw; have q0 := bat hSw k0; have q1 := bat hSw k1; have q2 := bat hSw k2; have q3 := bat hSw k3; have q4 := bat hSw k4; have q5 := bat hSw k5; have q6 := bat hSw k6; have q7 := bat hSw k7; have q8 := bat hSw g0; have q9 := bat hSw g1; have q10 := bat hSw g2; have q11 := bat hSw g3; have q12 := bat hSw h0; have q13 := bat hSw h1; have q14 := bat hSw h2; have q15 := bat hSw h3; have q16 := bat hSw i0; have q17 := bat hSw i1; have q18 := bat hSw i2; have q19 := bat hSw i3; have q20 := bat hSw j0; have q21 := bat hSw j1; have q22 := bat hSw j2; have q23 := bat hSw j3; go_simp <;> with_reducible rfl) (by assumption) ?_
        try simp only [Act.put, sA, sB, sC]
        refine takeQ (i := 5) (gt rfl) (by kernel_rfl) (fun _ _ _ h => h) (by rfl) (by intro wq hSw; have q0 := bat hSw k0; have q1 := bat hSw k1; have q2 := bat hSw k2; have q3 := bat hSw k3; have q4 := bat hSw k4; have q5 := bat hSw k5; have q6 := bat hSw k6; have q7 := bat hSw k7; have q8 := bat hSw g0; have q9 := bat hSw g1; have q10 := bat hSw g2; have q11 := bat hSw g3; have q12 := bat hSw h0; have q13 := bat hSw h1; have q14 := bat hSw h2; have q15 := bat hSw h3; have q16 := bat hSw i0; have q17 := bat hSw i1; have q18 := bat hSw i2; have q19 := bat hSw i3; have q20 := bat hSw j0; have q21 := bat hSw j1; have q22 := bat hSw j2; have q23 := bat hSw j3; go_simp <;> with_reducible rfl) (by assumption) ?_
        try simp only [Act.put, sA, sB, sC]
        refine takeQ (i := 6) (gt rfl) (by kernel_rfl) (fun _ _ _ h => h) (by rfl) (by intro wq hSw; have q0 := bat hSw k0; have q1 := bat hSw k1; have q2 := bat hSw k2; have q3 := bat hSw k3; have q4 := bat hSw k4; have q5 := bat hSw k5; have q6 := bat hSw k6; have q7 := bat hSw k7; have q8 := bat hSw g0; have q9 := bat hSw g1; have q10 := bat hSw g2; have q11 := bat hSw g3; have q12 := bat hSw h0; have q13 := bat hSw h1; have q14 := bat hSw h2; have q15 := bat hSw h3; have q16 := bat hSw i0; have q17 := bat hSw i1; have q18 := bat hSw i2; have q19 := bat hSw i3; have q20 := bat hSw j0; have q21 := bat hSw j1; have q22 := bat hSw j2; have q23 := bat hSw j3; go_simp <;> with_reducible rfl) (by assumption) ?_
        try simp only [Act.put, sA, sB, sC]
        refine takeQ (i := 7) (gt rfl) (by kernel_rfl) (fun _ _ _ h => h) (by rfl) (by intro wq hSw; have q0 := bat hSw k0; have q1 := bat hSw k1; have q2 := bat hSw k2; have q3 := bat hSw k3; have q4 := bat hSw k4; have q5 := bat hSw k5; have q6 := bat hSw k6; have q7 := bat hSw k7; have q8 := bat hSw g0; have q9 := bat hSw g1; have q10 := bat hSw g2; have q11 := bat hSw g3; have q12 := bat hSw h0; have q13 := bat hSw h1; have q14 := bat hSw h2; have q15 := bat hSw h3; have q16 := bat hSw i0; have q17 := bat hSw i1; have q18 := bat hSw i2; have q19 := bat hSw i3; have q20 := bat hSw j0; have q21 := bat hSw j1; have q22 := bat hSw j2; have q23 := bat hSw j3; go_simp <;> with_reducible rfl) (by assumption) ?_
        try simp only [Act.put, sA, sB, sC]
        refine takeQ (i := 8) (gt rfl) (by kernel_rfl) (fun _ _ _ h => h) (by rfl) (by intro wq hSw; have q0 := bat hSw k0; have q1 := bat hSw k1; have q2 := bat hSw k2; have q3 := bat hSw k3; have q4 := bat hSw k4; have q5 := bat hSw k5; have q6 := bat hSw k6; have q7 := bat hSw k7; have q8 := bat hSw g0; have q9 := bat hSw g1; have q10 := bat hSw g2; have q11 := bat hSw g3; have q12 := bat hSw h0; have q13 := bat hSw h1; have q14 := bat hSw h2; have q15 := bat hSw h3; have q16 := bat hSw i0; have q17 := bat hSw i1; have q18 := bat hSw i2; have q19 := bat hSw i3; have q20 := bat hSw j0; have q21 := bat hSw j1; have q22 := bat hSw j2; have q23 := bat hSw j3; go_simp <;> with_reducible rfl) (by assumption) ?_
        try simp only [Act.put, sA, sB, sC]
        refine wpAnyH_ready (rs := [4]) (by kernel_rfl) (by simp) (AllReadyH.cons (gt rfl) (fun K hK => ?_) AllReadyH.nil)
        go_simp
        refine (implMeet x1 y1 x2 y2 x3 y3 x4 y4 _).mono ?_
        rintro ee ww1 ⟨rfl, hb⟩
        rw [HMt.out]
        replace N := N.trans (hb.mono N.size)
        clear hb
        refine hK.out _ _ N (fun hHeld => ?_)
        clear hK K
        try simp only [Act.put, sA, sB, sC]
        refine wpAnyH_ready (rs := [9]) (by kernel_rfl) (by simp) (AllReadyH.cons (gt rfl) (fun K hK => ?_) AllReadyH.nil)
        go_simp
        refine (specMeet x1 y1 x2 y2 x3 y3 x4 y4 _).mono ?_
        rintro ee ww2 ⟨rfl, hb⟩
        rw [← met_same, HMt.out]
        replace N := N.trans (hb.mono N.size)
        clear hb
        refine hK.out _ _ N (fun hHeld => ?_)
        clear hK K
        try simp only [Act.put, sA, sB, sC]
        refine takeQ (i := 10) (gt rfl) (by kernel_rfl) (fun _ _ _ h => h) (by rfl) (by intro wq _; go_simp <;> with_reducible rfl) (by assumption) ?_
        try simp only [Act.put, sA, sB, sC]
        refine takeQ (i := 11) (gt rfl) (by kernel_rfl) (fun _ _ _ h => h) (by rfl) (by intro wq _; go_simp <;> with_reducible rfl) (by assumption) ?_
        try simp only [Act.put, sA, sB, sC]
        refine takeQ (i := 12) (gt rfl) (by kernel_rfl) (fun _ _ _ h => h) (by rfl) (by intro wq hSw; have q0 := bat hSw k0; have q1 := bat hSw k1; have q2 := bat hSw k2; have q3 := bat hSw k3; have q4 := bat hSw k4; have q5 := bat hSw k5; have q6 := bat hSw k6; have q7 := bat hSw k7; have q8 := bat hSw g0; have q9 := bat hSw g1; have q10 := bat hSw g2; have q11 := bat hSw g3; have q12 := bat hSw h0; have q13 := bat hSw h1; have q14 := bat hSw h2; have q15 := bat hSw h3; have q16 := bat hSw i0; have q17 := bat hSw i1; have q18 := bat hSw i2; have q19 := bat hSw i3; have q20 := bat hSw j0; have q21 := bat hSw j1; have q22 := bat hSw j2; have q23 := bat hSw j3; go_simp <;> with_reducible rfl) (by assumption) ?_
        try simp only [Act.put, sA, sB, sC]
        refine takeQ (i := 13) (gt rfl) (by kernel_rfl) (fun _ _ _ h => h) (by rfl) (by intro wq hSw; have q0 := bat hSw k0; have q1 := bat hSw k1; have q2 := bat hSw k2; have q3 := bat hSw k3; have q4 := bat hSw k4; have q5 := bat hSw k5; have q6 := bat hSw k6; have q7 := bat hSw k7; have q8 := bat hSw g0; have q9 := bat hSw g1; have q10 := bat hSw g2; have q11 := bat hSw g3; have q12 := bat hSw h0; have q13 := bat hSw h1; have q14 := bat hSw h2; have q15 := bat hSw h3; have q16 := bat hSw i0; have q17 := bat hSw i1; have q18 := bat hSw i2; have q19 := bat hSw i3; have q20 := bat hSw j0; have q21 := bat hSw j1; have q22 := bat hSw j2; have q23 := bat hSw j3; go_simp <;> with_reducible rfl) (by assumption) ?_
        try simp only [Act.put, sA, sB, sC]
        refine takeQ (i := 14) (gt rfl) (by kernel_rfl) (fun _ _ _ h => h) (by rfl) (by intro wq hSw; have q0 := bat hSw k0; have q1 := bat hSw k1; have q2 := bat hSw k2; have q3 := bat hSw k3; have q4 := bat hSw k4; have q5 := bat hSw k5; have q6 := bat hSw k6; have q7 := bat hSw k7; have q8 := bat hSw g0; have q9 := bat hSw g1; have q10 := bat hSw g2; have q11 := bat hSw g3; have q12 := bat hSw h0; have q13 := bat hSw h1; have q14 := bat hSw h2; have q15 := bat hSw h3; have q16 := bat hSw i0; have q17 := bat hSw i1; have q18 := bat hSw i2; have q19 := bat hSw i3; have q20 := bat hSw j0; have q21 := bat hSw j1; have q22 := bat hSw j2; have q23 := bat hSw j3; go_simp <;> with_reducible rfl) (by assumption) ?_
        try simp only [Act.put, sA, sB, sC]
        refine takeQ (i := 15) (gt rfl) (by kernel_rfl) (fun _ _ _ h => h) (by rfl) (by intro wq hSw; have q0 := bat hSw k0; have q1 := bat hSw k1; have q2 := bat hSw k2; have q3 := bat hSw k3; have q4 := bat hSw k4; have q5 := bat hSw k5; have q6 := bat hSw k6; have q7 := bat hSw k7; have q8 := bat hSw g0; have q9 := bat hSw g1; have q10 := bat hSw g2; have q11 := bat hSw g3; have q12 := bat hSw h0; have q13 := bat hSw h1; have q14 := bat hSw h2; have q15 := bat hSw h3; have q16 := bat hSw i0; have q17 := bat hSw i1; have q18 := bat hSw i2; have q19 := bat hSw i3; have q20 := bat hSw j0; have q21 := bat hSw j1; have q22 := bat hSw j2; have q23 := bat hSw j3; go_simp <;> with_reducible rfl) (by assumption) ?_
        try simp only [Act.put, sA, sB, sC]
        refine takeQ (i := 17) (gt rfl) (by kernel_rfl) (fun _ _ _ h => h) (by rfl) (by intro wq _; go_simp <;> with_reducible rfl) (by assumption) ?_
        try simp only [Act.put, sA, sB, sC]
        refine takeQ (i := 18) (gt rfl) (by kernel_rfl) (fun _ _ _ h => h) (by rfl) (by intro wq _; go_simp <;> with_reducible rfl) (by assumption) ?_
        try simp only [Act.put, sA, sB, sC]
        refine wpAnyH_ready (rs := [16]) (by kernel_rfl) (by simp) (AllReadyH.cons (gt rfl) (fun K hK => ?_) AllReadyH.nil)
        go_simp
        refine (implMeet x1 y1 x2 y2 x3 y3 x4 y4 _).mono ?_
        rintro ee ww3 ⟨rfl, hb⟩
        rw [HMt.out]
        replace N := N.trans (hb.mono N.size)
        clear hb
        refine hK.out _ _ N (fun hHeld => ?_)
        clear hK K
        try simp only [Act.put, sA, sB, sC]
        refine takeQ (i := 19) (gt rfl) (by kernel_rfl) (fun _ _ _ h => h) (by rfl) (by intro wq _; go_simp <;> with_reducible rfl) (by assumption) ?_
        try simp only [Act.put, sA, sB, sC]
        refine takeQ (i := 20) (gt rfl) (by kernel_rfl) (fun _ _ _ h => h) (by rfl) (by intro wq _; go_simp <;> with_reducible rfl) (by assumption) ?_
        try simp only [Act.put, sA, sB, sC]
        refine takeQ (i := 21) (gt rfl) (by kernel_rfl) (fun _ _ _ h => h) (by rfl) (by intro wq _; go_simp <;> with_reducible rfl) (by assumption) ?_
        try simp only [Act.put, sA, sB, sC]
        refine takeQ (i := 22) (gt rfl) (by kernel_rfl) (fun _ _ _ h => h) (by rfl) (by intro wq _; go_simp <;> with_reducible rfl) (by assumption) ?_
        try simp only [Act.put, sA, sB, sC]
        refine takeQ (i := 23) (gt rfl) (by kernel_rfl) (fun _ _ _ h => h) (by rfl) (by intro wq _; go_simp <;> with_reducible rfl) (by assumption) ?_
        try simp only [Act.put, sA, sB, sC]
        refine takeQ (i := 24) (gt rfl) (by kernel_rfl) (fun _ _ _ h => h) (by rfl) (by intro wq _; go_simp <;> with_reducible rfl) (by assumption) ?_
        try simp only [Act.put, sA, sB, sC]
        refine takeQ (i := 25) (gt rfl) (by kernel_rfl) (fun _ _ _ h => h) (by rfl) (by intro wq _; go_simp <;> with_reducible rfl) (by assumption) ?_
        try simp only [Act.put, sA, sB, sC]
        refine takeQ (i := 26) (gt rfl) (by kernel_rfl) (fun _ _ _ h => h) (by rfl) (by intro wq _; go_simp <;> with_reducible rfl) (by assumption) ?_
        try simp only [Act.put, sA, sB, sC]
        refine takeQ (i := 27) (gt rfl) (by kernel_rfl) (fun _ _ _ h => h) (by rfl) (by intro wq hSw; have q0 := bat hSw k0; have q1 := bat hSw k1; have q2 := bat hSw k2; have q3 := bat hSw k3; have q4 := bat hSw k4; have q5 := bat hSw k5; have q6 := bat hSw k6; have q7 := bat hSw k7; have q8 := bat hSw g0; have q9 := bat hSw g1; have q10 := bat hSw g2; have q11 := bat hSw g3; have q12 := bat hSw h0; have q13 := bat hSw h1; have q14 := bat hSw h2; have q15 := bat hSw h3; have q16 := bat hSw i0; have q17 := bat hSw i1; have q18 := bat hSw i2; have q19 := bat hSw i3; have q20 := bat hSw j0; have q21 := bat hSw j1; have q22 := bat hSw j2; have q23 := bat hSw j3; go_simp <;> with_reducible rfl) (by assumption) ?_
        try simp only [Act.put, sA, sB, sC]
        refine takeQ (i := 28) (gt rfl) (by kernel_rfl) (fun _ _ _ h => h) (by rfl) (by intro wq hSw; have q0 := bat hSw k0; have q1 := bat hSw k1; have q2 := bat hSw k2; have q3 := bat hSw k3; have q4 := bat hSw k4; have q5 := bat hSw k5; have q6 := bat hSw k6; have q7 := bat hSw k7; have q8 := bat hSw g0; have q9 := bat hSw g1; have q10 := bat hSw g2; have q11 := bat hSw g3; have q12 := bat hSw h0; have q13 := bat hSw h1; have q14 := bat hSw h2; have q15 := bat hSw h3; have q16 := bat hSw i0; have q17 := bat hSw i1; have q18 := bat hSw i2; have q19 := bat hSw i3; have q20 := bat hSw j0; have q21 := bat hSw j1; have q22 := bat hSw j2; have q23 := bat hSw j3; go_simp <;> with_reducible rfl) (by assumption) ?_
        try simp only [Act.put, sA, sB, sC]
        refine takeQ (i := 29) (gt rfl) (by kernel_rfl) (fun _ _ _ h => h) (by rfl) (by intro wq hSw; have q0 := bat hSw k0; have q1 := bat hSw k1; have q2 := bat hSw k2; have q3 := bat hSw k3; have q4 := bat hSw k4; have q5 := bat hSw k5; have q6 := bat hSw k6; have q7 := bat hSw k7; have q8 := bat hSw g0; have q9 := bat hSw g1; have q10 := bat hSw g2; have q11 := bat hSw g3; have q12 := bat hSw h0; have q13 := bat hSw h1; have q14 := bat hSw h2; have q15 := bat hSw h3; have q16 := bat hSw i0; have q17 := bat hSw i1; have q18 := bat hSw i2; have q19 := bat hSw i3; have q20 := bat hSw j0; have q21 := bat hSw j1; have q22 := bat hSw j2; have q23 := bat hSw j3; go_simp <;> with_reducible rfl) (by assumption) ?_
        try simp only [Act.put, sA, sB, sC]
        refine takeQ (i := 30) (gt rfl) (by kernel_rfl) (fun _ _ _ h => h) (by rfl) (by intro wq hSw; have q0 := bat hSw k0; have q1 := bat hSw k1; have q2 := bat hSw k2; have q3 := bat hSw k3; have q4 := bat hSw k4; have q5 := bat hSw k5; have q6 := bat hSw k6; have q7 := bat hSw k7; have q8 := bat hSw g0; have q9 := bat hSw g1; have q10 := bat hSw g2; have q11 := bat hSw g3; have q12 := bat hSw h0; have q13 := bat hSw h1; have q14 := bat hSw h2; have q15 := bat hSw h3; have q16 := bat hSw i0; have q17 := bat hSw i1; have q18 := bat hSw i2; have q19 := bat hSw i3; have q20 := bat hSw j0; have q21 := bat hSw j1; have q22 := bat hSw j2; have q23 := bat hSw j3; go_simp <;> with_reducible rfl) (by assumption) ?_
        try simp only [Act.put, sA, sB, sC]
        refine takeQ (i := 32) (gt rfl) (by kernel_rfl) (fun _ _ _ h => h) (by rfl) (by intro wq hSw; have q0 := bat hSw k0; have q1 := bat hSw k1; have q2 := bat hSw k2; have q3 := bat hSw k3; have q4 := bat hSw k4; have q5 := bat hSw k5; have q6 := bat hSw k6; have q7 := bat hSw k7; have q8 := bat hSw g0; have q9 := bat hSw g1; have q10 := bat hSw g2; have q11 := bat hSw g3; have q12 := bat hSw h0; have q13 := bat hSw h1; have q14 := bat hSw h2; have q15 := bat hSw h3; have q16 := bat hSw i0; have q17 := bat hSw i1; have q18 := bat hSw i2; have q19 := bat hSw i3; have q20 := bat hSw j0; have q21 := bat hSw j1; have q22 := bat hSw j2; have q23 := bat hSw j3; go_simp <;> with_reducible rfl) (by assumption) ?_
        try simp only [Act.put, sA, sB, sC]
        refine takeQ (i := 33) (gt rfl) (by kernel_rfl) (fun _ _ _ h => h) (by rfl) (by intro wq hSw; have q0 := bat hSw k0; have q1 := bat hSw k1; have q2 := bat hSw k2; have q3 := bat hSw k3; have q4 := bat hSw k4; have q5 := bat hSw k5; have q6 := bat hSw k6; have q7 := bat hSw k7; have q8 := bat hSw g0; have q9 := bat hSw g1; have q10 := bat hSw g2; have q11 := bat hSw g3; have q12 := bat hSw h0; have q13 := bat hSw h1; have q14 := bat hSw h2; have q15 := bat hSw h3; have q16 := bat hSw i0; have q17 := bat hSw i1; have q18 := bat hSw i2; have q19 := bat hSw i3; have q20 := bat hSw j0; have q21 := bat hSw j1; have q22 := bat hSw j2; have q23 := bat hSw j3; go_simp <;> with_reducible rfl) (by assumption) ?_
        try simp only [Act.put, sA, sB, sC]
        refine takeQ (i := 34) (gt rfl) (by kernel_rfl) (fun _ _ _ h => h) (by rfl) (by intro wq hSw; have q0 := bat hSw k0; have q1 := bat hSw k1; have q2 := bat hSw k2; have q3 := bat hSw k3; have q4 := bat hSw k4; have q5 := bat hSw k5; have q6 := bat hSw k6; have q7 := bat hSw k7; have q8 := bat hSw g0; have q9 := bat hSw g1; have q10 := bat hSw g2; have q11 := bat hSw g3; have q12 := bat hSw h0; have q13 := bat hSw h1; have q14 := bat hSw h2; have q15 := bat hSw h3; have q16 := bat hSw i0; have q17 := bat hSw i1; have q18 := bat hSw i2; have q19 := bat hSw i3; have q20 := bat hSw j0; have q21 := bat hSw j1; have q22 := bat hSw j2; have q23 := bat hSw j3; go_simp <;> with_reducible rfl) (by assumption) ?_
        try simp only [Act.put, sA, sB, sC]
        refine takeQ (i := 35) (gt rfl) (by kernel_rfl) (fun _ _ _ h => h) (by rfl) (by intro wq hSw; have q0 := bat hSw k0; have q1 := bat hSw k1; have q2 := bat hSw k2; have q3 := bat hSw k3; have q4 := bat hSw k4; have q5 := bat hSw k5; have q6 := bat hSw k6; have q7 := bat hSw k7; have q8 := bat hSw g0; have q9 := bat hSw g1; have q10 := bat hSw g2; have q11 := bat hSw g3; have q12 := bat hSw h0; have q13 := bat hSw h1; have q14 := bat hSw h2; have q15 := bat hSw h3; have q16 := bat hSw i0; have q17 := bat hSw i1; have q18 := bat hSw i2; have q19 := bat hSw i3; have q20 := bat hSw j0; have q21 := bat hSw j1; have q22 := bat hSw j2; have q23 := bat hSw j3; go_simp <;> with_reducible rfl) (by assumption) ?_
        try simp only [Act.put, sA, sB, sC]
        refine wpAnyH_ready (rs := [31]) (by kernel_rfl) (by simp) (AllReadyH.cons (gt rfl) (fun K hK => ?_) AllReadyH.nil)
        go_simp
        refine (implMeet x3 y3 x4 y4 x1 y1 x2 y2 _).mono ?_
        rintro ee ww4 ⟨rfl, hb⟩
        rw [met_other, HMt.out]
        replace N := N.trans (hb.mono N.size)
        clear hb
        refine hK.out _ _ N (fun hHeld => ?_)
        clear hK K
        try simp only [Act.put, sA, sB, sC]
        refine wpAnyH_ready (rs := [36]) (by kernel_rfl) (by simp) (AllReadyH.cons (gt rfl) (fun K hK => ?_) AllReadyH.nil)
        go_simp
        refine (implMeet x1 y1 x2 y2 x3 y3 x4 y4 _).mono ?_
        rintro ee ww5 ⟨rfl, hb⟩
        rw [HMt.out]
        replace N := N.trans (hb.mono N.size)
        clear hb
        refine hK.out _ _ N (fun hHeld => ?_)
        clear hK K
        try simp only [Act.put, sA, sB, sC]
        refine takeQ (i := 37) (gt rfl) (by kernel_rfl) (fun _ _ _ h => h) (by rfl) (by intro wq _; go_simp <;> with_reducible rfl) (by assumption) ?_
        try simp only [Act.put, sA, sB, sC]
        refine takeQ (i := 38) (gt rfl) (by kernel_rfl) (fun _ _ _ h => h) (by rfl) (by intro wq _; go_simp <;> with_reducible rfl) (by assumption) ?_
        try simp only [Act.put, sA, sB, sC]
        refine takeQ (i := 39) (gt rfl) (by kernel_rfl) (fun _ _ _ h => h) (by rfl) (by intro wq _; go_simp <;> with_reducible rfl) (by assumption) ?_
        try simp only [Act.put, sA, sB, sC]
        refine takeQ (i := 40) (gt rfl) (by kernel_rfl) (fun _ _ _ h => h) (by rfl) (by intro wq hSw; have q0 := bat hSw k0; have q1 := bat hSw k1; have q2 := bat hSw k2; have q3 := bat hSw k3; have q4 := bat hSw k4; have q5 := bat hSw k5; have q6 := bat hSw k6; have q7 := bat hSw k7; have q8 := bat hSw g0; have q9 := bat hSw g1; have q10 := bat hSw g2; have q11 := bat hSw g3; have q12 := bat hSw h0; have q13 := bat hSw h1; have q14 := bat hSw h2; have q15 := bat hSw h3; have q16 := bat hSw i0; have q17 := bat hSw i1; have q18 := bat hSw i2; have q19 := bat hSw i3; have q20 := bat hSw j0; have q21 := bat hSw j1; have q22 := bat hSw j2; have q23 := bat hSw j3; go_simp <;> with_reducible rfl) (by assumption) ?_
        try simp only [Act.put, sA, sB, sC]
        refine takeQ (i := 41) (gt rfl) (by kernel_rfl) (fun _ _ _ h => h) (by rfl) (by intro wq hSw; have q0 := bat hSw k0; have q1 := bat hSw k1; have q2 := bat hSw k2; have q3 := bat hSw k3; have q4 := bat hSw k4; have q5 := bat hSw k5; have q6 := bat hSw k6; have q7 := bat hSw k7; have q8 := bat hSw g0; have q9 := bat hSw g1; have q10 := bat hSw g2; have q11 := bat hSw g3; have q12 := bat hSw h0; have q13 := bat hSw h1; have q14 := bat hSw h2; have q15 := bat hSw h3; have q16 := bat hSw i0; have q17 := bat hSw i1; have q18 := bat hSw i2; have q19 := bat hSw i3; have q20 := bat hSw j0; have q21 := bat hSw j1; have q22 := bat hSw j2; have q23 := bat hSw j3; go_simp <;> with_reducible rfl) (by assumption) ?_
        try simp only [Act.put, sA, sB, sC]
        refine wpAnyH_ready (rs := [42]) (by kernel_rfl) (by simp) (AllReadyH.cons (gt rfl) (fun K hK => ?_) AllReadyH.nil)
        go_simp
        have hcmp := cmpFrac_is n1 d1 n1 d1 a1A b1A a1B b1B c1A e1A c1B e1B z1A t1A z1B t1B _ (o1A.toSees.below N) (o2A.toSees.below N) (o1B.toSees.below N) (o2B.toSees.below N) L1A.out.1 L1A.out.2 L1B.out.1 L1B.out.2 HB.out.2.1 HB.out.2.1
        rw [F1.out, F2.out] at hcmp
        refine hcmp.mono ?_
        clear hcmp
        rintro ee ww6 ⟨rfl, hb⟩
        rw [ZZ.out.1]
        replace N := N.trans (hb.mono N.size)
        clear hb
        refine hK.out _ _ N (fun hHeld => ?_)
        clear hK K
        try simp only [Act.put, sA, sB, sC]
        refine takeQ (i := 43) (gt rfl) (by kernel_rfl) (fun _ _ _ h => h) (by rfl) (by intro wq _; go_simp <;> with_reducible rfl) (by assumption) ?_
        try simp only [Act.put, sA, sB, sC]
        refine takeQ (i := 44) (gt rfl) (by kernel_rfl) (fun _ _ _ h => h) (by rfl) (by intro wq _; go_simp <;> with_reducible rfl) (by assumption) ?_
        try simp only [Act.put, sA, sB, sC]
        refine takeQ (i := 45) (gt rfl) (by kernel_rfl) (fun _ _ _ h => h) (by rfl) (by intro wq _; go_simp <;> with_reducible rfl) (by assumption) ?_
        try simp only [Act.put, sA, sB, sC]
        refine takeQ (i := 46) (gt rfl) (by kernel_rfl) (fun _ _ _ h => h) (by rfl) (by intro wq hSw; have q0 := bat hSw k0; have q1 := bat hSw k1; have q2 := bat hSw k2; have q3 := bat hSw k3; have q4 := bat hSw k4; have q5 := bat hSw k5; have q6 := bat hSw k6; have q7 := bat hSw k7; have q8 := bat hSw g0; have q9 := bat hSw g1; have q10 := bat hSw g2; have q11 := bat hSw g3; have q12 := bat hSw h0; have q13 := bat hSw h1; have q14 := bat hSw h2; have q15 := bat hSw h3; have q16 := bat hSw i0; have q17 := bat hSw i1; have q18 := bat hSw i2; have q19 := bat hSw i3; have q20 := bat hSw j0; have q21 := bat hSw j1; have q22 := bat hSw j2; have q23 := bat hSw j3; go_simp <;> with_reducible rfl) (by assumption) ?_
        try simp only [Act.put, sA, sB, sC]
        refine takeQ (i := 47) (gt rfl) (by kernel_rfl) (fun _ _ _ h => h) (by rfl) (by intro wq hSw; have q0 := bat hSw k0; have q1 := bat hSw k1; have q2 := bat hSw k2; have q3 := bat hSw k3; have q4 := bat hSw k4; have q5 := bat hSw k5; have q6 := bat hSw k6; have q7 := bat hSw k7; have q8 := bat hSw g0; have q9 := bat hSw g1; have q10 := bat hSw g2; have q11 := bat hSw g3; have q12 := bat hSw h0; have q13 := bat hSw h1; have q14 := bat hSw h2; have q15 := bat hSw h3; have q16 := bat hSw i0; have q17 := bat hSw i1; have q18 := bat hSw i2; have q19 := bat hSw i3; have q20 := bat hSw j0; have q21 := bat hSw j1; have q22 := bat hSw j2; have q23 := bat hSw j3; go_simp <;> with_reducible rfl) (by assumption) ?_
        try simp only [Act.put, sA, sB, sC]
        refine wpAnyH_ready (rs := [48]) (by kernel_rfl) (by simp) (AllReadyH.cons (gt rfl) (fun K hK => ?_) AllReadyH.nil)
        go_simp
        have hcmp := cmpFrac_is n2 d2 n2 d2 a2A b2A a2B b2B c2A e2A c2B e2B z2A t2A z2B t2B _ (o3A.toSees.below N) (o4A.toSees.below N) (o3B.toSees.below N) (o4B.toSees.below N) L2A.out.1 L2A.out.2 L2B.out.1 L2B.out.2 HB.out.2.2 HB.out.2.2
        rw [F3.out, F4.out] at hcmp
        refine hcmp.mono ?_
        clear hcmp
        rintro ee ww7 ⟨rfl, hb⟩
        rw [ZZ.out.2]
        replace N := N.trans (hb.mono N.size)
        clear hb
        refine hK.out _ _ N (fun hHeld => ?_)
        clear hK K
        try simp only [Act.put, sA, sB, sC]
        refine takeQ (i := 49) (gt rfl) (by kernel_rfl) (fun _ _ _ h => h) (by rfl) (by intro wq _; go_simp <;> with_reducible rfl) (by assumption) ?_
        try simp only [Act.put, sA, sB, sC]
        refine takeQ (i := 50) (gt rfl) (by kernel_rfl) (fun _ _ _ h => h) (by rfl) (by intro wq _; go_simp <;> with_reducible rfl) (by assumption) ?_
        try simp only [Act.put, sA, sB, sC]
        refine wpAnyH_done (by kernel_rfl) ?_ _
        go_wp2
        go_meet
        case rel => exact ⟨rfl, N⟩
      · skip
        refine wp_region_held_drew (S := Below W3.heap.size W3) (by kernel_rfl) ((Below.refl _ _).drew) (fun hHeld => ?_)
        have N : Below W3.heap.size W3 W3.drew := hHeld
        revert hHeld N
        generalize W3.drew = ww0
        intro hHeld N
        refine takeQ (i := 0) (gt rfl) (by kernel_rfl) (fun _ _ _ h => h) (by rfl) (by intro wq hSw; have q0 := bat hSw k0; have q1 := bat hSw k1; have q2 := bat hSw k2; have q3 := bat hSw k3; have q4 := bat hSw k4; have q5 := bat hSw k5; have q6 := bat hSw k6; have q7 := bat hSw k7; have q8 := bat hSw g0; have q9 := bat hSw g1; have q10 := bat hSw g2; have q11 := bat hSw g3; have q12 := bat hSw h0; have q13 := bat hSw h1; have q14 := bat hSw h2; have q15 := bat hSw h3; have q16 := bat hSw i0; have q17 := bat hSw i1; have q18 := bat hSw i2; have q19 := bat hSw i3; have q20 := bat hSw j0; have q21 := bat hSw j1; have q22 := bat hSw j2; have q23 := bat hSw j3; go_simp <;> with_reducible rfl) (by assumption) ?_
        try simp only [Act.put, sA, sB, sC]
        refine takeQ (i := 1) (gt rfl) (by kernel_rfl) (fun _ _ _ h => h) (by rfl) (by intro wq hSw; have q0 := bat hSw k0; have q1 := bat hSw k1; have q2 := bat hSw k2; have q3 := bat hSw k3; have q4 := bat hSw k4; have q5 := bat hSw k5; have q6 := bat hSw k6; have q7 := bat hSw k7; have q8 := bat hSw g0; have q9 := bat hSw g1; have q10 := bat hSw g2; have q11 := bat hSw g3; have q12 := bat hSw h0; have q13 := bat hSw h1; have q14 := bat hSw h2; have q15 := bat hSw h3; have q16 := bat hSw i0; have q17 := bat hSw i1; have q18 := bat hSw i2; have q19 := bat hSw i3; have q20 := bat hSw j0; have q21 := bat hSw j1; have q22 := bat hSw j2; have q23 := bat hSw j3; go_simp <;> with_reducible rfl) (by assumption) ?_
        try simp only [Act.put, sA, sB, sC]
        refine takeQ (i := 2) (gt rfl) (by kernel_rfl) (fun _ _ _ h => h) (by rfl) (by intro wq hSw; have q0 := bat hSw k0; have q1 := bat hSw k1; have q2 := bat hSw k2; have q3 := bat hSw k3; have q4 := bat hSw k4; have q5 := bat hSw k5; have q6 := bat hSw k6; have q7 := bat hSw k7; have q8 := bat hSw g0; have q9 := bat hSw g1; have q10 := bat hSw g2; have q11 := bat hSw g3; have q12 := bat hSw h0; have q13 := bat hSw h1; have q14 := bat hSw h2; have q15 := bat hSw h3; have q16 := bat hSw i0; have q17 := bat hSw i1; have q18 := bat hSw i2; have q19 := bat hSw i3; have q20 := bat hSw j0; have q21 := bat hSw j1; have q22 := bat hSw j2; have q23 := bat hSw j3; go_simp <;> with_reducible rfl) (by assumption) ?_
        try simp only [Act.put, sA, sB, sC]
        refine takeQ (i := 3) (gt rfl) (by kernel_rfl) (fun _ _ _ h => h) (by rfl) (by intro wq hSw; have q0 := bat hSw k0; have q1 := bat hSw k1; have q2 := bat hSw k2; have q3 := bat hSw k3; have q4 := bat hSw k4; have q5 := bat hSw k5; have q6 := bat hSw k6; have q7 := bat hSw k7; have q8 := bat hSw g0; have q9 := bat hSw g1; have q10 := bat hSw g2; have q11 := bat hSw g3; have q12 := bat hSw h0; have q13 := bat hSw h1; have q14 := bat hSw h2; have q15 := bat hSw h3; have q16 := bat hSw i0; have q17 := bat hSw i1; have q18 := bat hSw i2; have q19 := bat hSw i3; have q20 := bat hSw j0; have q21 := bat hSw j1; have q22 := bat hSw j2; have q23 := bat hSw j3; go_simp <;> with_reducible rfl) (by assumption) ?_
        try simp only [Act.put, sA, sB, sC]
        refine takeQ (i := 5) (gt rfl) (by kernel_rfl) (fun _ _ _ h => h) (by rfl) (by intro wq hSw; have q0 := bat hSw k0; have q1 := bat hSw k1; have q2 := bat hSw k2; have q3 := bat hSw k3; have q4 := bat hSw k4; have q5 := bat hSw k5; have q6 := bat hSw k6; have q7 := bat hSw k7; have q8 := bat hSw g0; have q9 := bat hSw g1; have q10 := bat hSw g2; have q11 := bat hSw g3; have q12 := bat hSw h0; have q13 := bat hSw h1; have q14 := bat hSw h2; have q15 := bat hSw h3; have q16 := bat hSw i0; have q17 := bat hSw i1; have q18 := bat hSw i2; have q19 := bat hSw i3; have q20 := bat hSw j0; have q21 := bat hSw j1; have q22 := bat hSw j2; have q23 := bat hSw j3; go_simp <;> with_reducible rfl) (by assumption) ?_
        try simp only [Act.put, sA, sB, sC]
        refine takeQ (i := 6) (gt rfl) (by kernel_rfl) (fun _ _ _ h => h) (by rfl) (by intro wq hSw; have q0 := bat hSw k0; have q1 := bat hSw k1; have q2 := bat hSw k2; have q3 := bat hSw k3; have q4 := bat hSw k4; have q5 := bat hSw k5; have q6 := bat hSw k6; have q7 := bat hSw k7; have q8 := bat hSw g0; have q9 := bat hSw g1; have q10 := bat hSw g2; have q11 := bat hSw g3; have q12 := bat hSw h0; have q13 := bat hSw h1; have q14 := bat hSw h2; have q15 := bat hSw h3; have q16 := bat hSw i0; have q17 := bat hSw i1; have q18 := bat hSw i2; have q19 := bat hSw i3; have q20 := bat hSw j0; have q21 := bat hSw j1; have q22 := bat hSw j2; have q23 := bat hSw j3; go_simp <;> with_reducible rfl) (by assumption) ?_
        try simp only [Act.put, sA, sB, sC]
        refine takeQ (i := 7) (gt rfl) (by kernel_rfl) (fun _ _ _ h => h) (by rfl) (by intro wq hSw; have q0 := bat hSw k0; have q1 := bat hSw k1; have q2 := bat hSw k2; have q3 := bat hSw k3; have q4 := bat hSw k4; have q5 := bat hSw k5; have q6 := bat hSw k6; have q7 := bat hSw k7; have q8 := bat hSw g0; have q9 := bat hSw g1; have q10 := bat hSw g2; have q11 := bat hSw g3; have q12 := bat hSw h0; have q13 := bat hSw h1; have q14 := bat hSw h2; have q15 := bat hSw h3; have q16 := bat hSw i0; have q17 := bat hSw i1; have q18 := bat hSw i2; have q19 := bat hSw i3; have q20 := bat hSw j0; have q21 := bat hSw j1; have q22 := bat hSw j2; have q23 := bat hSw j3; go_simp <;> with_reducible rfl) (by assumption) ?_
        try simp only [Act.put, sA, sB, sC]
        refine takeQ (i := 8) (gt rfl) (by kernel_rfl) (fun _ _ _ h => h) (by rfl) (by intro wq hSw; have q0 := bat hSw k0; have q1 := bat hSw k1; have q2 := bat hSw k2; have q3 := bat hSw k3; have q4 := bat hSw k4; have q5 := bat hSw k5; have q6 := bat hSw k6; have q7 := bat hSw k7; have q8 := bat hSw g0; have q9 := bat hSw g1; have q10 := bat hSw g2; have q11 := bat hSw g3; have q12 := bat hSw h0; have q13 := bat hSw h1; have q14 := bat hSw h2; have q15 := bat hSw h3; have q16 := bat hSw i0; have q17 := bat hSw i1; have q18 := bat hSw i2; have q19 := bat hSw i3; have q20 := bat hSw j0; have q21 := bat hSw j1; have q22 := bat hSw j2; have q23 := bat hSw j3; go_simp <;> with_reducible rfl) (by assumption) ?_
        try simp only [Act.put, sA, sB, sC]
        refine wpAnyH_ready (rs := [4]) (by kernel_rfl) (by simp) (AllReadyH.cons (gt rfl) (fun K hK => ?_) AllReadyH.nil)
        go_simp
        refine (implMeet x1 y1 x2 y2 x3 y3 x4 y4 _).mono ?_
        rintro ee ww1 ⟨rfl, hb⟩
        rw [HMt.out]
        replace N := N.trans (hb.mono N.size)
        clear hb
        refine hK.out _ _ N (fun hHeld => ?_)
        clear hK K
        try simp only [Act.put, sA, sB, sC]
        refine wpAnyH_ready (rs := [9]) (by kernel_rfl) (by simp) (AllReadyH.cons (gt rfl) (fun K hK => ?_) AllReadyH.nil)
        go_simp
        refine (specMeet x1 y1 x2 y2 x3 y3 x4 y4 _).mono ?_
        rintro ee ww2 ⟨rfl, hb⟩
        rw [← met_same, HMt.out]
        replace N := N.trans (hb.mono N.size)
        clear hb
        refine hK.out _ _ N (fun hHeld => ?_)
        clear hK K
        try simp only [Act.put, sA, sB, sC]
        refine takeQ (i := 10) (gt rfl) (by kernel_rfl) (fun _ _ _ h => h) (by rfl) (by intro wq _; go_simp <;> with_reducible rfl) (by assumption) ?_
        try simp only [Act.put, sA, sB, sC]
        refine takeQ (i := 11) (gt rfl) (by kernel_rfl) (fun _ _ _ h => h) (by rfl) (by intro wq _; go_simp <;> with_reducible rfl) (by assumption) ?_
        try simp only [Act.put, sA, sB, sC]
        refine takeQ (i := 12) (gt rfl) (by kernel_rfl) (fun _ _ _ h => h) (by rfl) (by intro wq hSw; have q0 := bat hSw k0; have q1 := bat hSw k1; have q2 := bat hSw k2; have q3 := bat hSw k3; have q4 := bat hSw k4; have q5 := bat hSw k5; have q6 := bat hSw k6; have q7 := bat hSw k7; have q8 := bat hSw g0; have q9 := bat hSw g1; have q10 := bat hSw g2; have q11 := bat hSw g3; have q12 := bat hSw h0; have q13 := bat hSw h1; have q14 := bat hSw h2; have q15 := bat hSw h3; have q16 := bat hSw i0; have q17 := bat hSw i1; have q18 := bat hSw i2; have q19 := bat hSw i3; have q20 := bat hSw j0; have q21 := bat hSw j1; have q22 := bat hSw j2; have q23 := bat hSw j3; go_simp <;> with_reducible rfl) (by assumption) ?_
        try simp only [Act.put, sA, sB, sC]
        refine takeQ (i := 13) (gt rfl) (by kernel_rfl) (fun _ _ _ h => h) (by rfl) (by intro wq hSw; have q0 := bat hSw k0; have q1 := bat hSw k1; have q2 := bat hSw k2; have q3 := bat hSw k3; have q4 := bat hSw k4; have q5 := bat hSw k5; have q6 := bat hSw k6; have q7 := bat hSw k7; have q8 := bat hSw g0; have q9 := bat hSw g1; have q10 := bat hSw g2; have q11 := bat hSw g3; have q12 := bat hSw h0; have q13 := bat hSw h1; have q14 := bat hSw h2; have q15 := bat hSw h3; have q16 := bat hSw i0; have q17 := bat hSw i1; have q18 := bat hSw i2; have q19 := bat hSw i3; have q20 := bat hSw j0; have q21 := bat hSw j1; have q22 := bat hSw j2; have q23 := bat hSw j3; go_simp <;> with_reducible rfl) (by assumption) ?_
        try simp only [Act.put, sA, sB, sC]
        refine takeQ (i := 14) (gt rfl) (by kernel_rfl) (fun _ _ _ h => h) (by rfl) (by intro wq hSw; have q0 := bat hSw k0; have q1 := bat hSw k1; have q2 := bat hSw k2; have q3 := bat hSw k3; have q4 := bat hSw k4; have q5 := bat hSw k5; have q6 := bat hSw k6; have q7 := bat hSw k7; have q8 := bat hSw g0; have q9 := bat hSw g1; have q10 := bat hSw g2; have q11 := bat hSw g3; have q12 := bat hSw h0; have q13 := bat hSw h1; have q14 := bat hSw h2; have q15 := bat hSw h3; have q16 := bat hSw i0; have q17 := bat hSw i1; have q18 := bat hSw i2; have q19 := bat hSw i3; have q20 := bat hSw j0; have q21 := bat hSw j1; have q22 := bat hSw j2; have q23 := bat hSw j3; go_simp <;> with_reducible rfl) (by assumption) ?_
        try simp only [Act.put, sA, sB, sC]
        refine takeQ (i := 15) (gt rfl) (by kernel_rfl) (fun _ _ _ h => h) (by rfl) (by intro wq hSw; have q0 := bat hSw k0; have q1 := bat hSw k1; have q2 := bat hSw k2; have q3 := bat hSw k3; have q4 := bat hSw k4; have q5 := bat hSw k5; have q6 := bat hSw k6; have q7 := bat hSw k7; have q8 := bat hSw g0; have q9 := bat hSw g1; have q10 := bat hSw g2; have q11 := bat hSw g3; have q12 := bat hSw h0; have q13 := bat hSw h1; have q14 := bat hSw h2; have q15 := bat hSw h3; have q16 := bat hSw i0; have q17 := bat hSw i1; have q18 := bat hSw i2; have q19 := bat hSw i3; have q20 := bat hSw j0; have q21 := bat hSw j1; have q22 := bat hSw j2; have q23 := bat hSw j3; go_simp <;> with_reducible rfl) (by assumption) ?_
        try simp only [Act.put, sA, sB, sC]
        refine takeQ (i := 17) (gt rfl) (by kernel_rfl) (fun _ _ _ h => h) (by rfl) (by intro wq _; go_simp <;> with_reducible rfl) (by assumption) ?_
        try simp only [Act.put, sA, sB, sC]
        refine takeQ (i := 18) (gt rfl) (by kernel_rfl) (fun _ _ _ h => h) (by rfl) (by intro wq _; go_simp <;> with_reducible rfl) (by assumption) ?_
        try simp only [Act.put, sA, sB, sC]
        refine wpAnyH_ready (rs := [16]) (by kernel_rfl) (by simp) (AllReadyH.cons (gt rfl) (fun K hK => ?_) AllReadyH.nil)
        go_simp
        refine (implMeet x1 y1 x2 y2 x3 y3 x4 y4 _).mono ?_
        rintro ee ww3 ⟨rfl, hb⟩
        rw [HMt.out]
        replace N := N.trans (hb.mono N.size)
        clear hb
        refine hK.out _ _ N (fun hHeld => ?_)
        clear hK K
        try simp only [Act.put, sA, sB, sC]
        refine takeQ (i := 19) (gt rfl) (by kernel_rfl) (fun _ _ _ h => h) (by rfl) (by intro wq _; go_simp <;> with_reducible rfl) (by assumption) ?_
        try simp only [Act.put, sA, sB, sC]
        refine takeQ (i := 20) (gt rfl) (by kernel_rfl) (fun _ _ _ h => h) (by rfl) (by intro wq _; go_simp <;> with_reducible rfl) (by assumption) ?_
        try simp only [Act.put, sA, sB, sC]
        refine takeQ (i := 21) (gt rfl) (by kernel_rfl) (fun _ _ _ h => h) (by rfl) (by intro wq _; go_simp <;> with_reducible rfl) (by assumption) ?_
        try simp only [Act.put, sA, sB, sC]
        refine takeQ (i := 22) (gt rfl) (by kernel_rfl) (fun _ _ _ h => h) (by rfl) (by intro wq _; go_simp <;> with_reducible rfl) (by assumption) ?_
        try simp only [Act.put, sA, sB, sC]
        refine takeQ (i := 23) (gt rfl) (by kernel_rfl) (fun _ _ _ h => h) (by rfl) (by intro wq _; go_simp <;> with_reducible rfl) (by assumption) ?_
        try simp only [Act.put, sA, sB, sC]
        refine takeQ (i := 24) (gt rfl) (by kernel_rfl) (fun _ _ _ h => h) (by rfl) (by intro wq _; go_simp <;> with_reducible rfl) (by assumption) ?_
        try simp only [Act.put, sA, sB, sC]
        refine takeQ (i := 25) (gt rfl) (by kernel_rfl) (fun _ _ _ h => h) (by rfl) (by intro wq _; go_simp <;> with_reducible rfl) (by assumption) ?_
        try simp only [Act.put, sA, sB, sC]
        refine takeQ (i := 26) (gt rfl) (by kernel_rfl) (fun _ _ _ h => h) (by rfl) (by intro wq _; go_simp <;> with_reducible rfl) (by assumption) ?_
        try simp only [Act.put, sA, sB, sC]
        refine takeQ (i := 27) (gt rfl) (by kernel_rfl) (fun _ _ _ h => h) (by rfl) (by intro wq hSw; have q0 := bat hSw k0; have q1 := bat hSw k1; have q2 := bat hSw k2; have q3 := bat hSw k3; have q4 := bat hSw k4; have q5 := bat hSw k5; have q6 := bat hSw k6; have q7 := bat hSw k7; have q8 := bat hSw g0; have q9 := bat hSw g1; have q10 := bat hSw g2; have q11 := bat hSw g3; have q12 := bat hSw h0; have q13 := bat hSw h1; have q14 := bat hSw h2; have q15 := bat hSw h3; have q16 := bat hSw i0; have q17 := bat hSw i1; have q18 := bat hSw i2; have q19 := bat hSw i3; have q20 := bat hSw j0; have q21 := bat hSw j1; have q22 := bat hSw j2; have q23 := bat hSw j3; go_simp <;> with_reducible rfl) (by assumption) ?_
        try simp only [Act.put, sA, sB, sC]
        refine takeQ (i := 28) (gt rfl) (by kernel_rfl) (fun _ _ _ h => h) (by rfl) (by intro wq hSw; have q0 := bat hSw k0; have q1 := bat hSw k1; have q2 := bat hSw k2; have q3 := bat hSw k3; have q4 := bat hSw k4; have q5 := bat hSw k5; have q6 := bat hSw k6; have q7 := bat hSw k7; have q8 := bat hSw g0; have q9 := bat hSw g1; have q10 := bat hSw g2; have q11 := bat hSw g3; have q12 := bat hSw h0; have q13 := bat hSw h1; have q14 := bat hSw h2; have q15 := bat hSw h3; have q16 := bat hSw i0; have q17 := bat hSw i1; have q18 := bat hSw i2; have q19 := bat hSw i3; have q20 := bat hSw j0; have q21 := bat hSw j1; have q22 := bat hSw j2; have q23 := bat hSw j3; go_simp <;> with_reducible rfl) (by assumption) ?_
        try simp only [Act.put, sA, sB, sC]
        refine takeQ (i := 29) (gt rfl) (by kernel_rfl) (fun _ _ _ h => h) (by rfl) (by intro wq hSw; have q0 := bat hSw k0; have q1 := bat hSw k1; have q2 := bat hSw k2; have q3 := bat hSw k3; have q4 := bat hSw k4; have q5 := bat hSw k5; have q6 := bat hSw k6; have q7 := bat hSw k7; have q8 := bat hSw g0; have q9 := bat hSw g1; have q10 := bat hSw g2; have q11 := bat hSw g3; have q12 := bat hSw h0; have q13 := bat hSw h1; have q14 := bat hSw h2; have q15 := bat hSw h3; have q16 := bat hSw i0; have q17 := bat hSw i1; have q18 := bat hSw i2; have q19 := bat hSw i3; have q20 := bat hSw j0; have q21 := bat hSw j1; have q22 := bat hSw j2; have q23 := bat hSw j3; go_simp <;> with_reducible rfl) (by assumption) ?_
        try simp only [Act.put, sA, sB, sC]
        refine takeQ (i := 30) (gt rfl) (by kernel_rfl) (fun _ _ _ h => h) (by rfl) (by intro wq hSw; have q0 := bat hSw k0; have q1 := bat hSw k1; have q2 := bat hSw k2; have q3 := bat hSw k3; have q4 := bat hSw k4; have q5 := bat hSw k5; have q6 := bat hSw k6; have q7 := bat hSw k7; have q8 := bat hSw g0; have q9 := bat hSw g1; have q10 := bat hSw g2; have q11 := bat hSw g3; have q12 := bat hSw h0; have q13 := bat hSw h1; have q14 := bat hSw h2; have q15 := bat hSw h3; have q16 := bat hSw i0; have q17 := bat hSw i1; have q18 := bat hSw i2; have q19 := bat hSw i3; have q20 := bat hSw j0; have q21 := bat hSw j1; have q22 := bat hSw j2; have q23 := bat hSw j3; go_simp <;> with_reducible rfl) (by assumption) ?_
        try simp only [Act.put, sA, sB, sC]
        refine takeQ (i := 32) (gt rfl) (by kernel_rfl) (fun _ _ _ h => h) (by rfl) (by intro wq hSw; have q0 := bat hSw k0; have q1 := bat hSw k1; have q2 := bat hSw k2; have q3 := bat hSw k3; have q4 := bat hSw k4; have q5 := bat hSw k5; have q6 := bat hSw k6; have q7 := bat hSw k7; have q8 := bat hSw g0; have q9 := bat hSw g1; have q10 := bat hSw g2; have q11 := bat hSw g3; have q12 := bat hSw h0; have q13 := bat hSw h1; have q14 := bat hSw h2; have q15 := bat hSw h3; have q16 := bat hSw i0; have q17 := bat hSw i1; have q18 := bat hSw i2; have q19 := bat hSw i3; have q20 := bat hSw j0; have q21 := bat hSw j1; have q22 := bat hSw j2; have q23 := bat hSw j3; go_simp <;> with_reducible rfl) (by assumption) ?_
        try simp only [Act.put, sA, sB, sC]
        refine takeQ (i := 33) (gt rfl) (by kernel_rfl) (fun _ _ _ h => h) (by rfl) (by intro wq hSw; have q0 := bat hSw k0; have q1 := bat hSw k1; have q2 := bat hSw k2; have q3 := bat hSw k3; have q4 := bat hSw k4; have q5 := bat hSw k5; have q6 := bat hSw k6; have q7 := bat hSw k7; have q8 := bat hSw g0; have q9 := bat hSw g1; have q10 := bat hSw g2; have q11 := bat hSw g3; have q12 := bat hSw h0; have q13 := bat hSw h1; have q14 := bat hSw h2; have q15 := bat hSw h3; have q16 := bat hSw i0; have q17 := bat hSw i1; have q18 := bat hSw i2; have q19 := bat hSw i3; have q20 := bat hSw j0; have q21 := bat hSw j1; have q22 := bat hSw j2; have q23 := bat hSw j3; go_simp <;> with_reducible rfl) (by assumption) ?_
        try simp only [Act.put, sA, sB, sC]
        refine takeQ (i := 34) (gt rfl) (by kernel_rfl) (fun _ _ _ h => h) (by rfl) (by intro wq hSw; have q0 := bat hSw k0; have q1 := bat hSw k1; have q2 := bat hSw k2; have q3 := bat hSw k3; have q4 := bat hSw k4; have q5 := bat hSw k5; have q6 := bat hSw k6; have q7 := bat hSw k7; have q8 := bat hSw g0; have q9 := bat hSw g1; have q10 := bat hSw g2; have q11 := bat hSw g3; have q12 := bat hSw h0; have q13 := bat hSw h1; have q14 := bat hSw h2; have q15 := bat hSw h3; have q16 := bat hSw i0; have q17 := bat hSw i1; have q18 := bat hSw i2; have q19 := bat hSw i3; have q20 := bat hSw j0; have q21 := bat hSw j1; have q22 := bat hSw j2; have q23 := bat hSw j3; go_simp <;> with_reducible rfl) (by assumption) ?_
        try simp only [Act.put, sA, sB, sC]
        refine takeQ (i := 35) (gt rfl) (by kernel_rfl) (fun _ _ _ h => h) (by rfl) (by intro wq hSw; have q0 := bat hSw k0; have q1 := bat hSw k1; have q2 := bat hSw k2; have q3 := bat hSw k3; have q4 := bat hSw k4; have q5 := bat hSw k5; have q6 := bat hSw k6; have q7 := bat hSw k7; have q8 := bat hSw g0; have q9 := bat hSw g1; have q10 := bat hSw g2; have q11 := bat hSw g3; have q12 := bat hSw h0; have q13 := bat hSw h1; have q14 := bat hSw h2; have q15 := bat hSw h3; have q16 := bat hSw i0; have q17 := bat hSw i1; have q18 := bat hSw i2; have q19 := bat hSw i3; have q20 := bat hSw j0; have q21 := bat hSw j1; have q22 := bat hSw j2; have q23 := bat hSw j3; go_simp <;> with_reducible rfl) (by assumption) ?_
        try simp only [Act.put, sA, sB, sC]
        refine wpAnyH_ready (rs := [31]) (by kernel_rfl) (by simp) (AllReadyH.cons (gt rfl) (fun K hK => ?_) AllReadyH.nil)
        go_simp
        refine (implMeet x3 y3 x4 y4 x1 y1 x2 y2 _).mono ?_
        rintro ee ww4 ⟨rfl, hb⟩
        rw [met_other, HMt.out]
        replace N := N.trans (hb.mono N.size)
        clear hb
        refine hK.out _ _ N (fun hHeld => ?_)
        clear hK K
        try simp only [Act.put, sA, sB, sC]
        refine wpAnyH_ready (rs := [36]) (by kernel_rfl) (by simp) (AllReadyH.cons (gt rfl) (fun K hK => ?_) AllReadyH.nil)
        go_simp
        refine (implMeet x1 y1 x2 y2 x3 y3 x4 y4 _).mono ?_
        rintro ee ww5 ⟨rfl, hb⟩
        rw [HMt.out]
        replace N := N.trans (hb.mono N.size)
        clear hb
        refine hK.out _ _ N (fun hHeld => ?_)
        clear hK K
        try simp only [Act.put, sA, sB, sC]
        refine takeQ (i := 37) (gt rfl) (by kernel_rfl) (fun _ _ _ h => h) (by rfl) (by intro wq _; go_simp <;> with_reducible rfl) (by assumption) ?_
        try simp only [Act.put, sA, sB, sC]
        refine takeQ (i := 38) (gt rfl) (by kernel_rfl) (fun _ _ _ h => h) (by rfl) (by intro wq _; go_simp <;> with_reducible rfl) (by assumption) ?_
        try simp only [Act.put, sA, sB, sC]
        refine takeQ (i := 39) (gt rfl) (by kernel_rfl) (fun _ _ _ h => h) (by rfl) (by intro wq _; go_simp <;> with_reducible rfl) (by assumption) ?_
        try simp only [Act.put, sA, sB, sC]
        refine takeQ (i := 40) (gt rfl) (by kernel_rfl) (fun _ _ _ h => h) (by rfl) (by intro wq hSw; have q0 := bat hSw k0; have q1 := bat hSw k1; have q2 := bat hSw k2; have q3 := bat hSw k3; have q4 := bat hSw k4; have q5 := bat hSw k5; have q6 := bat hSw k6; have q7 := bat hSw k7; have q8 := bat hSw g0; have q9 := bat hSw g1; have q10 := bat hSw g2; have q11 := bat hSw g3; have q12 := bat hSw h0; have q13 := bat hSw h1; have q14 := bat hSw h2; have q15 := bat hSw h3; have q16 := bat hSw i0; have q17 := bat hSw i1; have q18 := bat hSw i2; have q19 := bat hSw i3; have q20 := bat hSw j0; have q21 := bat hSw j1; have q22 := bat hSw j2; have q23 := bat hSw j3; go_simp <;> with_reducible rfl) (by assumption) ?_
        try simp only [Act.put, sA, sB, sC]
        refine takeQ (i := 41) (gt rfl) (by kernel_rfl) (fun _ _ _ h => h) (by rfl) (by intro wq hSw; have q0 := bat hSw k0; have q1 := bat hSw k1; have q2 := bat hSw k2; have q3 := bat hSw k3; have q4 := bat hSw k4; have q5 := bat hSw k5; have q6 := bat hSw k6; have q7 := bat hSw k7; have q8 := bat hSw g0; have q9 := bat hSw g1; have q10 := bat hSw g2; have q11 := bat hSw g3; have q12 := bat hSw h0; have q13 := bat hSw h1; have q14 := bat hSw h2; have q15 := bat hSw h3; have q16 := bat hSw i0; have q17 := bat hSw i1; have q18 := bat hSw i2; have q19 := bat hSw i3; have q20 := bat hSw j0; have q21 := bat hSw j1; have q22 := bat hSw j2; have q23 := bat hSw j3; go_simp <;> with_reducible rfl) (by assumption) ?_
        try simp only [Act.put, sA, sB, sC]
        refine wpAnyH_ready (rs := [42]) (by kernel_rfl) (by simp) (AllReadyH.cons (gt rfl) (fun K hK => ?_) AllReadyH.nil)
        go_simp
        have hcmp := cmpFrac_is n1 d1 n1 d1 a1A b1A a1B b1B c1A e1A c1B e1B z1A t1A z1B t1B _ (o1A.toSees.below N) (o2A.toSees.below N) (o1B.toSees.below N) (o2B.toSees.below N) L1A.out.1 L1A.out.2 L1B.out.1 L1B.out.2 HB.out.2.1 HB.out.2.1
        rw [F1.out, F2.out] at hcmp
        refine hcmp.mono ?_
        clear hcmp
        rintro ee ww6 ⟨rfl, hb⟩
        rw [ZZ.out.1]
        replace N := N.trans (hb.mono N.size)
        clear hb
        refine hK.out _ _ N (fun hHeld => ?_)
        clear hK K
        try simp only [Act.put, sA, sB, sC]
        refine takeQ (i := 43) (gt rfl) (by kernel_rfl) (fun _ _ _ h => h) (by rfl) (by intro wq _; go_simp <;> with_reducible rfl) (by assumption) ?_
        try simp only [Act.put, sA, sB, sC]
        refine takeQ (i := 44) (gt rfl) (by kernel_rfl) (fun _ _ _ h => h) (by rfl) (by intro wq _; go_simp <;> with_reducible rfl) (by assumption) ?_
        try simp only [Act.put, sA, sB, sC]
        refine takeQ (i := 45) (gt rfl) (by kernel_rfl) (fun _ _ _ h => h) (by rfl) (by intro wq _; go_simp <;> with_reducible rfl) (by assumption) ?_
        try simp only [Act.put, sA, sB, sC]
        refine takeQ (i := 46) (gt rfl) (by kernel_rfl) (fun _ _ _ h => h) (by rfl) (by intro wq hSw; have q0 := bat hSw k0; have q1 := bat hSw k1; have q2 := bat hSw k2; have q3 := bat hSw k3; have q4 := bat hSw k4; have q5 := bat hSw k5; have q6 := bat hSw k6; have q7 := bat hSw k7; have q8 := bat hSw g0; have q9 := bat hSw g1; have q10 := bat hSw g2; have q11 := bat hSw g3; have q12 := bat hSw h0; have q13 := bat hSw h1; have q14 := bat hSw h2; have q15 := bat hSw h3; have q16 := bat hSw i0; have q17 := bat hSw i1; have q18 := bat hSw i2; have q19 := bat hSw i3; have q20 := bat hSw j0; have q21 := bat hSw j1; have q22 := bat hSw j2; have q23 := bat hSw j3; go_simp <;> with_reducible rfl) (by assumption) ?_
        try simp only [Act.put, sA, sB, sC]
        refine takeQ (i := 47) (gt rfl) (by kernel_rfl) (fun _ _ _ h => h) (by rfl) (by intro wq hSw; have q0 := bat hSw k0; have q1 := bat hSw k1; have q2 := bat hSw k2; have q3 := bat hSw k3; have q4 := bat hSw k4; have q5 := bat hSw k5; have q6 := bat hSw k6; have q7 := bat hSw k7; have q8 := bat hSw g0; have q9 := bat hSw g1; have q10 := bat hSw g2; have q11 := bat hSw g3; have q12 := bat hSw h0; have q13 := bat hSw h1; have q14 := bat hSw h2; have q15 := bat hSw h3; have q16 := bat hSw i0; have q17 := bat hSw i1; have q18 := bat hSw i2; have q19 := bat hSw i3; have q20 := bat hSw j0; have q21 := bat hSw j1; have q22 := bat hSw j2; have q23 := bat hSw j3; go_simp <;> with_reducible rfl) (by assumption) ?_
        try simp only [Act.put, sA, sB, sC]
        refine wpAnyH_ready (rs := [48]) (by kernel_rfl) (by simp) (AllReadyH.cons (gt rfl) (fun K hK => ?_) AllReadyH.nil)
        go_simp
        have hcmp := cmpFrac_is n2 d2 n2 d2 a2A b2A a2B b2B c2A e2A c2B e2B z2A t2A z2B t2B _ (o3A.toSees.below N) (o4A.toSees.below N) (o3B.toSees.below N) (o4B.toSees.below N) L2A.out.1 L2A.out.2 L2B.out.1 L2B.out.2 HB.out.2.2 HB.out.2.2
        rw [F3.out, F4.out] at hcmp
        refine hcmp.mono ?_
        clear hcmp
        rintro ee ww7 ⟨rfl, hb⟩
        rw [ZZ.out.2]
        replace N := N.trans (hb.mono N.size)
        clear hb
        refine hK.out _ _ N (fun hHeld => ?_)
        clear hK K
        try simp only [Act.put, sA, sB, sC]
        refine takeQ (i := 49) (gt rfl) (by kernel_rfl) (fun _ _ _ h => h) (by rfl) (by intro wq _; go_simp <;> with_reducible rfl) (by assumption) ?_
        try simp only [Act.put, sA, sB, sC]
        refine takeQ (i := 50) (gt rfl) (by kernel_rfl) (fun _ _ _ h => h) (by rfl) (by intro wq _; go_simp <;> with_reducible rfl) (by assumption) ?_
        try simp only [Act.put, sA, sB, sC]
        refine wpAnyH_done (by kernel_rfl) ?_ _
        go_wp2
        go_meet
        case rel => exact ⟨rfl, N⟩
    obtain ⟨rfl, hb⟩ := hcut
    rename World => w4
    replace k0 := bat hb k0
    replace k1 := bat hb k1
    replace k2 := bat hb k2
    replace k3 := bat hb k3
    replace k4 := bat hb k4
    replace k5 := bat hb k5
    replace k6 := bat hb k6
    replace k7 := bat hb k7
    replace g0 := bat hb g0
    replace g1 := bat hb g1
    replace g2 := bat hb g2
    replace g3 := bat hb g3
    replace h0 := bat hb h0
    replace h1 := bat hb h1
    replace h2 := bat hb h2
    replace h3 := bat hb h3
    replace i0 := bat hb i0
    replace i1 := bat hb i1
    replace i2 := bat hb i2
    replace i3 := bat hb i3
    replace j0 := bat hb j0
    replace j1 := bat hb j1
    replace j2 := bat hb j2
    replace j3 := bat hb j3
    replace o1A := o1A.below hb
    replace o2A := o2A.below hb
    replace o3A := o3A.below hb
    replace o4A := o4A.below hb
    replace o1B := o1B.below hb
    replace o2B := o2B.below hb
    replace o3B := o3B.below hb
    replace o4B := o4B.below hb
    replace B := B.trans (hb.mono B.size)
    clear hb
    by_cases hk : kk = 1
    · subst hk
      have BA := crV_between HC.out
      have BR := crV_between HC2.out
      clear KK ZZ HMt
      have sA0 : (((w4.alloc (.cells #[.int .i64 x1, .int .i64 y1, .int .i64 x2, .int .i64 y2] 25)).alloc (.cells #[.int .i64 x3, .int .i64 y3, .int .i64 x4, .int .i64 y4] 25)).alloc (.cells #[.slice (some ⟨w4.heap.size, 0, none⟩) 2 2, .slice (some ⟨w4.heap.size + 1, 0, none⟩) 2 2] 37)).cell? ⟨w4.heap.size, 0, none⟩ = some (.int .i64 x1) := by simp [go_sem]
      have sA1 : (((w4.alloc (.cells #[.int .i64 x1, .int .i64 y1, .int .i64 x2, .int .i64 y2] 25)).alloc (.cells #[.int .i64 x3, .int .i64 y3, .int .i64 x4, .int .i64 y4] 25)).alloc (.cells #[.slice (some ⟨w4.heap.size, 0, none⟩) 2 2, .slice (some ⟨w4.heap.size + 1, 0, none⟩) 2 2] 37)).cell? ⟨w4.heap.size, 1, none⟩ = some (.int .i64 y1) := by simp [go_sem]
      have sA2 : (((w4.alloc (.cells #[.int .i64 x1, .int .i64 y1, .int .i64 x2, .int .i64 y2] 25)).alloc (.cells #[.int .i64 x3, .int .i64 y3, .int .i64 x4, .int .i64 y4] 25)).alloc (.cells #[.slice (some ⟨w4.heap.size, 0, none⟩) 2 2, .slice (some ⟨w4.heap.size + 1, 0, none⟩) 2 2] 37)).cell? ⟨w4.heap.size, 2, none⟩ = some (.int .i64 x2) := by simp [go_sem]
      have sA3 : (((w4.alloc (.cells #[.int .i64 x1, .int .i64 y1, .int .i64 x2, .int .i64 y2] 25)).alloc (.cells #[.int .i64 x3, .int .i64 y3, .int .i64 x4, .int .i64 y4] 25)).alloc (.cells #[.slice (some ⟨w4.heap.size, 0, none⟩) 2 2, .slice (some ⟨w4.heap.size + 1, 0, none⟩) 2 2] 37)).cell? ⟨w4.heap.size, 3, none⟩ = some (.int .i64 y2) := by simp [go_sem]
      have sB0 : (((w4.alloc (.cells #[.int .i64 x1, .int .i64 y1, .int .i64 x2, .int .i64 y2] 25)).alloc (.cells #[.int .i64 x3, .int .i64 y3, .int .i64 x4, .int .i64 y4] 25)).alloc (.cells #[.slice (some ⟨w4.heap.size, 0, none⟩) 2 2, .slice (some ⟨w4.heap.size + 1, 0, none⟩) 2 2] 37)).cell? ⟨w4.heap.size + 1, 0, none⟩ = some (.int .i64 x3) := by simp [go_sem]
      have sB1 : (((w4.alloc (.cells #[.int .i64 x1, .int .i64 y1, .int .i64 x2, .int .i64 y2] 25)).alloc (.cells #[.int .i64 x3, .int .i64 y3, .int .i64 x4, .int .i64 y4] 25)).alloc (.cells #[.slice (some ⟨w4.heap.size, 0, none⟩) 2 2, .slice (some ⟨w4.heap.size + 1, 0, none⟩) 2 2] 37)).cell? ⟨w4.heap.size + 1, 1, none⟩ = some (.int .i64 y3) := by simp [go_sem]
      have sB2 : (((w4.alloc (.cells #[.int .i64 x1, .int .i64 y1, .int .i64 x2, .int .i64 y2] 25)).alloc (.cells #[.int .i64 x3, .int .i64 y3, .int .i64 x4, .int .i64 y4] 25)).alloc (.cells #[.slice (some ⟨w4.heap.size, 0, none⟩) 2 2, .slice (some ⟨w4.heap.size + 1, 0, none⟩) 2 2] 37)).cell? ⟨w4.heap.size + 1, 2, none⟩ = some (.int .i64 x4) := by simp [go_sem]
      have sB3 : (((w4.alloc (.cells #[.int .i64 x1, .int .i64 y1, .int .i64 x2, .int .i64 y2] 25)).alloc (.cells #[.int .i64 x3, .int .i64 y3, .int .i64 x4, .int .i64 y4] 25)).alloc (.cells #[.slice (some ⟨w4.heap.size, 0, none⟩) 2 2, .slice (some ⟨w4.heap.size + 1, 0, none⟩) 2 2] 37)).cell? ⟨w4.heap.size + 1, 3, none⟩ = some (.int .i64 y4) := by simp [go_sem]
      have sC0 : (((w4.alloc (.cells #[.int .i64 x1, .int .i64 y1, .int .i64 x2, .int .i64 y2] 25)).alloc (.cells #[.int .i64 x3, .int .i64 y3, .int .i64 x4, .int .i64 y4] 25)).alloc (.cells #[.slice (some ⟨w4.heap.size, 0, none⟩) 2 2, .slice (some ⟨w4.heap.size + 1, 0, none⟩) 2 2] 37)).cell? ⟨w4.heap.size + 2, 0, none⟩ = some (.slice (some ⟨w4.heap.size, 0, none⟩) 2 2) := by simp [go_sem]
      have sC1 : (((w4.alloc (.cells #[.int .i64 x1, .int .i64 y1, .int .i64 x2, .int .i64 y2] 25)).alloc (.cells #[.int .i64 x3, .int .i64 y3, .int .i64 x4, .int .i64 y4] 25)).alloc (.cells #[.slice (some ⟨w4.heap.size, 0, none⟩) 2 2, .slice (some ⟨w4.heap.size + 1, 0, none⟩) 2 2] 37)).cell? ⟨w4.heap.size + 2, 1, none⟩ = some (.slice (some ⟨w4.heap.size + 1, 0, none⟩) 2 2) := by simp [go_sem]
      obtain ⟨l0, l2, l4, l6⟩ : q0 < w4.heap.size ∧ q0 + 1 < w4.heap.size ∧ q0 + 1 + 1 < w4.heap.size ∧ q0 + 1 + 1 + 1 < w4.heap.size := ⟨World.block_lt_of_cell? _ _ k0, World.block_lt_of_cell? _ _ k2, World.block_lt_of_cell? _ _ k4, World.block_lt_of_cell? _ _ k6⟩
      go_wp2_with fail
      clear l0 l2 l4 l6
      have hb := below3 w4 (.cells #[.int .i64 x1, .int .i64 y1, .int .i64 x2, .int .i64 y2] 25) (.cells #[.int .i64 x3, .int .i64 y3, .int .i64 x4, .int .i64 y4] 25) (.cells #[.slice (some ⟨w4.heap.size, 0, none⟩) 2 2, .slice (some ⟨w4.heap.size + 1, 0, none⟩) 2 2] 37)
      replace g0 := bat hb g0
      replace g1 := bat hb g1
      replace g2 := bat hb g2
      replace g3 := bat hb g3
      replace h0 := bat hb h0
      replace h1 := bat hb h1
      replace h2 := bat hb h2
      replace h3 := bat hb h3
      replace o1A := o1A.below hb
      replace o2A := o2A.below hb
      replace o3A := o3A.below hb
      replace o4A := o4A.below hb
      replace B := B.trans (hb.mono B.size)
      clear hb k0 k1 k2 k3 k4 k5 k6 k7 i0 i1 i2 i3 j0 j1 j2 j3 o1B o2B o3B o4B
      generalize ((w4.alloc (.cells #[.int .i64 x1, .int .i64 y1, .int .i64 x2, .int .i64 y2] 25)).alloc (.cells #[.int .i64 x3, .int .i64 y3, .int .i64 x4, .int .i64 y4] 25)).alloc (.cells #[.slice (some ⟨w4.heap.size, 0, none⟩) 2 2, .slice (some ⟨w4.heap.size + 1, 0, none⟩) 2 2] 37) = W5 at *
      generalize w4.heap.size = q4 at *
      go_loopw [14, 15, 16] (fun i _ _ wr => ∃ j : Nat, j ≤ 2 ∧ i = .int .i64 j ∧ Below W5.heap.size W5 wr) (fun i _ _ _ => 2 - (intOf i).toNat)
      case atStart => exact ⟨0, by omega, rfl, Below.refl _ _⟩
      case round =>
        obtain ⟨j, hj, rfl, N⟩ := hrel
        rename World => wr
        have hj3 : j = 0 ∨ j = 1 ∨ j = 2 := by omega
        rcases hj3 with rfl | rfl | rfl
        · skip
          have Q1 : Hid (cmpZ (n1 * 1) (tX x1 y1 * d1) * cmpZ (n1 * 1) (tX x2 y2 * d1) ≤ 0) := cmpZ_between BA.2.2.1
          have Q2 : Hid (cmpZ (n2 * 1) (tY x1 y1 * d2) * cmpZ (n2 * 1) (tY x2 y2 * d2) ≤ 0) := cmpZ_between BA.2.2.2
          have LR : Hid (W5.heap.size ≤ wr.heap.size) := N.size
          have P1 := (Box2.new wr (lo := wr.heap.size) (Nat.le_refl _) (.int .i64 x1) (.int .i64 y1) 25).below (below1 _ (.cells #[.int .i64 x2, .int .i64 y2] 25))
          have P2 := Box2.new (wr.alloc (.cells #[.int .i64 x1, .int .i64 y1] 25)) (lo := wr.heap.size) (by simp) (.int .i64 x2) (.int .i64 y2) 25
          rw [World.size_alloc] at P2
          have sA0' := bat N sA0
          have sA1' := bat N sA1
          have sA2' := bat N sA2
          have sA3' := bat N sA3
          have sB0' := bat N sB0
          have sB1' := bat N sB1
          have sB2' := bat N sB2
          have sB3' := bat N sB3
          have sC0' := bat N sC0
          have sC1' := bat N sC1
          obtain ⟨l0, l1, l2⟩ : q4 < wr.heap.size ∧ q4 + 1 < wr.heap.size ∧ q4 + 2 < wr.heap.size := ⟨World.block_lt_of_cell? _ _ sA0', World.block_lt_of_cell? _ _ sB0', World.block_lt_of_cell? _ _ sC0'⟩
          go_wp2_with fail
          clear l0 l1 l2 sA0' sA1' sA2' sA3' sB0' sB1' sB2' sB3' sC0' sC1'
          have hb := below2 wr (.cells #[.int .i64 x1, .int .i64 y1] 25) (.cells #[.int .i64 x2, .int .i64 y2] 25)
          replace N := N.trans (hb.mono N.size)
          clear hb
          generalize (wr.alloc (.cells #[.int .i64 x1, .int .i64 y1] 25)).alloc (.cells #[.int .i64 x2, .int .i64 y2] 25) = Wr at *
          generalize wr.heap.size = qr at *
          refine (specPtOk x1 y1 _).mono ?_
          rintro ee wa15 ⟨rfl, hb⟩
          replace P1 := P1.below hb
          replace P2 := P2.below hb
          replace N := N.trans (hb.mono N.size)
          clear hb
          go_upto_if 122 with fail
          go_cut [15] (fun s W => s = .pointer (some ⟨qr, 0, none⟩) ∧ Box2 qr W (qr) (.int .i64 (tX x1 y1)) (.int .i64 (tY x1 y1)) ∧ Box2 qr W (qr + 1) (.int .i64 x2) (.int .i64 y2) ∧ Below W5.heap.size W5 W)
          case first =>
            cases hp : ptOk x1 y1
            · obtain ⟨e1, e2⟩ := tX_no hp
              obtain ⟨z0, z1, zf, _⟩ := id P1
              have G := Box2.chain N (P1.lowM LR.out) (.int .i64 0) (.int .i64 0)
              have G1 := P1.put (.int .i64 0) (.int .i64 0)
              have G2 := P2.old (p := qr) (by omega) (.int .i64 0) (.int .i64 0)
              go_wp2
              go_meet
              case rel => exact ⟨rfl, by rw [e1, e2]; exact G1, G2, G⟩
            · obtain ⟨e1, e2⟩ := tX_ok hp
              go_wp2
              go_meet
              case rel => exact ⟨rfl, by rw [e1, e2]; exact P1, P2, N⟩
          clear P1 P2 N
          obtain ⟨rfl, P1, P2, N⟩ := hcut
          rename World => Ws
          obtain ⟨e0, e1, _, _⟩ := id P2
          go_wp2_with fail
          clear e0 e1
          refine (specPtOk x2 y2 _).mono ?_
          rintro ee wa16 ⟨rfl, hb⟩
          replace P1 := P1.below hb
          replace P2 := P2.below hb
          replace N := N.trans (hb.mono N.size)
          clear hb
          go_upto_if 126 with fail
          go_cut [16] (fun s W => s = .pointer (some ⟨qr + 1, 0, none⟩) ∧ Box2 qr W (qr + 1) (.int .i64 (tX x2 y2)) (.int .i64 (tY x2 y2)) ∧ Box2 qr W (qr) (.int .i64 (tX x1 y1)) (.int .i64 (tY x1 y1)) ∧ Below W5.heap.size W5 W)
          case first =>
            cases hp : ptOk x2 y2
            · obtain ⟨e1, e2⟩ := tX_no hp
              obtain ⟨z0, z1, zf, _⟩ := id P2
              have G := Box2.chain N (P2.lowM LR.out) (.int .i64 0) (.int .i64 0)
              have G1 := P2.put (.int .i64 0) (.int .i64 0)
              have G2 := P1.old (p := qr + 1) (by omega) (.int .i64 0) (.int .i64 0)
              go_wp2
              go_meet
              case rel => exact ⟨rfl, by rw [e1, e2]; exact G1, G2, G⟩
            · obtain ⟨e1, e2⟩ := tX_ok hp
              go_wp2
              go_meet
              case rel => exact ⟨rfl, by rw [e1, e2]; exact P2, P1, N⟩
          clear P1 P2 N
          obtain ⟨rfl, P2, P1, N⟩ := hcut
          rename World => Wt
          obtain ⟨cp, Hcp⟩ : ∃ z, Hid (cmpZ (n1 * 1) (tX x1 y1 * d1) = z) := ⟨_, rfl⟩
          obtain ⟨cq, Hcq⟩ : ∃ z, Hid (cmpZ (n1 * 1) (tX x2 y2 * d1) = z) := ⟨_, rfl⟩
          obtain ⟨cr, Hcr⟩ : ∃ z, Hid (cmpZ (n2 * 1) (tY x1 y1 * d2) = z) := ⟨_, rfl⟩
          obtain ⟨cs, Hcs⟩ : ∃ z, Hid (cmpZ (n2 * 1) (tY x2 y2 * d2) = z) := ⟨_, rfl⟩
          rw [Hcp.out, Hcq.out] at Q1
          rw [Hcr.out, Hcs.out] at Q2
          have B3 : ∀ a b : Int, -1 ≤ cmpZ a b ∧ cmpZ a b ≤ 1 := fun a b => by unfold cmpZ; split <;> (try split) <;> omega
          obtain ⟨s1, hm1, hs1, hs1b⟩ : ∃ s1 : Int, IntKind.i64.wrap (cp * cq) = s1 ∧ s1 ≤ 0 ∧ decide (0 < s1) = false := by
            have a1 := B3 (n1 * 1) (tX x1 y1 * d1)
            have a2 := B3 (n1 * 1) (tX x2 y2 * d1)
            rw [Hcp.out] at a1
            rw [Hcq.out] at a2
            have q := Q1.out
            have lo : -1 ≤ cp * cq := by
              have c1 : cp = -1 ∨ cp = 0 ∨ cp = 1 := by omega
              rcases c1 with rfl | rfl | rfl <;> omega
            refine ⟨cp * cq, by rw [IntKind.wrap_i64]; omega, q, decide_eq_false (by omega)⟩
          obtain ⟨s2, hm2, hs2, hs2b⟩ : ∃ s2 : Int, IntKind.i64.wrap (cr * cs) = s2 ∧ s2 ≤ 0 ∧ decide (0 < s2) = false := by
            have a1 := B3 (n2 * 1) (tY x1 y1 * d2)
            have a2 := B3 (n2 * 1) (tY x2 y2 * d2)
            rw [Hcr.out] at a1
            rw [Hcs.out] at a2
            have q := Q2.out
            have lo : -1 ≤ cr * cs := by
              have c1 : cr = -1 ∨ cr = 0 ∨ cr = 1 := by omega
              rcases c1 with rfl | rfl | rfl <;> omega
            refine ⟨cr * cs, by rw [IntKind.wrap_i64]; omega, q, decide_eq_false (by omega)⟩
          clear Q1 Q2 B3
          have M := N
          clear N
          have g0' := bat M g0
          have g1' := bat M g1
          have g2' := bat M g2
          have g3' := bat M g3
          have h0' := bat M h0
          have h1' := bat M h1
          have h2' := bat M h2
          have h3' := bat M h3
          obtain ⟨e0, e1, _, _⟩ := id P1
          obtain ⟨e2, e3, _, _⟩ := id P2
          go_upto_region 20 with fail
          refine wp_region_held_drew (S := Below Wt.heap.size Wt) (by kernel_rfl) ((Below.refl _ _).drew) (fun hHeld => ?_)
          have N : Below Wt.heap.size Wt Wt.drew := hHeld
          revert hHeld N
          generalize Wt.drew = ww0
          intro hHeld N
          refine takeQ (i := 0) (gt rfl) (by kernel_rfl) (fun _ _ _ h => h) (by rfl) (by intro wq hSw; have q0 := bat hSw g0'; have q1 := bat hSw g1'; have q2 := bat hSw g2'; have q3 := bat hSw g3'; have q4 := bat hSw h0'; have q5 := bat hSw h1'; have q6 := bat hSw h2'; have q7 := bat hSw h3'; have q8 := bat hSw e0; have q9 := bat hSw e1; have q10 := bat hSw e2; have q11 := bat hSw e3; go_simp <;> with_reducible rfl) (by assumption) ?_
          try simp only [Act.put, sA, sB, sC]
          refine takeQ (i := 1) (gt rfl) (by kernel_rfl) (fun _ _ _ h => h) (by rfl) (by intro wq _; go_simp <;> with_reducible rfl) (by assumption) ?_
          try simp only [Act.put, sA, sB, sC]
          refine takeQ (i := 2) (gt rfl) (by kernel_rfl) (fun _ _ _ h => h) (by rfl) (by intro wq hSw; have q0 := bat hSw g0'; have q1 := bat hSw g1'; have q2 := bat hSw g2'; have q3 := bat hSw g3'; have q4 := bat hSw h0'; have q5 := bat hSw h1'; have q6 := bat hSw h2'; have q7 := bat hSw h3'; have q8 := bat hSw e0; have q9 := bat hSw e1; have q10 := bat hSw e2; have q11 := bat hSw e3; go_simp <;> with_reducible rfl) (by assumption) ?_
          try simp only [Act.put, sA, sB, sC]
          refine takeQ (i := 5) (gt rfl) (by kernel_rfl) (fun _ _ _ h => h) (by rfl) (by intro wq hSw; have q0 := bat hSw g0'; have q1 := bat hSw g1'; have q2 := bat hSw g2'; have q3 := bat hSw g3'; have q4 := bat hSw h0'; have q5 := bat hSw h1'; have q6 := bat hSw h2'; have q7 := bat hSw h3'; have q8 := bat hSw e0; have q9 := bat hSw e1; have q10 := bat hSw e2; have q11 := bat hSw e3; go_simp <;> with_reducible rfl) (by assumption) ?_
          try simp only [Act.put, sA, sB, sC]
          refine takeQ (i := 6) (gt rfl) (by kernel_rfl) (fun _ _ _ h => h) (by rfl) (by intro wq _; go_simp <;> with_reducible rfl) (by assumption) ?_
          try simp only [Act.put, sA, sB, sC]
          refine takeQ (i := 7) (gt rfl) (by kernel_rfl) (fun _ _ _ h => h) (by rfl) (by intro wq hSw; have q0 := bat hSw g0'; have q1 := bat hSw g1'; have q2 := bat hSw g2'; have q3 := bat hSw g3'; have q4 := bat hSw h0'; have q5 := bat hSw h1'; have q6 := bat hSw h2'; have q7 := bat hSw h3'; have q8 := bat hSw e0; have q9 := bat hSw e1; have q10 := bat hSw e2; have q11 := bat hSw e3; go_simp <;> with_reducible rfl) (by assumption) ?_
          try simp only [Act.put, sA, sB, sC]
          refine wpAnyH_ready (rs := [3]) (by kernel_rfl) (by simp) (AllReadyH.cons (gt rfl) (fun K hK => ?_) AllReadyH.nil)
          go_simp
          refine (lawWhole (tX x1 y1) _ (by have := tX_crd x1 y1; unfold Crd at this; omega) (by have := tX_crd x1 y1; unfold Crd at this; omega)).mono ?_
          rintro ee ww1 ⟨u, rfl, hI, hb⟩
          obtain ⟨wa, wc, wz, wb, we, wt, rfl, wo, wp', wn, wm, wv, wu, _⟩ := hI
          obtain ⟨fw, Hfw⟩ : ∃ f, Hid (decide ((tX x1 y1) < 0) = f) := ⟨_, rfl⟩
          have Hf1 : decide ((1 : Int) < 0) = false := rfl
          rw [Hfw.out, Hf1]
          have K1 : Hid (Nrm wz ∧ wz.length ≤ 24 ∧ val wz = mg (tX x1 y1)) := ⟨wn, Nat.le_trans (len_few wo.lim wn wv (mg_le (by have := tX_crd x1 y1; unfold Crd at this; omega))) (by decide), wv⟩
          have K2 : Hid (Nrm wt ∧ wt.length ≤ 24 ∧ val wt = mg 1) := ⟨wm, Nat.le_trans (len_few wp'.lim wm wu (by decide)) (by decide), wu⟩
          clear wn wm wv wu Hf1
          replace N := N.trans (hb.mono N.size)
          clear hb
          refine hK.out _ _ N (fun hHeld => ?_)
          clear hK K
          try simp only [Act.put, sA, sB, sC]
          refine wpAnyH_ready (rs := [4]) (by kernel_rfl) (by simp) (AllReadyH.cons (gt rfl) (fun K hK => ?_) AllReadyH.nil)
          go_simp
          have hcmp := cmpFrac_is n1 d1 (tX x1 y1) 1 a1A b1A wa wb c1A e1A wc we z1A t1A wz wt _ (o1A.toSees.below (M.trans (N.mono M.size))) (o2A.toSees.below (M.trans (N.mono M.size))) wo.toSees wp'.toSees L1A.out.1 L1A.out.2 K1.out K2.out HB.out.2.1 (by decide)
          have Hf1 : decide ((1 : Int) < 0) = false := rfl
          rw [F1.out, F2.out, Hfw.out, Hf1] at hcmp
          refine hcmp.mono ?_
          clear hcmp Hf1
          rintro ee ww2 ⟨rfl, hb⟩
          rw [Hcp.out]
          replace wo := wo.below hb
          replace wp' := wp'.below hb
          replace N := N.trans (hb.mono N.size)
          clear hb
          clear wo wp'
          refine hK.out _ _ N (fun hHeld => ?_)
          clear hK K
          try simp only [Act.put, sA, sB, sC]
          refine wpAnyH_ready (rs := [8]) (by kernel_rfl) (by simp) (AllReadyH.cons (gt rfl) (fun K hK => ?_) AllReadyH.nil)
          go_simp
          refine (lawWhole (tX x2 y2) _ (by have := tX_crd x2 y2; unfold Crd at this; omega) (by have := tX_crd x2 y2; unfold Crd at this; omega)).mono ?_
          rintro ee ww3 ⟨u, rfl, hI, hb⟩
          obtain ⟨wa, wc, wz, wb, we, wt, rfl, wo, wp', wn, wm, wv, wu, _⟩ := hI
          obtain ⟨fw, Hfw⟩ : ∃ f, Hid (decide ((tX x2 y2) < 0) = f) := ⟨_, rfl⟩
          have Hf1 : decide ((1 : Int) < 0) = false := rfl
          rw [Hfw.out, Hf1]
          have K1 : Hid (Nrm wz ∧ wz.length ≤ 24 ∧ val wz = mg (tX x2 y2)) := ⟨wn, Nat.le_trans (len_few wo.lim wn wv (mg_le (by have := tX_crd x2 y2; unfold Crd at this; omega))) (by decide), wv⟩
          have K2 : Hid (Nrm wt ∧ wt.length ≤ 24 ∧ val wt = mg 1) := ⟨wm, Nat.le_trans (len_few wp'.lim wm wu (by decide)) (by decide), wu⟩
          clear wn wm wv wu Hf1
          replace N := N.trans (hb.mono N.size)
          clear hb
          refine hK.out _ _ N (fun hHeld => ?_)
          clear hK K
          try simp only [Act.put, sA, sB, sC]
          refine wpAnyH_ready (rs := [9]) (by kernel_rfl) (by simp) (AllReadyH.cons (gt rfl) (fun K hK => ?_) AllReadyH.nil)
          go_simp
          have hcmp := cmpFrac_is n1 d1 (tX x2 y2) 1 a1A b1A wa wb c1A e1A wc we z1A t1A wz wt _ (o1A.toSees.below (M.trans (N.mono M.size))) (o2A.toSees.below (M.trans (N.mono M.size))) wo.toSees wp'.toSees L1A.out.1 L1A.out.2 K1.out K2.out HB.out.2.1 (by decide)
          have Hf1 : decide ((1 : Int) < 0) = false := rfl
          rw [F1.out, F2.out, Hfw.out, Hf1] at hcmp
          refine hcmp.mono ?_
          clear hcmp Hf1
          rintro ee ww4 ⟨rfl, hb⟩
          rw [Hcq.out]
          replace wo := wo.below hb
          replace wp' := wp'.below hb
          replace N := N.trans (hb.mono N.size)
          clear hb
          clear wo wp'
          refine hK.out _ _ N (fun hHeld => ?_)
          clear hK K
          try simp only [Act.put, sA, sB, sC]
          refine takeQ (i := 10) (gt rfl) (by kernel_rfl) (fun _ _ _ h => h) (by rfl) (by intro wq _; go_simp <;> with_reducible rfl) (by assumption) ?_
          try simp only [Act.put, sA, sB, sC]
          refine takeQ (i := 11) (gt rfl) (by kernel_rfl) (fun _ _ _ h => h) (by rfl) (by intro wq _; go_simp <;> with_reducible rfl) (by assumption) ?_
          try simp only [Act.put, sA, sB, sC]
          refine takeQ (i := 12) (gt rfl) (by kernel_rfl) (fun _ _ _ h => h) (by rfl) (by intro wq _; go_simp <;> with_reducible rfl) (by assumption) ?_
          try simp only [Act.put, sA, sB, sC]
          refine takeQ (i := 13) (gt rfl) (by kernel_rfl) (fun _ _ _ h => h) (by rfl) (by intro wq hSw; have q0 := bat hSw g0'; have q1 := bat hSw g1'; have q2 := bat hSw g2'; have q3 := bat hSw g3'; have q4 := bat hSw h0'; have q5 := bat hSw h1'; have q6 := bat hSw h2'; have q7 := bat hSw h3'; have q8 := bat hSw e0; have q9 := bat hSw e1; have q10 := bat hSw e2; have q11 := bat hSw e3; go_simp <;> with_reducible rfl) (by assumption) ?_
          try simp only [Act.put, sA, sB, sC]
          refine takeQ (i := 14) (gt rfl) (by kernel_rfl) (fun _ _ _ h => h) (by rfl) (by intro wq _; go_simp <;> with_reducible rfl) (by assumption) ?_
          try simp only [Act.put, sA, sB, sC]
          refine takeQ (i := 15) (gt rfl) (by kernel_rfl) (fun _ _ _ h => h) (by rfl) (by intro wq hSw; have q0 := bat hSw g0'; have q1 := bat hSw g1'; have q2 := bat hSw g2'; have q3 := bat hSw g3'; have q4 := bat hSw h0'; have q5 := bat hSw h1'; have q6 := bat hSw h2'; have q7 := bat hSw h3'; have q8 := bat hSw e0; have q9 := bat hSw e1; have q10 := bat hSw e2; have q11 := bat hSw e3; go_simp <;> with_reducible rfl) (by assumption) ?_
          try simp only [Act.put, sA, sB, sC]
          refine takeQ (i := 18) (gt rfl) (by kernel_rfl) (fun _ _ _ h => h) (by rfl) (by intro wq hSw; have q0 := bat hSw g0'; have q1 := bat hSw g1'; have q2 := bat hSw g2'; have q3 := bat hSw g3'; have q4 := bat hSw h0'; have q5 := bat hSw h1'; have q6 := bat hSw h2'; have q7 := bat hSw h3'; have q8 := bat hSw e0; have q9 := bat hSw e1; have q10 := bat hSw e2; have q11 := bat hSw e3; go_simp <;> with_reducible rfl) (by assumption) ?_
          try simp only [Act.put, sA, sB, sC]
          refine takeQ (i := 19) (gt rfl) (by kernel_rfl) (fun _ _ _ h => h) (by rfl) (by intro wq _; go_simp <;> with_reducible rfl) (by assumption) ?_
          try simp only [Act.put, sA, sB, sC]
          refine takeQ (i := 20) (gt rfl) (by kernel_rfl) (fun _ _ _ h => h) (by rfl) (by intro wq hSw; have q0 := bat hSw g0'; have q1 := bat hSw g1'; have q2 := bat hSw g2'; have q3 := bat hSw g3'; have q4 := bat hSw h0'; have q5 := bat hSw h1'; have q6 := bat hSw h2'; have q7 := bat hSw h3'; have q8 := bat hSw e0; have q9 := bat hSw e1; have q10 := bat hSw e2; have q11 := bat hSw e3; go_simp <;> with_reducible rfl) (by assumption) ?_
          try simp only [Act.put, sA, sB, sC]
          refine wpAnyH_ready (rs := [16]) (by kernel_rfl) (by simp) (AllReadyH.cons (gt rfl) (fun K hK => ?_) AllReadyH.nil)
          go_simp
          refine (lawWhole (tY x1 y1) _ (by have := tY_crd x1 y1; unfold Crd at this; omega) (by have := tY_crd x1 y1; unfold Crd at this; omega)).mono ?_
          rintro ee ww5 ⟨u, rfl, hI, hb⟩
          obtain ⟨wa, wc, wz, wb, we, wt, rfl, wo, wp', wn, wm, wv, wu, _⟩ := hI
          obtain ⟨fw, Hfw⟩ : ∃ f, Hid (decide ((tY x1 y1) < 0) = f) := ⟨_, rfl⟩
          have Hf1 : decide ((1 : Int) < 0) = false := rfl
          rw [Hfw.out, Hf1]
          have K1 : Hid (Nrm wz ∧ wz.length ≤ 24 ∧ val wz = mg (tY x1 y1)) := ⟨wn, Nat.le_trans (len_few wo.lim wn wv (mg_le (by have := tY_crd x1 y1; unfold Crd at this; omega))) (by decide), wv⟩
          have K2 : Hid (Nrm wt ∧ wt.length ≤ 24 ∧ val wt = mg 1) := ⟨wm, Nat.le_trans (len_few wp'.lim wm wu (by decide)) (by decide), wu⟩
          clear wn wm wv wu Hf1
          replace N := N.trans (hb.mono N.size)
          clear hb
          refine hK.out _ _ N (fun hHeld => ?_)
          clear hK K
          try simp only [Act.put, sA, sB, sC]
          refine wpAnyH_ready (rs := [17]) (by kernel_rfl) (by simp) (AllReadyH.cons (gt rfl) (fun K hK => ?_) AllReadyH.nil)
          go_simp
          have hcmp := cmpFrac_is n2 d2 (tY x1 y1) 1 a2A b2A wa wb c2A e2A wc we z2A t2A wz wt _ (o3A.toSees.below (M.trans (N.mono M.size))) (o4A.toSees.below (M.trans (N.mono M.size))) wo.toSees wp'.toSees L2A.out.1 L2A.out.2 K1.out K2.out HB.out.2.2 (by decide)
          have Hf1 : decide ((1 : Int) < 0) = false := rfl
          rw [F3.out, F4.out, Hfw.out, Hf1] at hcmp
          refine hcmp.mono ?_
          clear hcmp Hf1
          rintro ee ww6 ⟨rfl, hb⟩
          rw [Hcr.out]
          replace wo := wo.below hb
          replace wp' := wp'.below hb
          replace N := N.trans (hb.mono N.size)
          clear hb
          clear wo wp'
          refine hK.out _ _ N (fun hHeld => ?_)
          clear hK K
          try simp only [Act.put, sA, sB, sC]
          refine wpAnyH_ready (rs := [21]) (by kernel_rfl) (by simp) (AllReadyH.cons (gt rfl) (fun K hK => ?_) AllReadyH.nil)
          go_simp
          refine (lawWhole (tY x2 y2) _ (by have := tY_crd x2 y2; unfold Crd at this; omega) (by have := tY_crd x2 y2; unfold Crd at this; omega)).mono ?_
          rintro ee ww7 ⟨u, rfl, hI, hb⟩
          obtain ⟨wa, wc, wz, wb, we, wt, rfl, wo, wp', wn, wm, wv, wu, _⟩ := hI
          obtain ⟨fw, Hfw⟩ : ∃ f, Hid (decide ((tY x2 y2) < 0) = f) := ⟨_, rfl⟩
          have Hf1 : decide ((1 : Int) < 0) = false := rfl
          rw [Hfw.out, Hf1]
          have K1 : Hid (Nrm wz ∧ wz.length ≤ 24 ∧ val wz = mg (tY x2 y2)) := ⟨wn, Nat.le_trans (len_few wo.lim wn wv (mg_le (by have := tY_crd x2 y2; unfold Crd at this; omega))) (by decide), wv⟩
          have K2 : Hid (Nrm wt ∧ wt.length ≤ 24 ∧ val wt = mg 1) := ⟨wm, Nat.le_trans (len_few wp'.lim wm wu (by decide)) (by decide), wu⟩
          clear wn wm wv wu Hf1
          replace N := N.trans (hb.mono N.size)
          clear hb
          refine hK.out _ _ N (fun hHeld => ?_)
          clear hK K
          try simp only [Act.put, sA, sB, sC]
          refine wpAnyH_ready (rs := [22]) (by kernel_rfl) (by simp) (AllReadyH.cons (gt rfl) (fun K hK => ?_) AllReadyH.nil)
          go_simp
          have hcmp := cmpFrac_is n2 d2 (tY x2 y2) 1 a2A b2A wa wb c2A e2A wc we z2A t2A wz wt _ (o3A.toSees.below (M.trans (N.mono M.size))) (o4A.toSees.below (M.trans (N.mono M.size))) wo.toSees wp'.toSees L2A.out.1 L2A.out.2 K1.out K2.out HB.out.2.2 (by decide)
          have Hf1 : decide ((1 : Int) < 0) = false := rfl
          rw [F3.out, F4.out, Hfw.out, Hf1] at hcmp
          refine hcmp.mono ?_
          clear hcmp Hf1
          rintro ee ww8 ⟨rfl, hb⟩
          rw [Hcs.out]
          replace wo := wo.below hb
          replace wp' := wp'.below hb
          replace N := N.trans (hb.mono N.size)
          clear hb
          clear wo wp'
          refine hK.out _ _ N (fun hHeld => ?_)
          clear hK K
          try simp only [Act.put, sA, sB, sC]
          refine takeQ (i := 23) (gt rfl) (by kernel_rfl) (fun _ _ _ h => h) (by rfl) (by intro wq _; go_simp <;> with_reducible rfl) (by assumption) ?_
          try simp only [Act.put, sA, sB, sC]
          refine takeQ (i := 24) (gt rfl) (by kernel_rfl) (fun _ _ _ h => h) (by rfl) (by intro wq _; go_simp <;> with_reducible rfl) (by assumption) ?_
          try simp only [Act.put, sA, sB, sC]
          refine takeQ (i := 25) (gt rfl) (by kernel_rfl) (fun _ _ _ h => h) (by rfl) (by intro wq _; go_simp <;> with_reducible rfl) (by assumption) ?_
          try simp only [Act.put, sA, sB, sC]
          refine wpAnyH_done (by kernel_rfl) ?_ _
          replace N := M.trans (N.mono M.size)
          go_wp2
          go_roundw
          case rel => exact ⟨1, by omega, by first | rfl | go_num, N⟩
          case measure => simp [intOf]
        · skip
          have Q1 : Hid (cmpZ (n1 * 1) (tX x3 y3 * d1) * cmpZ (n1 * 1) (tX x4 y4 * d1) ≤ 0) := cmpZ_between (show _ from by rw [Int.mul_comm]; exact BR.2.2.1)
          have Q2 : Hid (cmpZ (n2 * 1) (tY x3 y3 * d2) * cmpZ (n2 * 1) (tY x4 y4 * d2) ≤ 0) := cmpZ_between (show _ from by rw [Int.mul_comm]; exact BR.2.2.2)
          have LR : Hid (W5.heap.size ≤ wr.heap.size) := N.size
          have P1 := (Box2.new wr (lo := wr.heap.size) (Nat.le_refl _) (.int .i64 x3) (.int .i64 y3) 25).below (below1 _ (.cells #[.int .i64 x4, .int .i64 y4] 25))
          have P2 := Box2.new (wr.alloc (.cells #[.int .i64 x3, .int .i64 y3] 25)) (lo := wr.heap.size) (by simp) (.int .i64 x4) (.int .i64 y4) 25
          rw [World.size_alloc] at P2
          have sA0' := bat N sA0
          have sA1' := bat N sA1
          have sA2' := bat N sA2
          have sA3' := bat N sA3
          have sB0' := bat N sB0
          have sB1' := bat N sB1
          have sB2' := bat N sB2
          have sB3' := bat N sB3
          have sC0' := bat N sC0
          have sC1' := bat N sC1
          obtain ⟨l0, l1, l2⟩ : q4 < wr.heap.size ∧ q4 + 1 < wr.heap.size ∧ q4 + 2 < wr.heap.size := ⟨World.block_lt_of_cell? _ _ sA0', World.block_lt_of_cell? _ _ sB0', World.block_lt_of_cell? _ _ sC0'⟩
          go_wp2_with fail
          clear l0 l1 l2 sA0' sA1' sA2' sA3' sB0' sB1' sB2' sB3' sC0' sC1'
          have hb := below2 wr (.cells #[.int .i64 x3, .int .i64 y3] 25) (.cells #[.int .i64 x4, .int .i64 y4] 25)
          replace N := N.trans (hb.mono N.size)
          clear hb
          generalize (wr.alloc (.cells #[.int .i64 x3, .int .i64 y3] 25)).alloc (.cells #[.int .i64 x4, .int .i64 y4] 25) = Wr at *
          generalize wr.heap.size = qr at *
          refine (specPtOk x3 y3 _).mono ?_
          rintro ee wa15 ⟨rfl, hb⟩
          replace P1 := P1.below hb
          replace P2 := P2.below hb
          replace N := N.trans (hb.mono N.size)
          clear hb
          go_upto_if 122 with fail
          go_cut [15] (fun s W => s = .pointer (some ⟨qr, 0, none⟩) ∧ Box2 qr W (qr) (.int .i64 (tX x3 y3)) (.int .i64 (tY x3 y3)) ∧ Box2 qr W (qr + 1) (.int .i64 x4) (.int .i64 y4) ∧ Below W5.heap.size W5 W)
          case first =>
            cases hp : ptOk x3 y3
            · obtain ⟨e1, e2⟩ := tX_no hp
              obtain ⟨z0, z1, zf, _⟩ := id P1
              have G := Box2.chain N (P1.lowM LR.out) (.int .i64 0) (.int .i64 0)
              have G1 := P1.put (.int .i64 0) (.int .i64 0)
              have G2 := P2.old (p := qr) (by omega) (.int .i64 0) (.int .i64 0)
              go_wp2
              go_meet
              case rel => exact ⟨rfl, by rw [e1, e2]; exact G1, G2, G⟩
            · obtain ⟨e1, e2⟩ := tX_ok hp
              go_wp2
              go_meet
              case rel => exact ⟨rfl, by rw [e1, e2]; exact P1, P2, N⟩
          clear P1 P2 N
          obtain ⟨rfl, P1, P2, N⟩ := hcut
          rename World => Ws
          obtain ⟨e0, e1, _, _⟩ := id P2
          go_wp2_with fail
          clear e0 e1
          refine (specPtOk x4 y4 _).mono ?_
          rintro ee wa16 ⟨rfl, hb⟩
          replace P1 := P1.below hb
          replace P2 := P2.below hb
          replace N := N.trans (hb.mono N.size)
          clear hb
          go_upto_if 126 with fail
          go_cut [16] (fun s W => s = .pointer (some ⟨qr + 1, 0, none⟩) ∧ Box2 qr W (qr + 1) (.int .i64 (tX x4 y4)) (.int .i64 (tY x4 y4)) ∧ Box2 qr W (qr) (.int .i64 (tX x3 y3)) (.int .i64 (tY x3 y3)) ∧ Below W5.heap.size W5 W)
          case first =>
            cases hp : ptOk x4 y4
            · obtain ⟨e1, e2⟩ := tX_no hp
              obtain ⟨z0, z1, zf, _⟩ := id P2
              have G := Box2.chain N (P2.lowM LR.out) (.int .i64 0) (.int .i64 0)
              have G1 := P2.put (.int .i64 0) (.int .i64 0)
              have G2 := P1.old (p := qr + 1) (by omega) (.int .i64 0) (.int .i64 0)
              go_wp2
              go_meet
              case rel => exact ⟨rfl, by rw [e1, e2]; exact G1, G2, G⟩
            · obtain ⟨e1, e2⟩ := tX_ok hp
              go_wp2
              go_meet
              case rel => exact ⟨rfl, by rw [e1, e2]; exact P2, P1, N⟩
          clear P1 P2 N
          obtain ⟨rfl, P2, P1, N⟩ := hcut
          rename World => Wt
          obtain ⟨cp, Hcp⟩ : ∃ z, Hid (cmpZ (n1 * 1) (tX x3 y3 * d1) = z) := ⟨_, rfl⟩
          obtain ⟨cq, Hcq⟩ : ∃ z, Hid (cmpZ (n1 * 1) (tX x4 y4 * d1) = z) := ⟨_, rfl⟩
          obtain ⟨cr, Hcr⟩ : ∃ z, Hid (cmpZ (n2 * 1) (tY x3 y3 * d2) = z) := ⟨_, rfl⟩
          obtain ⟨cs, Hcs⟩ : ∃ z, Hid (cmpZ (n2 * 1) (tY x4 y4 * d2) = z) := ⟨_, rfl⟩
          rw [Hcp.out, Hcq.out] at Q1
          rw [Hcr.out, Hcs.out] at Q2
          have B3 : ∀ a b : Int, -1 ≤ cmpZ a b ∧ cmpZ a b ≤ 1 := fun a b => by unfold cmpZ; split <;> (try split) <;> omega
          obtain ⟨s1, hm1, hs1, hs1b⟩ : ∃ s1 : Int, IntKind.i64.wrap (cp * cq) = s1 ∧ s1 ≤ 0 ∧ decide (0 < s1) = false := by
            have a1 := B3 (n1 * 1) (tX x3 y3 * d1)
            have a2 := B3 (n1 * 1) (tX x4 y4 * d1)
            rw [Hcp.out] at a1
            rw [Hcq.out] at a2
            have q := Q1.out
            have lo : -1 ≤ cp * cq := by
              have c1 : cp = -1 ∨ cp = 0 ∨ cp = 1 := by omega
              rcases c1 with rfl | rfl | rfl <;> omega
            refine ⟨cp * cq, by rw [IntKind.wrap_i64]; omega, q, decide_eq_false (by omega)⟩
          obtain ⟨s2, hm2, hs2, hs2b⟩ : ∃ s2 : Int, IntKind.i64.wrap (cr * cs) = s2 ∧ s2 ≤ 0 ∧ decide (0 < s2) = false := by
            have a1 := B3 (n2 * 1) (tY x3 y3 * d2)
            have a2 := B3 (n2 * 1) (tY x4 y4 * d2)
            rw [Hcr.out] at a1
            rw [Hcs.out] at a2
            have q := Q2.out
            have lo : -1 ≤ cr * cs := by
              have c1 : cr = -1 ∨ cr = 0 ∨ cr = 1 := by omega
              rcases c1 with rfl | rfl | rfl <;> omega
            refine ⟨cr * cs, by rw [IntKind.wrap_i64]; omega, q, decide_eq_false (by omega)⟩
          clear Q1 Q2 B3
          have M := N
          clear N
          have g0' := bat M g0
          have g1' := bat M g1
          have g2' := bat M g2
          have g3' := bat M g3
          have h0' := bat M h0
          have h1' := bat M h1
          have h2' := bat M h2
          have h3' := bat M h3
          obtain ⟨e0, e1, _, _⟩ := id P1
          obtain ⟨e2, e3, _, _⟩ := id P2
          go_upto_region 20 with fail
          refine wp_region_held_drew (S := Below Wt.heap.size Wt) (by kernel_rfl) ((Below.refl _ _).drew) (fun hHeld => ?_)
          have N : Below Wt.heap.size Wt Wt.drew := hHeld
          revert hHeld N
          generalize Wt.drew = ww0
          intro hHeld N
          refine takeQ (i := 0) (gt rfl) (by kernel_rfl) (fun _ _ _ h => h) (by rfl) (by intro wq hSw; have q0 := bat hSw g0'; have q1 := bat hSw g1'; have q2 := bat hSw g2'; have q3 := bat hSw g3'; have q4 := bat hSw h0'; have q5 := bat hSw h1'; have q6 := bat hSw h2'; have q7 := bat hSw h3'; have q8 := bat hSw e0; have q9 := bat hSw e1; have q10 := bat hSw e2; have q11 := bat hSw e3; go_simp <;> with_reducible rfl) (by assumption) ?_
          try simp only [Act.put, sA, sB, sC]
          refine takeQ (i := 1) (gt rfl) (by kernel_rfl) (fun _ _ _ h => h) (by rfl) (by intro wq _; go_simp <;> with_reducible rfl) (by assumption) ?_
          try simp only [Act.put, sA, sB, sC]
          refine takeQ (i := 2) (gt rfl) (by kernel_rfl) (fun _ _ _ h => h) (by rfl) (by intro wq hSw; have q0 := bat hSw g0'; have q1 := bat hSw g1'; have q2 := bat hSw g2'; have q3 := bat hSw g3'; have q4 := bat hSw h0'; have q5 := bat hSw h1'; have q6 := bat hSw h2'; have q7 := bat hSw h3'; have q8 := bat hSw e0; have q9 := bat hSw e1; have q10 := bat hSw e2; have q11 := bat hSw e3; go_simp <;> with_reducible rfl) (by assumption) ?_
          try simp only [Act.put, sA, sB, sC]
          refine takeQ (i := 5) (gt rfl) (by kernel_rfl) (fun _ _ _ h => h) (by rfl) (by intro wq hSw; have q0 := bat hSw g0'; have q1 := bat hSw g1'; have q2 := bat hSw g2'; have q3 := bat hSw g3'; have q4 := bat hSw h0'; have q5 := bat hSw h1'; have q6 := bat hSw h2'; have q7 := bat hSw h3'; have q8 := bat hSw e0; have q9 := bat hSw e1; have q10 := bat hSw e2; have q11 := bat hSw e3; go_simp <;> with_reducible rfl) (by assumption) ?_
          try simp only [Act.put, sA, sB, sC]
          refine takeQ (i := 6) (gt rfl) (by kernel_rfl) (fun _ _ _ h => h) (by rfl) (by intro wq _; go_simp <;> with_reducible rfl) (by assumption) ?_
          try simp only [Act.put, sA, sB, sC]
          refine takeQ (i := 7) (gt rfl) (by kernel_rfl) (fun _ _ _ h => h) (by rfl) (by intro wq hSw; have q0 := bat hSw g0'; have q1 := bat hSw g1'; have q2 := bat hSw g2'; have q3 := bat hSw g3'; have q4 := bat hSw h0'; have q5 := bat hSw h1'; have q6 := bat hSw h2'; have q7 := bat hSw h3'; have q8 := bat hSw e0; have q9 := bat hSw e1; have q10 := bat hSw e2; have q11 := bat hSw e3; go_simp <;> with_reducible rfl) (by assumption) ?_
          try simp only [Act.put, sA, sB, sC]
          refine wpAnyH_ready (rs := [3]) (by kernel_rfl) (by simp) (AllReadyH.cons (gt rfl) (fun K hK => ?_) AllReadyH.nil)
          go_simp
          refine (lawWhole (tX x3 y3) _ (by have := tX_crd x3 y3; unfold Crd at this; omega) (by have := tX_crd x3 y3; unfold Crd at this; omega)).mono ?_
          rintro ee ww1 ⟨u, rfl, hI, hb⟩
          obtain ⟨wa, wc, wz, wb, we, wt, rfl, wo, wp', wn, wm, wv, wu, _⟩ := hI
          obtain ⟨fw, Hfw⟩ : ∃ f, Hid (decide ((tX x3 y3) < 0) = f) := ⟨_, rfl⟩
          have Hf1 : decide ((1 : Int) < 0) = false := rfl
          rw [Hfw.out, Hf1]
          have K1 : Hid (Nrm wz ∧ wz.length ≤ 24 ∧ val wz = mg (tX x3 y3)) := ⟨wn, Nat.le_trans (len_few wo.lim wn wv (mg_le (by have := tX_crd x3 y3; unfold Crd at this; omega))) (by decide), wv⟩
          have K2 : Hid (Nrm wt ∧ wt.length ≤ 24 ∧ val wt = mg 1) := ⟨wm, Nat.le_trans (len_few wp'.lim wm wu (by decide)) (by decide), wu⟩
          clear wn wm wv wu Hf1
          replace N := N.trans (hb.mono N.size)
          clear hb
          refine hK.out _ _ N (fun hHeld => ?_)
          clear hK K
          try simp only [Act.put, sA, sB, sC]
          refine wpAnyH_ready (rs := [4]) (by kernel_rfl) (by simp) (AllReadyH.cons (gt rfl) (fun K hK => ?_) AllReadyH.nil)
          go_simp
          have hcmp := cmpFrac_is n1 d1 (tX x3 y3) 1 a1A b1A wa wb c1A e1A wc we z1A t1A wz wt _ (o1A.toSees.below (M.trans (N.mono M.size))) (o2A.toSees.below (M.trans (N.mono M.size))) wo.toSees wp'.toSees L1A.out.1 L1A.out.2 K1.out K2.out HB.out.2.1 (by decide)
          have Hf1 : decide ((1 : Int) < 0) = false := rfl
          rw [F1.out, F2.out, Hfw.out, Hf1] at hcmp
          refine hcmp.mono ?_
          clear hcmp Hf1
          rintro ee ww2 ⟨rfl, hb⟩
          rw [Hcp.out]
          replace wo := wo.below hb
          replace wp' := wp'.below hb
          replace N := N.trans (hb.mono N.size)
          clear hb
          clear wo wp'
          refine hK.out _ _ N (fun hHeld => ?_)
          clear hK K
          try simp only [Act.put, sA, sB, sC]
          refine wpAnyH_ready (rs := [8]) (by kernel_rfl) (by simp) (AllReadyH.cons (gt rfl) (fun K hK => ?_) AllReadyH.nil)
          go_simp
          refine (lawWhole (tX x4 y4) _ (by have := tX_crd x4 y4; unfold Crd at this; omega) (by have := tX_crd x4 y4; unfold Crd at this; omega)).mono ?_
          rintro ee ww3 ⟨u, rfl, hI, hb⟩
          obtain ⟨wa, wc, wz, wb, we, wt, rfl, wo, wp', wn, wm, wv, wu, _⟩ := hI
          obtain ⟨fw, Hfw⟩ : ∃ f, Hid (decide ((tX x4 y4) < 0) = f) := ⟨_, rfl⟩
          have Hf1 : decide ((1 : Int) < 0) = false := rfl
          rw [Hfw.out, Hf1]
          have K1 : Hid (Nrm wz ∧ wz.length ≤ 24 ∧ val wz = mg (tX x4 y4)) := ⟨wn, Nat.le_trans (len_few wo.lim wn wv (mg_le (by have := tX_crd x4 y4; unfold Crd at this; omega))) (by decide), wv⟩
          have K2 : Hid (Nrm wt ∧ wt.length ≤ 24 ∧ val wt = mg 1) := ⟨wm, Nat.le_trans (len_few wp'.lim wm wu (by decide)) (by decide), wu⟩
          clear wn wm wv wu Hf1
          replace N := N.trans (hb.mono N.size)
          clear hb
          refine hK.out _ _ N (fun hHeld => ?_)
          clear hK K
          try simp only [Act.put, sA, sB, sC]
          refine wpAnyH_ready (rs := [9]) (by kernel_rfl) (by simp) (AllReadyH.cons (gt rfl) (fun K hK => ?_) AllReadyH.nil)
          go_simp
          have hcmp := cmpFrac_is n1 d1 (tX x4 y4) 1 a1A b1A wa wb c1A e1A wc we z1A t1A wz wt _ (o1A.toSees.below (M.trans (N.mono M.size))) (o2A.toSees.below (M.trans (N.mono M.size))) wo.toSees wp'.toSees L1A.out.1 L1A.out.2 K1.out K2.out HB.out.2.1 (by decide)
          have Hf1 : decide ((1 : Int) < 0) = false := rfl
          rw [F1.out, F2.out, Hfw.out, Hf1] at hcmp
          refine hcmp.mono ?_
          clear hcmp Hf1
          rintro ee ww4 ⟨rfl, hb⟩
          rw [Hcq.out]
          replace wo := wo.below hb
          replace wp' := wp'.below hb
          replace N := N.trans (hb.mono N.size)
          clear hb
          clear wo wp'
          refine hK.out _ _ N (fun hHeld => ?_)
          clear hK K
          try simp only [Act.put, sA, sB, sC]
          refine takeQ (i := 10) (gt rfl) (by kernel_rfl) (fun _ _ _ h => h) (by rfl) (by intro wq _; go_simp <;> with_reducible rfl) (by assumption) ?_
          try simp only [Act.put, sA, sB, sC]
          refine takeQ (i := 11) (gt rfl) (by kernel_rfl) (fun _ _ _ h => h) (by rfl) (by intro wq _; go_simp <;> with_reducible rfl) (by assumption) ?_
          try simp only [Act.put, sA, sB, sC]
          refine takeQ (i := 12) (gt rfl) (by kernel_rfl) (fun _ _ _ h => h) (by rfl) (by intro wq _; go_simp <;> with_reducible rfl) (by assumption) ?_
          try simp only [Act.put, sA, sB, sC]
          refine takeQ (i := 13) (gt rfl) (by kernel_rfl) (fun _ _ _ h => h) (by rfl) (by intro wq hSw; have q0 := bat hSw g0'; have q1 := bat hSw g1'; have q2 := bat hSw g2'; have q3 := bat hSw g3'; have q4 := bat hSw h0'; have q5 := bat hSw h1'; have q6 := bat hSw h2'; have q7 := bat hSw h3'; have q8 := bat hSw e0; have q9 := bat hSw e1; have q10 := bat hSw e2; have q11 := bat hSw e3; go_simp <;> with_reducible rfl) (by assumption) ?_
          try simp only [Act.put, sA, sB, sC]
          refine takeQ (i := 14) (gt rfl) (by kernel_rfl) (fun _ _ _ h => h) (by rfl) (by intro wq _; go_simp <;> with_reducible rfl) (by assumption) ?_
          try simp only [Act.put, sA, sB, sC]
          refine takeQ (i := 15) (gt rfl) (by kernel_rfl) (fun _ _ _ h => h) (by rfl) (by intro wq hSw; have q0 := bat hSw g0'; have q1 := bat hSw g1'; have q2 := bat hSw g2'; have q3 := bat hSw g3'; have q4 := bat hSw h0'; have q5 := bat hSw h1'; have q6 := bat hSw h2'; have q7 := bat hSw h3'; have q8 := bat hSw e0; have q9 := bat hSw e1; have q10 := bat hSw e2; have q11 := bat hSw e3; go_simp <;> with_reducible rfl) (by assumption) ?_
          try simp only [Act.put, sA, sB, sC]
          refine takeQ (i := 18) (gt rfl) (by kernel_rfl) (fun _ _ _ h => h) (by rfl) (by intro wq hSw; have q0 := bat hSw g0'; have q1 := bat hSw g1'; have q2 := bat hSw g2'; have q3 := bat hSw g3'; have q4 := bat hSw h0'; have q5 := bat hSw h1'; have q6 := bat hSw h2'; have q7 := bat hSw h3'; have q8 := bat hSw e0; have q9 := bat hSw e1; have q10 := bat hSw e2; have q11 := bat hSw e3; go_simp <;> with_reducible rfl) (by assumption) ?_
          try simp only [Act.put, sA, sB, sC]
          refine takeQ (i := 19) (gt rfl) (by kernel_rfl) (fun _ _ _ h => h) (by rfl) (by intro wq _; go_simp <;> with_reducible rfl) (by assumption) ?_
          try simp only [Act.put, sA, sB, sC]
          refine takeQ (i := 20) (gt rfl) (by kernel_rfl) (fun _ _ _ h => h) (by rfl) (by intro wq hSw; have q0 := bat hSw g0'; have q1 := bat hSw g1'; have q2 := bat hSw g2'; have q3 := bat hSw g3'; have q4 := bat hSw h0'; have q5 := bat hSw h1'; have q6 := bat hSw h2'; have q7 := bat hSw h3'; have q8 := bat hSw e0; have q9 := bat hSw e1; have q10 := bat hSw e2; have q11 := bat hSw e3; go_simp <;> with_reducible rfl) (by assumption) ?_
          try simp only [Act.put, sA, sB, sC]
          refine wpAnyH_ready (rs := [16]) (by kernel_rfl) (by simp) (AllReadyH.cons (gt rfl) (fun K hK => ?_) AllReadyH.nil)
          go_simp
          refine (lawWhole (tY x3 y3) _ (by have := tY_crd x3 y3; unfold Crd at this; omega) (by have := tY_crd x3 y3; unfold Crd at this; omega)).mono ?_
          rintro ee ww5 ⟨u, rfl, hI, hb⟩
          obtain ⟨wa, wc, wz, wb, we, wt, rfl, wo, wp', wn, wm, wv, wu, _⟩ := hI
          obtain ⟨fw, Hfw⟩ : ∃ f, Hid (decide ((tY x3 y3) < 0) = f) := ⟨_, rfl⟩
          have Hf1 : decide ((1 : Int) < 0) = false := rfl
          rw [Hfw.out, Hf1]
          have K1 : Hid (Nrm wz ∧ wz.length ≤ 24 ∧ val wz = mg (tY x3 y3)) := ⟨wn, Nat.le_trans (len_few wo.lim wn wv (mg_le (by have := tY_crd x3 y3; unfold Crd at this; omega))) (by decide), wv⟩
          have K2 : Hid (Nrm wt ∧ wt.length ≤ 24 ∧ val wt = mg 1) := ⟨wm, Nat.le_trans (len_few wp'.lim wm wu (by decide)) (by decide), wu⟩
          clear wn wm wv wu Hf1
          replace N := N.trans (hb.mono N.size)
          clear hb
          refine hK.out _ _ N (fun hHeld => ?_)
          clear hK K
          try simp only [Act.put, sA, sB, sC]
          refine wpAnyH_ready (rs := [17]) (by kernel_rfl) (by simp) (AllReadyH.cons (gt rfl) (fun K hK => ?_) AllReadyH.nil)
          go_simp
          have hcmp := cmpFrac_is n2 d2 (tY x3 y3) 1 a2A b2A wa wb c2A e2A wc we z2A t2A wz wt _ (o3A.toSees.below (M.trans (N.mono M.size))) (o4A.toSees.below (M.trans (N.mono M.size))) wo.toSees wp'.toSees L2A.out.1 L2A.out.2 K1.out K2.out HB.out.2.2 (by decide)
          have Hf1 : decide ((1 : Int) < 0) = false := rfl
          rw [F3.out, F4.out, Hfw.out, Hf1] at hcmp
          refine hcmp.mono ?_
          clear hcmp Hf1
          rintro ee ww6 ⟨rfl, hb⟩
          rw [Hcr.out]
          replace wo := wo.below hb
          replace wp' := wp'.below hb
          replace N := N.trans (hb.mono N.size)
          clear hb
          clear wo wp'
          refine hK.out _ _ N (fun hHeld => ?_)
          clear hK K
          try simp only [Act.put, sA, sB, sC]
          refine wpAnyH_ready (rs := [21]) (by kernel_rfl) (by simp) (AllReadyH.cons (gt rfl) (fun K hK => ?_) AllReadyH.nil)
          go_simp
          refine (lawWhole (tY x4 y4) _ (by have := tY_crd x4 y4; unfold Crd at this; omega) (by have := tY_crd x4 y4; unfold Crd at this; omega)).mono ?_
          rintro ee ww7 ⟨u, rfl, hI, hb⟩
          obtain ⟨wa, wc, wz, wb, we, wt, rfl, wo, wp', wn, wm, wv, wu, _⟩ := hI
          obtain ⟨fw, Hfw⟩ : ∃ f, Hid (decide ((tY x4 y4) < 0) = f) := ⟨_, rfl⟩
          have Hf1 : decide ((1 : Int) < 0) = false := rfl
          rw [Hfw.out, Hf1]
          have K1 : Hid (Nrm wz ∧ wz.length ≤ 24 ∧ val wz = mg (tY x4 y4)) := ⟨wn, Nat.le_trans (len_few wo.lim wn wv (mg_le (by have := tY_crd x4 y4; unfold Crd at this; omega))) (by decide), wv⟩
          have K2 : Hid (Nrm wt ∧ wt.length ≤ 24 ∧ val wt = mg 1) := ⟨wm, Nat.le_trans (len_few wp'.lim wm wu (by decide)) (by decide), wu⟩
          clear wn wm wv wu Hf1
          replace N := N.trans (hb.mono N.size)
          clear hb
          refine hK.out _ _ N (fun hHeld => ?_)
          clear hK K
          try simp only [Act.put, sA, sB, sC]
          refine wpAnyH_ready (rs := [22]) (by kernel_rfl) (by simp) (AllReadyH.cons (gt rfl) (fun K hK => ?_) AllReadyH.nil)
          go_simp
          have hcmp := cmpFrac_is n2 d2 (tY x4 y4) 1 a2A b2A wa wb c2A e2A wc we z2A t2A wz wt _ (o3A.toSees.below (M.trans (N.mono M.size))) (o4A.toSees.below (M.trans (N.mono M.size))) wo.toSees wp'.toSees L2A.out.1 L2A.out.2 K1.out K2.out HB.out.2.2 (by decide)
          have Hf1 : decide ((1 : Int) < 0) = false := rfl
          rw [F3.out, F4.out, Hfw.out, Hf1] at hcmp
          refine hcmp.mono ?_
          clear hcmp Hf1
          rintro ee ww8 ⟨rfl, hb⟩
          rw [Hcs.out]
          replace wo := wo.below hb
          replace wp' := wp'.below hb
          replace N := N.trans (hb.mono N.size)
          clear hb
          clear wo wp'
          refine hK.out _ _ N (fun hHeld => ?_)
          clear hK K
          try simp only [Act.put, sA, sB, sC]
          refine takeQ (i := 23) (gt rfl) (by kernel_rfl) (fun _ _ _ h => h) (by rfl) (by intro wq _; go_simp <;> with_reducible rfl) (by assumption) ?_
          try simp only [Act.put, sA, sB, sC]
          refine takeQ (i := 24) (gt rfl) (by kernel_rfl) (fun _ _ _ h => h) (by rfl) (by intro wq _; go_simp <;> with_reducible rfl) (by assumption) ?_
          try simp only [Act.put, sA, sB, sC]
          refine takeQ (i := 25) (gt rfl) (by kernel_rfl) (fun _ _ _ h => h) (by rfl) (by intro wq _; go_simp <;> with_reducible rfl) (by assumption) ?_
          try simp only [Act.put, sA, sB, sC]
          refine wpAnyH_done (by kernel_rfl) ?_ _
          replace N := M.trans (N.mono M.size)
          go_wp2
          go_roundw
          case rel => exact ⟨2, by omega, by first | rfl | go_num, N⟩
          case measure => simp [intOf]
        · go_wp2
          go_ret
          exact ⟨rfl, B.trans (N.mono B.size)⟩
    · have hk1 : (kk != 1) = true := by rw [bne_iff_ne]; exact hk
      clear hk
      go_wp2
      go_ret
      exact ⟨rfl, B⟩
  · have hd : decide (1048576 < (n : Int)) = true := decide_eq_true (by omega)
    go_enter Try.func3, Try.ntmps3
    go_wp2_with fail
    refine (big_any a n cap _).mono ?_
    rintro e w0 ⟨rfl, rfl⟩
    rw [hd]
    go_wp2
    go_ret
    exact ⟨rfl, Below.refl _ _⟩
end Go.Proofs.Ytfhcbgjnojcigaa
