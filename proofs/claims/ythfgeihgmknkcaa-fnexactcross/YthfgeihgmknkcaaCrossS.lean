/- Cross of the specification. -/
import Derived.Test.YthfgeihgmknkcaaCrossD
import Derived.Test.YthfgeihgmknkcaaBase
import Derived.Test.YthfgeihgmknkcaaEnds
import Derived.Test.YthfgeihgmknkcaaCrsg
import Derived.Test.YthfgeihgmknkcaaPtH
import Derived.Test.YthfgeihgmknkcaaAddF
import Derived.Test.YthfgeihgmknkcaaSNeg
import Derived.Test.YthfgeihgmknkcaaSLow
import Derived.Test.YthfgeihgmknkcaaEq
namespace Go.Proofs.Ythfgeihgmknkcaa
open Go.RowKit

theorem Box2.lowM {lo lo' p : Nat} {w : World} {x0 x1 : Value} (h : Box2 lo w p x0 x1) (k : lo' ≤ lo) : Box2 lo' w p x0 x1 := ⟨h.c0, h.c1, h.fr, Nat.le_trans k h.lo⟩
set_option maxRecDepth 20000 in
set_option maxHeartbeats 64000000 in
theorem specCross (x1 y1 x2 y2 x3 y3 x4 y4 : Int) (w : World) (kk n1 d1 n2 d2 : Int) (hc : crV (tX x1 y1) (tY x1 y1) (tX x2 y2) (tY x2 y2) (tX x3 y3) (tY x3 y3) (tX x4 y4) (tY x4 y4) = (kk, n1, d1, n2, d2)) :
    Calls Try.prog 7 #[.agg #[.int .i64 x1, .int .i64 y1], .agg #[.int .i64 x2, .int .i64 y2], .agg #[.int .i64 x3, .int .i64 y3], .agg #[.int .i64 x4, .int .i64 y4]] w fun e w' => ∃ v1 v2, e = .returned (.tuple #[.int .i64 kk, v1, v2]) ∧ TwoFr w.heap.size w' v1 v2 n1 d1 n2 d2 ∧ Below w.heap.size w w' := by
  obtain ⟨X1, HX1⟩ : ∃ z, Hid (tX x1 y1 = z) := ⟨_, rfl⟩
  obtain ⟨Y1, HY1⟩ : ∃ z, Hid (tY x1 y1 = z) := ⟨_, rfl⟩
  have C1 : Crd X1 := by rw [← HX1.out]; exact tX_crd _ _
  have D1 : Crd Y1 := by rw [← HY1.out]; exact tY_crd _ _
  obtain ⟨X2, HX2⟩ : ∃ z, Hid (tX x2 y2 = z) := ⟨_, rfl⟩
  obtain ⟨Y2, HY2⟩ : ∃ z, Hid (tY x2 y2 = z) := ⟨_, rfl⟩
  have C2 : Crd X2 := by rw [← HX2.out]; exact tX_crd _ _
  have D2 : Crd Y2 := by rw [← HY2.out]; exact tY_crd _ _
  obtain ⟨X3, HX3⟩ : ∃ z, Hid (tX x3 y3 = z) := ⟨_, rfl⟩
  obtain ⟨Y3, HY3⟩ : ∃ z, Hid (tY x3 y3 = z) := ⟨_, rfl⟩
  have C3 : Crd X3 := by rw [← HX3.out]; exact tX_crd _ _
  have D3 : Crd Y3 := by rw [← HY3.out]; exact tY_crd _ _
  obtain ⟨X4, HX4⟩ : ∃ z, Hid (tX x4 y4 = z) := ⟨_, rfl⟩
  obtain ⟨Y4, HY4⟩ : ∃ z, Hid (tY x4 y4 = z) := ⟨_, rfl⟩
  have C4 : Crd X4 := by rw [← HX4.out]; exact tX_crd _ _
  have D4 : Crd Y4 := by rw [← HY4.out]; exact tY_crd _ _
  rw [HX1.out, HY1.out, HX2.out, HY2.out, HX3.out, HY3.out, HX4.out, HY4.out] at hc
  have HC : Hid (crV X1 Y1 X2 Y2 X3 Y3 X4 Y4 = (kk, n1, d1, n2, d2)) := hc
  clear hc
  have V1 : Box2 w.heap.size ((((((w.alloc (.cells #[.int .i64 x1, .int .i64 y1] 31)).alloc (.cells #[.int .i64 x2, .int .i64 y2] 31)).alloc (.cells #[.int .i64 x3, .int .i64 y3] 31)).alloc (.cells #[.int .i64 x4, .int .i64 y4] 31)).alloc (.cells #[.bool false, .slice none 0 0, .bool false, .slice none 0 0] 28)).alloc (.cells #[.bool false, .slice none 0 0, .bool false, .slice none 0 0] 28)) (w.heap.size) (.int .i64 x1) (.int .i64 y1) := by refine ⟨?_, ?_, ?_, by omega⟩ <;> simp [go_sem]
  have V2 : Box2 w.heap.size ((((((w.alloc (.cells #[.int .i64 x1, .int .i64 y1] 31)).alloc (.cells #[.int .i64 x2, .int .i64 y2] 31)).alloc (.cells #[.int .i64 x3, .int .i64 y3] 31)).alloc (.cells #[.int .i64 x4, .int .i64 y4] 31)).alloc (.cells #[.bool false, .slice none 0 0, .bool false, .slice none 0 0] 28)).alloc (.cells #[.bool false, .slice none 0 0, .bool false, .slice none 0 0] 28)) (w.heap.size + 1) (.int .i64 x2) (.int .i64 y2) := by refine ⟨?_, ?_, ?_, by omega⟩ <;> simp [go_sem]
  have V3 : Box2 w.heap.size ((((((w.alloc (.cells #[.int .i64 x1, .int .i64 y1] 31)).alloc (.cells #[.int .i64 x2, .int .i64 y2] 31)).alloc (.cells #[.int .i64 x3, .int .i64 y3] 31)).alloc (.cells #[.int .i64 x4, .int .i64 y4] 31)).alloc (.cells #[.bool false, .slice none 0 0, .bool false, .slice none 0 0] 28)).alloc (.cells #[.bool false, .slice none 0 0, .bool false, .slice none 0 0] 28)) (w.heap.size + 1 + 1) (.int .i64 x3) (.int .i64 y3) := by refine ⟨?_, ?_, ?_, by omega⟩ <;> simp [go_sem]
  have V4 : Box2 w.heap.size ((((((w.alloc (.cells #[.int .i64 x1, .int .i64 y1] 31)).alloc (.cells #[.int .i64 x2, .int .i64 y2] 31)).alloc (.cells #[.int .i64 x3, .int .i64 y3] 31)).alloc (.cells #[.int .i64 x4, .int .i64 y4] 31)).alloc (.cells #[.bool false, .slice none 0 0, .bool false, .slice none 0 0] 28)).alloc (.cells #[.bool false, .slice none 0 0, .bool false, .slice none 0 0] 28)) (w.heap.size + 1 + 1 + 1) (.int .i64 x4) (.int .i64 y4) := by refine ⟨?_, ?_, ?_, by omega⟩ <;> simp [go_sem]
  have R1 : Box4 w.heap.size ((((((w.alloc (.cells #[.int .i64 x1, .int .i64 y1] 31)).alloc (.cells #[.int .i64 x2, .int .i64 y2] 31)).alloc (.cells #[.int .i64 x3, .int .i64 y3] 31)).alloc (.cells #[.int .i64 x4, .int .i64 y4] 31)).alloc (.cells #[.bool false, .slice none 0 0, .bool false, .slice none 0 0] 28)).alloc (.cells #[.bool false, .slice none 0 0, .bool false, .slice none 0 0] 28)) (w.heap.size + 1 + 1 + 1 + 1) (.bool false) (.slice none 0 0) (.bool false) (.slice none 0 0) := by refine ⟨?_, ?_, ?_, ?_, ?_, by omega⟩ <;> simp [go_sem]
  have R2 : Box4 w.heap.size ((((((w.alloc (.cells #[.int .i64 x1, .int .i64 y1] 31)).alloc (.cells #[.int .i64 x2, .int .i64 y2] 31)).alloc (.cells #[.int .i64 x3, .int .i64 y3] 31)).alloc (.cells #[.int .i64 x4, .int .i64 y4] 31)).alloc (.cells #[.bool false, .slice none 0 0, .bool false, .slice none 0 0] 28)).alloc (.cells #[.bool false, .slice none 0 0, .bool false, .slice none 0 0] 28)) (w.heap.size + 1 + 1 + 1 + 1 + 1) (.bool false) (.slice none 0 0) (.bool false) (.slice none 0 0) := by refine ⟨?_, ?_, ?_, ?_, ?_, by omega⟩ <;> simp [go_sem]
  have B : Below w.heap.size w ((((((w.alloc (.cells #[.int .i64 x1, .int .i64 y1] 31)).alloc (.cells #[.int .i64 x2, .int .i64 y2] 31)).alloc (.cells #[.int .i64 x3, .int .i64 y3] 31)).alloc (.cells #[.int .i64 x4, .int .i64 y4] 31)).alloc (.cells #[.bool false, .slice none 0 0, .bool false, .slice none 0 0] 28)).alloc (.cells #[.bool false, .slice none 0 0, .bool false, .slice none 0 0] 28)) := (ptbelow4 w x1 y1 x2 y2 x3 y3 x4 y4 31).trans ((below2 _ _ _).mono (ptbelow4 w x1 y1 x2 y2 x3 y3 x4 y4 31).size)
  have HW : w.heap.size + 1 + 1 + 1 + 1 + 1 < ((((((w.alloc (.cells #[.int .i64 x1, .int .i64 y1] 31)).alloc (.cells #[.int .i64 x2, .int .i64 y2] 31)).alloc (.cells #[.int .i64 x3, .int .i64 y3] 31)).alloc (.cells #[.int .i64 x4, .int .i64 y4] 31)).alloc (.cells #[.bool false, .slice none 0 0, .bool false, .slice none 0 0] 28)).alloc (.cells #[.bool false, .slice none 0 0, .bool false, .slice none 0 0] 28)).heap.size := R2.lt
  go_enter Try.func7, Try.ntmps7
  go_wp2_with fail
  generalize ((((((w.alloc (.cells #[.int .i64 x1, .int .i64 y1] 31)).alloc (.cells #[.int .i64 x2, .int .i64 y2] 31)).alloc (.cells #[.int .i64 x3, .int .i64 y3] 31)).alloc (.cells #[.int .i64 x4, .int .i64 y4] 31)).alloc (.cells #[.bool false, .slice none 0 0, .bool false, .slice none 0 0] 28)).alloc (.cells #[.bool false, .slice none 0 0, .bool false, .slice none 0 0] 28)) = W0 at *
  refine (specTakenPt x1 y1 _).mono ?_
  rintro e w1 ⟨rfl, hb⟩
  rw [HX1.out, HY1.out]
  replace V1 := V1.below hb
  replace V2 := V2.below hb
  replace V3 := V3.below hb
  replace V4 := V4.below hb
  replace R1 := R1.below hb
  replace R2 := R2.below hb
  replace B := B.trans (hb.mono B.size)
  clear hb
  have HW1 : w.heap.size + 1 + 1 + 1 + 1 + 1 < w1.heap.size := R2.lt
  obtain ⟨k0, k1, kf, _⟩ := id V1
  obtain ⟨j0, j1, _, _⟩ := V2.old (p := w.heap.size) (by omega) (.int .i64 X1) (.int .i64 Y1)
  go_wp2_with fail
  clear k0 k1 kf j0 j1
  replace B := Box2.chain B V1 (.int .i64 X1) (.int .i64 Y1)
  replace V2 := V2.old (p := w.heap.size) (by omega) (.int .i64 X1) (.int .i64 Y1)
  replace V3 := V3.old (p := w.heap.size) (by omega) (.int .i64 X1) (.int .i64 Y1)
  replace V4 := V4.old (p := w.heap.size) (by omega) (.int .i64 X1) (.int .i64 Y1)
  replace V1 := V1.put (.int .i64 X1) (.int .i64 Y1)
  replace R1 := R1.oldx (p := w.heap.size) (by omega) (.int .i64 X1) (.int .i64 Y1)
  replace R2 := R2.oldx (p := w.heap.size) (by omega) (.int .i64 X1) (.int .i64 Y1)
  have HV1 : w.heap.size + 1 + 1 + 1 + 1 + 1 < ((w1.setCell ⟨w.heap.size, 0, none⟩ (.int .i64 X1)).setCell ⟨w.heap.size, 1, none⟩ (.int .i64 Y1)).heap.size := R2.lt
  generalize (w1.setCell ⟨w.heap.size, 0, none⟩ (.int .i64 X1)).setCell ⟨w.heap.size, 1, none⟩ (.int .i64 Y1) = U1 at *
  refine (specTakenPt x2 y2 _).mono ?_
  rintro e w2 ⟨rfl, hb⟩
  rw [HX2.out, HY2.out]
  replace V1 := V1.below hb
  replace V2 := V2.below hb
  replace V3 := V3.below hb
  replace V4 := V4.below hb
  replace R1 := R1.below hb
  replace R2 := R2.below hb
  replace B := B.trans (hb.mono B.size)
  clear hb
  have HW2 : w.heap.size + 1 + 1 + 1 + 1 + 1 < w2.heap.size := R2.lt
  obtain ⟨k0, k1, kf, _⟩ := id V2
  obtain ⟨j0, j1, _, _⟩ := V3.old (p := w.heap.size + 1) (by omega) (.int .i64 X2) (.int .i64 Y2)
  go_wp2_with fail
  clear k0 k1 kf j0 j1
  replace B := Box2.chain B V2 (.int .i64 X2) (.int .i64 Y2)
  replace V1 := V1.old (p := w.heap.size + 1) (by omega) (.int .i64 X2) (.int .i64 Y2)
  replace V3 := V3.old (p := w.heap.size + 1) (by omega) (.int .i64 X2) (.int .i64 Y2)
  replace V4 := V4.old (p := w.heap.size + 1) (by omega) (.int .i64 X2) (.int .i64 Y2)
  replace V2 := V2.put (.int .i64 X2) (.int .i64 Y2)
  replace R1 := R1.oldx (p := w.heap.size + 1) (by omega) (.int .i64 X2) (.int .i64 Y2)
  replace R2 := R2.oldx (p := w.heap.size + 1) (by omega) (.int .i64 X2) (.int .i64 Y2)
  have HV2 : w.heap.size + 1 + 1 + 1 + 1 + 1 < ((w2.setCell ⟨w.heap.size + 1, 0, none⟩ (.int .i64 X2)).setCell ⟨w.heap.size + 1, 1, none⟩ (.int .i64 Y2)).heap.size := R2.lt
  generalize (w2.setCell ⟨w.heap.size + 1, 0, none⟩ (.int .i64 X2)).setCell ⟨w.heap.size + 1, 1, none⟩ (.int .i64 Y2) = U2 at *
  refine (specTakenPt x3 y3 _).mono ?_
  rintro e w3 ⟨rfl, hb⟩
  rw [HX3.out, HY3.out]
  replace V1 := V1.below hb
  replace V2 := V2.below hb
  replace V3 := V3.below hb
  replace V4 := V4.below hb
  replace R1 := R1.below hb
  replace R2 := R2.below hb
  replace B := B.trans (hb.mono B.size)
  clear hb
  have HW3 : w.heap.size + 1 + 1 + 1 + 1 + 1 < w3.heap.size := R2.lt
  obtain ⟨k0, k1, kf, _⟩ := id V3
  obtain ⟨j0, j1, _, _⟩ := V4.old (p := w.heap.size + 1 + 1) (by omega) (.int .i64 X3) (.int .i64 Y3)
  go_wp2_with fail
  clear k0 k1 kf j0 j1
  replace B := Box2.chain B V3 (.int .i64 X3) (.int .i64 Y3)
  replace V1 := V1.old (p := w.heap.size + 1 + 1) (by omega) (.int .i64 X3) (.int .i64 Y3)
  replace V2 := V2.old (p := w.heap.size + 1 + 1) (by omega) (.int .i64 X3) (.int .i64 Y3)
  replace V4 := V4.old (p := w.heap.size + 1 + 1) (by omega) (.int .i64 X3) (.int .i64 Y3)
  replace V3 := V3.put (.int .i64 X3) (.int .i64 Y3)
  replace R1 := R1.oldx (p := w.heap.size + 1 + 1) (by omega) (.int .i64 X3) (.int .i64 Y3)
  replace R2 := R2.oldx (p := w.heap.size + 1 + 1) (by omega) (.int .i64 X3) (.int .i64 Y3)
  have HV3 : w.heap.size + 1 + 1 + 1 + 1 + 1 < ((w3.setCell ⟨w.heap.size + 1 + 1, 0, none⟩ (.int .i64 X3)).setCell ⟨w.heap.size + 1 + 1, 1, none⟩ (.int .i64 Y3)).heap.size := R2.lt
  generalize (w3.setCell ⟨w.heap.size + 1 + 1, 0, none⟩ (.int .i64 X3)).setCell ⟨w.heap.size + 1 + 1, 1, none⟩ (.int .i64 Y3) = U3 at *
  refine (specTakenPt x4 y4 _).mono ?_
  rintro e w4 ⟨rfl, hb⟩
  rw [HX4.out, HY4.out]
  replace V1 := V1.below hb
  replace V2 := V2.below hb
  replace V3 := V3.below hb
  replace V4 := V4.below hb
  replace R1 := R1.below hb
  replace R2 := R2.below hb
  replace B := B.trans (hb.mono B.size)
  clear hb
  have HW4 : w.heap.size + 1 + 1 + 1 + 1 + 1 < w4.heap.size := R2.lt
  obtain ⟨k0, k1, kf, _⟩ := id V4
  obtain ⟨j10, j11, _, _⟩ := V1.old (p := w.heap.size + 1 + 1 + 1) (by omega) (.int .i64 X4) (.int .i64 Y4)
  obtain ⟨j20, j21, _, _⟩ := V2.old (p := w.heap.size + 1 + 1 + 1) (by omega) (.int .i64 X4) (.int .i64 Y4)
  obtain ⟨j30, j31, _, _⟩ := V3.old (p := w.heap.size + 1 + 1 + 1) (by omega) (.int .i64 X4) (.int .i64 Y4)
  obtain ⟨j40, j41, _, _⟩ := V4.put (.int .i64 X4) (.int .i64 Y4)
  go_wp2_with fail
  clear k0 k1 kf j10 j11 j20 j21 j30 j31 j40 j41
  replace B := Box2.chain B V4 (.int .i64 X4) (.int .i64 Y4)
  replace V1 := V1.old (p := w.heap.size + 1 + 1 + 1) (by omega) (.int .i64 X4) (.int .i64 Y4)
  replace V2 := V2.old (p := w.heap.size + 1 + 1 + 1) (by omega) (.int .i64 X4) (.int .i64 Y4)
  replace V3 := V3.old (p := w.heap.size + 1 + 1 + 1) (by omega) (.int .i64 X4) (.int .i64 Y4)
  replace V4 := V4.put (.int .i64 X4) (.int .i64 Y4)
  replace R1 := R1.oldx (p := w.heap.size + 1 + 1 + 1) (by omega) (.int .i64 X4) (.int .i64 Y4)
  replace R2 := R2.oldx (p := w.heap.size + 1 + 1 + 1) (by omega) (.int .i64 X4) (.int .i64 Y4)
  have HV4 : w.heap.size + 1 + 1 + 1 + 1 + 1 < ((w4.setCell ⟨w.heap.size + 1 + 1 + 1, 0, none⟩ (.int .i64 X4)).setCell ⟨w.heap.size + 1 + 1 + 1, 1, none⟩ (.int .i64 Y4)).heap.size := R2.lt
  generalize (w4.setCell ⟨w.heap.size + 1 + 1 + 1, 0, none⟩ (.int .i64 X4)).setCell ⟨w.heap.size + 1 + 1 + 1, 1, none⟩ (.int .i64 Y4) = U4 at *
  clear HW HW1 HW2 HW3 HW4 HV1 HV2 HV3
  refine (l3Meet_any X1 Y1 X2 Y2 X3 Y3 X4 Y4 _ C1 D1 C2 D2 C3 D3 C4 D4).mono ?_
  rintro e w5 ⟨rfl, hb⟩
  rw [← met_same]
  replace V1 := V1.below hb
  replace V2 := V2.below hb
  replace V3 := V3.below hb
  replace V4 := V4.below hb
  replace R1 := R1.below hb
  replace R2 := R2.below hb
  replace B := B.trans (hb.mono B.size)
  clear hb
  clear HV4
  have HW2 : w.heap.size + 1 + 1 + 1 + 1 + 1 < w5.heap.size := R2.lt
  cases hm : metI X1 Y1 X2 Y2 X3 Y3 X4 Y4
  · have E := HC.out
    unfold crV at E
    rw [hm, if_neg (by decide)] at E
    simp only [Prod.mk.injEq] at E
    obtain ⟨rfl, rfl, rfl, rfl, rfl⟩ := E
    go_wp2_with fail
    refine (specWhole 0 _ (by decide) (by decide)).mono ?_
    rintro e w3 ⟨v3, rfl, I3, hb⟩
    have zw := HW2
    have Z3 := hb.size
    replace R1 := R1.below hb
    replace R2 := R2.below hb
    replace B := B.trans (hb.mono B.size)
    clear hb
    go_wp2_with fail
    refine (specWhole 0 _ (by decide) (by decide)).mono ?_
    rintro e w4 ⟨v4, rfl, I4, hb4⟩
    have TF := TwoFr.of I3 hb4 I4 Z3 (Nat.le_refl _)
    replace R1 := R1.below hb4
    replace R2 := R2.below hb4
    replace B := B.trans (hb4.mono B.size)
    clear hb4
    obtain ⟨g1, q1, m1, r1, g2, q2, m2, r2, g3, q3, m3, r3, g4, q4, m4, r4, E1, E2⟩ := TF.is'
    subst E1
    subst E2
    obtain ⟨s0, s1, s2, s3, sf, _⟩ := id R1
    obtain ⟨u0, u1, u2, u3, uf, _⟩ := id R2
    have F1 := (((TF.put (b := w.heap.size + 1 + 1 + 1 + 1) (by omega) (.bool g1) (.slice q1 m1 r1) (.bool g2) (.slice q2 m2 r2)).put (b := w.heap.size + 1 + 1 + 1 + 1 + 1) (by omega) (.bool g3) (.slice q3 m3 r3) (.bool g4) (.slice q4 m4 r4))).base_le (show w.heap.size ≤ _ by omega)
    have F3 := Box4.chain (Box4.chain B R1 (.bool g1) (.slice q1 m1 r1) (.bool g2) (.slice q2 m2 r2)) (R2.old (by omega) (.bool g1) (.slice q1 m1 r1) (.bool g2) (.slice q2 m2 r2)) (.bool g3) (.slice q3 m3 r3) (.bool g4) (.slice q4 m4 r4)
    go_wp2
    exact bodyPost_ret (v := .tuple #[.int .i64 0, .agg #[.bool g1, .slice q1 m1 r1, .bool g2, .slice q2 m2 r2], .agg #[.bool g3, .slice q3 m3 r3, .bool g4, .slice q4 m4 r4]]) (by simp [results, Try.results7, go_sem, s0, s1, s2, s3, u0, u1, u2, u3]) rfl ⟨_, _, rfl, F1, F3⟩
  · have HM : Hid (metI X1 Y1 X2 Y2 X3 Y3 X4 Y4 = true) := hm
    clear hm
    obtain ⟨j10, j11, _, _⟩ := id V1
    obtain ⟨j20, j21, _, _⟩ := id V2
    obtain ⟨j30, j31, _, _⟩ := id V3
    obtain ⟨j40, j41, _, _⟩ := id V4
    go_wp2_with fail
    clear j10 j11 j20 j21 j30 j31 j40 j41
    refine (l3Ends_any X1 Y1 X2 Y2 X3 Y3 X4 Y4 _ C1 D1 C2 D2 C3 D3 C4 D4).mono ?_
    rintro e w6 ⟨v6, rfl, RP, hb⟩
    have B6 := HW2
    rw [shL_shared] at RP
    replace V1 := V1.below hb
    replace V2 := V2.below hb
    replace V3 := V3.below hb
    replace V4 := V4.below hb
    replace R1 := R1.below hb
    replace R2 := R2.below hb
    replace B := B.trans (hb.mono B.size)
    clear hb
    clear HW2
    have HW2 : w.heap.size + 1 + 1 + 1 + 1 + 1 < w6.heap.size := R2.lt
    obtain ⟨ll, HLL⟩ : ∃ l, Hid (shared X1 Y1 X2 Y2 X3 Y3 X4 Y4 = l) := ⟨_, rfl⟩
    rw [HLL.out] at RP
    obtain ⟨av, cv, EV, _⟩ := RP.shape
    subst EV
    by_cases l2 : 1 < ll.length
    · have E := HC.out
      unfold crV at E
      rw [HM.out, if_pos rfl, HLL.out, if_neg (by omega), if_neg (by omega)] at E
      simp only [Prod.mk.injEq] at E
      obtain ⟨rfl, rfl, rfl, rfl, rfl⟩ := E
      have hl2 : (1 : Int) < (ll.length : Int) := by omega
      clear l2
      go_wp2_with fail
      refine (specWhole 0 _ (by decide) (by decide)).mono ?_
      rintro e w3 ⟨v3, rfl, I3, hb⟩
      have zw := HW2
      have Z3 := hb.size
      replace R1 := R1.below hb
      replace R2 := R2.below hb
      replace B := B.trans (hb.mono B.size)
      clear hb
      go_wp2_with fail
      refine (specWhole 0 _ (by decide) (by decide)).mono ?_
      rintro e w4 ⟨v4, rfl, I4, hb4⟩
      have TF := TwoFr.of I3 hb4 I4 Z3 (Nat.le_refl _)
      replace R1 := R1.below hb4
      replace R2 := R2.below hb4
      replace B := B.trans (hb4.mono B.size)
      clear hb4
      obtain ⟨g1, q1, m1, r1, g2, q2, m2, r2, g3, q3, m3, r3, g4, q4, m4, r4, E1, E2⟩ := TF.is'
      subst E1
      subst E2
      obtain ⟨s0, s1, s2, s3, sf, _⟩ := id R1
      obtain ⟨u0, u1, u2, u3, uf, _⟩ := id R2
      have F1 := (((TF.put (b := w.heap.size + 1 + 1 + 1 + 1) (by omega) (.bool g1) (.slice q1 m1 r1) (.bool g2) (.slice q2 m2 r2)).put (b := w.heap.size + 1 + 1 + 1 + 1 + 1) (by omega) (.bool g3) (.slice q3 m3 r3) (.bool g4) (.slice q4 m4 r4))).base_le (show w.heap.size ≤ _ by omega)
      have F3 := Box4.chain (Box4.chain B R1 (.bool g1) (.slice q1 m1 r1) (.bool g2) (.slice q2 m2 r2)) (R2.old (by omega) (.bool g1) (.slice q1 m1 r1) (.bool g2) (.slice q2 m2 r2)) (.bool g3) (.slice q3 m3 r3) (.bool g4) (.slice q4 m4 r4)
      go_wp2
      exact bodyPost_ret (v := .tuple #[.int .i64 2, .agg #[.bool g1, .slice q1 m1 r1, .bool g2, .slice q2 m2 r2], .agg #[.bool g3, .slice q3 m3 r3, .bool g4, .slice q4 m4 r4]]) (by simp [results, Try.results7, go_sem, s0, s1, s2, s3, u0, u1, u2, u3]) rfl ⟨_, _, rfl, F1, F3⟩
    · have hl2 : ¬ (1 : Int) < (ll.length : Int) := by omega
      have hl2d : decide ((1 : Int) < (ll.length : Int)) = false := decide_eq_false hl2
      by_cases l1 : ll.length = 1
      · have E := HC.out
        unfold crV at E
        rw [HM.out, if_pos rfl, HLL.out, if_neg (by omega), if_pos l1] at E
        have OI := oneOf_is (by rw [HLL.out]; exact l1)
        rw [HLL.out] at OI
        have CO := one_crd C1 D1 C2 D2 C3 D3 C4 D4
        obtain ⟨ox, oy, HO⟩ : ∃ ox oy, Hid (oneOf X1 Y1 X2 Y2 X3 Y3 X4 Y4 = (ox, oy)) := ⟨_, _, rfl⟩
        rw [HO.out] at E OI CO
        simp only [Prod.mk.injEq] at E
        obtain ⟨e1, e2, e3, e4, e5⟩ := E
        subst e1
        have HE : Hid (ox = n1 ∧ 1 = d1 ∧ oy = n2 ∧ 1 = d2) := ⟨e2, e3, e4, e5⟩
        clear e2 e3 e4 e5
        dsimp only at CO
        have hl1 : ((ll.length : Int) == 1) = true := by rw [l1]; rfl
        obtain ⟨b0, o0, hav, hcs⟩ := RP.seesP.cells (by intro e; rw [e] at l1; simp at l1)
        subst hav
        obtain ⟨z0, z1⟩ := hcs 0 (by omega)
        rw [OI] at z0 z1
        have y0 : w6.cell? ⟨b0, o0, none⟩ = some (.int .i64 ox) := by simpa using z0
        have y1 : w6.cell? ⟨b0, o0 + 1, none⟩ = some (.int .i64 oy) := by simpa using z1
        have hlen : (0 : Int) < (ll.length : Int) := by omega
        clear z0 z1 hcs
        have K : w6.cell? ⟨b0, o0, none⟩ = some (.int .i64 ox) ∧ w6.cell? ⟨b0, o0 + 1, none⟩ = some (.int .i64 oy) := ⟨y0, y1⟩
        have Kd : w6.drew.cell? ⟨b0, o0, none⟩ = some (.int .i64 ox) ∧ w6.drew.cell? ⟨b0, o0 + 1, none⟩ = some (.int .i64 oy) := ⟨y0, y1⟩
        have lob : w.heap.size + 1 + 1 + 1 + 1 + 1 < b0 := by
          rcases RP.2 with ⟨hv, _⟩ | ⟨q, cap, cur, hv, hb2, _⟩
          · cases hv
          · injection hv with hv1
            injection hv1 with hv2
            injection hv2 with hv3
            have := B6
            omega
        obtain ⟨bx1, bx2⟩ : -9223372036854775808 ≤ ox ∧ ox ≤ 9223372036854775807 := by have := CO.1; unfold Crd at this; omega
        obtain ⟨by1, by2⟩ : -9223372036854775808 ≤ oy ∧ oy ≤ 9223372036854775807 := by have := CO.2; unfold Crd at this; omega
        have N0 : Below w6.heap.size w6 w6.drew := (Below.refl _ _).drew
        clear l1 CO
        subst OI
        simp only [List.length_singleton] at *
        go_upto_region 11 with fail
        clear y0 y1
        go_region_held3 (fun w' => w'.cell? ⟨b0, o0, none⟩ = some (.int .i64 ox) ∧ w'.cell? ⟨b0, o0 + 1, none⟩ = some (.int .i64 oy))
          (first | with_reducible exact Kd | with_reducible exact t1 | with_reducible exact t2 | with_reducible exact ⟨(cput4 (by omega)).trans t2.1, (cput4 (by omega)).trans t2.2⟩ | with_reducible exact ⟨(cput4 (by omega)).trans ((cput4 (by omega)).trans t2.1), (cput4 (by omega)).trans ((cput4 (by omega)).trans t2.2)⟩)
          (first
          | (go_at_call_of 29 (Value.int .i64 ox); refine (specWhole ox _ bx1 bx2).mono ?_; rintro e w7 ⟨v3, rfl, I3, hb⟩; have N3 := N0.trans hb; have t1 : w7.cell? ⟨b0, o0, none⟩ = some (.int .i64 ox) ∧ w7.cell? ⟨b0, o0 + 1, none⟩ = some (.int .i64 oy) := ⟨bat N3 K.1, bat N3 K.2⟩; have z3 := N3.size)
          | (go_at_call_of 29 (Value.int .i64 oy); refine (specWhole oy _ by1 by2).mono ?_; rintro e w8 ⟨v4, rfl, I4, hb4⟩; have N4 := N3.trans (hb4.mono N3.size); have t2 : w8.cell? ⟨b0, o0, none⟩ = some (.int .i64 ox) ∧ w8.cell? ⟨b0, o0 + 1, none⟩ = some (.int .i64 oy) := ⟨bat N4 K.1, bat N4 K.2⟩; have TF := (TwoFr.of I3 hb4 I4 z3 (Nat.le_refl _)).base_le (show w6.heap.size ≤ _ from Nat.le_refl _); obtain ⟨g1, q1, m1, r1, g2, q2, m2, r2, g3, q3, m3, r3, g4, q4, m4, r4, E1, E2⟩ := TF.is'; subst E1; subst E2; have B4 := B.trans (N4.mono B.size); have R14 := R1.below N4; have R24 := R2.below N4; obtain ⟨s0, s1, s2, s3, sf, _⟩ := id R14; obtain ⟨u0, u1, u2, u3, uf, _⟩ := id R24))
        all_goals
          replace B := B4
          replace R1 := R14
          replace R2 := R24
          clear B4 R14 R24
          have F1 := (((TF.put (b := w.heap.size + 1 + 1 + 1 + 1) (by omega) (.bool g1) (.slice q1 m1 r1) (.bool g2) (.slice q2 m2 r2)).put (b := w.heap.size + 1 + 1 + 1 + 1 + 1) (by omega) (.bool g3) (.slice q3 m3 r3) (.bool g4) (.slice q4 m4 r4))).base_le (show w.heap.size ≤ _ by omega)
          have F3 := Box4.chain (Box4.chain B R1 (.bool g1) (.slice q1 m1 r1) (.bool g2) (.slice q2 m2 r2)) (R2.old (by omega) (.bool g1) (.slice q1 m1 r1) (.bool g2) (.slice q2 m2 r2)) (.bool g3) (.slice q3 m3 r3) (.bool g4) (.slice q4 m4 r4)
          go_wp2
          exact bodyPost_ret (v := .tuple #[.int .i64 1, .agg #[.bool g1, .slice q1 m1 r1, .bool g2, .slice q2 m2 r2], .agg #[.bool g3, .slice q3 m3 r3, .bool g4, .slice q4 m4 r4]]) (by simp [results, Try.results7, go_sem, s0, s1, s2, s3, u0, u1, u2, u3]) rfl ⟨_, _, rfl, F1.eq HE.out.1 HE.out.2.1 HE.out.2.2.1 HE.out.2.2.2, F3⟩
      · have E := HC.out
        unfold crV at E
        have l0 : ll.length = 0 := by omega
        rw [HM.out, if_pos rfl, HLL.out, if_pos l0] at E
        have HA0 : allW X1 Y1 X2 Y2 X3 Y3 X4 Y4 ≠ 0 := allW_ne HM.out (by rw [HLL.out]; exact List.eq_nil_of_length_eq_zero l0)
        have bA := allW_bound C1 D1 C2 D2 C3 D3 C4 D4
        have bP := partW_bound C1 D1 C3 D3 C4 D4
        have eP := partW_is X1 Y1 X3 Y3 X4 Y4
        have eA := allW_is X1 Y1 X2 Y2 X3 Y3 X4 Y4
        rw [eP] at eA
        obtain ⟨nx, Hnx⟩ : ∃ z, Hid (crX X1 Y1 X2 Y2 X3 Y3 X4 Y4 = z) := ⟨_, rfl⟩
        obtain ⟨ny, Hny⟩ : ∃ z, Hid (crY X1 Y1 X2 Y2 X3 Y3 X4 Y4 = z) := ⟨_, rfl⟩
        rw [Hnx.out, Hny.out] at E
        have hnx := Hnx.out
        have hny := Hny.out
        unfold crX at hnx
        unfold crY at hny
        obtain ⟨aa, HAA⟩ : ∃ z, Hid (allW X1 Y1 X2 Y2 X3 Y3 X4 Y4 = z) := ⟨_, rfl⟩
        obtain ⟨pp, HPP⟩ : ∃ z, Hid (partW X1 Y1 X3 Y3 X4 Y4 = z) := ⟨_, rfl⟩
        obtain ⟨qq, HQQ⟩ : ∃ z, Hid (ar X3 Y3 X4 Y4 X2 Y2 = z) := ⟨_, rfl⟩
        rw [HAA.out] at HA0 bA E eA hnx hny
        rw [HPP.out] at bP eP eA hnx hny
        rw [HQQ.out] at eA
        have HEP : Hid (ar X3 Y3 X4 Y4 X1 Y1 = pp) := eP
        have HB : Hid (aa ≠ 0 ∧ (-1000000000000000 ≤ aa ∧ aa ≤ 1000000000000000) ∧ (-1000000000000000 ≤ pp ∧ pp ≤ 1000000000000000) ∧ pp - qq = aa) := ⟨HA0, bA, bP, eA⟩
        have HNX : Hid (X1 * aa + pp * (X2 - X1) = nx) := by show _ = _; rw [← hnx, Int.mul_comm pp]
        have HNY : Hid (Y1 * aa + pp * (Y2 - Y1) = ny) := by show _ = _; rw [← hny, Int.mul_comm pp]
        simp only [Prod.mk.injEq] at E
        obtain ⟨e1, e2, e3, e4, e5⟩ := E
        subst e1
        have HE : Hid (cN nx aa = n1 ∧ cD nx aa = d1 ∧ cN ny aa = n2 ∧ cD ny aa = d2) := ⟨e2, e3, e4, e5⟩
        clear e2 e3 e4 e5 HA0 bA bP eP eA hnx hny Hnx Hny HAA HPP l1 RP
        have hl1 : ((ll.length : Int) == 1) = false := by rw [l0]; rfl
        have HL0 : Hid (ll.length = 0) := l0
        clear l0
        obtain ⟨j10, j11, _, _⟩ := id V1
        obtain ⟨j20, j21, _, _⟩ := id V2
        obtain ⟨j30, j31, _, _⟩ := id V3
        obtain ⟨j40, j41, _, _⟩ := id V4
        go_wp2_with fail
        refine (l3Area_any X3 Y3 X4 Y4 X1 Y1 _ C3 D3 C4 D4 C1 D1).mono ?_
        rintro e w7 ⟨rfl, hb⟩
        rw [HEP.out]
        clear j10 j11 j20 j21 j30 j31 j40 j41
        replace V1 := V1.below hb
        replace V2 := V2.below hb
        replace V3 := V3.below hb
        replace V4 := V4.below hb
        replace R1 := R1.below hb
        replace R2 := R2.below hb
        replace B := B.trans (hb.mono B.size)
        clear hb
        obtain ⟨j20, j21, _, _⟩ := id V2
        obtain ⟨j30, j31, _, _⟩ := id V3
        obtain ⟨j40, j41, _, _⟩ := id V4
        go_wp2_with fail
        refine (l3Area_any X3 Y3 X4 Y4 X2 Y2 _ C3 D3 C4 D4 C2 D2).mono ?_
        rintro e w8 ⟨rfl, hb⟩
        rw [HQQ.out]
        clear j20 j21 j30 j31 j40 j41
        replace V1 := V1.below hb
        replace V2 := V2.below hb
        replace V3 := V3.below hb
        replace V4 := V4.below hb
        replace R1 := R1.below hb
        replace R2 := R2.below hb
        replace B := B.trans (hb.mono B.size)
        clear hb
        clear V3 V4 HW2 HQQ HEP
        have HW2 : w.heap.size + 1 + 1 + 1 + 1 + 1 < w8.heap.size := R2.lt
        have WQ : Hid (IntKind.i64.wrap (pp - qq) = aa) := by show _ = _; rw [IntKind.wrap_i64]; have := HB.out; omega
        have WQ2 : wrap64 (pp - qq) = aa := by have := HB.out; unfold wrap64; omega
        obtain ⟨fa, Hfa⟩ : ∃ f, Hid (decide (aa < 0) = f) := ⟨_, rfl⟩
        obtain ⟨fp, Hfp⟩ : ∃ f, Hid (decide (pp < 0) = f) := ⟨_, rfl⟩
        obtain ⟨fx, Hfx⟩ : ∃ f, Hid (decide (X1 < 0) = f) := ⟨_, rfl⟩
        obtain ⟨fd, Hfd⟩ : ∃ f, Hid (decide (X2 - X1 < 0) = f) := ⟨_, rfl⟩
        obtain ⟨fu, Hfu⟩ : ∃ f, Hid (decide (X1 * aa < 0) = f) := ⟨_, rfl⟩
        obtain ⟨fv, Hfv⟩ : ∃ f, Hid (decide (pp * (X2 - X1) < 0) = f) := ⟨_, rfl⟩
        obtain ⟨fnx, Hfnx⟩ : ∃ f, Hid (decide (nx < 0) = f) := ⟨_, rfl⟩
        have WD : Hid (IntKind.i64.wrap (X2 - X1) = X2 - X1) := by show _ = _; rw [IntKind.wrap_i64]; unfold Crd at *; omega
        have BX : Hid ((-10000000 ≤ X1 ∧ X1 ≤ 10000000) ∧ (-10000000 ≤ X2 ∧ X2 ≤ 10000000)) := by unfold Crd at *; exact ⟨by assumption, by assumption⟩
        go_upto_region 14 with fail
        obtain ⟨j10, j11, _, _⟩ := id V1
        obtain ⟨j20, j21, _, _⟩ := id V2
        go_cut [14] (fun s W => ∃ p a9 c9 zs, s = .pointer (some ⟨p, 0, none⟩) ∧ Box2 w8.heap.size W p (.bool fnx) (.slice a9 zs.length c9) ∧ Own w8.heap.size W a9 c9 zs ∧ Hid (Nrm zs ∧ val zs = mg nx ∧ zs.length ≤ 1048575) ∧ Below w8.heap.size w8 W)
        case first =>
          refine wp_region_held_drew (S := Below w8.heap.size w8) (by kernel_rfl) ((Below.refl _ _).drew) (fun hHeld => ?_)
          have N : Below w8.heap.size w8 w8.drew := hHeld
          revert hHeld N
          generalize w8.drew = ww0
          intro hHeld N
          refine takeQ (i := 0) (gt rfl) (by kernel_rfl) (fun _ _ _ h => h) (by rfl) (by intro wq _; go_simp <;> with_reducible rfl) (by assumption) ?_
          try simp only [Act.put, sA, sB, sC]
          refine takeQ (i := 1) (gt rfl) (by kernel_rfl) (fun _ _ _ h => h) (by rfl) (by intro wq hSw; have q0 := bat hSw j10; have q1 := bat hSw j11; have q2 := bat hSw j20; have q3 := bat hSw j21; go_simp <;> with_reducible rfl) (by assumption) ?_
          try simp only [Act.put, sA, sB, sC]
          refine takeQ (i := 3) (gt rfl) (by kernel_rfl) (fun _ _ _ h => h) (by rfl) (by intro wq _; go_simp <;> with_reducible rfl) (by assumption) ?_
          try simp only [Act.put, sA, sB, sC]
          refine takeQ (i := 4) (gt rfl) (by kernel_rfl) (fun _ _ _ h => h) (by rfl) (by intro wq _; go_simp <;> with_reducible rfl) (by assumption) ?_
          try simp only [Act.put, sA, sB, sC]
          refine takeQ (i := 5) (gt rfl) (by kernel_rfl) (fun _ _ _ h => h) (by rfl) (by intro wq _; go_simp <;> with_reducible rfl) (by assumption) ?_
          try simp only [Act.put, sA, sB, sC]
          refine takeQ (i := 8) (gt rfl) (by kernel_rfl) (fun _ _ _ h => h) (by rfl) (by intro wq _; go_simp <;> with_reducible rfl) (by assumption) ?_
          try simp only [Act.put, sA, sB, sC]
          refine takeQ (i := 10) (gt rfl) (by kernel_rfl) (fun _ _ _ h => h) (by rfl) (by intro wq _; go_simp <;> with_reducible rfl) (by assumption) ?_
          try simp only [Act.put, sA, sB, sC]
          refine takeQ (i := 11) (gt rfl) (by kernel_rfl) (fun _ _ _ h => h) (by rfl) (by intro wq hSw; have q0 := bat hSw j10; have q1 := bat hSw j11; have q2 := bat hSw j20; have q3 := bat hSw j21; go_simp <;> with_reducible rfl) (by assumption) ?_
          try simp only [Act.put, sA, sB, sC]
          refine takeQ (i := 12) (gt rfl) (by kernel_rfl) (fun _ _ _ h => h) (by rfl) (by intro wq _; go_simp <;> with_reducible rfl) (by assumption) ?_
          try simp only [Act.put, sA, sB, sC]
          refine takeQ (i := 13) (gt rfl) (by kernel_rfl) (fun _ _ _ h => h) (by rfl) (by intro wq hSw; have q0 := bat hSw j10; have q1 := bat hSw j11; have q2 := bat hSw j20; have q3 := bat hSw j21; go_simp <;> with_reducible rfl) (by assumption) ?_
          try simp only [Act.put, sA, sB, sC]
          refine takeQ (i := 14) (gt rfl) (by kernel_rfl) (fun _ _ _ h => h) (by rfl) (by intro wq _; go_simp <;> with_reducible rfl) (by assumption) ?_
          try simp only [Act.put, sA, sB, sC]
          refine wpAnyH_ready (rs := [2, 18]) (by kernel_rfl) (by simp) (AllReadyH.cons (gt rfl) (fun K hK => ?_) (AllReadyH.cons (gt rfl) (fun K hK => ?_) AllReadyH.nil))
          · skip
            go_simp
            refine (specOf X1 _ (by have := HB.out; have := BX.out; omega) (by have := HB.out; have := BX.out; omega)).mono ?_
            rintro e1 ww1 ⟨u, rfl, ⟨pa, pc, ps, rfl, po, pn, pv⟩, hb⟩
            rw [Hfx.out]
            have pH : Hid (Nrm ps ∧ val ps = mg (X1) ∧ ps.length ≤ 24) := ⟨pn, pv, of_len (by have := HB.out; have := BX.out; omega) (by have := HB.out; have := BX.out; omega) po.lim pn pv⟩
            clear pn pv
            replace N := N.trans (hb.mono N.size)
            clear hb
            refine hK.out _ _ N (fun hHeld => ?_)
            clear hK K
            try simp only [Act.put, sA, sB, sC]
            refine wpAnyH_ready (rs := [6, 18]) (by kernel_rfl) (by simp) (AllReadyH.cons (gt rfl) (fun K hK => ?_) (AllReadyH.cons (gt rfl) (fun K hK => ?_) AllReadyH.nil))
            · skip
              go_simp
              rw [WQ.out]
              refine (specOf aa _ (by have := HB.out; have := BX.out; omega) (by have := HB.out; have := BX.out; omega)).mono ?_
              rintro e1 ww2 ⟨u, rfl, ⟨qa, qc, qs, rfl, qo, qn, qv⟩, hb⟩
              rw [Hfa.out]
              have qH : Hid (Nrm qs ∧ val qs = mg (aa) ∧ qs.length ≤ 24) := ⟨qn, qv, of_len (by have := HB.out; have := BX.out; omega) (by have := HB.out; have := BX.out; omega) qo.lim qn qv⟩
              clear qn qv
              replace po := po.below hb
              replace N := N.trans (hb.mono N.size)
              clear hb
              refine hK.out _ _ N (fun hHeld => ?_)
              clear hK K
              try simp only [Act.put, sA, sB, sC]
              refine wpAnyH_ready (rs := [7, 18]) (by kernel_rfl) (by simp) (AllReadyH.cons (gt rfl) (fun K hK => ?_) (AllReadyH.cons (gt rfl) (fun K hK => ?_) AllReadyH.nil))
              · skip
                go_simp
                refine (l2MulC fx fa pa qa pc qc ps qs _ po.toSees qo.toSees (by have := pH.out.2.2; have := qH.out.2.2; omega)).mono ?_
                rintro e1 ww3 ⟨u, rfl, hI, hb⟩
                rw [pH.out.2.1, qH.out.2.1, ← Hfx.out, ← Hfa.out, prod_sg] at hI
                obtain ⟨ma, mc, ms, rfl, mo, mn, mv⟩ := hI
                rw [Hfu.out]
                have mH : Hid (Nrm ms ∧ val ms = mg (X1 * (aa)) ∧ ms.length ≤ 48) := ⟨mn, mv, prod_len po.lim qo.lim pH.out.2.1 qH.out.2.1 pH.out.2.2 qH.out.2.2 mo.lim mn mv⟩
                clear mn mv
                replace po := po.below hb
                replace qo := qo.below hb
                replace N := N.trans (hb.mono N.size)
                clear hb
                clear po qo
                refine hK.out _ _ N (fun hHeld => ?_)
                clear hK K
                try simp only [Act.put, sA, sB, sC]
                refine wpAnyH_ready (rs := [9, 18]) (by kernel_rfl) (by simp) (AllReadyH.cons (gt rfl) (fun K hK => ?_) (AllReadyH.cons (gt rfl) (fun K hK => ?_) AllReadyH.nil))
                · skip
                  go_simp
                  refine (specOf pp _ (by have := HB.out; have := BX.out; omega) (by have := HB.out; have := BX.out; omega)).mono ?_
                  rintro e1 ww4 ⟨u, rfl, ⟨ra, rc, rs, rfl, ro, rn, rv⟩, hb⟩
                  rw [Hfp.out]
                  have rH : Hid (Nrm rs ∧ val rs = mg (pp) ∧ rs.length ≤ 24) := ⟨rn, rv, of_len (by have := HB.out; have := BX.out; omega) (by have := HB.out; have := BX.out; omega) ro.lim rn rv⟩
                  clear rn rv
                  replace mo := mo.below hb
                  replace N := N.trans (hb.mono N.size)
                  clear hb
                  refine hK.out _ _ N (fun hHeld => ?_)
                  clear hK K
                  try simp only [Act.put, sA, sB, sC]
                  refine wpAnyH_ready (rs := [15, 18]) (by kernel_rfl) (by simp) (AllReadyH.cons (gt rfl) (fun K hK => ?_) (AllReadyH.cons (gt rfl) (fun K hK => ?_) AllReadyH.nil))
                  · skip
                    go_simp
                    rw [WD.out]
                    refine (specOf (X2 - X1) _ (by have := HB.out; have := BX.out; omega) (by have := HB.out; have := BX.out; omega)).mono ?_
                    rintro e1 ww5 ⟨u, rfl, ⟨la, lc, ls, rfl, lo, ln, lv⟩, hb⟩
                    rw [Hfd.out]
                    have lH : Hid (Nrm ls ∧ val ls = mg ((X2 - X1)) ∧ ls.length ≤ 24) := ⟨ln, lv, of_len (by have := HB.out; have := BX.out; omega) (by have := HB.out; have := BX.out; omega) lo.lim ln lv⟩
                    clear ln lv
                    replace mo := mo.below hb
                    replace ro := ro.below hb
                    replace N := N.trans (hb.mono N.size)
                    clear hb
                    refine hK.out _ _ N (fun hHeld => ?_)
                    clear hK K
                    try simp only [Act.put, sA, sB, sC]
                    refine wpAnyH_ready (rs := [16, 18]) (by kernel_rfl) (by simp) (AllReadyH.cons (gt rfl) (fun K hK => ?_) (AllReadyH.cons (gt rfl) (fun K hK => ?_) AllReadyH.nil))
                    · skip
                      go_simp
                      refine (l2MulC fp fd ra la rc lc rs ls _ ro.toSees lo.toSees (by have := rH.out.2.2; have := lH.out.2.2; omega)).mono ?_
                      rintro e1 ww6 ⟨u, rfl, hI, hb⟩
                      rw [rH.out.2.1, lH.out.2.1, ← Hfp.out, ← Hfd.out, prod_sg] at hI
                      obtain ⟨na, nc, ns, rfl, no, nn, nv⟩ := hI
                      rw [Hfv.out]
                      have nH : Hid (Nrm ns ∧ val ns = mg (pp * (X2 - X1)) ∧ ns.length ≤ 48) := ⟨nn, nv, prod_len ro.lim lo.lim rH.out.2.1 lH.out.2.1 rH.out.2.2 lH.out.2.2 no.lim nn nv⟩
                      clear nn nv
                      replace mo := mo.below hb
                      replace ro := ro.below hb
                      replace lo := lo.below hb
                      replace N := N.trans (hb.mono N.size)
                      clear hb
                      clear ro lo
                      refine hK.out _ _ N (fun hHeld => ?_)
                      clear hK K
                      try simp only [Act.put, sA, sB, sC]
                      refine wpAnyH_ready (rs := [17, 18]) (by kernel_rfl) (by simp) (AllReadyH.cons (gt rfl) (fun K hK => ?_) (AllReadyH.cons (gt rfl) (fun K hK => ?_) AllReadyH.nil))
                      · skip
                        go_simp
                        refine (l2AddC fu fv ma na mc nc ms ns _ mo.toSees no.toSees mH.out.1 nH.out.1 (by have := mH.out.2.2; omega) (by have := nH.out.2.2; omega)).mono ?_
                        rintro e1 ww7 ⟨u, rfl, hI, hb⟩
                        rw [mH.out.2.1, nH.out.2.1, ← Hfu.out, ← Hfv.out, sg_of_mg', sg_of_mg', HNX.out] at hI
                        obtain ⟨za, zc, zz, rfl, zo, zn, zv⟩ := hI
                        rw [Hfnx.out]
                        have zH : Hid (Nrm zz ∧ val zz = mg nx ∧ zz.length ≤ 1048575) := ⟨zn, zv, Nat.le_trans (sum_len mo.lim no.lim mH.out.2.1 nH.out.2.1 mH.out.2.2 nH.out.2.2 zo.lim zn (by rw [HNX.out]; exact zv)) (by decide)⟩
                        clear zn zv
                        have zb := N.size
                        replace mo := mo.below hb
                        replace no := no.below hb
                        replace N := N.trans (hb.mono N.size)
                        clear hb
                        clear mo no
                        refine hK.out _ _ N (fun hHeld => ?_)
                        clear hK K
                        try simp only [Act.put, sA, sB, sC]
                        refine wpAnyH_ready (rs := [18]) (by kernel_rfl) (by simp) (AllReadyH.cons (gt rfl) (fun K hK => ?_) AllReadyH.nil)
                        go_simp
                        have kP := Box2.new ww7 N.size (.bool false) (.slice none 0 0) 26
                        have hb := below1 ww7 (.cells #[.bool false, .slice none 0 0] 26)
                        have r_kP_zo := row_ne_high zo.toCame (Nat.le_refl _)
                        replace zo := zo.below hb
                        replace N := N.trans (hb.mono N.size)
                        clear hb
                        generalize ww7.alloc (.cells #[.bool false, .slice none 0 0] 26) = ww8 at *
                        refine hK.out _ _ N (fun hHeld => ?_)
                        clear hK K
                        try simp only [Act.put, sA, sB, sC]
                        refine wpAnyH_ready (rs := [19]) (by kernel_rfl) (by simp) (AllReadyH.cons (gt rfl) (fun K hK => ?_) AllReadyH.nil)
                        have z0 := kP.c0
                        have z1 := kP.c1
                        have zf := kP.fr
                        go_simp
                        clear z0 z1 zf
                        replace N := Box2.chain N kP (.bool fnx) (.slice za zz.length zc)
                        replace zo := zo.put2 r_kP_zo (.bool fnx) (.slice za zz.length zc)
                        replace kP := kP.put (.bool fnx) (.slice za zz.length zc)
                        refine hK.out _ _ N (fun hHeld => ?_)
                        clear hK K
                        try simp only [Act.put, sA, sB, sC]
                        refine wpAnyH_done (by kernel_rfl) ?_ _
                        go_wp2
                        go_meet
                        case rel => exact ⟨_, za, zc, zz, rfl, kP, zo.base_le zb, zH, N⟩
                      · skip
                        go_simp
                        have kP := Box2.new ww6 N.size (.bool false) (.slice none 0 0) 26
                        have hb := below1 ww6 (.cells #[.bool false, .slice none 0 0] 26)
                        replace mo := mo.below hb
                        replace no := no.below hb
                        replace N := N.trans (hb.mono N.size)
                        clear hb
                        generalize ww6.alloc (.cells #[.bool false, .slice none 0 0] 26) = ww10 at *
                        refine hK.out _ _ N (fun hHeld => ?_)
                        clear hK K
                        try simp only [Act.put, sA, sB, sC]
                        refine wpAnyH_ready (rs := [17]) (by kernel_rfl) (by simp) (AllReadyH.cons (gt rfl) (fun K hK => ?_) AllReadyH.nil)
                        go_simp
                        refine (l2AddC fu fv ma na mc nc ms ns _ mo.toSees no.toSees mH.out.1 nH.out.1 (by have := mH.out.2.2; omega) (by have := nH.out.2.2; omega)).mono ?_
                        rintro e1 ww11 ⟨u, rfl, hI, hb⟩
                        rw [mH.out.2.1, nH.out.2.1, ← Hfu.out, ← Hfv.out, sg_of_mg', sg_of_mg', HNX.out] at hI
                        obtain ⟨za, zc, zz, rfl, zo, zn, zv⟩ := hI
                        rw [Hfnx.out]
                        have zH : Hid (Nrm zz ∧ val zz = mg nx ∧ zz.length ≤ 1048575) := ⟨zn, zv, Nat.le_trans (sum_len mo.lim no.lim mH.out.2.1 nH.out.2.1 mH.out.2.2 nH.out.2.2 zo.lim zn (by rw [HNX.out]; exact zv)) (by decide)⟩
                        clear zn zv
                        have zb := N.size
                        have r_kP_zo := row_ne_low zo kP.lt
                        replace kP := kP.below hb
                        replace mo := mo.below hb
                        replace no := no.below hb
                        replace N := N.trans (hb.mono N.size)
                        clear hb
                        clear mo no
                        refine hK.out _ _ N (fun hHeld => ?_)
                        clear hK K
                        try simp only [Act.put, sA, sB, sC]
                        refine wpAnyH_ready (rs := [19]) (by kernel_rfl) (by simp) (AllReadyH.cons (gt rfl) (fun K hK => ?_) AllReadyH.nil)
                        have z0 := kP.c0
                        have z1 := kP.c1
                        have zf := kP.fr
                        go_simp
                        clear z0 z1 zf
                        replace N := Box2.chain N kP (.bool fnx) (.slice za zz.length zc)
                        replace zo := zo.put2 r_kP_zo (.bool fnx) (.slice za zz.length zc)
                        replace kP := kP.put (.bool fnx) (.slice za zz.length zc)
                        refine hK.out _ _ N (fun hHeld => ?_)
                        clear hK K
                        try simp only [Act.put, sA, sB, sC]
                        refine wpAnyH_done (by kernel_rfl) ?_ _
                        go_wp2
                        go_meet
                        case rel => exact ⟨_, za, zc, zz, rfl, kP, zo.base_le zb, zH, N⟩
                    · skip
                      go_simp
                      have kP := Box2.new ww5 N.size (.bool false) (.slice none 0 0) 26
                      have hb := below1 ww5 (.cells #[.bool false, .slice none 0 0] 26)
                      replace mo := mo.below hb
                      replace ro := ro.below hb
                      replace lo := lo.below hb
                      replace N := N.trans (hb.mono N.size)
                      clear hb
                      generalize ww5.alloc (.cells #[.bool false, .slice none 0 0] 26) = ww13 at *
                      refine hK.out _ _ N (fun hHeld => ?_)
                      clear hK K
                      try simp only [Act.put, sA, sB, sC]
                      refine wpAnyH_ready (rs := [16]) (by kernel_rfl) (by simp) (AllReadyH.cons (gt rfl) (fun K hK => ?_) AllReadyH.nil)
                      go_simp
                      refine (l2MulC fp fd ra la rc lc rs ls _ ro.toSees lo.toSees (by have := rH.out.2.2; have := lH.out.2.2; omega)).mono ?_
                      rintro e1 ww14 ⟨u, rfl, hI, hb⟩
                      rw [rH.out.2.1, lH.out.2.1, ← Hfp.out, ← Hfd.out, prod_sg] at hI
                      obtain ⟨na, nc, ns, rfl, no, nn, nv⟩ := hI
                      rw [Hfv.out]
                      have nH : Hid (Nrm ns ∧ val ns = mg (pp * (X2 - X1)) ∧ ns.length ≤ 48) := ⟨nn, nv, prod_len ro.lim lo.lim rH.out.2.1 lH.out.2.1 rH.out.2.2 lH.out.2.2 no.lim nn nv⟩
                      clear nn nv
                      replace kP := kP.below hb
                      replace mo := mo.below hb
                      replace ro := ro.below hb
                      replace lo := lo.below hb
                      replace N := N.trans (hb.mono N.size)
                      clear hb
                      clear ro lo
                      refine hK.out _ _ N (fun hHeld => ?_)
                      clear hK K
                      try simp only [Act.put, sA, sB, sC]
                      refine wpAnyH_ready (rs := [17]) (by kernel_rfl) (by simp) (AllReadyH.cons (gt rfl) (fun K hK => ?_) AllReadyH.nil)
                      go_simp
                      refine (l2AddC fu fv ma na mc nc ms ns _ mo.toSees no.toSees mH.out.1 nH.out.1 (by have := mH.out.2.2; omega) (by have := nH.out.2.2; omega)).mono ?_
                      rintro e1 ww15 ⟨u, rfl, hI, hb⟩
                      rw [mH.out.2.1, nH.out.2.1, ← Hfu.out, ← Hfv.out, sg_of_mg', sg_of_mg', HNX.out] at hI
                      obtain ⟨za, zc, zz, rfl, zo, zn, zv⟩ := hI
                      rw [Hfnx.out]
                      have zH : Hid (Nrm zz ∧ val zz = mg nx ∧ zz.length ≤ 1048575) := ⟨zn, zv, Nat.le_trans (sum_len mo.lim no.lim mH.out.2.1 nH.out.2.1 mH.out.2.2 nH.out.2.2 zo.lim zn (by rw [HNX.out]; exact zv)) (by decide)⟩
                      clear zn zv
                      have zb := N.size
                      have r_kP_zo := row_ne_low zo kP.lt
                      replace kP := kP.below hb
                      replace mo := mo.below hb
                      replace no := no.below hb
                      replace N := N.trans (hb.mono N.size)
                      clear hb
                      clear mo no
                      refine hK.out _ _ N (fun hHeld => ?_)
                      clear hK K
                      try simp only [Act.put, sA, sB, sC]
                      refine wpAnyH_ready (rs := [19]) (by kernel_rfl) (by simp) (AllReadyH.cons (gt rfl) (fun K hK => ?_) AllReadyH.nil)
                      have z0 := kP.c0
                      have z1 := kP.c1
                      have zf := kP.fr
                      go_simp
                      clear z0 z1 zf
                      replace N := Box2.chain N kP (.bool fnx) (.slice za zz.length zc)
                      replace zo := zo.put2 r_kP_zo (.bool fnx) (.slice za zz.length zc)
                      replace kP := kP.put (.bool fnx) (.slice za zz.length zc)
                      refine hK.out _ _ N (fun hHeld => ?_)
                      clear hK K
                      try simp only [Act.put, sA, sB, sC]
                      refine wpAnyH_done (by kernel_rfl) ?_ _
                      go_wp2
                      go_meet
                      case rel => exact ⟨_, za, zc, zz, rfl, kP, zo.base_le zb, zH, N⟩
                  · skip
                    go_simp
                    have kP := Box2.new ww4 N.size (.bool false) (.slice none 0 0) 26
                    have hb := below1 ww4 (.cells #[.bool false, .slice none 0 0] 26)
                    replace mo := mo.below hb
                    replace ro := ro.below hb
                    replace N := N.trans (hb.mono N.size)
                    clear hb
                    generalize ww4.alloc (.cells #[.bool false, .slice none 0 0] 26) = ww17 at *
                    refine hK.out _ _ N (fun hHeld => ?_)
                    clear hK K
                    try simp only [Act.put, sA, sB, sC]
                    refine wpAnyH_ready (rs := [15]) (by kernel_rfl) (by simp) (AllReadyH.cons (gt rfl) (fun K hK => ?_) AllReadyH.nil)
                    go_simp
                    rw [WD.out]
                    refine (specOf (X2 - X1) _ (by have := HB.out; have := BX.out; omega) (by have := HB.out; have := BX.out; omega)).mono ?_
                    rintro e1 ww18 ⟨u, rfl, ⟨la, lc, ls, rfl, lo, ln, lv⟩, hb⟩
                    rw [Hfd.out]
                    have lH : Hid (Nrm ls ∧ val ls = mg ((X2 - X1)) ∧ ls.length ≤ 24) := ⟨ln, lv, of_len (by have := HB.out; have := BX.out; omega) (by have := HB.out; have := BX.out; omega) lo.lim ln lv⟩
                    clear ln lv
                    replace kP := kP.below hb
                    replace mo := mo.below hb
                    replace ro := ro.below hb
                    replace N := N.trans (hb.mono N.size)
                    clear hb
                    refine hK.out _ _ N (fun hHeld => ?_)
                    clear hK K
                    try simp only [Act.put, sA, sB, sC]
                    refine wpAnyH_ready (rs := [16]) (by kernel_rfl) (by simp) (AllReadyH.cons (gt rfl) (fun K hK => ?_) AllReadyH.nil)
                    go_simp
                    refine (l2MulC fp fd ra la rc lc rs ls _ ro.toSees lo.toSees (by have := rH.out.2.2; have := lH.out.2.2; omega)).mono ?_
                    rintro e1 ww19 ⟨u, rfl, hI, hb⟩
                    rw [rH.out.2.1, lH.out.2.1, ← Hfp.out, ← Hfd.out, prod_sg] at hI
                    obtain ⟨na, nc, ns, rfl, no, nn, nv⟩ := hI
                    rw [Hfv.out]
                    have nH : Hid (Nrm ns ∧ val ns = mg (pp * (X2 - X1)) ∧ ns.length ≤ 48) := ⟨nn, nv, prod_len ro.lim lo.lim rH.out.2.1 lH.out.2.1 rH.out.2.2 lH.out.2.2 no.lim nn nv⟩
                    clear nn nv
                    replace kP := kP.below hb
                    replace mo := mo.below hb
                    replace ro := ro.below hb
                    replace lo := lo.below hb
                    replace N := N.trans (hb.mono N.size)
                    clear hb
                    clear ro lo
                    refine hK.out _ _ N (fun hHeld => ?_)
                    clear hK K
                    try simp only [Act.put, sA, sB, sC]
                    refine wpAnyH_ready (rs := [17]) (by kernel_rfl) (by simp) (AllReadyH.cons (gt rfl) (fun K hK => ?_) AllReadyH.nil)
                    go_simp
                    refine (l2AddC fu fv ma na mc nc ms ns _ mo.toSees no.toSees mH.out.1 nH.out.1 (by have := mH.out.2.2; omega) (by have := nH.out.2.2; omega)).mono ?_
                    rintro e1 ww20 ⟨u, rfl, hI, hb⟩
                    rw [mH.out.2.1, nH.out.2.1, ← Hfu.out, ← Hfv.out, sg_of_mg', sg_of_mg', HNX.out] at hI
                    obtain ⟨za, zc, zz, rfl, zo, zn, zv⟩ := hI
                    rw [Hfnx.out]
                    have zH : Hid (Nrm zz ∧ val zz = mg nx ∧ zz.length ≤ 1048575) := ⟨zn, zv, Nat.le_trans (sum_len mo.lim no.lim mH.out.2.1 nH.out.2.1 mH.out.2.2 nH.out.2.2 zo.lim zn (by rw [HNX.out]; exact zv)) (by decide)⟩
                    clear zn zv
                    have zb := N.size
                    have r_kP_zo := row_ne_low zo kP.lt
                    replace kP := kP.below hb
                    replace mo := mo.below hb
                    replace no := no.below hb
                    replace N := N.trans (hb.mono N.size)
                    clear hb
                    clear mo no
                    refine hK.out _ _ N (fun hHeld => ?_)
                    clear hK K
                    try simp only [Act.put, sA, sB, sC]
                    refine wpAnyH_ready (rs := [19]) (by kernel_rfl) (by simp) (AllReadyH.cons (gt rfl) (fun K hK => ?_) AllReadyH.nil)
                    have z0 := kP.c0
                    have z1 := kP.c1
                    have zf := kP.fr
                    go_simp
                    clear z0 z1 zf
                    replace N := Box2.chain N kP (.bool fnx) (.slice za zz.length zc)
                    replace zo := zo.put2 r_kP_zo (.bool fnx) (.slice za zz.length zc)
                    replace kP := kP.put (.bool fnx) (.slice za zz.length zc)
                    refine hK.out _ _ N (fun hHeld => ?_)
                    clear hK K
                    try simp only [Act.put, sA, sB, sC]
                    refine wpAnyH_done (by kernel_rfl) ?_ _
                    go_wp2
                    go_meet
                    case rel => exact ⟨_, za, zc, zz, rfl, kP, zo.base_le zb, zH, N⟩
                · skip
                  go_simp
                  have kP := Box2.new ww3 N.size (.bool false) (.slice none 0 0) 26
                  have hb := below1 ww3 (.cells #[.bool false, .slice none 0 0] 26)
                  replace mo := mo.below hb
                  replace N := N.trans (hb.mono N.size)
                  clear hb
                  generalize ww3.alloc (.cells #[.bool false, .slice none 0 0] 26) = ww22 at *
                  refine hK.out _ _ N (fun hHeld => ?_)
                  clear hK K
                  try simp only [Act.put, sA, sB, sC]
                  refine wpAnyH_ready (rs := [9]) (by kernel_rfl) (by simp) (AllReadyH.cons (gt rfl) (fun K hK => ?_) AllReadyH.nil)
                  go_simp
                  refine (specOf pp _ (by have := HB.out; have := BX.out; omega) (by have := HB.out; have := BX.out; omega)).mono ?_
                  rintro e1 ww23 ⟨u, rfl, ⟨ra, rc, rs, rfl, ro, rn, rv⟩, hb⟩
                  rw [Hfp.out]
                  have rH : Hid (Nrm rs ∧ val rs = mg (pp) ∧ rs.length ≤ 24) := ⟨rn, rv, of_len (by have := HB.out; have := BX.out; omega) (by have := HB.out; have := BX.out; omega) ro.lim rn rv⟩
                  clear rn rv
                  replace kP := kP.below hb
                  replace mo := mo.below hb
                  replace N := N.trans (hb.mono N.size)
                  clear hb
                  refine hK.out _ _ N (fun hHeld => ?_)
                  clear hK K
                  try simp only [Act.put, sA, sB, sC]
                  refine wpAnyH_ready (rs := [15]) (by kernel_rfl) (by simp) (AllReadyH.cons (gt rfl) (fun K hK => ?_) AllReadyH.nil)
                  go_simp
                  rw [WD.out]
                  refine (specOf (X2 - X1) _ (by have := HB.out; have := BX.out; omega) (by have := HB.out; have := BX.out; omega)).mono ?_
                  rintro e1 ww24 ⟨u, rfl, ⟨la, lc, ls, rfl, lo, ln, lv⟩, hb⟩
                  rw [Hfd.out]
                  have lH : Hid (Nrm ls ∧ val ls = mg ((X2 - X1)) ∧ ls.length ≤ 24) := ⟨ln, lv, of_len (by have := HB.out; have := BX.out; omega) (by have := HB.out; have := BX.out; omega) lo.lim ln lv⟩
                  clear ln lv
                  replace kP := kP.below hb
                  replace mo := mo.below hb
                  replace ro := ro.below hb
                  replace N := N.trans (hb.mono N.size)
                  clear hb
                  refine hK.out _ _ N (fun hHeld => ?_)
                  clear hK K
                  try simp only [Act.put, sA, sB, sC]
                  refine wpAnyH_ready (rs := [16]) (by kernel_rfl) (by simp) (AllReadyH.cons (gt rfl) (fun K hK => ?_) AllReadyH.nil)
                  go_simp
                  refine (l2MulC fp fd ra la rc lc rs ls _ ro.toSees lo.toSees (by have := rH.out.2.2; have := lH.out.2.2; omega)).mono ?_
                  rintro e1 ww25 ⟨u, rfl, hI, hb⟩
                  rw [rH.out.2.1, lH.out.2.1, ← Hfp.out, ← Hfd.out, prod_sg] at hI
                  obtain ⟨na, nc, ns, rfl, no, nn, nv⟩ := hI
                  rw [Hfv.out]
                  have nH : Hid (Nrm ns ∧ val ns = mg (pp * (X2 - X1)) ∧ ns.length ≤ 48) := ⟨nn, nv, prod_len ro.lim lo.lim rH.out.2.1 lH.out.2.1 rH.out.2.2 lH.out.2.2 no.lim nn nv⟩
                  clear nn nv
                  replace kP := kP.below hb
                  replace mo := mo.below hb
                  replace ro := ro.below hb
                  replace lo := lo.below hb
                  replace N := N.trans (hb.mono N.size)
                  clear hb
                  clear ro lo
                  refine hK.out _ _ N (fun hHeld => ?_)
                  clear hK K
                  try simp only [Act.put, sA, sB, sC]
                  refine wpAnyH_ready (rs := [17]) (by kernel_rfl) (by simp) (AllReadyH.cons (gt rfl) (fun K hK => ?_) AllReadyH.nil)
                  go_simp
                  refine (l2AddC fu fv ma na mc nc ms ns _ mo.toSees no.toSees mH.out.1 nH.out.1 (by have := mH.out.2.2; omega) (by have := nH.out.2.2; omega)).mono ?_
                  rintro e1 ww26 ⟨u, rfl, hI, hb⟩
                  rw [mH.out.2.1, nH.out.2.1, ← Hfu.out, ← Hfv.out, sg_of_mg', sg_of_mg', HNX.out] at hI
                  obtain ⟨za, zc, zz, rfl, zo, zn, zv⟩ := hI
                  rw [Hfnx.out]
                  have zH : Hid (Nrm zz ∧ val zz = mg nx ∧ zz.length ≤ 1048575) := ⟨zn, zv, Nat.le_trans (sum_len mo.lim no.lim mH.out.2.1 nH.out.2.1 mH.out.2.2 nH.out.2.2 zo.lim zn (by rw [HNX.out]; exact zv)) (by decide)⟩
                  clear zn zv
                  have zb := N.size
                  have r_kP_zo := row_ne_low zo kP.lt
                  replace kP := kP.below hb
                  replace mo := mo.below hb
                  replace no := no.below hb
                  replace N := N.trans (hb.mono N.size)
                  clear hb
                  clear mo no
                  refine hK.out _ _ N (fun hHeld => ?_)
                  clear hK K
                  try simp only [Act.put, sA, sB, sC]
                  refine wpAnyH_ready (rs := [19]) (by kernel_rfl) (by simp) (AllReadyH.cons (gt rfl) (fun K hK => ?_) AllReadyH.nil)
                  have z0 := kP.c0
                  have z1 := kP.c1
                  have zf := kP.fr
                  go_simp
                  clear z0 z1 zf
                  replace N := Box2.chain N kP (.bool fnx) (.slice za zz.length zc)
                  replace zo := zo.put2 r_kP_zo (.bool fnx) (.slice za zz.length zc)
                  replace kP := kP.put (.bool fnx) (.slice za zz.length zc)
                  refine hK.out _ _ N (fun hHeld => ?_)
                  clear hK K
                  try simp only [Act.put, sA, sB, sC]
                  refine wpAnyH_done (by kernel_rfl) ?_ _
                  go_wp2
                  go_meet
                  case rel => exact ⟨_, za, zc, zz, rfl, kP, zo.base_le zb, zH, N⟩
              · skip
                go_simp
                have kP := Box2.new ww2 N.size (.bool false) (.slice none 0 0) 26
                have hb := below1 ww2 (.cells #[.bool false, .slice none 0 0] 26)
                replace po := po.below hb
                replace qo := qo.below hb
                replace N := N.trans (hb.mono N.size)
                clear hb
                generalize ww2.alloc (.cells #[.bool false, .slice none 0 0] 26) = ww28 at *
                refine hK.out _ _ N (fun hHeld => ?_)
                clear hK K
                try simp only [Act.put, sA, sB, sC]
                refine wpAnyH_ready (rs := [7]) (by kernel_rfl) (by simp) (AllReadyH.cons (gt rfl) (fun K hK => ?_) AllReadyH.nil)
                go_simp
                refine (l2MulC fx fa pa qa pc qc ps qs _ po.toSees qo.toSees (by have := pH.out.2.2; have := qH.out.2.2; omega)).mono ?_
                rintro e1 ww29 ⟨u, rfl, hI, hb⟩
                rw [pH.out.2.1, qH.out.2.1, ← Hfx.out, ← Hfa.out, prod_sg] at hI
                obtain ⟨ma, mc, ms, rfl, mo, mn, mv⟩ := hI
                rw [Hfu.out]
                have mH : Hid (Nrm ms ∧ val ms = mg (X1 * (aa)) ∧ ms.length ≤ 48) := ⟨mn, mv, prod_len po.lim qo.lim pH.out.2.1 qH.out.2.1 pH.out.2.2 qH.out.2.2 mo.lim mn mv⟩
                clear mn mv
                replace kP := kP.below hb
                replace po := po.below hb
                replace qo := qo.below hb
                replace N := N.trans (hb.mono N.size)
                clear hb
                clear po qo
                refine hK.out _ _ N (fun hHeld => ?_)
                clear hK K
                try simp only [Act.put, sA, sB, sC]
                refine wpAnyH_ready (rs := [9]) (by kernel_rfl) (by simp) (AllReadyH.cons (gt rfl) (fun K hK => ?_) AllReadyH.nil)
                go_simp
                refine (specOf pp _ (by have := HB.out; have := BX.out; omega) (by have := HB.out; have := BX.out; omega)).mono ?_
                rintro e1 ww30 ⟨u, rfl, ⟨ra, rc, rs, rfl, ro, rn, rv⟩, hb⟩
                rw [Hfp.out]
                have rH : Hid (Nrm rs ∧ val rs = mg (pp) ∧ rs.length ≤ 24) := ⟨rn, rv, of_len (by have := HB.out; have := BX.out; omega) (by have := HB.out; have := BX.out; omega) ro.lim rn rv⟩
                clear rn rv
                replace kP := kP.below hb
                replace mo := mo.below hb
                replace N := N.trans (hb.mono N.size)
                clear hb
                refine hK.out _ _ N (fun hHeld => ?_)
                clear hK K
                try simp only [Act.put, sA, sB, sC]
                refine wpAnyH_ready (rs := [15]) (by kernel_rfl) (by simp) (AllReadyH.cons (gt rfl) (fun K hK => ?_) AllReadyH.nil)
                go_simp
                rw [WD.out]
                refine (specOf (X2 - X1) _ (by have := HB.out; have := BX.out; omega) (by have := HB.out; have := BX.out; omega)).mono ?_
                rintro e1 ww31 ⟨u, rfl, ⟨la, lc, ls, rfl, lo, ln, lv⟩, hb⟩
                rw [Hfd.out]
                have lH : Hid (Nrm ls ∧ val ls = mg ((X2 - X1)) ∧ ls.length ≤ 24) := ⟨ln, lv, of_len (by have := HB.out; have := BX.out; omega) (by have := HB.out; have := BX.out; omega) lo.lim ln lv⟩
                clear ln lv
                replace kP := kP.below hb
                replace mo := mo.below hb
                replace ro := ro.below hb
                replace N := N.trans (hb.mono N.size)
                clear hb
                refine hK.out _ _ N (fun hHeld => ?_)
                clear hK K
                try simp only [Act.put, sA, sB, sC]
                refine wpAnyH_ready (rs := [16]) (by kernel_rfl) (by simp) (AllReadyH.cons (gt rfl) (fun K hK => ?_) AllReadyH.nil)
                go_simp
                refine (l2MulC fp fd ra la rc lc rs ls _ ro.toSees lo.toSees (by have := rH.out.2.2; have := lH.out.2.2; omega)).mono ?_
                rintro e1 ww32 ⟨u, rfl, hI, hb⟩
                rw [rH.out.2.1, lH.out.2.1, ← Hfp.out, ← Hfd.out, prod_sg] at hI
                obtain ⟨na, nc, ns, rfl, no, nn, nv⟩ := hI
                rw [Hfv.out]
                have nH : Hid (Nrm ns ∧ val ns = mg (pp * (X2 - X1)) ∧ ns.length ≤ 48) := ⟨nn, nv, prod_len ro.lim lo.lim rH.out.2.1 lH.out.2.1 rH.out.2.2 lH.out.2.2 no.lim nn nv⟩
                clear nn nv
                replace kP := kP.below hb
                replace mo := mo.below hb
                replace ro := ro.below hb
                replace lo := lo.below hb
                replace N := N.trans (hb.mono N.size)
                clear hb
                clear ro lo
                refine hK.out _ _ N (fun hHeld => ?_)
                clear hK K
                try simp only [Act.put, sA, sB, sC]
                refine wpAnyH_ready (rs := [17]) (by kernel_rfl) (by simp) (AllReadyH.cons (gt rfl) (fun K hK => ?_) AllReadyH.nil)
                go_simp
                refine (l2AddC fu fv ma na mc nc ms ns _ mo.toSees no.toSees mH.out.1 nH.out.1 (by have := mH.out.2.2; omega) (by have := nH.out.2.2; omega)).mono ?_
                rintro e1 ww33 ⟨u, rfl, hI, hb⟩
                rw [mH.out.2.1, nH.out.2.1, ← Hfu.out, ← Hfv.out, sg_of_mg', sg_of_mg', HNX.out] at hI
                obtain ⟨za, zc, zz, rfl, zo, zn, zv⟩ := hI
                rw [Hfnx.out]
                have zH : Hid (Nrm zz ∧ val zz = mg nx ∧ zz.length ≤ 1048575) := ⟨zn, zv, Nat.le_trans (sum_len mo.lim no.lim mH.out.2.1 nH.out.2.1 mH.out.2.2 nH.out.2.2 zo.lim zn (by rw [HNX.out]; exact zv)) (by decide)⟩
                clear zn zv
                have zb := N.size
                have r_kP_zo := row_ne_low zo kP.lt
                replace kP := kP.below hb
                replace mo := mo.below hb
                replace no := no.below hb
                replace N := N.trans (hb.mono N.size)
                clear hb
                clear mo no
                refine hK.out _ _ N (fun hHeld => ?_)
                clear hK K
                try simp only [Act.put, sA, sB, sC]
                refine wpAnyH_ready (rs := [19]) (by kernel_rfl) (by simp) (AllReadyH.cons (gt rfl) (fun K hK => ?_) AllReadyH.nil)
                have z0 := kP.c0
                have z1 := kP.c1
                have zf := kP.fr
                go_simp
                clear z0 z1 zf
                replace N := Box2.chain N kP (.bool fnx) (.slice za zz.length zc)
                replace zo := zo.put2 r_kP_zo (.bool fnx) (.slice za zz.length zc)
                replace kP := kP.put (.bool fnx) (.slice za zz.length zc)
                refine hK.out _ _ N (fun hHeld => ?_)
                clear hK K
                try simp only [Act.put, sA, sB, sC]
                refine wpAnyH_done (by kernel_rfl) ?_ _
                go_wp2
                go_meet
                case rel => exact ⟨_, za, zc, zz, rfl, kP, zo.base_le zb, zH, N⟩
            · skip
              go_simp
              have kP := Box2.new ww1 N.size (.bool false) (.slice none 0 0) 26
              have hb := below1 ww1 (.cells #[.bool false, .slice none 0 0] 26)
              replace po := po.below hb
              replace N := N.trans (hb.mono N.size)
              clear hb
              generalize ww1.alloc (.cells #[.bool false, .slice none 0 0] 26) = ww35 at *
              refine hK.out _ _ N (fun hHeld => ?_)
              clear hK K
              try simp only [Act.put, sA, sB, sC]
              refine wpAnyH_ready (rs := [6]) (by kernel_rfl) (by simp) (AllReadyH.cons (gt rfl) (fun K hK => ?_) AllReadyH.nil)
              go_simp
              rw [WQ.out]
              refine (specOf aa _ (by have := HB.out; have := BX.out; omega) (by have := HB.out; have := BX.out; omega)).mono ?_
              rintro e1 ww36 ⟨u, rfl, ⟨qa, qc, qs, rfl, qo, qn, qv⟩, hb⟩
              rw [Hfa.out]
              have qH : Hid (Nrm qs ∧ val qs = mg (aa) ∧ qs.length ≤ 24) := ⟨qn, qv, of_len (by have := HB.out; have := BX.out; omega) (by have := HB.out; have := BX.out; omega) qo.lim qn qv⟩
              clear qn qv
              replace kP := kP.below hb
              replace po := po.below hb
              replace N := N.trans (hb.mono N.size)
              clear hb
              refine hK.out _ _ N (fun hHeld => ?_)
              clear hK K
              try simp only [Act.put, sA, sB, sC]
              refine wpAnyH_ready (rs := [7]) (by kernel_rfl) (by simp) (AllReadyH.cons (gt rfl) (fun K hK => ?_) AllReadyH.nil)
              go_simp
              refine (l2MulC fx fa pa qa pc qc ps qs _ po.toSees qo.toSees (by have := pH.out.2.2; have := qH.out.2.2; omega)).mono ?_
              rintro e1 ww37 ⟨u, rfl, hI, hb⟩
              rw [pH.out.2.1, qH.out.2.1, ← Hfx.out, ← Hfa.out, prod_sg] at hI
              obtain ⟨ma, mc, ms, rfl, mo, mn, mv⟩ := hI
              rw [Hfu.out]
              have mH : Hid (Nrm ms ∧ val ms = mg (X1 * (aa)) ∧ ms.length ≤ 48) := ⟨mn, mv, prod_len po.lim qo.lim pH.out.2.1 qH.out.2.1 pH.out.2.2 qH.out.2.2 mo.lim mn mv⟩
              clear mn mv
              replace kP := kP.below hb
              replace po := po.below hb
              replace qo := qo.below hb
              replace N := N.trans (hb.mono N.size)
              clear hb
              clear po qo
              refine hK.out _ _ N (fun hHeld => ?_)
              clear hK K
              try simp only [Act.put, sA, sB, sC]
              refine wpAnyH_ready (rs := [9]) (by kernel_rfl) (by simp) (AllReadyH.cons (gt rfl) (fun K hK => ?_) AllReadyH.nil)
              go_simp
              refine (specOf pp _ (by have := HB.out; have := BX.out; omega) (by have := HB.out; have := BX.out; omega)).mono ?_
              rintro e1 ww38 ⟨u, rfl, ⟨ra, rc, rs, rfl, ro, rn, rv⟩, hb⟩
              rw [Hfp.out]
              have rH : Hid (Nrm rs ∧ val rs = mg (pp) ∧ rs.length ≤ 24) := ⟨rn, rv, of_len (by have := HB.out; have := BX.out; omega) (by have := HB.out; have := BX.out; omega) ro.lim rn rv⟩
              clear rn rv
              replace kP := kP.below hb
              replace mo := mo.below hb
              replace N := N.trans (hb.mono N.size)
              clear hb
              refine hK.out _ _ N (fun hHeld => ?_)
              clear hK K
              try simp only [Act.put, sA, sB, sC]
              refine wpAnyH_ready (rs := [15]) (by kernel_rfl) (by simp) (AllReadyH.cons (gt rfl) (fun K hK => ?_) AllReadyH.nil)
              go_simp
              rw [WD.out]
              refine (specOf (X2 - X1) _ (by have := HB.out; have := BX.out; omega) (by have := HB.out; have := BX.out; omega)).mono ?_
              rintro e1 ww39 ⟨u, rfl, ⟨la, lc, ls, rfl, lo, ln, lv⟩, hb⟩
              rw [Hfd.out]
              have lH : Hid (Nrm ls ∧ val ls = mg ((X2 - X1)) ∧ ls.length ≤ 24) := ⟨ln, lv, of_len (by have := HB.out; have := BX.out; omega) (by have := HB.out; have := BX.out; omega) lo.lim ln lv⟩
              clear ln lv
              replace kP := kP.below hb
              replace mo := mo.below hb
              replace ro := ro.below hb
              replace N := N.trans (hb.mono N.size)
              clear hb
              refine hK.out _ _ N (fun hHeld => ?_)
              clear hK K
              try simp only [Act.put, sA, sB, sC]
              refine wpAnyH_ready (rs := [16]) (by kernel_rfl) (by simp) (AllReadyH.cons (gt rfl) (fun K hK => ?_) AllReadyH.nil)
              go_simp
              refine (l2MulC fp fd ra la rc lc rs ls _ ro.toSees lo.toSees (by have := rH.out.2.2; have := lH.out.2.2; omega)).mono ?_
              rintro e1 ww40 ⟨u, rfl, hI, hb⟩
              rw [rH.out.2.1, lH.out.2.1, ← Hfp.out, ← Hfd.out, prod_sg] at hI
              obtain ⟨na, nc, ns, rfl, no, nn, nv⟩ := hI
              rw [Hfv.out]
              have nH : Hid (Nrm ns ∧ val ns = mg (pp * (X2 - X1)) ∧ ns.length ≤ 48) := ⟨nn, nv, prod_len ro.lim lo.lim rH.out.2.1 lH.out.2.1 rH.out.2.2 lH.out.2.2 no.lim nn nv⟩
              clear nn nv
              replace kP := kP.below hb
              replace mo := mo.below hb
              replace ro := ro.below hb
              replace lo := lo.below hb
              replace N := N.trans (hb.mono N.size)
              clear hb
              clear ro lo
              refine hK.out _ _ N (fun hHeld => ?_)
              clear hK K
              try simp only [Act.put, sA, sB, sC]
              refine wpAnyH_ready (rs := [17]) (by kernel_rfl) (by simp) (AllReadyH.cons (gt rfl) (fun K hK => ?_) AllReadyH.nil)
              go_simp
              refine (l2AddC fu fv ma na mc nc ms ns _ mo.toSees no.toSees mH.out.1 nH.out.1 (by have := mH.out.2.2; omega) (by have := nH.out.2.2; omega)).mono ?_
              rintro e1 ww41 ⟨u, rfl, hI, hb⟩
              rw [mH.out.2.1, nH.out.2.1, ← Hfu.out, ← Hfv.out, sg_of_mg', sg_of_mg', HNX.out] at hI
              obtain ⟨za, zc, zz, rfl, zo, zn, zv⟩ := hI
              rw [Hfnx.out]
              have zH : Hid (Nrm zz ∧ val zz = mg nx ∧ zz.length ≤ 1048575) := ⟨zn, zv, Nat.le_trans (sum_len mo.lim no.lim mH.out.2.1 nH.out.2.1 mH.out.2.2 nH.out.2.2 zo.lim zn (by rw [HNX.out]; exact zv)) (by decide)⟩
              clear zn zv
              have zb := N.size
              have r_kP_zo := row_ne_low zo kP.lt
              replace kP := kP.below hb
              replace mo := mo.below hb
              replace no := no.below hb
              replace N := N.trans (hb.mono N.size)
              clear hb
              clear mo no
              refine hK.out _ _ N (fun hHeld => ?_)
              clear hK K
              try simp only [Act.put, sA, sB, sC]
              refine wpAnyH_ready (rs := [19]) (by kernel_rfl) (by simp) (AllReadyH.cons (gt rfl) (fun K hK => ?_) AllReadyH.nil)
              have z0 := kP.c0
              have z1 := kP.c1
              have zf := kP.fr
              go_simp
              clear z0 z1 zf
              replace N := Box2.chain N kP (.bool fnx) (.slice za zz.length zc)
              replace zo := zo.put2 r_kP_zo (.bool fnx) (.slice za zz.length zc)
              replace kP := kP.put (.bool fnx) (.slice za zz.length zc)
              refine hK.out _ _ N (fun hHeld => ?_)
              clear hK K
              try simp only [Act.put, sA, sB, sC]
              refine wpAnyH_done (by kernel_rfl) ?_ _
              go_wp2
              go_meet
              case rel => exact ⟨_, za, zc, zz, rfl, kP, zo.base_le zb, zH, N⟩
          · skip
            go_simp
            have kP := Box2.new ww0 N.size (.bool false) (.slice none 0 0) 26
            have hb := below1 ww0 (.cells #[.bool false, .slice none 0 0] 26)
            replace N := N.trans (hb.mono N.size)
            clear hb
            generalize ww0.alloc (.cells #[.bool false, .slice none 0 0] 26) = ww43 at *
            refine hK.out _ _ N (fun hHeld => ?_)
            clear hK K
            try simp only [Act.put, sA, sB, sC]
            refine wpAnyH_ready (rs := [2]) (by kernel_rfl) (by simp) (AllReadyH.cons (gt rfl) (fun K hK => ?_) AllReadyH.nil)
            go_simp
            refine (specOf X1 _ (by have := HB.out; have := BX.out; omega) (by have := HB.out; have := BX.out; omega)).mono ?_
            rintro e1 ww44 ⟨u, rfl, ⟨pa, pc, ps, rfl, po, pn, pv⟩, hb⟩
            rw [Hfx.out]
            have pH : Hid (Nrm ps ∧ val ps = mg (X1) ∧ ps.length ≤ 24) := ⟨pn, pv, of_len (by have := HB.out; have := BX.out; omega) (by have := HB.out; have := BX.out; omega) po.lim pn pv⟩
            clear pn pv
            replace kP := kP.below hb
            replace N := N.trans (hb.mono N.size)
            clear hb
            refine hK.out _ _ N (fun hHeld => ?_)
            clear hK K
            try simp only [Act.put, sA, sB, sC]
            refine wpAnyH_ready (rs := [6]) (by kernel_rfl) (by simp) (AllReadyH.cons (gt rfl) (fun K hK => ?_) AllReadyH.nil)
            go_simp
            rw [WQ.out]
            refine (specOf aa _ (by have := HB.out; have := BX.out; omega) (by have := HB.out; have := BX.out; omega)).mono ?_
            rintro e1 ww45 ⟨u, rfl, ⟨qa, qc, qs, rfl, qo, qn, qv⟩, hb⟩
            rw [Hfa.out]
            have qH : Hid (Nrm qs ∧ val qs = mg (aa) ∧ qs.length ≤ 24) := ⟨qn, qv, of_len (by have := HB.out; have := BX.out; omega) (by have := HB.out; have := BX.out; omega) qo.lim qn qv⟩
            clear qn qv
            replace kP := kP.below hb
            replace po := po.below hb
            replace N := N.trans (hb.mono N.size)
            clear hb
            refine hK.out _ _ N (fun hHeld => ?_)
            clear hK K
            try simp only [Act.put, sA, sB, sC]
            refine wpAnyH_ready (rs := [7]) (by kernel_rfl) (by simp) (AllReadyH.cons (gt rfl) (fun K hK => ?_) AllReadyH.nil)
            go_simp
            refine (l2MulC fx fa pa qa pc qc ps qs _ po.toSees qo.toSees (by have := pH.out.2.2; have := qH.out.2.2; omega)).mono ?_
            rintro e1 ww46 ⟨u, rfl, hI, hb⟩
            rw [pH.out.2.1, qH.out.2.1, ← Hfx.out, ← Hfa.out, prod_sg] at hI
            obtain ⟨ma, mc, ms, rfl, mo, mn, mv⟩ := hI
            rw [Hfu.out]
            have mH : Hid (Nrm ms ∧ val ms = mg (X1 * (aa)) ∧ ms.length ≤ 48) := ⟨mn, mv, prod_len po.lim qo.lim pH.out.2.1 qH.out.2.1 pH.out.2.2 qH.out.2.2 mo.lim mn mv⟩
            clear mn mv
            replace kP := kP.below hb
            replace po := po.below hb
            replace qo := qo.below hb
            replace N := N.trans (hb.mono N.size)
            clear hb
            clear po qo
            refine hK.out _ _ N (fun hHeld => ?_)
            clear hK K
            try simp only [Act.put, sA, sB, sC]
            refine wpAnyH_ready (rs := [9]) (by kernel_rfl) (by simp) (AllReadyH.cons (gt rfl) (fun K hK => ?_) AllReadyH.nil)
            go_simp
            refine (specOf pp _ (by have := HB.out; have := BX.out; omega) (by have := HB.out; have := BX.out; omega)).mono ?_
            rintro e1 ww47 ⟨u, rfl, ⟨ra, rc, rs, rfl, ro, rn, rv⟩, hb⟩
            rw [Hfp.out]
            have rH : Hid (Nrm rs ∧ val rs = mg (pp) ∧ rs.length ≤ 24) := ⟨rn, rv, of_len (by have := HB.out; have := BX.out; omega) (by have := HB.out; have := BX.out; omega) ro.lim rn rv⟩
            clear rn rv
            replace kP := kP.below hb
            replace mo := mo.below hb
            replace N := N.trans (hb.mono N.size)
            clear hb
            refine hK.out _ _ N (fun hHeld => ?_)
            clear hK K
            try simp only [Act.put, sA, sB, sC]
            refine wpAnyH_ready (rs := [15]) (by kernel_rfl) (by simp) (AllReadyH.cons (gt rfl) (fun K hK => ?_) AllReadyH.nil)
            go_simp
            rw [WD.out]
            refine (specOf (X2 - X1) _ (by have := HB.out; have := BX.out; omega) (by have := HB.out; have := BX.out; omega)).mono ?_
            rintro e1 ww48 ⟨u, rfl, ⟨la, lc, ls, rfl, lo, ln, lv⟩, hb⟩
            rw [Hfd.out]
            have lH : Hid (Nrm ls ∧ val ls = mg ((X2 - X1)) ∧ ls.length ≤ 24) := ⟨ln, lv, of_len (by have := HB.out; have := BX.out; omega) (by have := HB.out; have := BX.out; omega) lo.lim ln lv⟩
            clear ln lv
            replace kP := kP.below hb
            replace mo := mo.below hb
            replace ro := ro.below hb
            replace N := N.trans (hb.mono N.size)
            clear hb
            refine hK.out _ _ N (fun hHeld => ?_)
            clear hK K
            try simp only [Act.put, sA, sB, sC]
            refine wpAnyH_ready (rs := [16]) (by kernel_rfl) (by simp) (AllReadyH.cons (gt rfl) (fun K hK => ?_) AllReadyH.nil)
            go_simp
            refine (l2MulC fp fd ra la rc lc rs ls _ ro.toSees lo.toSees (by have := rH.out.2.2; have := lH.out.2.2; omega)).mono ?_
            rintro e1 ww49 ⟨u, rfl, hI, hb⟩
            rw [rH.out.2.1, lH.out.2.1, ← Hfp.out, ← Hfd.out, prod_sg] at hI
            obtain ⟨na, nc, ns, rfl, no, nn, nv⟩ := hI
            rw [Hfv.out]
            have nH : Hid (Nrm ns ∧ val ns = mg (pp * (X2 - X1)) ∧ ns.length ≤ 48) := ⟨nn, nv, prod_len ro.lim lo.lim rH.out.2.1 lH.out.2.1 rH.out.2.2 lH.out.2.2 no.lim nn nv⟩
            clear nn nv
            replace kP := kP.below hb
            replace mo := mo.below hb
            replace ro := ro.below hb
            replace lo := lo.below hb
            replace N := N.trans (hb.mono N.size)
            clear hb
            clear ro lo
            refine hK.out _ _ N (fun hHeld => ?_)
            clear hK K
            try simp only [Act.put, sA, sB, sC]
            refine wpAnyH_ready (rs := [17]) (by kernel_rfl) (by simp) (AllReadyH.cons (gt rfl) (fun K hK => ?_) AllReadyH.nil)
            go_simp
            refine (l2AddC fu fv ma na mc nc ms ns _ mo.toSees no.toSees mH.out.1 nH.out.1 (by have := mH.out.2.2; omega) (by have := nH.out.2.2; omega)).mono ?_
            rintro e1 ww50 ⟨u, rfl, hI, hb⟩
            rw [mH.out.2.1, nH.out.2.1, ← Hfu.out, ← Hfv.out, sg_of_mg', sg_of_mg', HNX.out] at hI
            obtain ⟨za, zc, zz, rfl, zo, zn, zv⟩ := hI
            rw [Hfnx.out]
            have zH : Hid (Nrm zz ∧ val zz = mg nx ∧ zz.length ≤ 1048575) := ⟨zn, zv, Nat.le_trans (sum_len mo.lim no.lim mH.out.2.1 nH.out.2.1 mH.out.2.2 nH.out.2.2 zo.lim zn (by rw [HNX.out]; exact zv)) (by decide)⟩
            clear zn zv
            have zb := N.size
            have r_kP_zo := row_ne_low zo kP.lt
            replace kP := kP.below hb
            replace mo := mo.below hb
            replace no := no.below hb
            replace N := N.trans (hb.mono N.size)
            clear hb
            clear mo no
            refine hK.out _ _ N (fun hHeld => ?_)
            clear hK K
            try simp only [Act.put, sA, sB, sC]
            refine wpAnyH_ready (rs := [19]) (by kernel_rfl) (by simp) (AllReadyH.cons (gt rfl) (fun K hK => ?_) AllReadyH.nil)
            have z0 := kP.c0
            have z1 := kP.c1
            have zf := kP.fr
            go_simp
            clear z0 z1 zf
            replace N := Box2.chain N kP (.bool fnx) (.slice za zz.length zc)
            replace zo := zo.put2 r_kP_zo (.bool fnx) (.slice za zz.length zc)
            replace kP := kP.put (.bool fnx) (.slice za zz.length zc)
            refine hK.out _ _ N (fun hHeld => ?_)
            clear hK K
            try simp only [Act.put, sA, sB, sC]
            refine wpAnyH_done (by kernel_rfl) ?_ _
            go_wp2
            go_meet
            case rel => exact ⟨_, za, zc, zz, rfl, kP, zo.base_le zb, zH, N⟩
        clear Hfx Hfd Hfu Hfv WD BX j10 j11 j20 j21
        obtain ⟨px, ax, cx, zx, rfl, VX, ox, HXZ, hb⟩ := hcut
        rename World => w9
        replace V1 := V1.below hb
        replace V2 := V2.below hb
        replace R1 := R1.below hb
        replace R2 := R2.below hb
        replace B := B.trans (hb.mono B.size)
        clear hb
        obtain ⟨fx, Hfx⟩ : ∃ f, Hid (decide (Y1 < 0) = f) := ⟨_, rfl⟩
        obtain ⟨fd, Hfd⟩ : ∃ f, Hid (decide (Y2 - Y1 < 0) = f) := ⟨_, rfl⟩
        obtain ⟨fu, Hfu⟩ : ∃ f, Hid (decide (Y1 * aa < 0) = f) := ⟨_, rfl⟩
        obtain ⟨fv, Hfv⟩ : ∃ f, Hid (decide (pp * (Y2 - Y1) < 0) = f) := ⟨_, rfl⟩
        obtain ⟨fny, Hfny⟩ : ∃ f, Hid (decide (ny < 0) = f) := ⟨_, rfl⟩
        have WD : Hid (IntKind.i64.wrap (Y2 - Y1) = Y2 - Y1) := by show _ = _; rw [IntKind.wrap_i64]; unfold Crd at *; omega
        have BX : Hid ((-10000000 ≤ Y1 ∧ Y1 ≤ 10000000) ∧ (-10000000 ≤ Y2 ∧ Y2 ≤ 10000000)) := by unfold Crd at *; exact ⟨by assumption, by assumption⟩
        go_upto_region 15 with fail
        obtain ⟨j10, j11, _, _⟩ := id V1
        obtain ⟨j20, j21, _, _⟩ := id V2
        go_cut [15] (fun s W => ∃ p a9 c9 zs, s = .pointer (some ⟨p, 0, none⟩) ∧ Box2 w9.heap.size W p (.bool fny) (.slice a9 zs.length c9) ∧ Own w9.heap.size W a9 c9 zs ∧ Hid (Nrm zs ∧ val zs = mg ny ∧ zs.length ≤ 1048575) ∧ Below w9.heap.size w9 W)
        case first =>
          refine wp_region_held_drew (S := Below w9.heap.size w9) (by kernel_rfl) ((Below.refl _ _).drew) (fun hHeld => ?_)
          have N : Below w9.heap.size w9 w9.drew := hHeld
          revert hHeld N
          generalize w9.drew = ww0
          intro hHeld N
          refine takeQ (i := 0) (gt rfl) (by kernel_rfl) (fun _ _ _ h => h) (by rfl) (by intro wq _; go_simp <;> with_reducible rfl) (by assumption) ?_
          try simp only [Act.put, sA, sB, sC]
          refine takeQ (i := 1) (gt rfl) (by kernel_rfl) (fun _ _ _ h => h) (by rfl) (by intro wq hSw; have q0 := bat hSw j10; have q1 := bat hSw j11; have q2 := bat hSw j20; have q3 := bat hSw j21; go_simp <;> with_reducible rfl) (by assumption) ?_
          try simp only [Act.put, sA, sB, sC]
          refine takeQ (i := 3) (gt rfl) (by kernel_rfl) (fun _ _ _ h => h) (by rfl) (by intro wq _; go_simp <;> with_reducible rfl) (by assumption) ?_
          try simp only [Act.put, sA, sB, sC]
          refine takeQ (i := 4) (gt rfl) (by kernel_rfl) (fun _ _ _ h => h) (by rfl) (by intro wq _; go_simp <;> with_reducible rfl) (by assumption) ?_
          try simp only [Act.put, sA, sB, sC]
          refine takeQ (i := 5) (gt rfl) (by kernel_rfl) (fun _ _ _ h => h) (by rfl) (by intro wq _; go_simp <;> with_reducible rfl) (by assumption) ?_
          try simp only [Act.put, sA, sB, sC]
          refine takeQ (i := 8) (gt rfl) (by kernel_rfl) (fun _ _ _ h => h) (by rfl) (by intro wq _; go_simp <;> with_reducible rfl) (by assumption) ?_
          try simp only [Act.put, sA, sB, sC]
          refine takeQ (i := 10) (gt rfl) (by kernel_rfl) (fun _ _ _ h => h) (by rfl) (by intro wq _; go_simp <;> with_reducible rfl) (by assumption) ?_
          try simp only [Act.put, sA, sB, sC]
          refine takeQ (i := 11) (gt rfl) (by kernel_rfl) (fun _ _ _ h => h) (by rfl) (by intro wq hSw; have q0 := bat hSw j10; have q1 := bat hSw j11; have q2 := bat hSw j20; have q3 := bat hSw j21; go_simp <;> with_reducible rfl) (by assumption) ?_
          try simp only [Act.put, sA, sB, sC]
          refine takeQ (i := 12) (gt rfl) (by kernel_rfl) (fun _ _ _ h => h) (by rfl) (by intro wq _; go_simp <;> with_reducible rfl) (by assumption) ?_
          try simp only [Act.put, sA, sB, sC]
          refine takeQ (i := 13) (gt rfl) (by kernel_rfl) (fun _ _ _ h => h) (by rfl) (by intro wq hSw; have q0 := bat hSw j10; have q1 := bat hSw j11; have q2 := bat hSw j20; have q3 := bat hSw j21; go_simp <;> with_reducible rfl) (by assumption) ?_
          try simp only [Act.put, sA, sB, sC]
          refine takeQ (i := 14) (gt rfl) (by kernel_rfl) (fun _ _ _ h => h) (by rfl) (by intro wq _; go_simp <;> with_reducible rfl) (by assumption) ?_
          try simp only [Act.put, sA, sB, sC]
          refine wpAnyH_ready (rs := [2, 18]) (by kernel_rfl) (by simp) (AllReadyH.cons (gt rfl) (fun K hK => ?_) (AllReadyH.cons (gt rfl) (fun K hK => ?_) AllReadyH.nil))
          · skip
            go_simp
            refine (specOf Y1 _ (by have := HB.out; have := BX.out; omega) (by have := HB.out; have := BX.out; omega)).mono ?_
            rintro e1 ww1 ⟨u, rfl, ⟨pa, pc, ps, rfl, po, pn, pv⟩, hb⟩
            rw [Hfx.out]
            have pH : Hid (Nrm ps ∧ val ps = mg (Y1) ∧ ps.length ≤ 24) := ⟨pn, pv, of_len (by have := HB.out; have := BX.out; omega) (by have := HB.out; have := BX.out; omega) po.lim pn pv⟩
            clear pn pv
            replace N := N.trans (hb.mono N.size)
            clear hb
            refine hK.out _ _ N (fun hHeld => ?_)
            clear hK K
            try simp only [Act.put, sA, sB, sC]
            refine wpAnyH_ready (rs := [6, 18]) (by kernel_rfl) (by simp) (AllReadyH.cons (gt rfl) (fun K hK => ?_) (AllReadyH.cons (gt rfl) (fun K hK => ?_) AllReadyH.nil))
            · skip
              go_simp
              rw [WQ.out]
              refine (specOf aa _ (by have := HB.out; have := BX.out; omega) (by have := HB.out; have := BX.out; omega)).mono ?_
              rintro e1 ww2 ⟨u, rfl, ⟨qa, qc, qs, rfl, qo, qn, qv⟩, hb⟩
              rw [Hfa.out]
              have qH : Hid (Nrm qs ∧ val qs = mg (aa) ∧ qs.length ≤ 24) := ⟨qn, qv, of_len (by have := HB.out; have := BX.out; omega) (by have := HB.out; have := BX.out; omega) qo.lim qn qv⟩
              clear qn qv
              replace po := po.below hb
              replace N := N.trans (hb.mono N.size)
              clear hb
              refine hK.out _ _ N (fun hHeld => ?_)
              clear hK K
              try simp only [Act.put, sA, sB, sC]
              refine wpAnyH_ready (rs := [7, 18]) (by kernel_rfl) (by simp) (AllReadyH.cons (gt rfl) (fun K hK => ?_) (AllReadyH.cons (gt rfl) (fun K hK => ?_) AllReadyH.nil))
              · skip
                go_simp
                refine (l2MulC fx fa pa qa pc qc ps qs _ po.toSees qo.toSees (by have := pH.out.2.2; have := qH.out.2.2; omega)).mono ?_
                rintro e1 ww3 ⟨u, rfl, hI, hb⟩
                rw [pH.out.2.1, qH.out.2.1, ← Hfx.out, ← Hfa.out, prod_sg] at hI
                obtain ⟨ma, mc, ms, rfl, mo, mn, mv⟩ := hI
                rw [Hfu.out]
                have mH : Hid (Nrm ms ∧ val ms = mg (Y1 * (aa)) ∧ ms.length ≤ 48) := ⟨mn, mv, prod_len po.lim qo.lim pH.out.2.1 qH.out.2.1 pH.out.2.2 qH.out.2.2 mo.lim mn mv⟩
                clear mn mv
                replace po := po.below hb
                replace qo := qo.below hb
                replace N := N.trans (hb.mono N.size)
                clear hb
                clear po qo
                refine hK.out _ _ N (fun hHeld => ?_)
                clear hK K
                try simp only [Act.put, sA, sB, sC]
                refine wpAnyH_ready (rs := [9, 18]) (by kernel_rfl) (by simp) (AllReadyH.cons (gt rfl) (fun K hK => ?_) (AllReadyH.cons (gt rfl) (fun K hK => ?_) AllReadyH.nil))
                · skip
                  go_simp
                  refine (specOf pp _ (by have := HB.out; have := BX.out; omega) (by have := HB.out; have := BX.out; omega)).mono ?_
                  rintro e1 ww4 ⟨u, rfl, ⟨ra, rc, rs, rfl, ro, rn, rv⟩, hb⟩
                  rw [Hfp.out]
                  have rH : Hid (Nrm rs ∧ val rs = mg (pp) ∧ rs.length ≤ 24) := ⟨rn, rv, of_len (by have := HB.out; have := BX.out; omega) (by have := HB.out; have := BX.out; omega) ro.lim rn rv⟩
                  clear rn rv
                  replace mo := mo.below hb
                  replace N := N.trans (hb.mono N.size)
                  clear hb
                  refine hK.out _ _ N (fun hHeld => ?_)
                  clear hK K
                  try simp only [Act.put, sA, sB, sC]
                  refine wpAnyH_ready (rs := [15, 18]) (by kernel_rfl) (by simp) (AllReadyH.cons (gt rfl) (fun K hK => ?_) (AllReadyH.cons (gt rfl) (fun K hK => ?_) AllReadyH.nil))
                  · skip
                    go_simp
                    rw [WD.out]
                    refine (specOf (Y2 - Y1) _ (by have := HB.out; have := BX.out; omega) (by have := HB.out; have := BX.out; omega)).mono ?_
                    rintro e1 ww5 ⟨u, rfl, ⟨la, lc, ls, rfl, lo, ln, lv⟩, hb⟩
                    rw [Hfd.out]
                    have lH : Hid (Nrm ls ∧ val ls = mg ((Y2 - Y1)) ∧ ls.length ≤ 24) := ⟨ln, lv, of_len (by have := HB.out; have := BX.out; omega) (by have := HB.out; have := BX.out; omega) lo.lim ln lv⟩
                    clear ln lv
                    replace mo := mo.below hb
                    replace ro := ro.below hb
                    replace N := N.trans (hb.mono N.size)
                    clear hb
                    refine hK.out _ _ N (fun hHeld => ?_)
                    clear hK K
                    try simp only [Act.put, sA, sB, sC]
                    refine wpAnyH_ready (rs := [16, 18]) (by kernel_rfl) (by simp) (AllReadyH.cons (gt rfl) (fun K hK => ?_) (AllReadyH.cons (gt rfl) (fun K hK => ?_) AllReadyH.nil))
                    · skip
                      go_simp
                      refine (l2MulC fp fd ra la rc lc rs ls _ ro.toSees lo.toSees (by have := rH.out.2.2; have := lH.out.2.2; omega)).mono ?_
                      rintro e1 ww6 ⟨u, rfl, hI, hb⟩
                      rw [rH.out.2.1, lH.out.2.1, ← Hfp.out, ← Hfd.out, prod_sg] at hI
                      obtain ⟨na, nc, ns, rfl, no, nn, nv⟩ := hI
                      rw [Hfv.out]
                      have nH : Hid (Nrm ns ∧ val ns = mg (pp * (Y2 - Y1)) ∧ ns.length ≤ 48) := ⟨nn, nv, prod_len ro.lim lo.lim rH.out.2.1 lH.out.2.1 rH.out.2.2 lH.out.2.2 no.lim nn nv⟩
                      clear nn nv
                      replace mo := mo.below hb
                      replace ro := ro.below hb
                      replace lo := lo.below hb
                      replace N := N.trans (hb.mono N.size)
                      clear hb
                      clear ro lo
                      refine hK.out _ _ N (fun hHeld => ?_)
                      clear hK K
                      try simp only [Act.put, sA, sB, sC]
                      refine wpAnyH_ready (rs := [17, 18]) (by kernel_rfl) (by simp) (AllReadyH.cons (gt rfl) (fun K hK => ?_) (AllReadyH.cons (gt rfl) (fun K hK => ?_) AllReadyH.nil))
                      · skip
                        go_simp
                        refine (l2AddC fu fv ma na mc nc ms ns _ mo.toSees no.toSees mH.out.1 nH.out.1 (by have := mH.out.2.2; omega) (by have := nH.out.2.2; omega)).mono ?_
                        rintro e1 ww7 ⟨u, rfl, hI, hb⟩
                        rw [mH.out.2.1, nH.out.2.1, ← Hfu.out, ← Hfv.out, sg_of_mg', sg_of_mg', HNY.out] at hI
                        obtain ⟨za, zc, zz, rfl, zo, zn, zv⟩ := hI
                        rw [Hfny.out]
                        have zH : Hid (Nrm zz ∧ val zz = mg ny ∧ zz.length ≤ 1048575) := ⟨zn, zv, Nat.le_trans (sum_len mo.lim no.lim mH.out.2.1 nH.out.2.1 mH.out.2.2 nH.out.2.2 zo.lim zn (by rw [HNY.out]; exact zv)) (by decide)⟩
                        clear zn zv
                        have zb := N.size
                        replace mo := mo.below hb
                        replace no := no.below hb
                        replace N := N.trans (hb.mono N.size)
                        clear hb
                        clear mo no
                        refine hK.out _ _ N (fun hHeld => ?_)
                        clear hK K
                        try simp only [Act.put, sA, sB, sC]
                        refine wpAnyH_ready (rs := [18]) (by kernel_rfl) (by simp) (AllReadyH.cons (gt rfl) (fun K hK => ?_) AllReadyH.nil)
                        go_simp
                        have kP := Box2.new ww7 N.size (.bool false) (.slice none 0 0) 26
                        have hb := below1 ww7 (.cells #[.bool false, .slice none 0 0] 26)
                        have r_kP_zo := row_ne_high zo.toCame (Nat.le_refl _)
                        replace zo := zo.below hb
                        replace N := N.trans (hb.mono N.size)
                        clear hb
                        generalize ww7.alloc (.cells #[.bool false, .slice none 0 0] 26) = ww8 at *
                        refine hK.out _ _ N (fun hHeld => ?_)
                        clear hK K
                        try simp only [Act.put, sA, sB, sC]
                        refine wpAnyH_ready (rs := [19]) (by kernel_rfl) (by simp) (AllReadyH.cons (gt rfl) (fun K hK => ?_) AllReadyH.nil)
                        have z0 := kP.c0
                        have z1 := kP.c1
                        have zf := kP.fr
                        go_simp
                        clear z0 z1 zf
                        replace N := Box2.chain N kP (.bool fny) (.slice za zz.length zc)
                        replace zo := zo.put2 r_kP_zo (.bool fny) (.slice za zz.length zc)
                        replace kP := kP.put (.bool fny) (.slice za zz.length zc)
                        refine hK.out _ _ N (fun hHeld => ?_)
                        clear hK K
                        try simp only [Act.put, sA, sB, sC]
                        refine wpAnyH_done (by kernel_rfl) ?_ _
                        go_wp2
                        go_meet
                        case rel => exact ⟨_, za, zc, zz, rfl, kP, zo.base_le zb, zH, N⟩
                      · skip
                        go_simp
                        have kP := Box2.new ww6 N.size (.bool false) (.slice none 0 0) 26
                        have hb := below1 ww6 (.cells #[.bool false, .slice none 0 0] 26)
                        replace mo := mo.below hb
                        replace no := no.below hb
                        replace N := N.trans (hb.mono N.size)
                        clear hb
                        generalize ww6.alloc (.cells #[.bool false, .slice none 0 0] 26) = ww10 at *
                        refine hK.out _ _ N (fun hHeld => ?_)
                        clear hK K
                        try simp only [Act.put, sA, sB, sC]
                        refine wpAnyH_ready (rs := [17]) (by kernel_rfl) (by simp) (AllReadyH.cons (gt rfl) (fun K hK => ?_) AllReadyH.nil)
                        go_simp
                        refine (l2AddC fu fv ma na mc nc ms ns _ mo.toSees no.toSees mH.out.1 nH.out.1 (by have := mH.out.2.2; omega) (by have := nH.out.2.2; omega)).mono ?_
                        rintro e1 ww11 ⟨u, rfl, hI, hb⟩
                        rw [mH.out.2.1, nH.out.2.1, ← Hfu.out, ← Hfv.out, sg_of_mg', sg_of_mg', HNY.out] at hI
                        obtain ⟨za, zc, zz, rfl, zo, zn, zv⟩ := hI
                        rw [Hfny.out]
                        have zH : Hid (Nrm zz ∧ val zz = mg ny ∧ zz.length ≤ 1048575) := ⟨zn, zv, Nat.le_trans (sum_len mo.lim no.lim mH.out.2.1 nH.out.2.1 mH.out.2.2 nH.out.2.2 zo.lim zn (by rw [HNY.out]; exact zv)) (by decide)⟩
                        clear zn zv
                        have zb := N.size
                        have r_kP_zo := row_ne_low zo kP.lt
                        replace kP := kP.below hb
                        replace mo := mo.below hb
                        replace no := no.below hb
                        replace N := N.trans (hb.mono N.size)
                        clear hb
                        clear mo no
                        refine hK.out _ _ N (fun hHeld => ?_)
                        clear hK K
                        try simp only [Act.put, sA, sB, sC]
                        refine wpAnyH_ready (rs := [19]) (by kernel_rfl) (by simp) (AllReadyH.cons (gt rfl) (fun K hK => ?_) AllReadyH.nil)
                        have z0 := kP.c0
                        have z1 := kP.c1
                        have zf := kP.fr
                        go_simp
                        clear z0 z1 zf
                        replace N := Box2.chain N kP (.bool fny) (.slice za zz.length zc)
                        replace zo := zo.put2 r_kP_zo (.bool fny) (.slice za zz.length zc)
                        replace kP := kP.put (.bool fny) (.slice za zz.length zc)
                        refine hK.out _ _ N (fun hHeld => ?_)
                        clear hK K
                        try simp only [Act.put, sA, sB, sC]
                        refine wpAnyH_done (by kernel_rfl) ?_ _
                        go_wp2
                        go_meet
                        case rel => exact ⟨_, za, zc, zz, rfl, kP, zo.base_le zb, zH, N⟩
                    · skip
                      go_simp
                      have kP := Box2.new ww5 N.size (.bool false) (.slice none 0 0) 26
                      have hb := below1 ww5 (.cells #[.bool false, .slice none 0 0] 26)
                      replace mo := mo.below hb
                      replace ro := ro.below hb
                      replace lo := lo.below hb
                      replace N := N.trans (hb.mono N.size)
                      clear hb
                      generalize ww5.alloc (.cells #[.bool false, .slice none 0 0] 26) = ww13 at *
                      refine hK.out _ _ N (fun hHeld => ?_)
                      clear hK K
                      try simp only [Act.put, sA, sB, sC]
                      refine wpAnyH_ready (rs := [16]) (by kernel_rfl) (by simp) (AllReadyH.cons (gt rfl) (fun K hK => ?_) AllReadyH.nil)
                      go_simp
                      refine (l2MulC fp fd ra la rc lc rs ls _ ro.toSees lo.toSees (by have := rH.out.2.2; have := lH.out.2.2; omega)).mono ?_
                      rintro e1 ww14 ⟨u, rfl, hI, hb⟩
                      rw [rH.out.2.1, lH.out.2.1, ← Hfp.out, ← Hfd.out, prod_sg] at hI
                      obtain ⟨na, nc, ns, rfl, no, nn, nv⟩ := hI
                      rw [Hfv.out]
                      have nH : Hid (Nrm ns ∧ val ns = mg (pp * (Y2 - Y1)) ∧ ns.length ≤ 48) := ⟨nn, nv, prod_len ro.lim lo.lim rH.out.2.1 lH.out.2.1 rH.out.2.2 lH.out.2.2 no.lim nn nv⟩
                      clear nn nv
                      replace kP := kP.below hb
                      replace mo := mo.below hb
                      replace ro := ro.below hb
                      replace lo := lo.below hb
                      replace N := N.trans (hb.mono N.size)
                      clear hb
                      clear ro lo
                      refine hK.out _ _ N (fun hHeld => ?_)
                      clear hK K
                      try simp only [Act.put, sA, sB, sC]
                      refine wpAnyH_ready (rs := [17]) (by kernel_rfl) (by simp) (AllReadyH.cons (gt rfl) (fun K hK => ?_) AllReadyH.nil)
                      go_simp
                      refine (l2AddC fu fv ma na mc nc ms ns _ mo.toSees no.toSees mH.out.1 nH.out.1 (by have := mH.out.2.2; omega) (by have := nH.out.2.2; omega)).mono ?_
                      rintro e1 ww15 ⟨u, rfl, hI, hb⟩
                      rw [mH.out.2.1, nH.out.2.1, ← Hfu.out, ← Hfv.out, sg_of_mg', sg_of_mg', HNY.out] at hI
                      obtain ⟨za, zc, zz, rfl, zo, zn, zv⟩ := hI
                      rw [Hfny.out]
                      have zH : Hid (Nrm zz ∧ val zz = mg ny ∧ zz.length ≤ 1048575) := ⟨zn, zv, Nat.le_trans (sum_len mo.lim no.lim mH.out.2.1 nH.out.2.1 mH.out.2.2 nH.out.2.2 zo.lim zn (by rw [HNY.out]; exact zv)) (by decide)⟩
                      clear zn zv
                      have zb := N.size
                      have r_kP_zo := row_ne_low zo kP.lt
                      replace kP := kP.below hb
                      replace mo := mo.below hb
                      replace no := no.below hb
                      replace N := N.trans (hb.mono N.size)
                      clear hb
                      clear mo no
                      refine hK.out _ _ N (fun hHeld => ?_)
                      clear hK K
                      try simp only [Act.put, sA, sB, sC]
                      refine wpAnyH_ready (rs := [19]) (by kernel_rfl) (by simp) (AllReadyH.cons (gt rfl) (fun K hK => ?_) AllReadyH.nil)
                      have z0 := kP.c0
                      have z1 := kP.c1
                      have zf := kP.fr
                      go_simp
                      clear z0 z1 zf
                      replace N := Box2.chain N kP (.bool fny) (.slice za zz.length zc)
                      replace zo := zo.put2 r_kP_zo (.bool fny) (.slice za zz.length zc)
                      replace kP := kP.put (.bool fny) (.slice za zz.length zc)
                      refine hK.out _ _ N (fun hHeld => ?_)
                      clear hK K
                      try simp only [Act.put, sA, sB, sC]
                      refine wpAnyH_done (by kernel_rfl) ?_ _
                      go_wp2
                      go_meet
                      case rel => exact ⟨_, za, zc, zz, rfl, kP, zo.base_le zb, zH, N⟩
                  · skip
                    go_simp
                    have kP := Box2.new ww4 N.size (.bool false) (.slice none 0 0) 26
                    have hb := below1 ww4 (.cells #[.bool false, .slice none 0 0] 26)
                    replace mo := mo.below hb
                    replace ro := ro.below hb
                    replace N := N.trans (hb.mono N.size)
                    clear hb
                    generalize ww4.alloc (.cells #[.bool false, .slice none 0 0] 26) = ww17 at *
                    refine hK.out _ _ N (fun hHeld => ?_)
                    clear hK K
                    try simp only [Act.put, sA, sB, sC]
                    refine wpAnyH_ready (rs := [15]) (by kernel_rfl) (by simp) (AllReadyH.cons (gt rfl) (fun K hK => ?_) AllReadyH.nil)
                    go_simp
                    rw [WD.out]
                    refine (specOf (Y2 - Y1) _ (by have := HB.out; have := BX.out; omega) (by have := HB.out; have := BX.out; omega)).mono ?_
                    rintro e1 ww18 ⟨u, rfl, ⟨la, lc, ls, rfl, lo, ln, lv⟩, hb⟩
                    rw [Hfd.out]
                    have lH : Hid (Nrm ls ∧ val ls = mg ((Y2 - Y1)) ∧ ls.length ≤ 24) := ⟨ln, lv, of_len (by have := HB.out; have := BX.out; omega) (by have := HB.out; have := BX.out; omega) lo.lim ln lv⟩
                    clear ln lv
                    replace kP := kP.below hb
                    replace mo := mo.below hb
                    replace ro := ro.below hb
                    replace N := N.trans (hb.mono N.size)
                    clear hb
                    refine hK.out _ _ N (fun hHeld => ?_)
                    clear hK K
                    try simp only [Act.put, sA, sB, sC]
                    refine wpAnyH_ready (rs := [16]) (by kernel_rfl) (by simp) (AllReadyH.cons (gt rfl) (fun K hK => ?_) AllReadyH.nil)
                    go_simp
                    refine (l2MulC fp fd ra la rc lc rs ls _ ro.toSees lo.toSees (by have := rH.out.2.2; have := lH.out.2.2; omega)).mono ?_
                    rintro e1 ww19 ⟨u, rfl, hI, hb⟩
                    rw [rH.out.2.1, lH.out.2.1, ← Hfp.out, ← Hfd.out, prod_sg] at hI
                    obtain ⟨na, nc, ns, rfl, no, nn, nv⟩ := hI
                    rw [Hfv.out]
                    have nH : Hid (Nrm ns ∧ val ns = mg (pp * (Y2 - Y1)) ∧ ns.length ≤ 48) := ⟨nn, nv, prod_len ro.lim lo.lim rH.out.2.1 lH.out.2.1 rH.out.2.2 lH.out.2.2 no.lim nn nv⟩
                    clear nn nv
                    replace kP := kP.below hb
                    replace mo := mo.below hb
                    replace ro := ro.below hb
                    replace lo := lo.below hb
                    replace N := N.trans (hb.mono N.size)
                    clear hb
                    clear ro lo
                    refine hK.out _ _ N (fun hHeld => ?_)
                    clear hK K
                    try simp only [Act.put, sA, sB, sC]
                    refine wpAnyH_ready (rs := [17]) (by kernel_rfl) (by simp) (AllReadyH.cons (gt rfl) (fun K hK => ?_) AllReadyH.nil)
                    go_simp
                    refine (l2AddC fu fv ma na mc nc ms ns _ mo.toSees no.toSees mH.out.1 nH.out.1 (by have := mH.out.2.2; omega) (by have := nH.out.2.2; omega)).mono ?_
                    rintro e1 ww20 ⟨u, rfl, hI, hb⟩
                    rw [mH.out.2.1, nH.out.2.1, ← Hfu.out, ← Hfv.out, sg_of_mg', sg_of_mg', HNY.out] at hI
                    obtain ⟨za, zc, zz, rfl, zo, zn, zv⟩ := hI
                    rw [Hfny.out]
                    have zH : Hid (Nrm zz ∧ val zz = mg ny ∧ zz.length ≤ 1048575) := ⟨zn, zv, Nat.le_trans (sum_len mo.lim no.lim mH.out.2.1 nH.out.2.1 mH.out.2.2 nH.out.2.2 zo.lim zn (by rw [HNY.out]; exact zv)) (by decide)⟩
                    clear zn zv
                    have zb := N.size
                    have r_kP_zo := row_ne_low zo kP.lt
                    replace kP := kP.below hb
                    replace mo := mo.below hb
                    replace no := no.below hb
                    replace N := N.trans (hb.mono N.size)
                    clear hb
                    clear mo no
                    refine hK.out _ _ N (fun hHeld => ?_)
                    clear hK K
                    try simp only [Act.put, sA, sB, sC]
                    refine wpAnyH_ready (rs := [19]) (by kernel_rfl) (by simp) (AllReadyH.cons (gt rfl) (fun K hK => ?_) AllReadyH.nil)
                    have z0 := kP.c0
                    have z1 := kP.c1
                    have zf := kP.fr
                    go_simp
                    clear z0 z1 zf
                    replace N := Box2.chain N kP (.bool fny) (.slice za zz.length zc)
                    replace zo := zo.put2 r_kP_zo (.bool fny) (.slice za zz.length zc)
                    replace kP := kP.put (.bool fny) (.slice za zz.length zc)
                    refine hK.out _ _ N (fun hHeld => ?_)
                    clear hK K
                    try simp only [Act.put, sA, sB, sC]
                    refine wpAnyH_done (by kernel_rfl) ?_ _
                    go_wp2
                    go_meet
                    case rel => exact ⟨_, za, zc, zz, rfl, kP, zo.base_le zb, zH, N⟩
                · skip
                  go_simp
                  have kP := Box2.new ww3 N.size (.bool false) (.slice none 0 0) 26
                  have hb := below1 ww3 (.cells #[.bool false, .slice none 0 0] 26)
                  replace mo := mo.below hb
                  replace N := N.trans (hb.mono N.size)
                  clear hb
                  generalize ww3.alloc (.cells #[.bool false, .slice none 0 0] 26) = ww22 at *
                  refine hK.out _ _ N (fun hHeld => ?_)
                  clear hK K
                  try simp only [Act.put, sA, sB, sC]
                  refine wpAnyH_ready (rs := [9]) (by kernel_rfl) (by simp) (AllReadyH.cons (gt rfl) (fun K hK => ?_) AllReadyH.nil)
                  go_simp
                  refine (specOf pp _ (by have := HB.out; have := BX.out; omega) (by have := HB.out; have := BX.out; omega)).mono ?_
                  rintro e1 ww23 ⟨u, rfl, ⟨ra, rc, rs, rfl, ro, rn, rv⟩, hb⟩
                  rw [Hfp.out]
                  have rH : Hid (Nrm rs ∧ val rs = mg (pp) ∧ rs.length ≤ 24) := ⟨rn, rv, of_len (by have := HB.out; have := BX.out; omega) (by have := HB.out; have := BX.out; omega) ro.lim rn rv⟩
                  clear rn rv
                  replace kP := kP.below hb
                  replace mo := mo.below hb
                  replace N := N.trans (hb.mono N.size)
                  clear hb
                  refine hK.out _ _ N (fun hHeld => ?_)
                  clear hK K
                  try simp only [Act.put, sA, sB, sC]
                  refine wpAnyH_ready (rs := [15]) (by kernel_rfl) (by simp) (AllReadyH.cons (gt rfl) (fun K hK => ?_) AllReadyH.nil)
                  go_simp
                  rw [WD.out]
                  refine (specOf (Y2 - Y1) _ (by have := HB.out; have := BX.out; omega) (by have := HB.out; have := BX.out; omega)).mono ?_
                  rintro e1 ww24 ⟨u, rfl, ⟨la, lc, ls, rfl, lo, ln, lv⟩, hb⟩
                  rw [Hfd.out]
                  have lH : Hid (Nrm ls ∧ val ls = mg ((Y2 - Y1)) ∧ ls.length ≤ 24) := ⟨ln, lv, of_len (by have := HB.out; have := BX.out; omega) (by have := HB.out; have := BX.out; omega) lo.lim ln lv⟩
                  clear ln lv
                  replace kP := kP.below hb
                  replace mo := mo.below hb
                  replace ro := ro.below hb
                  replace N := N.trans (hb.mono N.size)
                  clear hb
                  refine hK.out _ _ N (fun hHeld => ?_)
                  clear hK K
                  try simp only [Act.put, sA, sB, sC]
                  refine wpAnyH_ready (rs := [16]) (by kernel_rfl) (by simp) (AllReadyH.cons (gt rfl) (fun K hK => ?_) AllReadyH.nil)
                  go_simp
                  refine (l2MulC fp fd ra la rc lc rs ls _ ro.toSees lo.toSees (by have := rH.out.2.2; have := lH.out.2.2; omega)).mono ?_
                  rintro e1 ww25 ⟨u, rfl, hI, hb⟩
                  rw [rH.out.2.1, lH.out.2.1, ← Hfp.out, ← Hfd.out, prod_sg] at hI
                  obtain ⟨na, nc, ns, rfl, no, nn, nv⟩ := hI
                  rw [Hfv.out]
                  have nH : Hid (Nrm ns ∧ val ns = mg (pp * (Y2 - Y1)) ∧ ns.length ≤ 48) := ⟨nn, nv, prod_len ro.lim lo.lim rH.out.2.1 lH.out.2.1 rH.out.2.2 lH.out.2.2 no.lim nn nv⟩
                  clear nn nv
                  replace kP := kP.below hb
                  replace mo := mo.below hb
                  replace ro := ro.below hb
                  replace lo := lo.below hb
                  replace N := N.trans (hb.mono N.size)
                  clear hb
                  clear ro lo
                  refine hK.out _ _ N (fun hHeld => ?_)
                  clear hK K
                  try simp only [Act.put, sA, sB, sC]
                  refine wpAnyH_ready (rs := [17]) (by kernel_rfl) (by simp) (AllReadyH.cons (gt rfl) (fun K hK => ?_) AllReadyH.nil)
                  go_simp
                  refine (l2AddC fu fv ma na mc nc ms ns _ mo.toSees no.toSees mH.out.1 nH.out.1 (by have := mH.out.2.2; omega) (by have := nH.out.2.2; omega)).mono ?_
                  rintro e1 ww26 ⟨u, rfl, hI, hb⟩
                  rw [mH.out.2.1, nH.out.2.1, ← Hfu.out, ← Hfv.out, sg_of_mg', sg_of_mg', HNY.out] at hI
                  obtain ⟨za, zc, zz, rfl, zo, zn, zv⟩ := hI
                  rw [Hfny.out]
                  have zH : Hid (Nrm zz ∧ val zz = mg ny ∧ zz.length ≤ 1048575) := ⟨zn, zv, Nat.le_trans (sum_len mo.lim no.lim mH.out.2.1 nH.out.2.1 mH.out.2.2 nH.out.2.2 zo.lim zn (by rw [HNY.out]; exact zv)) (by decide)⟩
                  clear zn zv
                  have zb := N.size
                  have r_kP_zo := row_ne_low zo kP.lt
                  replace kP := kP.below hb
                  replace mo := mo.below hb
                  replace no := no.below hb
                  replace N := N.trans (hb.mono N.size)
                  clear hb
                  clear mo no
                  refine hK.out _ _ N (fun hHeld => ?_)
                  clear hK K
                  try simp only [Act.put, sA, sB, sC]
                  refine wpAnyH_ready (rs := [19]) (by kernel_rfl) (by simp) (AllReadyH.cons (gt rfl) (fun K hK => ?_) AllReadyH.nil)
                  have z0 := kP.c0
                  have z1 := kP.c1
                  have zf := kP.fr
                  go_simp
                  clear z0 z1 zf
                  replace N := Box2.chain N kP (.bool fny) (.slice za zz.length zc)
                  replace zo := zo.put2 r_kP_zo (.bool fny) (.slice za zz.length zc)
                  replace kP := kP.put (.bool fny) (.slice za zz.length zc)
                  refine hK.out _ _ N (fun hHeld => ?_)
                  clear hK K
                  try simp only [Act.put, sA, sB, sC]
                  refine wpAnyH_done (by kernel_rfl) ?_ _
                  go_wp2
                  go_meet
                  case rel => exact ⟨_, za, zc, zz, rfl, kP, zo.base_le zb, zH, N⟩
              · skip
                go_simp
                have kP := Box2.new ww2 N.size (.bool false) (.slice none 0 0) 26
                have hb := below1 ww2 (.cells #[.bool false, .slice none 0 0] 26)
                replace po := po.below hb
                replace qo := qo.below hb
                replace N := N.trans (hb.mono N.size)
                clear hb
                generalize ww2.alloc (.cells #[.bool false, .slice none 0 0] 26) = ww28 at *
                refine hK.out _ _ N (fun hHeld => ?_)
                clear hK K
                try simp only [Act.put, sA, sB, sC]
                refine wpAnyH_ready (rs := [7]) (by kernel_rfl) (by simp) (AllReadyH.cons (gt rfl) (fun K hK => ?_) AllReadyH.nil)
                go_simp
                refine (l2MulC fx fa pa qa pc qc ps qs _ po.toSees qo.toSees (by have := pH.out.2.2; have := qH.out.2.2; omega)).mono ?_
                rintro e1 ww29 ⟨u, rfl, hI, hb⟩
                rw [pH.out.2.1, qH.out.2.1, ← Hfx.out, ← Hfa.out, prod_sg] at hI
                obtain ⟨ma, mc, ms, rfl, mo, mn, mv⟩ := hI
                rw [Hfu.out]
                have mH : Hid (Nrm ms ∧ val ms = mg (Y1 * (aa)) ∧ ms.length ≤ 48) := ⟨mn, mv, prod_len po.lim qo.lim pH.out.2.1 qH.out.2.1 pH.out.2.2 qH.out.2.2 mo.lim mn mv⟩
                clear mn mv
                replace kP := kP.below hb
                replace po := po.below hb
                replace qo := qo.below hb
                replace N := N.trans (hb.mono N.size)
                clear hb
                clear po qo
                refine hK.out _ _ N (fun hHeld => ?_)
                clear hK K
                try simp only [Act.put, sA, sB, sC]
                refine wpAnyH_ready (rs := [9]) (by kernel_rfl) (by simp) (AllReadyH.cons (gt rfl) (fun K hK => ?_) AllReadyH.nil)
                go_simp
                refine (specOf pp _ (by have := HB.out; have := BX.out; omega) (by have := HB.out; have := BX.out; omega)).mono ?_
                rintro e1 ww30 ⟨u, rfl, ⟨ra, rc, rs, rfl, ro, rn, rv⟩, hb⟩
                rw [Hfp.out]
                have rH : Hid (Nrm rs ∧ val rs = mg (pp) ∧ rs.length ≤ 24) := ⟨rn, rv, of_len (by have := HB.out; have := BX.out; omega) (by have := HB.out; have := BX.out; omega) ro.lim rn rv⟩
                clear rn rv
                replace kP := kP.below hb
                replace mo := mo.below hb
                replace N := N.trans (hb.mono N.size)
                clear hb
                refine hK.out _ _ N (fun hHeld => ?_)
                clear hK K
                try simp only [Act.put, sA, sB, sC]
                refine wpAnyH_ready (rs := [15]) (by kernel_rfl) (by simp) (AllReadyH.cons (gt rfl) (fun K hK => ?_) AllReadyH.nil)
                go_simp
                rw [WD.out]
                refine (specOf (Y2 - Y1) _ (by have := HB.out; have := BX.out; omega) (by have := HB.out; have := BX.out; omega)).mono ?_
                rintro e1 ww31 ⟨u, rfl, ⟨la, lc, ls, rfl, lo, ln, lv⟩, hb⟩
                rw [Hfd.out]
                have lH : Hid (Nrm ls ∧ val ls = mg ((Y2 - Y1)) ∧ ls.length ≤ 24) := ⟨ln, lv, of_len (by have := HB.out; have := BX.out; omega) (by have := HB.out; have := BX.out; omega) lo.lim ln lv⟩
                clear ln lv
                replace kP := kP.below hb
                replace mo := mo.below hb
                replace ro := ro.below hb
                replace N := N.trans (hb.mono N.size)
                clear hb
                refine hK.out _ _ N (fun hHeld => ?_)
                clear hK K
                try simp only [Act.put, sA, sB, sC]
                refine wpAnyH_ready (rs := [16]) (by kernel_rfl) (by simp) (AllReadyH.cons (gt rfl) (fun K hK => ?_) AllReadyH.nil)
                go_simp
                refine (l2MulC fp fd ra la rc lc rs ls _ ro.toSees lo.toSees (by have := rH.out.2.2; have := lH.out.2.2; omega)).mono ?_
                rintro e1 ww32 ⟨u, rfl, hI, hb⟩
                rw [rH.out.2.1, lH.out.2.1, ← Hfp.out, ← Hfd.out, prod_sg] at hI
                obtain ⟨na, nc, ns, rfl, no, nn, nv⟩ := hI
                rw [Hfv.out]
                have nH : Hid (Nrm ns ∧ val ns = mg (pp * (Y2 - Y1)) ∧ ns.length ≤ 48) := ⟨nn, nv, prod_len ro.lim lo.lim rH.out.2.1 lH.out.2.1 rH.out.2.2 lH.out.2.2 no.lim nn nv⟩
                clear nn nv
                replace kP := kP.below hb
                replace mo := mo.below hb
                replace ro := ro.below hb
                replace lo := lo.below hb
                replace N := N.trans (hb.mono N.size)
                clear hb
                clear ro lo
                refine hK.out _ _ N (fun hHeld => ?_)
                clear hK K
                try simp only [Act.put, sA, sB, sC]
                refine wpAnyH_ready (rs := [17]) (by kernel_rfl) (by simp) (AllReadyH.cons (gt rfl) (fun K hK => ?_) AllReadyH.nil)
                go_simp
                refine (l2AddC fu fv ma na mc nc ms ns _ mo.toSees no.toSees mH.out.1 nH.out.1 (by have := mH.out.2.2; omega) (by have := nH.out.2.2; omega)).mono ?_
                rintro e1 ww33 ⟨u, rfl, hI, hb⟩
                rw [mH.out.2.1, nH.out.2.1, ← Hfu.out, ← Hfv.out, sg_of_mg', sg_of_mg', HNY.out] at hI
                obtain ⟨za, zc, zz, rfl, zo, zn, zv⟩ := hI
                rw [Hfny.out]
                have zH : Hid (Nrm zz ∧ val zz = mg ny ∧ zz.length ≤ 1048575) := ⟨zn, zv, Nat.le_trans (sum_len mo.lim no.lim mH.out.2.1 nH.out.2.1 mH.out.2.2 nH.out.2.2 zo.lim zn (by rw [HNY.out]; exact zv)) (by decide)⟩
                clear zn zv
                have zb := N.size
                have r_kP_zo := row_ne_low zo kP.lt
                replace kP := kP.below hb
                replace mo := mo.below hb
                replace no := no.below hb
                replace N := N.trans (hb.mono N.size)
                clear hb
                clear mo no
                refine hK.out _ _ N (fun hHeld => ?_)
                clear hK K
                try simp only [Act.put, sA, sB, sC]
                refine wpAnyH_ready (rs := [19]) (by kernel_rfl) (by simp) (AllReadyH.cons (gt rfl) (fun K hK => ?_) AllReadyH.nil)
                have z0 := kP.c0
                have z1 := kP.c1
                have zf := kP.fr
                go_simp
                clear z0 z1 zf
                replace N := Box2.chain N kP (.bool fny) (.slice za zz.length zc)
                replace zo := zo.put2 r_kP_zo (.bool fny) (.slice za zz.length zc)
                replace kP := kP.put (.bool fny) (.slice za zz.length zc)
                refine hK.out _ _ N (fun hHeld => ?_)
                clear hK K
                try simp only [Act.put, sA, sB, sC]
                refine wpAnyH_done (by kernel_rfl) ?_ _
                go_wp2
                go_meet
                case rel => exact ⟨_, za, zc, zz, rfl, kP, zo.base_le zb, zH, N⟩
            · skip
              go_simp
              have kP := Box2.new ww1 N.size (.bool false) (.slice none 0 0) 26
              have hb := below1 ww1 (.cells #[.bool false, .slice none 0 0] 26)
              replace po := po.below hb
              replace N := N.trans (hb.mono N.size)
              clear hb
              generalize ww1.alloc (.cells #[.bool false, .slice none 0 0] 26) = ww35 at *
              refine hK.out _ _ N (fun hHeld => ?_)
              clear hK K
              try simp only [Act.put, sA, sB, sC]
              refine wpAnyH_ready (rs := [6]) (by kernel_rfl) (by simp) (AllReadyH.cons (gt rfl) (fun K hK => ?_) AllReadyH.nil)
              go_simp
              rw [WQ.out]
              refine (specOf aa _ (by have := HB.out; have := BX.out; omega) (by have := HB.out; have := BX.out; omega)).mono ?_
              rintro e1 ww36 ⟨u, rfl, ⟨qa, qc, qs, rfl, qo, qn, qv⟩, hb⟩
              rw [Hfa.out]
              have qH : Hid (Nrm qs ∧ val qs = mg (aa) ∧ qs.length ≤ 24) := ⟨qn, qv, of_len (by have := HB.out; have := BX.out; omega) (by have := HB.out; have := BX.out; omega) qo.lim qn qv⟩
              clear qn qv
              replace kP := kP.below hb
              replace po := po.below hb
              replace N := N.trans (hb.mono N.size)
              clear hb
              refine hK.out _ _ N (fun hHeld => ?_)
              clear hK K
              try simp only [Act.put, sA, sB, sC]
              refine wpAnyH_ready (rs := [7]) (by kernel_rfl) (by simp) (AllReadyH.cons (gt rfl) (fun K hK => ?_) AllReadyH.nil)
              go_simp
              refine (l2MulC fx fa pa qa pc qc ps qs _ po.toSees qo.toSees (by have := pH.out.2.2; have := qH.out.2.2; omega)).mono ?_
              rintro e1 ww37 ⟨u, rfl, hI, hb⟩
              rw [pH.out.2.1, qH.out.2.1, ← Hfx.out, ← Hfa.out, prod_sg] at hI
              obtain ⟨ma, mc, ms, rfl, mo, mn, mv⟩ := hI
              rw [Hfu.out]
              have mH : Hid (Nrm ms ∧ val ms = mg (Y1 * (aa)) ∧ ms.length ≤ 48) := ⟨mn, mv, prod_len po.lim qo.lim pH.out.2.1 qH.out.2.1 pH.out.2.2 qH.out.2.2 mo.lim mn mv⟩
              clear mn mv
              replace kP := kP.below hb
              replace po := po.below hb
              replace qo := qo.below hb
              replace N := N.trans (hb.mono N.size)
              clear hb
              clear po qo
              refine hK.out _ _ N (fun hHeld => ?_)
              clear hK K
              try simp only [Act.put, sA, sB, sC]
              refine wpAnyH_ready (rs := [9]) (by kernel_rfl) (by simp) (AllReadyH.cons (gt rfl) (fun K hK => ?_) AllReadyH.nil)
              go_simp
              refine (specOf pp _ (by have := HB.out; have := BX.out; omega) (by have := HB.out; have := BX.out; omega)).mono ?_
              rintro e1 ww38 ⟨u, rfl, ⟨ra, rc, rs, rfl, ro, rn, rv⟩, hb⟩
              rw [Hfp.out]
              have rH : Hid (Nrm rs ∧ val rs = mg (pp) ∧ rs.length ≤ 24) := ⟨rn, rv, of_len (by have := HB.out; have := BX.out; omega) (by have := HB.out; have := BX.out; omega) ro.lim rn rv⟩
              clear rn rv
              replace kP := kP.below hb
              replace mo := mo.below hb
              replace N := N.trans (hb.mono N.size)
              clear hb
              refine hK.out _ _ N (fun hHeld => ?_)
              clear hK K
              try simp only [Act.put, sA, sB, sC]
              refine wpAnyH_ready (rs := [15]) (by kernel_rfl) (by simp) (AllReadyH.cons (gt rfl) (fun K hK => ?_) AllReadyH.nil)
              go_simp
              rw [WD.out]
              refine (specOf (Y2 - Y1) _ (by have := HB.out; have := BX.out; omega) (by have := HB.out; have := BX.out; omega)).mono ?_
              rintro e1 ww39 ⟨u, rfl, ⟨la, lc, ls, rfl, lo, ln, lv⟩, hb⟩
              rw [Hfd.out]
              have lH : Hid (Nrm ls ∧ val ls = mg ((Y2 - Y1)) ∧ ls.length ≤ 24) := ⟨ln, lv, of_len (by have := HB.out; have := BX.out; omega) (by have := HB.out; have := BX.out; omega) lo.lim ln lv⟩
              clear ln lv
              replace kP := kP.below hb
              replace mo := mo.below hb
              replace ro := ro.below hb
              replace N := N.trans (hb.mono N.size)
              clear hb
              refine hK.out _ _ N (fun hHeld => ?_)
              clear hK K
              try simp only [Act.put, sA, sB, sC]
              refine wpAnyH_ready (rs := [16]) (by kernel_rfl) (by simp) (AllReadyH.cons (gt rfl) (fun K hK => ?_) AllReadyH.nil)
              go_simp
              refine (l2MulC fp fd ra la rc lc rs ls _ ro.toSees lo.toSees (by have := rH.out.2.2; have := lH.out.2.2; omega)).mono ?_
              rintro e1 ww40 ⟨u, rfl, hI, hb⟩
              rw [rH.out.2.1, lH.out.2.1, ← Hfp.out, ← Hfd.out, prod_sg] at hI
              obtain ⟨na, nc, ns, rfl, no, nn, nv⟩ := hI
              rw [Hfv.out]
              have nH : Hid (Nrm ns ∧ val ns = mg (pp * (Y2 - Y1)) ∧ ns.length ≤ 48) := ⟨nn, nv, prod_len ro.lim lo.lim rH.out.2.1 lH.out.2.1 rH.out.2.2 lH.out.2.2 no.lim nn nv⟩
              clear nn nv
              replace kP := kP.below hb
              replace mo := mo.below hb
              replace ro := ro.below hb
              replace lo := lo.below hb
              replace N := N.trans (hb.mono N.size)
              clear hb
              clear ro lo
              refine hK.out _ _ N (fun hHeld => ?_)
              clear hK K
              try simp only [Act.put, sA, sB, sC]
              refine wpAnyH_ready (rs := [17]) (by kernel_rfl) (by simp) (AllReadyH.cons (gt rfl) (fun K hK => ?_) AllReadyH.nil)
              go_simp
              refine (l2AddC fu fv ma na mc nc ms ns _ mo.toSees no.toSees mH.out.1 nH.out.1 (by have := mH.out.2.2; omega) (by have := nH.out.2.2; omega)).mono ?_
              rintro e1 ww41 ⟨u, rfl, hI, hb⟩
              rw [mH.out.2.1, nH.out.2.1, ← Hfu.out, ← Hfv.out, sg_of_mg', sg_of_mg', HNY.out] at hI
              obtain ⟨za, zc, zz, rfl, zo, zn, zv⟩ := hI
              rw [Hfny.out]
              have zH : Hid (Nrm zz ∧ val zz = mg ny ∧ zz.length ≤ 1048575) := ⟨zn, zv, Nat.le_trans (sum_len mo.lim no.lim mH.out.2.1 nH.out.2.1 mH.out.2.2 nH.out.2.2 zo.lim zn (by rw [HNY.out]; exact zv)) (by decide)⟩
              clear zn zv
              have zb := N.size
              have r_kP_zo := row_ne_low zo kP.lt
              replace kP := kP.below hb
              replace mo := mo.below hb
              replace no := no.below hb
              replace N := N.trans (hb.mono N.size)
              clear hb
              clear mo no
              refine hK.out _ _ N (fun hHeld => ?_)
              clear hK K
              try simp only [Act.put, sA, sB, sC]
              refine wpAnyH_ready (rs := [19]) (by kernel_rfl) (by simp) (AllReadyH.cons (gt rfl) (fun K hK => ?_) AllReadyH.nil)
              have z0 := kP.c0
              have z1 := kP.c1
              have zf := kP.fr
              go_simp
              clear z0 z1 zf
              replace N := Box2.chain N kP (.bool fny) (.slice za zz.length zc)
              replace zo := zo.put2 r_kP_zo (.bool fny) (.slice za zz.length zc)
              replace kP := kP.put (.bool fny) (.slice za zz.length zc)
              refine hK.out _ _ N (fun hHeld => ?_)
              clear hK K
              try simp only [Act.put, sA, sB, sC]
              refine wpAnyH_done (by kernel_rfl) ?_ _
              go_wp2
              go_meet
              case rel => exact ⟨_, za, zc, zz, rfl, kP, zo.base_le zb, zH, N⟩
          · skip
            go_simp
            have kP := Box2.new ww0 N.size (.bool false) (.slice none 0 0) 26
            have hb := below1 ww0 (.cells #[.bool false, .slice none 0 0] 26)
            replace N := N.trans (hb.mono N.size)
            clear hb
            generalize ww0.alloc (.cells #[.bool false, .slice none 0 0] 26) = ww43 at *
            refine hK.out _ _ N (fun hHeld => ?_)
            clear hK K
            try simp only [Act.put, sA, sB, sC]
            refine wpAnyH_ready (rs := [2]) (by kernel_rfl) (by simp) (AllReadyH.cons (gt rfl) (fun K hK => ?_) AllReadyH.nil)
            go_simp
            refine (specOf Y1 _ (by have := HB.out; have := BX.out; omega) (by have := HB.out; have := BX.out; omega)).mono ?_
            rintro e1 ww44 ⟨u, rfl, ⟨pa, pc, ps, rfl, po, pn, pv⟩, hb⟩
            rw [Hfx.out]
            have pH : Hid (Nrm ps ∧ val ps = mg (Y1) ∧ ps.length ≤ 24) := ⟨pn, pv, of_len (by have := HB.out; have := BX.out; omega) (by have := HB.out; have := BX.out; omega) po.lim pn pv⟩
            clear pn pv
            replace kP := kP.below hb
            replace N := N.trans (hb.mono N.size)
            clear hb
            refine hK.out _ _ N (fun hHeld => ?_)
            clear hK K
            try simp only [Act.put, sA, sB, sC]
            refine wpAnyH_ready (rs := [6]) (by kernel_rfl) (by simp) (AllReadyH.cons (gt rfl) (fun K hK => ?_) AllReadyH.nil)
            go_simp
            rw [WQ.out]
            refine (specOf aa _ (by have := HB.out; have := BX.out; omega) (by have := HB.out; have := BX.out; omega)).mono ?_
            rintro e1 ww45 ⟨u, rfl, ⟨qa, qc, qs, rfl, qo, qn, qv⟩, hb⟩
            rw [Hfa.out]
            have qH : Hid (Nrm qs ∧ val qs = mg (aa) ∧ qs.length ≤ 24) := ⟨qn, qv, of_len (by have := HB.out; have := BX.out; omega) (by have := HB.out; have := BX.out; omega) qo.lim qn qv⟩
            clear qn qv
            replace kP := kP.below hb
            replace po := po.below hb
            replace N := N.trans (hb.mono N.size)
            clear hb
            refine hK.out _ _ N (fun hHeld => ?_)
            clear hK K
            try simp only [Act.put, sA, sB, sC]
            refine wpAnyH_ready (rs := [7]) (by kernel_rfl) (by simp) (AllReadyH.cons (gt rfl) (fun K hK => ?_) AllReadyH.nil)
            go_simp
            refine (l2MulC fx fa pa qa pc qc ps qs _ po.toSees qo.toSees (by have := pH.out.2.2; have := qH.out.2.2; omega)).mono ?_
            rintro e1 ww46 ⟨u, rfl, hI, hb⟩
            rw [pH.out.2.1, qH.out.2.1, ← Hfx.out, ← Hfa.out, prod_sg] at hI
            obtain ⟨ma, mc, ms, rfl, mo, mn, mv⟩ := hI
            rw [Hfu.out]
            have mH : Hid (Nrm ms ∧ val ms = mg (Y1 * (aa)) ∧ ms.length ≤ 48) := ⟨mn, mv, prod_len po.lim qo.lim pH.out.2.1 qH.out.2.1 pH.out.2.2 qH.out.2.2 mo.lim mn mv⟩
            clear mn mv
            replace kP := kP.below hb
            replace po := po.below hb
            replace qo := qo.below hb
            replace N := N.trans (hb.mono N.size)
            clear hb
            clear po qo
            refine hK.out _ _ N (fun hHeld => ?_)
            clear hK K
            try simp only [Act.put, sA, sB, sC]
            refine wpAnyH_ready (rs := [9]) (by kernel_rfl) (by simp) (AllReadyH.cons (gt rfl) (fun K hK => ?_) AllReadyH.nil)
            go_simp
            refine (specOf pp _ (by have := HB.out; have := BX.out; omega) (by have := HB.out; have := BX.out; omega)).mono ?_
            rintro e1 ww47 ⟨u, rfl, ⟨ra, rc, rs, rfl, ro, rn, rv⟩, hb⟩
            rw [Hfp.out]
            have rH : Hid (Nrm rs ∧ val rs = mg (pp) ∧ rs.length ≤ 24) := ⟨rn, rv, of_len (by have := HB.out; have := BX.out; omega) (by have := HB.out; have := BX.out; omega) ro.lim rn rv⟩
            clear rn rv
            replace kP := kP.below hb
            replace mo := mo.below hb
            replace N := N.trans (hb.mono N.size)
            clear hb
            refine hK.out _ _ N (fun hHeld => ?_)
            clear hK K
            try simp only [Act.put, sA, sB, sC]
            refine wpAnyH_ready (rs := [15]) (by kernel_rfl) (by simp) (AllReadyH.cons (gt rfl) (fun K hK => ?_) AllReadyH.nil)
            go_simp
            rw [WD.out]
            refine (specOf (Y2 - Y1) _ (by have := HB.out; have := BX.out; omega) (by have := HB.out; have := BX.out; omega)).mono ?_
            rintro e1 ww48 ⟨u, rfl, ⟨la, lc, ls, rfl, lo, ln, lv⟩, hb⟩
            rw [Hfd.out]
            have lH : Hid (Nrm ls ∧ val ls = mg ((Y2 - Y1)) ∧ ls.length ≤ 24) := ⟨ln, lv, of_len (by have := HB.out; have := BX.out; omega) (by have := HB.out; have := BX.out; omega) lo.lim ln lv⟩
            clear ln lv
            replace kP := kP.below hb
            replace mo := mo.below hb
            replace ro := ro.below hb
            replace N := N.trans (hb.mono N.size)
            clear hb
            refine hK.out _ _ N (fun hHeld => ?_)
            clear hK K
            try simp only [Act.put, sA, sB, sC]
            refine wpAnyH_ready (rs := [16]) (by kernel_rfl) (by simp) (AllReadyH.cons (gt rfl) (fun K hK => ?_) AllReadyH.nil)
            go_simp
            refine (l2MulC fp fd ra la rc lc rs ls _ ro.toSees lo.toSees (by have := rH.out.2.2; have := lH.out.2.2; omega)).mono ?_
            rintro e1 ww49 ⟨u, rfl, hI, hb⟩
            rw [rH.out.2.1, lH.out.2.1, ← Hfp.out, ← Hfd.out, prod_sg] at hI
            obtain ⟨na, nc, ns, rfl, no, nn, nv⟩ := hI
            rw [Hfv.out]
            have nH : Hid (Nrm ns ∧ val ns = mg (pp * (Y2 - Y1)) ∧ ns.length ≤ 48) := ⟨nn, nv, prod_len ro.lim lo.lim rH.out.2.1 lH.out.2.1 rH.out.2.2 lH.out.2.2 no.lim nn nv⟩
            clear nn nv
            replace kP := kP.below hb
            replace mo := mo.below hb
            replace ro := ro.below hb
            replace lo := lo.below hb
            replace N := N.trans (hb.mono N.size)
            clear hb
            clear ro lo
            refine hK.out _ _ N (fun hHeld => ?_)
            clear hK K
            try simp only [Act.put, sA, sB, sC]
            refine wpAnyH_ready (rs := [17]) (by kernel_rfl) (by simp) (AllReadyH.cons (gt rfl) (fun K hK => ?_) AllReadyH.nil)
            go_simp
            refine (l2AddC fu fv ma na mc nc ms ns _ mo.toSees no.toSees mH.out.1 nH.out.1 (by have := mH.out.2.2; omega) (by have := nH.out.2.2; omega)).mono ?_
            rintro e1 ww50 ⟨u, rfl, hI, hb⟩
            rw [mH.out.2.1, nH.out.2.1, ← Hfu.out, ← Hfv.out, sg_of_mg', sg_of_mg', HNY.out] at hI
            obtain ⟨za, zc, zz, rfl, zo, zn, zv⟩ := hI
            rw [Hfny.out]
            have zH : Hid (Nrm zz ∧ val zz = mg ny ∧ zz.length ≤ 1048575) := ⟨zn, zv, Nat.le_trans (sum_len mo.lim no.lim mH.out.2.1 nH.out.2.1 mH.out.2.2 nH.out.2.2 zo.lim zn (by rw [HNY.out]; exact zv)) (by decide)⟩
            clear zn zv
            have zb := N.size
            have r_kP_zo := row_ne_low zo kP.lt
            replace kP := kP.below hb
            replace mo := mo.below hb
            replace no := no.below hb
            replace N := N.trans (hb.mono N.size)
            clear hb
            clear mo no
            refine hK.out _ _ N (fun hHeld => ?_)
            clear hK K
            try simp only [Act.put, sA, sB, sC]
            refine wpAnyH_ready (rs := [19]) (by kernel_rfl) (by simp) (AllReadyH.cons (gt rfl) (fun K hK => ?_) AllReadyH.nil)
            have z0 := kP.c0
            have z1 := kP.c1
            have zf := kP.fr
            go_simp
            clear z0 z1 zf
            replace N := Box2.chain N kP (.bool fny) (.slice za zz.length zc)
            replace zo := zo.put2 r_kP_zo (.bool fny) (.slice za zz.length zc)
            replace kP := kP.put (.bool fny) (.slice za zz.length zc)
            refine hK.out _ _ N (fun hHeld => ?_)
            clear hK K
            try simp only [Act.put, sA, sB, sC]
            refine wpAnyH_done (by kernel_rfl) ?_ _
            go_wp2
            go_meet
            case rel => exact ⟨_, za, zc, zz, rfl, kP, zo.base_le zb, zH, N⟩
        clear Hfx Hfd Hfu Hfv WD BX j10 j11 j20 j21
        obtain ⟨py, ay, cy, zy, rfl, VY, oy, HYZ, hb⟩ := hcut
        rename World => w10
        have LX : Hid (px < w9.heap.size) := VX.lt
        replace V1 := V1.below hb
        replace V2 := V2.below hb
        replace R1 := R1.below hb
        replace R2 := R2.below hb
        replace VX := VX.below hb
        replace ox := ox.below hb
        replace B := B.trans (hb.mono B.size)
        clear hb
        clear V1 V2 WQ
        have sz9 : w8.heap.size ≤ w9.heap.size := Nat.le_trans VX.lo (Nat.le_of_lt LX.out)
        go_wp2_with fail
        refine (specOf aa _ (by have := HB.out; omega) (by have := HB.out; omega)).mono ?_
        rintro e w11 ⟨v, rfl, ⟨aw, cw, zw, rfl, ow, nw, vw⟩, hb⟩
        rw [Hfa.out]
        have HWZ : Hid (Nrm zw ∧ val zw = mg aa ∧ zw.length ≤ 24) := ⟨nw, vw, of_len (by have := HB.out; omega) (by have := HB.out; omega) ow.lim nw vw⟩
        clear nw vw
        have LY : Hid (py < w10.heap.size) := VY.lt
        have LW : Hid (w10.heap.size ≤ w11.heap.size) := hb.size
        have loY : Hid (w9.heap.size ≤ py) := VY.lo
        replace R1 := R1.below hb
        replace R2 := R2.below hb
        replace VX := VX.below hb
        replace ox := ox.below hb
        replace VY := VY.below hb
        replace oy := oy.below hb
        replace B := B.trans (hb.mono B.size)
        clear hb
        have hRX : Hid (some w11.heap.size ≠ rowOf ax zx) := row_ne_high ox.toCame (Nat.le_refl _)
        have hRY : Hid (some w11.heap.size ≠ rowOf ay zy) := row_ne_high oy.toCame (Nat.le_refl _)
        have hRW : Hid (some w11.heap.size ≠ rowOf aw zw) := row_ne_high ow.toCame (Nat.le_refl _)
        have bn := below1 w11 (.cells #[.bool fa, .slice aw zw.length cw] 26)
        have VW := Box2.new w11 (lo := w8.heap.size) (by have := LW.out; have := LY.out; have := loY.out; omega) (.bool fa) (.slice aw zw.length cw) 26
        replace ow := ow.below bn
        replace R1 := R1.below bn
        replace R2 := R2.below bn
        replace VX := VX.below bn
        replace ox := ox.below bn
        replace VY := VY.below bn
        replace oy := oy.below bn
        replace B := B.trans (bn.mono B.size)
        clear bn
        clear WQ2
        have rXW : some w11.heap.size ≠ rowOf ax zx := hRX.out
        have rYW : some w11.heap.size ≠ rowOf ay zy := hRY.out
        have rWW : some w11.heap.size ≠ rowOf aw zw := hRW.out
        have SZ : Hid (w.heap.size + 1 + 1 + 1 + 1 + 1 < px ∧ px < py ∧ py < w11.heap.size ∧ px < w9.heap.size) := by have := LX.out; have := LY.out; have := LW.out; have := loY.out; have := VX.lo; exact ⟨by omega, by omega, by omega, by omega⟩
        go_upto_region 17 with fail
        generalize w11.alloc (.cells #[.bool fa, .slice aw zw.length cw] 26) = W12 at *
        generalize w11.heap.size = qw at *
        obtain ⟨k0, k1, _, _⟩ := id VW
        cases fa
        · skip
          have hn0 : ¬ aa < 0 := of_decide_eq_false Hfa.out
          have LO1 := low_pos HXZ.out.2.1 HWZ.out.2.1 hn0
          have LO2 := low_pos HYZ.out.2.1 HWZ.out.2.1 hn0
          rw [Hfnx.out] at LO1
          rw [Hfny.out] at LO2
          have H3 : Hid (Nrm zw ∧ zw ≠ [] ∧ zw.length ≤ 1048575) := ⟨HWZ.out.1, nrm_ne0 HWZ.out.2.1 HB.out.1, by have := HWZ.out.2.2; omega⟩
          clear hn0
          have K : W12.cell? ⟨px, 0, none⟩ = some (.bool fnx) ∧ W12.cell? ⟨px, 1, none⟩ = some (.slice ax zx.length cx) ∧ W12.cell? ⟨py, 0, none⟩ = some (.bool fny) ∧ W12.cell? ⟨py, 1, none⟩ = some (.slice ay zy.length cy) ∧ W12.cell? ⟨qw, 0, none⟩ = some (.bool false) ∧ W12.cell? ⟨qw, 1, none⟩ = some (.slice aw zw.length cw) := ⟨VX.c0, VX.c1, VY.c0, VY.c1, VW.c0, VW.c1⟩
          have Kd : W12.drew.cell? ⟨px, 0, none⟩ = some (.bool fnx) ∧ W12.drew.cell? ⟨px, 1, none⟩ = some (.slice ax zx.length cx) ∧ W12.drew.cell? ⟨py, 0, none⟩ = some (.bool fny) ∧ W12.drew.cell? ⟨py, 1, none⟩ = some (.slice ay zy.length cy) ∧ W12.drew.cell? ⟨qw, 0, none⟩ = some (.bool false) ∧ W12.drew.cell? ⟨qw, 1, none⟩ = some (.slice aw zw.length cw) := K
          have N0 : Below W12.heap.size W12 W12.drew := (Below.refl _ _).drew
          obtain ⟨sz1, sz2, sz3, _⟩ := SZ.out
          have HWn := R2.lt
          go_upto_region 21 with fail
          go_region_held3 (fun w' => w'.cell? ⟨px, 0, none⟩ = some (.bool fnx) ∧ w'.cell? ⟨px, 1, none⟩ = some (.slice ax zx.length cx) ∧ w'.cell? ⟨py, 0, none⟩ = some (.bool fny) ∧ w'.cell? ⟨py, 1, none⟩ = some (.slice ay zy.length cy) ∧ w'.cell? ⟨qw, 0, none⟩ = some (.bool false) ∧ w'.cell? ⟨qw, 1, none⟩ = some (.slice aw zw.length cw))
            (first | with_reducible exact Kd | with_reducible exact t1 | with_reducible exact t2 | with_reducible exact ⟨(cput4 (by omega)).trans t2.1, (cput4 (by omega)).trans t2.2.1, (cput4 (by omega)).trans t2.2.2.1, (cput4 (by omega)).trans t2.2.2.2.1, (cput4 (by omega)).trans t2.2.2.2.2.1, (cput4 (by omega)).trans t2.2.2.2.2.2⟩ | with_reducible exact ⟨(cput4 (by omega)).trans ((cput4 (by omega)).trans t2.1), (cput4 (by omega)).trans ((cput4 (by omega)).trans t2.2.1), (cput4 (by omega)).trans ((cput4 (by omega)).trans t2.2.2.1), (cput4 (by omega)).trans ((cput4 (by omega)).trans t2.2.2.2.1), (cput4 (by omega)).trans ((cput4 (by omega)).trans t2.2.2.2.2.1), (cput4 (by omega)).trans ((cput4 (by omega)).trans t2.2.2.2.2.2)⟩)
            (first
            | (go_at_call_of 37 (Value.slice ax zx.length cx); refine (l2LowestC fnx false ax aw cx cw zx zw _ (ox.toSees.below N0) (ow.toSees.below N0) (And.intro HXZ.out.1 HXZ.out.2.2).1 H3.out.1 H3.out.2.1 (And.intro HXZ.out.1 HXZ.out.2.2).2 H3.out.2.2).mono ?_; rintro e wA ⟨v3, rfl, I3, hb⟩; rw [LO1.1, LO1.2] at I3; have N3 := N0.trans hb; have t1 : wA.cell? ⟨px, 0, none⟩ = some (.bool fnx) ∧ wA.cell? ⟨px, 1, none⟩ = some (.slice ax zx.length cx) ∧ wA.cell? ⟨py, 0, none⟩ = some (.bool fny) ∧ wA.cell? ⟨py, 1, none⟩ = some (.slice ay zy.length cy) ∧ wA.cell? ⟨qw, 0, none⟩ = some (.bool false) ∧ wA.cell? ⟨qw, 1, none⟩ = some (.slice aw zw.length cw) := ⟨bat N3 K.1, bat N3 K.2.1, bat N3 K.2.2.1, bat N3 K.2.2.2.1, bat N3 K.2.2.2.2.1, bat N3 K.2.2.2.2.2⟩; have z3 := N3.size)
            | (go_at_call_of 37 (Value.slice ay zy.length cy); refine (l2LowestC fny false ay aw cy cw zy zw _ (oy.toSees.below N3) (ow.toSees.below N3) (And.intro HYZ.out.1 HYZ.out.2.2).1 H3.out.1 H3.out.2.1 (And.intro HYZ.out.1 HYZ.out.2.2).2 H3.out.2.2).mono ?_; rintro e wB ⟨v4, rfl, I4, hb4⟩; rw [LO2.1, LO2.2] at I4; have N4 := N3.trans (hb4.mono N3.size); have t2 : wB.cell? ⟨px, 0, none⟩ = some (.bool fnx) ∧ wB.cell? ⟨px, 1, none⟩ = some (.slice ax zx.length cx) ∧ wB.cell? ⟨py, 0, none⟩ = some (.bool fny) ∧ wB.cell? ⟨py, 1, none⟩ = some (.slice ay zy.length cy) ∧ wB.cell? ⟨qw, 0, none⟩ = some (.bool false) ∧ wB.cell? ⟨qw, 1, none⟩ = some (.slice aw zw.length cw) := ⟨bat N4 K.1, bat N4 K.2.1, bat N4 K.2.2.1, bat N4 K.2.2.2.1, bat N4 K.2.2.2.2.1, bat N4 K.2.2.2.2.2⟩; have TF := (TwoFr.of I3 hb4 I4 z3 (Nat.le_refl _)).base_le (show W12.heap.size ≤ _ from Nat.le_refl _); obtain ⟨g1, q1, m1, r1, g2, q2, m2, r2, g3, q3, m3, r3, g4, q4, m4, r4, E1, E2⟩ := TF.is'; subst E1; subst E2; have B4 := B.trans (N4.mono B.size); have R14 := R1.below N4; have R24 := R2.below N4; obtain ⟨s0, s1, s2, s3, sf, _⟩ := id R14; obtain ⟨u0, u1, u2, u3, uf, _⟩ := id R24))
          all_goals
            replace B := B4
            replace R1 := R14
            replace R2 := R24
            clear B4 R14 R24
            have F1 := (((TF.put (b := w.heap.size + 1 + 1 + 1 + 1) (by omega) (.bool g1) (.slice q1 m1 r1) (.bool g2) (.slice q2 m2 r2)).put (b := w.heap.size + 1 + 1 + 1 + 1 + 1) (by omega) (.bool g3) (.slice q3 m3 r3) (.bool g4) (.slice q4 m4 r4))).base_le (show w.heap.size ≤ _ by omega)
            have F3 := Box4.chain (Box4.chain B R1 (.bool g1) (.slice q1 m1 r1) (.bool g2) (.slice q2 m2 r2)) (R2.old (by omega) (.bool g1) (.slice q1 m1 r1) (.bool g2) (.slice q2 m2 r2)) (.bool g3) (.slice q3 m3 r3) (.bool g4) (.slice q4 m4 r4)
            go_wp2
            exact bodyPost_ret (v := .tuple #[.int .i64 1, .agg #[.bool g1, .slice q1 m1 r1, .bool g2, .slice q2 m2 r2], .agg #[.bool g3, .slice q3 m3 r3, .bool g4, .slice q4 m4 r4]]) (by simp [results, Try.results7, go_sem, s0, s1, s2, s3, u0, u1, u2, u3]) rfl ⟨_, _, rfl, F1.eq HE.out.1 HE.out.2.1 HE.out.2.2.1 HE.out.2.2.2, F3⟩
        · skip
          have hn0 : aa < 0 := of_decide_eq_true Hfa.out
          have TW := (tk_val ow.lim HWZ.out.1 HWZ.out.2.2 HWZ.out.2.1).2
          rw [Hfa.out] at TW
          go_wp2_with fail
          refine (specNeg true aw cw zw _ ow.toSees).mono ?_
          rintro e w13 ⟨v, rfl, hI, hb⟩
          rw [TW] at hI
          obtain ⟨aV, cV, zV, rfl, oV, nV, vV⟩ := hI
          have ef : decide (-aa < 0) = false := decide_eq_false (by omega)
          rw [ef]
          clear k0 k1 TW ef ow rWW
          have H3 : Hid (Nrm zV ∧ zV ≠ [] ∧ zV.length ≤ 1048575) := ⟨nV, nrm_ne0 vV (by omega), Nat.le_trans (of_len (by have := HB.out; omega) (by have := HB.out; omega) oV.lim nV vV) (by decide)⟩
          have HVV : Hid (val zV = mg (-aa)) := vV
          clear nV vV
          have L12 : Hid (qw < W12.heap.size) := VW.lt
          replace R1 := R1.below hb
          replace R2 := R2.below hb
          replace VX := VX.below hb
          replace ox := ox.below hb
          replace VY := VY.below hb
          replace oy := oy.below hb
          replace VW := VW.below hb
          replace B := B.trans (hb.mono B.size)
          clear hb
          have rVW := row_ne_low oV L12.out
          obtain ⟨k0, k1, kf, _⟩ := id VW
          obtain ⟨j0, j1, _, _⟩ := VX.old (p := qw) (by have := SZ.out; omega) (.bool false) (.slice aV zV.length cV)
          go_wp2_with fail
          clear k0 k1 kf j0 j1
          replace B := Box2.chain B (VW.lowM (show w.heap.size ≤ w8.heap.size by omega)) (.bool false) (.slice aV zV.length cV)
          replace VX := VX.old (p := qw) (by have := SZ.out; omega) (.bool false) (.slice aV zV.length cV)
          replace VY := VY.old (p := qw) (by have := SZ.out; omega) (.bool false) (.slice aV zV.length cV)
          replace R1 := R1.oldx (p := qw) (by have := SZ.out; omega) (.bool false) (.slice aV zV.length cV)
          replace R2 := R2.oldx (p := qw) (by have := SZ.out; omega) (.bool false) (.slice aV zV.length cV)
          replace VW := VW.put (.bool false) (.slice aV zV.length cV)
          replace ox := ox.put2 rXW (.bool false) (.slice aV zV.length cV)
          replace oy := oy.put2 rYW (.bool false) (.slice aV zV.length cV)
          replace oV := oV.put2 rVW (.bool false) (.slice aV zV.length cV)
          generalize (w13.setCell ⟨qw, 0, none⟩ (.bool false)).setCell ⟨qw, 1, none⟩ (.slice aV zV.length cV) = W13 at *
          obtain ⟨gnx, Hgnx⟩ : ∃ f, Hid (decide (-nx < 0) = f) := ⟨_, rfl⟩
          refine (l1NumC (!fnx) ax cx zx _ ox.toSees (by have := HXZ.out.2.2; omega)).mono ?_
          rintro e w14 ⟨v, rfl, hI, hb⟩
          rw [sg_not, HXZ.out.2.1, ← Hfnx.out, sg_mgD] at hI
          obtain ⟨aP, cP, zP, rfl, oP, nP, vP⟩ := hI
          rw [Hgnx.out]
          have HP : Hid (Nrm zP ∧ val zP = mg (-nx) ∧ zP.length ≤ 1048575) := by
            refine ⟨nP, vP, ?_⟩
            have e : zP = zx := val_inj oP.lim ox.lim nP HXZ.out.1 (by rw [vP, HXZ.out.2.1]; unfold mg; split <;> split <;> omega)
            rw [e]
            exact HXZ.out.2.2
          clear nP vP ox
          have LP : Hid (qw < W13.heap.size) := VW.lt
          replace R1 := R1.below hb
          replace R2 := R2.below hb
          replace VX := VX.below hb
          replace VY := VY.below hb
          replace VW := VW.below hb
          replace oy := oy.below hb
          replace oV := oV.below hb
          replace B := B.trans (hb.mono B.size)
          clear hb
          have rP := row_ne_low oP (show px < W13.heap.size by have := SZ.out; have := LP.out; omega)
          obtain ⟨k0, k1, kf, _⟩ := id VX
          obtain ⟨j0, j1, _, _⟩ := VY.old (p := px) (by have := SZ.out; omega) (.bool gnx) (.slice aP zP.length cP)
          go_wp2_with fail
          clear k0 k1 kf j0 j1
          replace B := Box2.chain B (VX.lowM (show w.heap.size ≤ w8.heap.size by omega)) (.bool gnx) (.slice aP zP.length cP)
          replace VY := VY.old (p := px) (by have := SZ.out; omega) (.bool gnx) (.slice aP zP.length cP)
          replace VW := VW.old (p := px) (by have := SZ.out; omega) (.bool gnx) (.slice aP zP.length cP)
          replace VX := VX.put (.bool gnx) (.slice aP zP.length cP)
          replace R1 := R1.oldx (p := px) (by have := SZ.out; omega) (.bool gnx) (.slice aP zP.length cP)
          replace R2 := R2.oldx (p := px) (by have := SZ.out; omega) (.bool gnx) (.slice aP zP.length cP)
          replace oy := oy.put2 (row_ne_low oy SZ.out.2.2.2) (.bool gnx) (.slice aP zP.length cP)
          replace oV := oV.put2 (row_ne_low oV (show px < W12.heap.size by have := SZ.out; have := L12.out; omega)) (.bool gnx) (.slice aP zP.length cP)
          replace oP := oP.put2 rP (.bool gnx) (.slice aP zP.length cP)
          generalize (w14.setCell ⟨px, 0, none⟩ (.bool gnx)).setCell ⟨px, 1, none⟩ (.slice aP zP.length cP) = Ww14 at *
          obtain ⟨gny, Hgny⟩ : ∃ f, Hid (decide (-ny < 0) = f) := ⟨_, rfl⟩
          refine (l1NumC (!fny) ay cy zy _ oy.toSees (by have := HYZ.out.2.2; omega)).mono ?_
          rintro e w15 ⟨v, rfl, hI, hb⟩
          rw [sg_not, HYZ.out.2.1, ← Hfny.out, sg_mgD] at hI
          obtain ⟨aQ, cQ, zQ, rfl, oQ, nQ, vQ⟩ := hI
          rw [Hgny.out]
          have HQ : Hid (Nrm zQ ∧ val zQ = mg (-ny) ∧ zQ.length ≤ 1048575) := by
            refine ⟨nQ, vQ, ?_⟩
            have e : zQ = zy := val_inj oQ.lim oy.lim nQ HYZ.out.1 (by rw [vQ, HYZ.out.2.1]; unfold mg; split <;> split <;> omega)
            rw [e]
            exact HYZ.out.2.2
          clear nQ vQ oy
          have LQ : Hid (qw < Ww14.heap.size) := VW.lt
          replace R1 := R1.below hb
          replace R2 := R2.below hb
          replace VX := VX.below hb
          replace VY := VY.below hb
          replace VW := VW.below hb
          replace oP := oP.below hb
          replace oV := oV.below hb
          replace B := B.trans (hb.mono B.size)
          clear hb
          have rQ := row_ne_low oQ (show py < Ww14.heap.size by have := SZ.out; have := LQ.out; omega)
          obtain ⟨k0, k1, kf, _⟩ := id VY
          go_upto_region 21 with fail
          clear k0 k1 kf
          replace B := Box2.chain B (VY.lowM (show w.heap.size ≤ w9.heap.size by omega)) (.bool gny) (.slice aQ zQ.length cQ)
          replace VX := VX.old (p := py) (by have := SZ.out; omega) (.bool gny) (.slice aQ zQ.length cQ)
          replace VW := VW.old (p := py) (by have := SZ.out; omega) (.bool gny) (.slice aQ zQ.length cQ)
          replace VY := VY.put (.bool gny) (.slice aQ zQ.length cQ)
          replace R1 := R1.oldx (p := py) (by have := SZ.out; omega) (.bool gny) (.slice aQ zQ.length cQ)
          replace R2 := R2.oldx (p := py) (by have := SZ.out; omega) (.bool gny) (.slice aQ zQ.length cQ)
          replace oP := oP.put2 (row_ne_low oP (show py < W13.heap.size by have := SZ.out; have := LP.out; omega)) (.bool gny) (.slice aQ zQ.length cQ)
          replace oV := oV.put2 (row_ne_low oV (show py < W12.heap.size by have := SZ.out; have := L12.out; omega)) (.bool gny) (.slice aQ zQ.length cQ)
          replace oQ := oQ.put2 rQ (.bool gny) (.slice aQ zQ.length cQ)
          generalize (w15.setCell ⟨py, 0, none⟩ (.bool gny)).setCell ⟨py, 1, none⟩ (.slice aQ zQ.length cQ) = Ww15 at *
          have LO1 := low_neg HP.out.2.1 HVV.out hn0
          have LO2 := low_neg HQ.out.2.1 HVV.out hn0
          rw [Hgnx.out] at LO1
          rw [Hgny.out] at LO2
          have ow := oV
          have ox := oP
          have oy := oQ
          clear hn0
          have K : Ww15.cell? ⟨px, 0, none⟩ = some (.bool gnx) ∧ Ww15.cell? ⟨px, 1, none⟩ = some (.slice aP zP.length cP) ∧ Ww15.cell? ⟨py, 0, none⟩ = some (.bool gny) ∧ Ww15.cell? ⟨py, 1, none⟩ = some (.slice aQ zQ.length cQ) ∧ Ww15.cell? ⟨qw, 0, none⟩ = some (.bool false) ∧ Ww15.cell? ⟨qw, 1, none⟩ = some (.slice aV zV.length cV) := ⟨VX.c0, VX.c1, VY.c0, VY.c1, VW.c0, VW.c1⟩
          have Kd : Ww15.drew.cell? ⟨px, 0, none⟩ = some (.bool gnx) ∧ Ww15.drew.cell? ⟨px, 1, none⟩ = some (.slice aP zP.length cP) ∧ Ww15.drew.cell? ⟨py, 0, none⟩ = some (.bool gny) ∧ Ww15.drew.cell? ⟨py, 1, none⟩ = some (.slice aQ zQ.length cQ) ∧ Ww15.drew.cell? ⟨qw, 0, none⟩ = some (.bool false) ∧ Ww15.drew.cell? ⟨qw, 1, none⟩ = some (.slice aV zV.length cV) := K
          have N0 : Below Ww15.heap.size Ww15 Ww15.drew := (Below.refl _ _).drew
          obtain ⟨sz1, sz2, sz3, _⟩ := SZ.out
          have HWn := R2.lt
          go_upto_region 21 with fail
          go_region_held3 (fun w' => w'.cell? ⟨px, 0, none⟩ = some (.bool gnx) ∧ w'.cell? ⟨px, 1, none⟩ = some (.slice aP zP.length cP) ∧ w'.cell? ⟨py, 0, none⟩ = some (.bool gny) ∧ w'.cell? ⟨py, 1, none⟩ = some (.slice aQ zQ.length cQ) ∧ w'.cell? ⟨qw, 0, none⟩ = some (.bool false) ∧ w'.cell? ⟨qw, 1, none⟩ = some (.slice aV zV.length cV))
            (first | with_reducible exact Kd | with_reducible exact t1 | with_reducible exact t2 | with_reducible exact ⟨(cput4 (by omega)).trans t2.1, (cput4 (by omega)).trans t2.2.1, (cput4 (by omega)).trans t2.2.2.1, (cput4 (by omega)).trans t2.2.2.2.1, (cput4 (by omega)).trans t2.2.2.2.2.1, (cput4 (by omega)).trans t2.2.2.2.2.2⟩ | with_reducible exact ⟨(cput4 (by omega)).trans ((cput4 (by omega)).trans t2.1), (cput4 (by omega)).trans ((cput4 (by omega)).trans t2.2.1), (cput4 (by omega)).trans ((cput4 (by omega)).trans t2.2.2.1), (cput4 (by omega)).trans ((cput4 (by omega)).trans t2.2.2.2.1), (cput4 (by omega)).trans ((cput4 (by omega)).trans t2.2.2.2.2.1), (cput4 (by omega)).trans ((cput4 (by omega)).trans t2.2.2.2.2.2)⟩)
            (first
            | (go_at_call_of 37 (Value.slice aP zP.length cP); refine (l2LowestC gnx false aP aV cP cV zP zV _ (ox.toSees.below N0) (ow.toSees.below N0) (And.intro HP.out.1 HP.out.2.2).1 H3.out.1 H3.out.2.1 (And.intro HP.out.1 HP.out.2.2).2 H3.out.2.2).mono ?_; rintro e wA ⟨v3, rfl, I3, hb⟩; rw [LO1.1, LO1.2] at I3; have N3 := N0.trans hb; have t1 : wA.cell? ⟨px, 0, none⟩ = some (.bool gnx) ∧ wA.cell? ⟨px, 1, none⟩ = some (.slice aP zP.length cP) ∧ wA.cell? ⟨py, 0, none⟩ = some (.bool gny) ∧ wA.cell? ⟨py, 1, none⟩ = some (.slice aQ zQ.length cQ) ∧ wA.cell? ⟨qw, 0, none⟩ = some (.bool false) ∧ wA.cell? ⟨qw, 1, none⟩ = some (.slice aV zV.length cV) := ⟨bat N3 K.1, bat N3 K.2.1, bat N3 K.2.2.1, bat N3 K.2.2.2.1, bat N3 K.2.2.2.2.1, bat N3 K.2.2.2.2.2⟩; have z3 := N3.size)
            | (go_at_call_of 37 (Value.slice aQ zQ.length cQ); refine (l2LowestC gny false aQ aV cQ cV zQ zV _ (oy.toSees.below N3) (ow.toSees.below N3) (And.intro HQ.out.1 HQ.out.2.2).1 H3.out.1 H3.out.2.1 (And.intro HQ.out.1 HQ.out.2.2).2 H3.out.2.2).mono ?_; rintro e wB ⟨v4, rfl, I4, hb4⟩; rw [LO2.1, LO2.2] at I4; have N4 := N3.trans (hb4.mono N3.size); have t2 : wB.cell? ⟨px, 0, none⟩ = some (.bool gnx) ∧ wB.cell? ⟨px, 1, none⟩ = some (.slice aP zP.length cP) ∧ wB.cell? ⟨py, 0, none⟩ = some (.bool gny) ∧ wB.cell? ⟨py, 1, none⟩ = some (.slice aQ zQ.length cQ) ∧ wB.cell? ⟨qw, 0, none⟩ = some (.bool false) ∧ wB.cell? ⟨qw, 1, none⟩ = some (.slice aV zV.length cV) := ⟨bat N4 K.1, bat N4 K.2.1, bat N4 K.2.2.1, bat N4 K.2.2.2.1, bat N4 K.2.2.2.2.1, bat N4 K.2.2.2.2.2⟩; have TF := (TwoFr.of I3 hb4 I4 z3 (Nat.le_refl _)).base_le (show Ww15.heap.size ≤ _ from Nat.le_refl _); obtain ⟨g1, q1, m1, r1, g2, q2, m2, r2, g3, q3, m3, r3, g4, q4, m4, r4, E1, E2⟩ := TF.is'; subst E1; subst E2; have B4 := B.trans (N4.mono B.size); have R14 := R1.below N4; have R24 := R2.below N4; obtain ⟨s0, s1, s2, s3, sf, _⟩ := id R14; obtain ⟨u0, u1, u2, u3, uf, _⟩ := id R24))
          all_goals
            replace B := B4
            replace R1 := R14
            replace R2 := R24
            clear B4 R14 R24
            have F1 := (((TF.put (b := w.heap.size + 1 + 1 + 1 + 1) (by omega) (.bool g1) (.slice q1 m1 r1) (.bool g2) (.slice q2 m2 r2)).put (b := w.heap.size + 1 + 1 + 1 + 1 + 1) (by omega) (.bool g3) (.slice q3 m3 r3) (.bool g4) (.slice q4 m4 r4))).base_le (show w.heap.size ≤ _ by omega)
            have F3 := Box4.chain (Box4.chain B R1 (.bool g1) (.slice q1 m1 r1) (.bool g2) (.slice q2 m2 r2)) (R2.old (by omega) (.bool g1) (.slice q1 m1 r1) (.bool g2) (.slice q2 m2 r2)) (.bool g3) (.slice q3 m3 r3) (.bool g4) (.slice q4 m4 r4)
            go_wp2
            exact bodyPost_ret (v := .tuple #[.int .i64 1, .agg #[.bool g1, .slice q1 m1 r1, .bool g2, .slice q2 m2 r2], .agg #[.bool g3, .slice q3 m3 r3, .bool g4, .slice q4 m4 r4]]) (by simp [results, Try.results7, go_sem, s0, s1, s2, s3, u0, u1, u2, u3]) rfl ⟨_, _, rfl, F1.eq HE.out.1 HE.out.2.1 HE.out.2.2.1 HE.out.2.2.2, F3⟩
end Go.Proofs.Ythfgeihgmknkcaa
