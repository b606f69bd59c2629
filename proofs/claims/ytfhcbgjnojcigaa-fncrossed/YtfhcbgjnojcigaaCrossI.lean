/- Cross of the program. -/
import Derived.Test.YtfhcbgjnojcigaaCrossD
import Derived.Test.YtfhcbgjnojcigaaBase
import Derived.Test.YtfhcbgjnojcigaaCrsg
import Derived.Test.YtfhcbgjnojcigaaHeldQ
import Derived.Test.YtfhcbgjnojcigaaPtH
import Derived.BigRegion
namespace Go.Proofs.Ytfhcbgjnojcigaa
open Go.RowKit

theorem nought_is (w : World) :
    Calls Try.prog 16 #[] w fun e w' => ∃ v, e = .returned v ∧ IsFrac w.heap.size w' v 0 1 ∧ Below w.heap.size w w' := by
  refine (noughtC w).mono ?_
  rintro e w' ⟨b, c, ds, rfl, ho, hn, hv, hb⟩
  refine ⟨_, rfl, ⟨none, 0, [], b, c, ds, ?_, Own.nil _ _, ho, trivial, hn, rfl, hv, fun _ _ h => by cases h⟩, hb⟩
  rfl
set_option maxRecDepth 20000 in
set_option maxHeartbeats 4000000 in
theorem implCross (x1 y1 x2 y2 x3 y3 x4 y4 : Int) (w : World) (kk n1 d1 n2 d2 : Int) (hc : crV (tX x1 y1) (tY x1 y1) (tX x2 y2) (tY x2 y2) (tX x3 y3) (tY x3 y3) (tX x4 y4) (tY x4 y4) = (kk, n1, d1, n2, d2)) :
    Calls Try.prog 6 #[.agg #[.int .i64 x1, .int .i64 y1], .agg #[.int .i64 x2, .int .i64 y2], .agg #[.int .i64 x3, .int .i64 y3], .agg #[.int .i64 x4, .int .i64 y4]] w fun e w' => ∃ v1 v2, e = .returned (.tuple #[.int .i64 kk, v1, v2]) ∧ TwoFr w.heap.size w' v1 v2 n1 d1 n2 d2 ∧ Below w.heap.size w w' := by
  obtain ⟨X1, HX1⟩ : ∃ z, Hid (tX x1 y1 = z) := ⟨_, rfl⟩
  obtain ⟨Y1, HY1⟩ : ∃ z, Hid (tY x1 y1 = z) := ⟨_, rfl⟩
  have C1 : Crd X1 := by rw [← HX1.out]; exact tX_crd _ _
  have D1 : Crd Y1 := by rw [← HY1.out]; exact tY_crd _ _
  obtain ⟨X2, HX2⟩ : ∃ z, Hid (tX x2 y2 = z) := ⟨_, rfl⟩
  obtain ⟨Y2, HY2⟩ : ∃ z, Hid (tY x2 y2 = z) := ⟨_, rfl⟩
  have C2 : Crd X2 := by rw [← HX2.out]; exact tX_crd _ _
  have D2 : Crd Y2 := by rw [← HY2.out]; exact tY_crd _ _
  obtain ⟨X3, HX3⟩ : ∃ z, Hid (tX x3 y3 = z) := ⟨_, rfl⟩
  obtain ⟨Y3, HY3⟩ : ∃ z, Hid (tY x3 y3 = z) := ⟨_, rfl⟩
  have C3 : Crd X3 := by rw [← HX3.out]; exact tX_crd _ _
  have D3 : Crd Y3 := by rw [← HY3.out]; exact tY_crd _ _
  obtain ⟨X4, HX4⟩ : ∃ z, Hid (tX x4 y4 = z) := ⟨_, rfl⟩
  obtain ⟨Y4, HY4⟩ : ∃ z, Hid (tY x4 y4 = z) := ⟨_, rfl⟩
  have C4 : Crd X4 := by rw [← HX4.out]; exact tX_crd _ _
  have D4 : Crd Y4 := by rw [← HY4.out]; exact tY_crd _ _
  rw [HX1.out, HY1.out, HX2.out, HY2.out, HX3.out, HY3.out, HX4.out, HY4.out] at hc
  have HC : Hid (crV X1 Y1 X2 Y2 X3 Y3 X4 Y4 = (kk, n1, d1, n2, d2)) := hc
  clear hc
  have V1 : Box2 w.heap.size ((((((w.alloc (.cells #[.int .i64 x1, .int .i64 y1] 25)).alloc (.cells #[.int .i64 x2, .int .i64 y2] 25)).alloc (.cells #[.int .i64 x3, .int .i64 y3] 25)).alloc (.cells #[.int .i64 x4, .int .i64 y4] 25)).alloc (.cells #[.bool false, .slice none 0 0, .bool false, .slice none 0 0] 32)).alloc (.cells #[.bool false, .slice none 0 0, .bool false, .slice none 0 0] 32)) (w.heap.size) (.int .i64 x1) (.int .i64 y1) := by refine ⟨?_, ?_, ?_, by omega⟩ <;> simp [go_sem]
  have V2 : Box2 w.heap.size ((((((w.alloc (.cells #[.int .i64 x1, .int .i64 y1] 25)).alloc (.cells #[.int .i64 x2, .int .i64 y2] 25)).alloc (.cells #[.int .i64 x3, .int .i64 y3] 25)).alloc (.cells #[.int .i64 x4, .int .i64 y4] 25)).alloc (.cells #[.bool false, .slice none 0 0, .bool false, .slice none 0 0] 32)).alloc (.cells #[.bool false, .slice none 0 0, .bool false, .slice none 0 0] 32)) (w.heap.size + 1) (.int .i64 x2) (.int .i64 y2) := by refine ⟨?_, ?_, ?_, by omega⟩ <;> simp [go_sem]
  have V3 : Box2 w.heap.size ((((((w.alloc (.cells #[.int .i64 x1, .int .i64 y1] 25)).alloc (.cells #[.int .i64 x2, .int .i64 y2] 25)).alloc (.cells #[.int .i64 x3, .int .i64 y3] 25)).alloc (.cells #[.int .i64 x4, .int .i64 y4] 25)).alloc (.cells #[.bool false, .slice none 0 0, .bool false, .slice none 0 0] 32)).alloc (.cells #[.bool false, .slice none 0 0, .bool false, .slice none 0 0] 32)) (w.heap.size + 1 + 1) (.int .i64 x3) (.int .i64 y3) := by refine ⟨?_, ?_, ?_, by omega⟩ <;> simp [go_sem]
  have V4 : Box2 w.heap.size ((((((w.alloc (.cells #[.int .i64 x1, .int .i64 y1] 25)).alloc (.cells #[.int .i64 x2, .int .i64 y2] 25)).alloc (.cells #[.int .i64 x3, .int .i64 y3] 25)).alloc (.cells #[.int .i64 x4, .int .i64 y4] 25)).alloc (.cells #[.bool false, .slice none 0 0, .bool false, .slice none 0 0] 32)).alloc (.cells #[.bool false, .slice none 0 0, .bool false, .slice none 0 0] 32)) (w.heap.size + 1 + 1 + 1) (.int .i64 x4) (.int .i64 y4) := by refine ⟨?_, ?_, ?_, by omega⟩ <;> simp [go_sem]
  have R1 : Box4 w.heap.size ((((((w.alloc (.cells #[.int .i64 x1, .int .i64 y1] 25)).alloc (.cells #[.int .i64 x2, .int .i64 y2] 25)).alloc (.cells #[.int .i64 x3, .int .i64 y3] 25)).alloc (.cells #[.int .i64 x4, .int .i64 y4] 25)).alloc (.cells #[.bool false, .slice none 0 0, .bool false, .slice none 0 0] 32)).alloc (.cells #[.bool false, .slice none 0 0, .bool false, .slice none 0 0] 32)) (w.heap.size + 1 + 1 + 1 + 1) (.bool false) (.slice none 0 0) (.bool false) (.slice none 0 0) := by refine ⟨?_, ?_, ?_, ?_, ?_, by omega⟩ <;> simp [go_sem]
  have R2 : Box4 w.heap.size ((((((w.alloc (.cells #[.int .i64 x1, .int .i64 y1] 25)).alloc (.cells #[.int .i64 x2, .int .i64 y2] 25)).alloc (.cells #[.int .i64 x3, .int .i64 y3] 25)).alloc (.cells #[.int .i64 x4, .int .i64 y4] 25)).alloc (.cells #[.bool false, .slice none 0 0, .bool false, .slice none 0 0] 32)).alloc (.cells #[.bool false, .slice none 0 0, .bool false, .slice none 0 0] 32)) (w.heap.size + 1 + 1 + 1 + 1 + 1) (.bool false) (.slice none 0 0) (.bool false) (.slice none 0 0) := by refine ⟨?_, ?_, ?_, ?_, ?_, by omega⟩ <;> simp [go_sem]
  have B : Below w.heap.size w ((((((w.alloc (.cells #[.int .i64 x1, .int .i64 y1] 25)).alloc (.cells #[.int .i64 x2, .int .i64 y2] 25)).alloc (.cells #[.int .i64 x3, .int .i64 y3] 25)).alloc (.cells #[.int .i64 x4, .int .i64 y4] 25)).alloc (.cells #[.bool false, .slice none 0 0, .bool false, .slice none 0 0] 32)).alloc (.cells #[.bool false, .slice none 0 0, .bool false, .slice none 0 0] 32)) := (ptbelow4 w x1 y1 x2 y2 x3 y3 x4 y4 25).trans ((below2 _ _ _).mono (ptbelow4 w x1 y1 x2 y2 x3 y3 x4 y4 25).size)
  have HW : w.heap.size + 1 + 1 + 1 + 1 + 1 < ((((((w.alloc (.cells #[.int .i64 x1, .int .i64 y1] 25)).alloc (.cells #[.int .i64 x2, .int .i64 y2] 25)).alloc (.cells #[.int .i64 x3, .int .i64 y3] 25)).alloc (.cells #[.int .i64 x4, .int .i64 y4] 25)).alloc (.cells #[.bool false, .slice none 0 0, .bool false, .slice none 0 0] 32)).alloc (.cells #[.bool false, .slice none 0 0, .bool false, .slice none 0 0] 32)).heap.size := R2.lt
  go_enter Try.func6, Try.ntmps6
  go_upto_region 1 with fail
  generalize ((((((w.alloc (.cells #[.int .i64 x1, .int .i64 y1] 25)).alloc (.cells #[.int .i64 x2, .int .i64 y2] 25)).alloc (.cells #[.int .i64 x3, .int .i64 y3] 25)).alloc (.cells #[.int .i64 x4, .int .i64 y4] 25)).alloc (.cells #[.bool false, .slice none 0 0, .bool false, .slice none 0 0] 32)).alloc (.cells #[.bool false, .slice none 0 0, .bool false, .slice none 0 0] 32)) = W0 at *
  go_cut [4] (fun s4 W => s4 = .pointer (some ⟨w.heap.size, 0, none⟩) ∧ Box2 w.heap.size W (w.heap.size) (.int .i64 X1) (.int .i64 Y1) ∧ Box2 w.heap.size W (w.heap.size + 1) (.int .i64 X2) (.int .i64 Y2) ∧ Box2 w.heap.size W (w.heap.size + 1 + 1) (.int .i64 X3) (.int .i64 Y3) ∧ Box2 w.heap.size W (w.heap.size + 1 + 1 + 1) (.int .i64 X4) (.int .i64 Y4) ∧ Box4 w.heap.size W (w.heap.size + 1 + 1 + 1 + 1) (.bool false) (.slice none 0 0) (.bool false) (.slice none 0 0) ∧ Box4 w.heap.size W (w.heap.size + 1 + 1 + 1 + 1 + 1) (.bool false) (.slice none 0 0) (.bool false) (.slice none 0 0) ∧ Below w.heap.size w W)
  case first =>
    clear HW
    refine wp_region_held_drew (S := fun _ => True) (by kernel_rfl) trivial (fun hHeld => ?_)
    clear hHeld
    have N := B.drew
    replace V1 := V1.below ((Below.refl _ _).drew)
    replace V2 := V2.below ((Below.refl _ _).drew)
    replace V3 := V3.below ((Below.refl _ _).drew)
    replace V4 := V4.below ((Below.refl _ _).drew)
    replace R1 := R1.below ((Below.refl _ _).drew)
    replace R2 := R2.below ((Below.refl _ _).drew)
    clear B
    revert N V1 V2 V3 V4 R1 R2
    generalize W0.drew = ww0
    intro N V1 V2 V3 V4 R1 R2
    refine capture (fun wp hwp => ?_)
    have H4_0123 : ∀ V : World, Box2 w.heap.size V (w.heap.size) (.int .i64 x1) (.int .i64 y1) → Box2 w.heap.size V (w.heap.size + 1) (.int .i64 x2) (.int .i64 y2) → Box2 w.heap.size V (w.heap.size + 1 + 1) (.int .i64 x3) (.int .i64 y3) → Box2 w.heap.size V (w.heap.size + 1 + 1 + 1) (.int .i64 x4) (.int .i64 y4) → Box4 w.heap.size V (w.heap.size + 1 + 1 + 1 + 1) (.bool false) (.slice none 0 0) (.bool false) (.slice none 0 0) → Box4 w.heap.size V (w.heap.size + 1 + 1 + 1 + 1 + 1) (.bool false) (.slice none 0 0) (.bool false) (.slice none 0 0) → Below w.heap.size w V → wp 4 #[true, true, true, true, true, true, true, true, false, false, false, false] ⟨#[.agg #[.int .i64 x1, .int .i64 y1], .agg #[.int .i64 x2, .int .i64 y2], .agg #[.int .i64 x3, .int .i64 y3], .agg #[.int .i64 x4, .int .i64 y4], .pointer (some ⟨w.heap.size, 0, none⟩), .pointer (some ⟨w.heap.size + 1, 0, none⟩), .pointer (some ⟨w.heap.size + 1 + 1, 0, none⟩), .pointer (some ⟨w.heap.size + 1 + 1 + 1, 0, none⟩), .int .i64 0, .pointer (some ⟨w.heap.size + 1 + 1 + 1 + 1, 0, none⟩), .pointer (some ⟨w.heap.size + 1 + 1 + 1 + 1 + 1, 0, none⟩), undef, undef, undef, undef, .agg #[.int .i64 x1, .int .i64 y1], .agg #[.int .i64 X1, .int .i64 Y1], .agg #[.int .i64 x2, .int .i64 y2], .agg #[.int .i64 X2, .int .i64 Y2], .agg #[.int .i64 x3, .int .i64 y3], .agg #[.int .i64 X3, .int .i64 Y3], .agg #[.int .i64 x4, .int .i64 y4], .agg #[.int .i64 X4, .int .i64 Y4], undef, undef, undef, undef, undef, undef, undef, undef, undef, undef, undef, undef, undef, undef, undef, undef, undef, undef, undef, undef, undef, undef, undef, undef, undef, undef, undef, undef, undef, undef, undef, undef, undef, undef, undef, undef, undef, undef, undef], []⟩ V := by
     skip
     intro V V1 V2 V3 V4 R1 R2 N
     have hHeld : True := trivial
     rw [hwp]
     refine wpAnyH_ready (rs := [8]) (by kernel_rfl) (by simp) (AllReadyH.cons (gt rfl) (fun K hK => ?_) AllReadyH.nil)
     have z0 := V1.c0
     have z1 := V1.c1
     have zf := V1.fr
     go_simp
     clear z0 z1 zf
     replace N := Box2.chain N V1 (.int .i64 X1) (.int .i64 Y1)
     replace V2 := V2.old (p := w.heap.size) (by omega) (.int .i64 X1) (.int .i64 Y1)
     replace V3 := V3.old (p := w.heap.size) (by omega) (.int .i64 X1) (.int .i64 Y1)
     replace V4 := V4.old (p := w.heap.size) (by omega) (.int .i64 X1) (.int .i64 Y1)
     replace V1 := V1.put (.int .i64 X1) (.int .i64 Y1)
     replace R1 := R1.oldx (p := w.heap.size) (by omega) (.int .i64 X1) (.int .i64 Y1)
     replace R2 := R2.oldx (p := w.heap.size) (by omega) (.int .i64 X1) (.int .i64 Y1)
     refine hK.out _ _ trivial (fun hHeld => ?_)
     clear hK K
     try simp only [Act.put, sA, sB, sC]
     generalize (V.setCell ⟨w.heap.size, 0, none⟩ (.int .i64 X1)).setCell ⟨w.heap.size, 1, none⟩ (.int .i64 Y1) = Vs0 at *
     refine wpAnyH_ready (rs := [9]) (by kernel_rfl) (by simp) (AllReadyH.cons (gt rfl) (fun K hK => ?_) AllReadyH.nil)
     have z0 := V2.c0
     have z1 := V2.c1
     have zf := V2.fr
     go_simp
     clear z0 z1 zf
     replace N := Box2.chain N V2 (.int .i64 X2) (.int .i64 Y2)
     replace V1 := V1.old (p := w.heap.size + 1) (by omega) (.int .i64 X2) (.int .i64 Y2)
     replace V3 := V3.old (p := w.heap.size + 1) (by omega) (.int .i64 X2) (.int .i64 Y2)
     replace V4 := V4.old (p := w.heap.size + 1) (by omega) (.int .i64 X2) (.int .i64 Y2)
     replace V2 := V2.put (.int .i64 X2) (.int .i64 Y2)
     replace R1 := R1.oldx (p := w.heap.size + 1) (by omega) (.int .i64 X2) (.int .i64 Y2)
     replace R2 := R2.oldx (p := w.heap.size + 1) (by omega) (.int .i64 X2) (.int .i64 Y2)
     refine hK.out _ _ trivial (fun hHeld => ?_)
     clear hK K
     try simp only [Act.put, sA, sB, sC]
     generalize (Vs0.setCell ⟨w.heap.size + 1, 0, none⟩ (.int .i64 X2)).setCell ⟨w.heap.size + 1, 1, none⟩ (.int .i64 Y2) = Vs1 at *
     refine wpAnyH_ready (rs := [10]) (by kernel_rfl) (by simp) (AllReadyH.cons (gt rfl) (fun K hK => ?_) AllReadyH.nil)
     have z0 := V3.c0
     have z1 := V3.c1
     have zf := V3.fr
     go_simp
     clear z0 z1 zf
     replace N := Box2.chain N V3 (.int .i64 X3) (.int .i64 Y3)
     replace V1 := V1.old (p := w.heap.size + 1 + 1) (by omega) (.int .i64 X3) (.int .i64 Y3)
     replace V2 := V2.old (p := w.heap.size + 1 + 1) (by omega) (.int .i64 X3) (.int .i64 Y3)
     replace V4 := V4.old (p := w.heap.size + 1 + 1) (by omega) (.int .i64 X3) (.int .i64 Y3)
     replace V3 := V3.put (.int .i64 X3) (.int .i64 Y3)
     replace R1 := R1.oldx (p := w.heap.size + 1 + 1) (by omega) (.int .i64 X3) (.int .i64 Y3)
     replace R2 := R2.oldx (p := w.heap.size + 1 + 1) (by omega) (.int .i64 X3) (.int .i64 Y3)
     refine hK.out _ _ trivial (fun hHeld => ?_)
     clear hK K
     try simp only [Act.put, sA, sB, sC]
     generalize (Vs1.setCell ⟨w.heap.size + 1 + 1, 0, none⟩ (.int .i64 X3)).setCell ⟨w.heap.size + 1 + 1, 1, none⟩ (.int .i64 Y3) = Vs2 at *
     refine wpAnyH_ready (rs := [11]) (by kernel_rfl) (by simp) (AllReadyH.cons (gt rfl) (fun K hK => ?_) AllReadyH.nil)
     have z0 := V4.c0
     have z1 := V4.c1
     have zf := V4.fr
     go_simp
     clear z0 z1 zf
     replace N := Box2.chain N V4 (.int .i64 X4) (.int .i64 Y4)
     replace V1 := V1.old (p := w.heap.size + 1 + 1 + 1) (by omega) (.int .i64 X4) (.int .i64 Y4)
     replace V2 := V2.old (p := w.heap.size + 1 + 1 + 1) (by omega) (.int .i64 X4) (.int .i64 Y4)
     replace V3 := V3.old (p := w.heap.size + 1 + 1 + 1) (by omega) (.int .i64 X4) (.int .i64 Y4)
     replace V4 := V4.put (.int .i64 X4) (.int .i64 Y4)
     replace R1 := R1.oldx (p := w.heap.size + 1 + 1 + 1) (by omega) (.int .i64 X4) (.int .i64 Y4)
     replace R2 := R2.oldx (p := w.heap.size + 1 + 1 + 1) (by omega) (.int .i64 X4) (.int .i64 Y4)
     refine hK.out _ _ trivial (fun hHeld => ?_)
     clear hK K
     try simp only [Act.put, sA, sB, sC]
     generalize (Vs2.setCell ⟨w.heap.size + 1 + 1 + 1, 0, none⟩ (.int .i64 X4)).setCell ⟨w.heap.size + 1 + 1 + 1, 1, none⟩ (.int .i64 Y4) = Vs3 at *
     refine wpAnyH_done (by kernel_rfl) ?_ _
     go_wp2
     go_meet
     case rel => exact ⟨rfl, V1, V2, V3, V4, R1, R2, N⟩
    have H3_0123 : ∀ V : World, Box2 w.heap.size V (w.heap.size) (.int .i64 x1) (.int .i64 y1) → Box2 w.heap.size V (w.heap.size + 1) (.int .i64 x2) (.int .i64 y2) → Box2 w.heap.size V (w.heap.size + 1 + 1) (.int .i64 x3) (.int .i64 y3) → Box2 w.heap.size V (w.heap.size + 1 + 1 + 1) (.int .i64 x4) (.int .i64 y4) → Box4 w.heap.size V (w.heap.size + 1 + 1 + 1 + 1) (.bool false) (.slice none 0 0) (.bool false) (.slice none 0 0) → Box4 w.heap.size V (w.heap.size + 1 + 1 + 1 + 1 + 1) (.bool false) (.slice none 0 0) (.bool false) (.slice none 0 0) → Below w.heap.size w V → wp 5 #[true, true, true, true, true, true, true, false, false, false, false, false] ⟨#[.agg #[.int .i64 x1, .int .i64 y1], .agg #[.int .i64 x2, .int .i64 y2], .agg #[.int .i64 x3, .int .i64 y3], .agg #[.int .i64 x4, .int .i64 y4], .pointer (some ⟨w.heap.size, 0, none⟩), .pointer (some ⟨w.heap.size + 1, 0, none⟩), .pointer (some ⟨w.heap.size + 1 + 1, 0, none⟩), .pointer (some ⟨w.heap.size + 1 + 1 + 1, 0, none⟩), .int .i64 0, .pointer (some ⟨w.heap.size + 1 + 1 + 1 + 1, 0, none⟩), .pointer (some ⟨w.heap.size + 1 + 1 + 1 + 1 + 1, 0, none⟩), undef, undef, undef, undef, .agg #[.int .i64 x1, .int .i64 y1], .agg #[.int .i64 X1, .int .i64 Y1], .agg #[.int .i64 x2, .int .i64 y2], .agg #[.int .i64 X2, .int .i64 Y2], .agg #[.int .i64 x3, .int .i64 y3], .agg #[.int .i64 X3, .int .i64 Y3], .agg #[.int .i64 x4, .int .i64 y4], undef, undef, undef, undef, undef, undef, undef, undef, undef, undef, undef, undef, undef, undef, undef, undef, undef, undef, undef, undef, undef, undef, undef, undef, undef, undef, undef, undef, undef, undef, undef, undef, undef, undef, undef, undef, undef, undef, undef, undef], []⟩ V := by
     as_aux_lemma =>
      intro V V1 V2 V3 V4 R1 R2 N
      have hHeld : True := trivial
      rw [hwp]
      refine wpAnyH_ready (rs := [7]) (by kernel_rfl) (by simp) (AllReadyH.cons (gt rfl) (fun K hK => ?_) AllReadyH.nil)
      · go_simp
        refine (implTakenPt x4 y4 _).mono ?_
        rintro e1 V' ⟨rfl, hb⟩
        rw [HX4.out, HY4.out]
        refine hK.out _ _ trivial (fun hHeld => ?_)
        clear hK K
        try simp only [Act.put, sA, sB, sC]
        rw [← hwp]
        exact met (H4_0123 _ (V1.below hb) (V2.below hb) (V3.below hb) (V4.below hb) (R1.below hb) (R2.below hb) (N.trans (hb.mono N.size))) (by kernel_rfl)
    have H3_012 : ∀ V : World, Box2 w.heap.size V (w.heap.size) (.int .i64 x1) (.int .i64 y1) → Box2 w.heap.size V (w.heap.size + 1) (.int .i64 x2) (.int .i64 y2) → Box2 w.heap.size V (w.heap.size + 1 + 1) (.int .i64 x3) (.int .i64 y3) → Box2 w.heap.size V (w.heap.size + 1 + 1 + 1) (.int .i64 x4) (.int .i64 y4) → Box4 w.heap.size V (w.heap.size + 1 + 1 + 1 + 1) (.bool false) (.slice none 0 0) (.bool false) (.slice none 0 0) → Box4 w.heap.size V (w.heap.size + 1 + 1 + 1 + 1 + 1) (.bool false) (.slice none 0 0) (.bool false) (.slice none 0 0) → Below w.heap.size w V → wp 6 #[true, true, true, true, true, true, false, false, false, false, false, false] ⟨#[.agg #[.int .i64 x1, .int .i64 y1], .agg #[.int .i64 x2, .int .i64 y2], .agg #[.int .i64 x3, .int .i64 y3], .agg #[.int .i64 x4, .int .i64 y4], .pointer (some ⟨w.heap.size, 0, none⟩), .pointer (some ⟨w.heap.size + 1, 0, none⟩), .pointer (some ⟨w.heap.size + 1 + 1, 0, none⟩), .pointer (some ⟨w.heap.size + 1 + 1 + 1, 0, none⟩), .int .i64 0, .pointer (some ⟨w.heap.size + 1 + 1 + 1 + 1, 0, none⟩), .pointer (some ⟨w.heap.size + 1 + 1 + 1 + 1 + 1, 0, none⟩), undef, undef, undef, undef, .agg #[.int .i64 x1, .int .i64 y1], .agg #[.int .i64 X1, .int .i64 Y1], .agg #[.int .i64 x2, .int .i64 y2], .agg #[.int .i64 X2, .int .i64 Y2], .agg #[.int .i64 x3, .int .i64 y3], .agg #[.int .i64 X3, .int .i64 Y3], undef, undef, undef, undef, undef, undef, undef, undef, undef, undef, undef, undef, undef, undef, undef, undef, undef, undef, undef, undef, undef, undef, undef, undef, undef, undef, undef, undef, undef, undef, undef, undef, undef, undef, undef, undef, undef, undef, undef, undef, undef], []⟩ V := by
     as_aux_lemma =>
      intro V V1 V2 V3 V4 R1 R2 N
      have hHeld : True := trivial
      rw [hwp]
      refine wpAnyH_ready (rs := [6]) (by kernel_rfl) (by simp) (AllReadyH.cons (gt rfl) (fun K hK => ?_) AllReadyH.nil)
      · have z0 := V4.c0
        have z1 := V4.c1
        go_simp
        clear z0 z1
        refine hK.out _ _ trivial (fun hHeld => ?_)
        clear hK K
        try simp only [Act.put, sA, sB, sC]
        rw [← hwp]
        exact met (H3_0123 _ V1 V2 V3 V4 R1 R2 N) (by kernel_rfl)
    have H2_0123 : ∀ V : World, Box2 w.heap.size V (w.heap.size) (.int .i64 x1) (.int .i64 y1) → Box2 w.heap.size V (w.heap.size + 1) (.int .i64 x2) (.int .i64 y2) → Box2 w.heap.size V (w.heap.size + 1 + 1) (.int .i64 x3) (.int .i64 y3) → Box2 w.heap.size V (w.heap.size + 1 + 1 + 1) (.int .i64 x4) (.int .i64 y4) → Box4 w.heap.size V (w.heap.size + 1 + 1 + 1 + 1) (.bool false) (.slice none 0 0) (.bool false) (.slice none 0 0) → Box4 w.heap.size V (w.heap.size + 1 + 1 + 1 + 1 + 1) (.bool false) (.slice none 0 0) (.bool false) (.slice none 0 0) → Below w.heap.size w V → wp 6 #[true, true, true, true, true, false, true, false, false, false, false, false] ⟨#[.agg #[.int .i64 x1, .int .i64 y1], .agg #[.int .i64 x2, .int .i64 y2], .agg #[.int .i64 x3, .int .i64 y3], .agg #[.int .i64 x4, .int .i64 y4], .pointer (some ⟨w.heap.size, 0, none⟩), .pointer (some ⟨w.heap.size + 1, 0, none⟩), .pointer (some ⟨w.heap.size + 1 + 1, 0, none⟩), .pointer (some ⟨w.heap.size + 1 + 1 + 1, 0, none⟩), .int .i64 0, .pointer (some ⟨w.heap.size + 1 + 1 + 1 + 1, 0, none⟩), .pointer (some ⟨w.heap.size + 1 + 1 + 1 + 1 + 1, 0, none⟩), undef, undef, undef, undef, .agg #[.int .i64 x1, .int .i64 y1], .agg #[.int .i64 X1, .int .i64 Y1], .agg #[.int .i64 x2, .int .i64 y2], .agg #[.int .i64 X2, .int .i64 Y2], .agg #[.int .i64 x3, .int .i64 y3], undef, .agg #[.int .i64 x4, .int .i64 y4], undef, undef, undef, undef, undef, undef, undef, undef, undef, undef, undef, undef, undef, undef, undef, undef, undef, undef, undef, undef, undef, undef, undef, undef, undef, undef, undef, undef, undef, undef, undef, undef, undef, undef, undef, undef, undef, undef, undef, undef], []⟩ V := by
     as_aux_lemma =>
      intro V V1 V2 V3 V4 R1 R2 N
      have hHeld : True := trivial
      rw [hwp]
      refine wpAnyH_ready (rs := [5]) (by kernel_rfl) (by simp) (AllReadyH.cons (gt rfl) (fun K hK => ?_) AllReadyH.nil)
      · go_simp
        refine (implTakenPt x3 y3 _).mono ?_
        rintro e1 V' ⟨rfl, hb⟩
        rw [HX3.out, HY3.out]
        refine hK.out _ _ trivial (fun hHeld => ?_)
        clear hK K
        try simp only [Act.put, sA, sB, sC]
        rw [← hwp]
        exact met (H3_0123 _ (V1.below hb) (V2.below hb) (V3.below hb) (V4.below hb) (R1.below hb) (R2.below hb) (N.trans (hb.mono N.size))) (by kernel_rfl)
    have H2_012 : ∀ V : World, Box2 w.heap.size V (w.heap.size) (.int .i64 x1) (.int .i64 y1) → Box2 w.heap.size V (w.heap.size + 1) (.int .i64 x2) (.int .i64 y2) → Box2 w.heap.size V (w.heap.size + 1 + 1) (.int .i64 x3) (.int .i64 y3) → Box2 w.heap.size V (w.heap.size + 1 + 1 + 1) (.int .i64 x4) (.int .i64 y4) → Box4 w.heap.size V (w.heap.size + 1 + 1 + 1 + 1) (.bool false) (.slice none 0 0) (.bool false) (.slice none 0 0) → Box4 w.heap.size V (w.heap.size + 1 + 1 + 1 + 1 + 1) (.bool false) (.slice none 0 0) (.bool false) (.slice none 0 0) → Below w.heap.size w V → wp 7 #[true, true, true, true, true, false, false, false, false, false, false, false] ⟨#[.agg #[.int .i64 x1, .int .i64 y1], .agg #[.int .i64 x2, .int .i64 y2], .agg #[.int .i64 x3, .int .i64 y3], .agg #[.int .i64 x4, .int .i64 y4], .pointer (some ⟨w.heap.size, 0, none⟩), .pointer (some ⟨w.heap.size + 1, 0, none⟩), .pointer (some ⟨w.heap.size + 1 + 1, 0, none⟩), .pointer (some ⟨w.heap.size + 1 + 1 + 1, 0, none⟩), .int .i64 0, .pointer (some ⟨w.heap.size + 1 + 1 + 1 + 1, 0, none⟩), .pointer (some ⟨w.heap.size + 1 + 1 + 1 + 1 + 1, 0, none⟩), undef, undef, undef, undef, .agg #[.int .i64 x1, .int .i64 y1], .agg #[.int .i64 X1, .int .i64 Y1], .agg #[.int .i64 x2, .int .i64 y2], .agg #[.int .i64 X2, .int .i64 Y2], .agg #[.int .i64 x3, .int .i64 y3], undef, undef, undef, undef, undef, undef, undef, undef, undef, undef, undef, undef, undef, undef, undef, undef, undef, undef, undef, undef, undef, undef, undef, undef, undef, undef, undef, undef, undef, undef, undef, undef, undef, undef, undef, undef, undef, undef, undef, undef, undef, undef], []⟩ V := by
     as_aux_lemma =>
      intro V V1 V2 V3 V4 R1 R2 N
      have hHeld : True := trivial
      rw [hwp]
      refine wpAnyH_ready (rs := [5, 6]) (by kernel_rfl) (by simp) (AllReadyH.cons (gt rfl) (fun K hK => ?_) (AllReadyH.cons (gt rfl) (fun K hK => ?_) AllReadyH.nil))
      · go_simp
        refine (implTakenPt x3 y3 _).mono ?_
        rintro e1 V' ⟨rfl, hb⟩
        rw [HX3.out, HY3.out]
        refine hK.out _ _ trivial (fun hHeld => ?_)
        clear hK K
        try simp only [Act.put, sA, sB, sC]
        rw [← hwp]
        exact met (H3_012 _ (V1.below hb) (V2.below hb) (V3.below hb) (V4.below hb) (R1.below hb) (R2.below hb) (N.trans (hb.mono N.size))) (by kernel_rfl)
      · have z0 := V4.c0
        have z1 := V4.c1
        go_simp
        clear z0 z1
        refine hK.out _ _ trivial (fun hHeld => ?_)
        clear hK K
        try simp only [Act.put, sA, sB, sC]
        rw [← hwp]
        exact met (H2_0123 _ V1 V2 V3 V4 R1 R2 N) (by kernel_rfl)
    have H2_013 : ∀ V : World, Box2 w.heap.size V (w.heap.size) (.int .i64 x1) (.int .i64 y1) → Box2 w.heap.size V (w.heap.size + 1) (.int .i64 x2) (.int .i64 y2) → Box2 w.heap.size V (w.heap.size + 1 + 1) (.int .i64 x3) (.int .i64 y3) → Box2 w.heap.size V (w.heap.size + 1 + 1 + 1) (.int .i64 x4) (.int .i64 y4) → Box4 w.heap.size V (w.heap.size + 1 + 1 + 1 + 1) (.bool false) (.slice none 0 0) (.bool false) (.slice none 0 0) → Box4 w.heap.size V (w.heap.size + 1 + 1 + 1 + 1 + 1) (.bool false) (.slice none 0 0) (.bool false) (.slice none 0 0) → Below w.heap.size w V → wp 7 #[true, true, true, true, false, false, true, false, false, false, false, false] ⟨#[.agg #[.int .i64 x1, .int .i64 y1], .agg #[.int .i64 x2, .int .i64 y2], .agg #[.int .i64 x3, .int .i64 y3], .agg #[.int .i64 x4, .int .i64 y4], .pointer (some ⟨w.heap.size, 0, none⟩), .pointer (some ⟨w.heap.size + 1, 0, none⟩), .pointer (some ⟨w.heap.size + 1 + 1, 0, none⟩), .pointer (some ⟨w.heap.size + 1 + 1 + 1, 0, none⟩), .int .i64 0, .pointer (some ⟨w.heap.size + 1 + 1 + 1 + 1, 0, none⟩), .pointer (some ⟨w.heap.size + 1 + 1 + 1 + 1 + 1, 0, none⟩), undef, undef, undef, undef, .agg #[.int .i64 x1, .int .i64 y1], .agg #[.int .i64 X1, .int .i64 Y1], .agg #[.int .i64 x2, .int .i64 y2], .agg #[.int .i64 X2, .int .i64 Y2], undef, undef, .agg #[.int .i64 x4, .int .i64 y4], undef, undef, undef, undef, undef, undef, undef, undef, undef, undef, undef, undef, undef, undef, undef, undef, undef, undef, undef, undef, undef, undef, undef, undef, undef, undef, undef, undef, undef, undef, undef, undef, undef, undef, undef, undef, undef, undef, undef, undef], []⟩ V := by
     as_aux_lemma =>
      intro V V1 V2 V3 V4 R1 R2 N
      have hHeld : True := trivial
      rw [hwp]
      refine wpAnyH_ready (rs := [4]) (by kernel_rfl) (by simp) (AllReadyH.cons (gt rfl) (fun K hK => ?_) AllReadyH.nil)
      · have z0 := V3.c0
        have z1 := V3.c1
        go_simp
        clear z0 z1
        refine hK.out _ _ trivial (fun hHeld => ?_)
        clear hK K
        try simp only [Act.put, sA, sB, sC]
        rw [← hwp]
        exact met (H2_0123 _ V1 V2 V3 V4 R1 R2 N) (by kernel_rfl)
    have H2_01 : ∀ V : World, Box2 w.heap.size V (w.heap.size) (.int .i64 x1) (.int .i64 y1) → Box2 w.heap.size V (w.heap.size + 1) (.int .i64 x2) (.int .i64 y2) → Box2 w.heap.size V (w.heap.size + 1 + 1) (.int .i64 x3) (.int .i64 y3) → Box2 w.heap.size V (w.heap.size + 1 + 1 + 1) (.int .i64 x4) (.int .i64 y4) → Box4 w.heap.size V (w.heap.size + 1 + 1 + 1 + 1) (.bool false) (.slice none 0 0) (.bool false) (.slice none 0 0) → Box4 w.heap.size V (w.heap.size + 1 + 1 + 1 + 1 + 1) (.bool false) (.slice none 0 0) (.bool false) (.slice none 0 0) → Below w.heap.size w V → wp 8 #[true, true, true, true, false, false, false, false, false, false, false, false] ⟨#[.agg #[.int .i64 x1, .int .i64 y1], .agg #[.int .i64 x2, .int .i64 y2], .agg #[.int .i64 x3, .int .i64 y3], .agg #[.int .i64 x4, .int .i64 y4], .pointer (some ⟨w.heap.size, 0, none⟩), .pointer (some ⟨w.heap.size + 1, 0, none⟩), .pointer (some ⟨w.heap.size + 1 + 1, 0, none⟩), .pointer (some ⟨w.heap.size + 1 + 1 + 1, 0, none⟩), .int .i64 0, .pointer (some ⟨w.heap.size + 1 + 1 + 1 + 1, 0, none⟩), .pointer (some ⟨w.heap.size + 1 + 1 + 1 + 1 + 1, 0, none⟩), undef, undef, undef, undef, .agg #[.int .i64 x1, .int .i64 y1], .agg #[.int .i64 X1, .int .i64 Y1], .agg #[.int .i64 x2, .int .i64 y2], .agg #[.int .i64 X2, .int .i64 Y2], undef, undef, undef, undef, undef, undef, undef, undef, undef, undef, undef, undef, undef, undef, undef, undef, undef, undef, undef, undef, undef, undef, undef, undef, undef, undef, undef, undef, undef, undef, undef, undef, undef, undef, undef, undef, undef, undef, undef, undef, undef, undef, undef], []⟩ V := by
     as_aux_lemma =>
      intro V V1 V2 V3 V4 R1 R2 N
      have hHeld : True := trivial
      rw [hwp]
      refine wpAnyH_ready (rs := [4, 6]) (by kernel_rfl) (by simp) (AllReadyH.cons (gt rfl) (fun K hK => ?_) (AllReadyH.cons (gt rfl) (fun K hK => ?_) AllReadyH.nil))
      · have z0 := V3.c0
        have z1 := V3.c1
        go_simp
        clear z0 z1
        refine hK.out _ _ trivial (fun hHeld => ?_)
        clear hK K
        try simp only [Act.put, sA, sB, sC]
        rw [← hwp]
        exact met (H2_012 _ V1 V2 V3 V4 R1 R2 N) (by kernel_rfl)
      · have z0 := V4.c0
        have z1 := V4.c1
        go_simp
        clear z0 z1
        refine hK.out _ _ trivial (fun hHeld => ?_)
        clear hK K
        try simp only [Act.put, sA, sB, sC]
        rw [← hwp]
        exact met (H2_013 _ V1 V2 V3 V4 R1 R2 N) (by kernel_rfl)
    have H1_0123 : ∀ V : World, Box2 w.heap.size V (w.heap.size) (.int .i64 x1) (.int .i64 y1) → Box2 w.heap.size V (w.heap.size + 1) (.int .i64 x2) (.int .i64 y2) → Box2 w.heap.size V (w.heap.size + 1 + 1) (.int .i64 x3) (.int .i64 y3) → Box2 w.heap.size V (w.heap.size + 1 + 1 + 1) (.int .i64 x4) (.int .i64 y4) → Box4 w.heap.size V (w.heap.size + 1 + 1 + 1 + 1) (.bool false) (.slice none 0 0) (.bool false) (.slice none 0 0) → Box4 w.heap.size V (w.heap.size + 1 + 1 + 1 + 1 + 1) (.bool false) (.slice none 0 0) (.bool false) (.slice none 0 0) → Below w.heap.size w V → wp 7 #[true, true, true, false, true, false, true, false, false, false, false, false] ⟨#[.agg #[.int .i64 x1, .int .i64 y1], .agg #[.int .i64 x2, .int .i64 y2], .agg #[.int .i64 x3, .int .i64 y3], .agg #[.int .i64 x4, .int .i64 y4], .pointer (some ⟨w.heap.size, 0, none⟩), .pointer (some ⟨w.heap.size + 1, 0, none⟩), .pointer (some ⟨w.heap.size + 1 + 1, 0, none⟩), .pointer (some ⟨w.heap.size + 1 + 1 + 1, 0, none⟩), .int .i64 0, .pointer (some ⟨w.heap.size + 1 + 1 + 1 + 1, 0, none⟩), .pointer (some ⟨w.heap.size + 1 + 1 + 1 + 1 + 1, 0, none⟩), undef, undef, undef, undef, .agg #[.int .i64 x1, .int .i64 y1], .agg #[.int .i64 X1, .int .i64 Y1], .agg #[.int .i64 x2, .int .i64 y2], undef, .agg #[.int .i64 x3, .int .i64 y3], undef, .agg #[.int .i64 x4, .int .i64 y4], undef, undef, undef, undef, undef, undef, undef, undef, undef, undef, undef, undef, undef, undef, undef, undef, undef, undef, undef, undef, undef, undef, undef, undef, undef, undef, undef, undef, undef, undef, undef, undef, undef, undef, undef, undef, undef, undef, undef, undef], []⟩ V := by
     as_aux_lemma =>
      intro V V1 V2 V3 V4 R1 R2 N
      have hHeld : True := trivial
      rw [hwp]
      refine wpAnyH_ready (rs := [3]) (by kernel_rfl) (by simp) (AllReadyH.cons (gt rfl) (fun K hK => ?_) AllReadyH.nil)
      · go_simp
        refine (implTakenPt x2 y2 _).mono ?_
        rintro e1 V' ⟨rfl, hb⟩
        rw [HX2.out, HY2.out]
        refine hK.out _ _ trivial (fun hHeld => ?_)
        clear hK K
        try simp only [Act.put, sA, sB, sC]
        rw [← hwp]
        exact met (H2_0123 _ (V1.below hb) (V2.below hb) (V3.below hb) (V4.below hb) (R1.below hb) (R2.below hb) (N.trans (hb.mono N.size))) (by kernel_rfl)
    have H1_012 : ∀ V : World, Box2 w.heap.size V (w.heap.size) (.int .i64 x1) (.int .i64 y1) → Box2 w.heap.size V (w.heap.size + 1) (.int .i64 x2) (.int .i64 y2) → Box2 w.heap.size V (w.heap.size + 1 + 1) (.int .i64 x3) (.int .i64 y3) → Box2 w.heap.size V (w.heap.size + 1 + 1 + 1) (.int .i64 x4) (.int .i64 y4) → Box4 w.heap.size V (w.heap.size + 1 + 1 + 1 + 1) (.bool false) (.slice none 0 0) (.bool false) (.slice none 0 0) → Box4 w.heap.size V (w.heap.size + 1 + 1 + 1 + 1 + 1) (.bool false) (.slice none 0 0) (.bool false) (.slice none 0 0) → Below w.heap.size w V → wp 8 #[true, true, true, false, true, false, false, false, false, false, false, false] ⟨#[.agg #[.int .i64 x1, .int .i64 y1], .agg #[.int .i64 x2, .int .i64 y2], .agg #[.int .i64 x3, .int .i64 y3], .agg #[.int .i64 x4, .int .i64 y4], .pointer (some ⟨w.heap.size, 0, none⟩), .pointer (some ⟨w.heap.size + 1, 0, none⟩), .pointer (some ⟨w.heap.size + 1 + 1, 0, none⟩), .pointer (some ⟨w.heap.size + 1 + 1 + 1, 0, none⟩), .int .i64 0, .pointer (some ⟨w.heap.size + 1 + 1 + 1 + 1, 0, none⟩), .pointer (some ⟨w.heap.size + 1 + 1 + 1 + 1 + 1, 0, none⟩), undef, undef, undef, undef, .agg #[.int .i64 x1, .int .i64 y1], .agg #[.int .i64 X1, .int .i64 Y1], .agg #[.int .i64 x2, .int .i64 y2], undef, .agg #[.int .i64 x3, .int .i64 y3], undef, undef, undef, undef, undef, undef, undef, undef, undef, undef, undef, undef, undef, undef, undef, undef, undef, undef, undef, undef, undef, undef, undef, undef, undef, undef, undef, undef, undef, undef, undef, undef, undef, undef, undef, undef, undef, undef, undef, undef, undef, undef], []⟩ V := by
     as_aux_lemma =>
      intro V V1 V2 V3 V4 R1 R2 N
      have hHeld : True := trivial
      rw [hwp]
      refine wpAnyH_ready (rs := [3, 6]) (by kernel_rfl) (by simp) (AllReadyH.cons (gt rfl) (fun K hK => ?_) (AllReadyH.cons (gt rfl) (fun K hK => ?_) AllReadyH.nil))
      · go_simp
        refine (implTakenPt x2 y2 _).mono ?_
        rintro e1 V' ⟨rfl, hb⟩
        rw [HX2.out, HY2.out]
        refine hK.out _ _ trivial (fun hHeld => ?_)
        clear hK K
        try simp only [Act.put, sA, sB, sC]
        rw [← hwp]
        exact met (H2_012 _ (V1.below hb) (V2.below hb) (V3.below hb) (V4.below hb) (R1.below hb) (R2.below hb) (N.trans (hb.mono N.size))) (by kernel_rfl)
      · have z0 := V4.c0
        have z1 := V4.c1
        go_simp
        clear z0 z1
        refine hK.out _ _ trivial (fun hHeld => ?_)
        clear hK K
        try simp only [Act.put, sA, sB, sC]
        rw [← hwp]
        exact met (H1_0123 _ V1 V2 V3 V4 R1 R2 N) (by kernel_rfl)
    have H1_013 : ∀ V : World, Box2 w.heap.size V (w.heap.size) (.int .i64 x1) (.int .i64 y1) → Box2 w.heap.size V (w.heap.size + 1) (.int .i64 x2) (.int .i64 y2) → Box2 w.heap.size V (w.heap.size + 1 + 1) (.int .i64 x3) (.int .i64 y3) → Box2 w.heap.size V (w.heap.size + 1 + 1 + 1) (.int .i64 x4) (.int .i64 y4) → Box4 w.heap.size V (w.heap.size + 1 + 1 + 1 + 1) (.bool false) (.slice none 0 0) (.bool false) (.slice none 0 0) → Box4 w.heap.size V (w.heap.size + 1 + 1 + 1 + 1 + 1) (.bool false) (.slice none 0 0) (.bool false) (.slice none 0 0) → Below w.heap.size w V → wp 8 #[true, true, true, false, false, false, true, false, false, false, false, false] ⟨#[.agg #[.int .i64 x1, .int .i64 y1], .agg #[.int .i64 x2, .int .i64 y2], .agg #[.int .i64 x3, .int .i64 y3], .agg #[.int .i64 x4, .int .i64 y4], .pointer (some ⟨w.heap.size, 0, none⟩), .pointer (some ⟨w.heap.size + 1, 0, none⟩), .pointer (some ⟨w.heap.size + 1 + 1, 0, none⟩), .pointer (some ⟨w.heap.size + 1 + 1 + 1, 0, none⟩), .int .i64 0, .pointer (some ⟨w.heap.size + 1 + 1 + 1 + 1, 0, none⟩), .pointer (some ⟨w.heap.size + 1 + 1 + 1 + 1 + 1, 0, none⟩), undef, undef, undef, undef, .agg #[.int .i64 x1, .int .i64 y1], .agg #[.int .i64 X1, .int .i64 Y1], .agg #[.int .i64 x2, .int .i64 y2], undef, undef, undef, .agg #[.int .i64 x4, .int .i64 y4], undef, undef, undef, undef, undef, undef, undef, undef, undef, undef, undef, undef, undef, undef, undef, undef, undef, undef, undef, undef, undef, undef, undef, undef, undef, undef, undef, undef, undef, undef, undef, undef, undef, undef, undef, undef, undef, undef, undef, undef], []⟩ V := by
     as_aux_lemma =>
      intro V V1 V2 V3 V4 R1 R2 N
      have hHeld : True := trivial
      rw [hwp]
      refine wpAnyH_ready (rs := [3, 4]) (by kernel_rfl) (by simp) (AllReadyH.cons (gt rfl) (fun K hK => ?_) (AllReadyH.cons (gt rfl) (fun K hK => ?_) AllReadyH.nil))
      · go_simp
        refine (implTakenPt x2 y2 _).mono ?_
        rintro e1 V' ⟨rfl, hb⟩
        rw [HX2.out, HY2.out]
        refine hK.out _ _ trivial (fun hHeld => ?_)
        clear hK K
        try simp only [Act.put, sA, sB, sC]
        rw [← hwp]
        exact met (H2_013 _ (V1.below hb) (V2.below hb) (V3.below hb) (V4.below hb) (R1.below hb) (R2.below hb) (N.trans (hb.mono N.size))) (by kernel_rfl)
      · have z0 := V3.c0
        have z1 := V3.c1
        go_simp
        clear z0 z1
        refine hK.out _ _ trivial (fun hHeld => ?_)
        clear hK K
        try simp only [Act.put, sA, sB, sC]
        rw [← hwp]
        exact met (H1_0123 _ V1 V2 V3 V4 R1 R2 N) (by kernel_rfl)
    have H1_023 : ∀ V : World, Box2 w.heap.size V (w.heap.size) (.int .i64 x1) (.int .i64 y1) → Box2 w.heap.size V (w.heap.size + 1) (.int .i64 x2) (.int .i64 y2) → Box2 w.heap.size V (w.heap.size + 1 + 1) (.int .i64 x3) (.int .i64 y3) → Box2 w.heap.size V (w.heap.size + 1 + 1 + 1) (.int .i64 x4) (.int .i64 y4) → Box4 w.heap.size V (w.heap.size + 1 + 1 + 1 + 1) (.bool false) (.slice none 0 0) (.bool false) (.slice none 0 0) → Box4 w.heap.size V (w.heap.size + 1 + 1 + 1 + 1 + 1) (.bool false) (.slice none 0 0) (.bool false) (.slice none 0 0) → Below w.heap.size w V → wp 8 #[true, true, false, false, true, false, true, false, false, false, false, false] ⟨#[.agg #[.int .i64 x1, .int .i64 y1], .agg #[.int .i64 x2, .int .i64 y2], .agg #[.int .i64 x3, .int .i64 y3], .agg #[.int .i64 x4, .int .i64 y4], .pointer (some ⟨w.heap.size, 0, none⟩), .pointer (some ⟨w.heap.size + 1, 0, none⟩), .pointer (some ⟨w.heap.size + 1 + 1, 0, none⟩), .pointer (some ⟨w.heap.size + 1 + 1 + 1, 0, none⟩), .int .i64 0, .pointer (some ⟨w.heap.size + 1 + 1 + 1 + 1, 0, none⟩), .pointer (some ⟨w.heap.size + 1 + 1 + 1 + 1 + 1, 0, none⟩), undef, undef, undef, undef, .agg #[.int .i64 x1, .int .i64 y1], .agg #[.int .i64 X1, .int .i64 Y1], undef, undef, .agg #[.int .i64 x3, .int .i64 y3], undef, .agg #[.int .i64 x4, .int .i64 y4], undef, undef, undef, undef, undef, undef, undef, undef, undef, undef, undef, undef, undef, undef, undef, undef, undef, undef, undef, undef, undef, undef, undef, undef, undef, undef, undef, undef, undef, undef, undef, undef, undef, undef, undef, undef, undef, undef, undef, undef], []⟩ V := by
     as_aux_lemma =>
      intro V V1 V2 V3 V4 R1 R2 N
      have hHeld : True := trivial
      rw [hwp]
      refine wpAnyH_ready (rs := [2]) (by kernel_rfl) (by simp) (AllReadyH.cons (gt rfl) (fun K hK => ?_) AllReadyH.nil)
      · have z0 := V2.c0
        have z1 := V2.c1
        go_simp
        clear z0 z1
        refine hK.out _ _ trivial (fun hHeld => ?_)
        clear hK K
        try simp only [Act.put, sA, sB, sC]
        rw [← hwp]
        exact met (H1_0123 _ V1 V2 V3 V4 R1 R2 N) (by kernel_rfl)
    have H1_01 : ∀ V : World, Box2 w.heap.size V (w.heap.size) (.int .i64 x1) (.int .i64 y1) → Box2 w.heap.size V (w.heap.size + 1) (.int .i64 x2) (.int .i64 y2) → Box2 w.heap.size V (w.heap.size + 1 + 1) (.int .i64 x3) (.int .i64 y3) → Box2 w.heap.size V (w.heap.size + 1 + 1 + 1) (.int .i64 x4) (.int .i64 y4) → Box4 w.heap.size V (w.heap.size + 1 + 1 + 1 + 1) (.bool false) (.slice none 0 0) (.bool false) (.slice none 0 0) → Box4 w.heap.size V (w.heap.size + 1 + 1 + 1 + 1 + 1) (.bool false) (.slice none 0 0) (.bool false) (.slice none 0 0) → Below w.heap.size w V → wp 9 #[true, true, true, false, false, false, false, false, false, false, false, false] ⟨#[.agg #[.int .i64 x1, .int .i64 y1], .agg #[.int .i64 x2, .int .i64 y2], .agg #[.int .i64 x3, .int .i64 y3], .agg #[.int .i64 x4, .int .i64 y4], .pointer (some ⟨w.heap.size, 0, none⟩), .pointer (some ⟨w.heap.size + 1, 0, none⟩), .pointer (some ⟨w.heap.size + 1 + 1, 0, none⟩), .pointer (some ⟨w.heap.size + 1 + 1 + 1, 0, none⟩), .int .i64 0, .pointer (some ⟨w.heap.size + 1 + 1 + 1 + 1, 0, none⟩), .pointer (some ⟨w.heap.size + 1 + 1 + 1 + 1 + 1, 0, none⟩), undef, undef, undef, undef, .agg #[.int .i64 x1, .int .i64 y1], .agg #[.int .i64 X1, .int .i64 Y1], .agg #[.int .i64 x2, .int .i64 y2], undef, undef, undef, undef, undef, undef, undef, undef, undef, undef, undef, undef, undef, undef, undef, undef, undef, undef, undef, undef, undef, undef, undef, undef, undef, undef, undef, undef, undef, undef, undef, undef, undef, undef, undef, undef, undef, undef, undef, undef, undef, undef, undef, undef], []⟩ V := by
     as_aux_lemma =>
      intro V V1 V2 V3 V4 R1 R2 N
      have hHeld : True := trivial
      rw [hwp]
      refine wpAnyH_ready (rs := [3, 4, 6]) (by kernel_rfl) (by simp) (AllReadyH.cons (gt rfl) (fun K hK => ?_) (AllReadyH.cons (gt rfl) (fun K hK => ?_) (AllReadyH.cons (gt rfl) (fun K hK => ?_) AllReadyH.nil)))
      · go_simp
        refine (implTakenPt x2 y2 _).mono ?_
        rintro e1 V' ⟨rfl, hb⟩
        rw [HX2.out, HY2.out]
        refine hK.out _ _ trivial (fun hHeld => ?_)
        clear hK K
        try simp only [Act.put, sA, sB, sC]
        rw [← hwp]
        exact met (H2_01 _ (V1.below hb) (V2.below hb) (V3.below hb) (V4.below hb) (R1.below hb) (R2.below hb) (N.trans (hb.mono N.size))) (by kernel_rfl)
      · have z0 := V3.c0
        have z1 := V3.c1
        go_simp
        clear z0 z1
        refine hK.out _ _ trivial (fun hHeld => ?_)
        clear hK K
        try simp only [Act.put, sA, sB, sC]
        rw [← hwp]
        exact met (H1_012 _ V1 V2 V3 V4 R1 R2 N) (by kernel_rfl)
      · have z0 := V4.c0
        have z1 := V4.c1
        go_simp
        clear z0 z1
        refine hK.out _ _ trivial (fun hHeld => ?_)
        clear hK K
        try simp only [Act.put, sA, sB, sC]
        rw [← hwp]
        exact met (H1_013 _ V1 V2 V3 V4 R1 R2 N) (by kernel_rfl)
    have H1_02 : ∀ V : World, Box2 w.heap.size V (w.heap.size) (.int .i64 x1) (.int .i64 y1) → Box2 w.heap.size V (w.heap.size + 1) (.int .i64 x2) (.int .i64 y2) → Box2 w.heap.size V (w.heap.size + 1 + 1) (.int .i64 x3) (.int .i64 y3) → Box2 w.heap.size V (w.heap.size + 1 + 1 + 1) (.int .i64 x4) (.int .i64 y4) → Box4 w.heap.size V (w.heap.size + 1 + 1 + 1 + 1) (.bool false) (.slice none 0 0) (.bool false) (.slice none 0 0) → Box4 w.heap.size V (w.heap.size + 1 + 1 + 1 + 1 + 1) (.bool false) (.slice none 0 0) (.bool false) (.slice none 0 0) → Below w.heap.size w V → wp 9 #[true, true, false, false, true, false, false, false, false, false, false, false] ⟨#[.agg #[.int .i64 x1, .int .i64 y1], .agg #[.int .i64 x2, .int .i64 y2], .agg #[.int .i64 x3, .int .i64 y3], .agg #[.int .i64 x4, .int .i64 y4], .pointer (some ⟨w.heap.size, 0, none⟩), .pointer (some ⟨w.heap.size + 1, 0, none⟩), .pointer (some ⟨w.heap.size + 1 + 1, 0, none⟩), .pointer (some ⟨w.heap.size + 1 + 1 + 1, 0, none⟩), .int .i64 0, .pointer (some ⟨w.heap.size + 1 + 1 + 1 + 1, 0, none⟩), .pointer (some ⟨w.heap.size + 1 + 1 + 1 + 1 + 1, 0, none⟩), undef, undef, undef, undef, .agg #[.int .i64 x1, .int .i64 y1], .agg #[.int .i64 X1, .int .i64 Y1], undef, undef, .agg #[.int .i64 x3, .int .i64 y3], undef, undef, undef, undef, undef, undef, undef, undef, undef, undef, undef, undef, undef, undef, undef, undef, undef, undef, undef, undef, undef, undef, undef, undef, undef, undef, undef, undef, undef, undef, undef, undef, undef, undef, undef, undef, undef, undef, undef, undef, undef, undef], []⟩ V := by
     as_aux_lemma =>
      intro V V1 V2 V3 V4 R1 R2 N
      have hHeld : True := trivial
      rw [hwp]
      refine wpAnyH_ready (rs := [2, 6]) (by kernel_rfl) (by simp) (AllReadyH.cons (gt rfl) (fun K hK => ?_) (AllReadyH.cons (gt rfl) (fun K hK => ?_) AllReadyH.nil))
      · have z0 := V2.c0
        have z1 := V2.c1
        go_simp
        clear z0 z1
        refine hK.out _ _ trivial (fun hHeld => ?_)
        clear hK K
        try simp only [Act.put, sA, sB, sC]
        rw [← hwp]
        exact met (H1_012 _ V1 V2 V3 V4 R1 R2 N) (by kernel_rfl)
      · have z0 := V4.c0
        have z1 := V4.c1
        go_simp
        clear z0 z1
        refine hK.out _ _ trivial (fun hHeld => ?_)
        clear hK K
        try simp only [Act.put, sA, sB, sC]
        rw [← hwp]
        exact met (H1_023 _ V1 V2 V3 V4 R1 R2 N) (by kernel_rfl)
    have H1_03 : ∀ V : World, Box2 w.heap.size V (w.heap.size) (.int .i64 x1) (.int .i64 y1) → Box2 w.heap.size V (w.heap.size + 1) (.int .i64 x2) (.int .i64 y2) → Box2 w.heap.size V (w.heap.size + 1 + 1) (.int .i64 x3) (.int .i64 y3) → Box2 w.heap.size V (w.heap.size + 1 + 1 + 1) (.int .i64 x4) (.int .i64 y4) → Box4 w.heap.size V (w.heap.size + 1 + 1 + 1 + 1) (.bool false) (.slice none 0 0) (.bool false) (.slice none 0 0) → Box4 w.heap.size V (w.heap.size + 1 + 1 + 1 + 1 + 1) (.bool false) (.slice none 0 0) (.bool false) (.slice none 0 0) → Below w.heap.size w V → wp 9 #[true, true, false, false, false, false, true, false, false, false, false, false] ⟨#[.agg #[.int .i64 x1, .int .i64 y1], .agg #[.int .i64 x2, .int .i64 y2], .agg #[.int .i64 x3, .int .i64 y3], .agg #[.int .i64 x4, .int .i64 y4], .pointer (some ⟨w.heap.size, 0, none⟩), .pointer (some ⟨w.heap.size + 1, 0, none⟩), .pointer (some ⟨w.heap.size + 1 + 1, 0, none⟩), .pointer (some ⟨w.heap.size + 1 + 1 + 1, 0, none⟩), .int .i64 0, .pointer (some ⟨w.heap.size + 1 + 1 + 1 + 1, 0, none⟩), .pointer (some ⟨w.heap.size + 1 + 1 + 1 + 1 + 1, 0, none⟩), undef, undef, undef, undef, .agg #[.int .i64 x1, .int .i64 y1], .agg #[.int .i64 X1, .int .i64 Y1], undef, undef, undef, undef, .agg #[.int .i64 x4, .int .i64 y4], undef, undef, undef, undef, undef, undef, undef, undef, undef, undef, undef, undef, undef, undef, undef, undef, undef, undef, undef, undef, undef, undef, undef, undef, undef, undef, undef, undef, undef, undef, undef, undef, undef, undef, undef, undef, undef, undef, undef, undef], []⟩ V := by
     as_aux_lemma =>
      intro V V1 V2 V3 V4 R1 R2 N
      have hHeld : True := trivial
      rw [hwp]
      refine wpAnyH_ready (rs := [2, 4]) (by kernel_rfl) (by simp) (AllReadyH.cons (gt rfl) (fun K hK => ?_) (AllReadyH.cons (gt rfl) (fun K hK => ?_) AllReadyH.nil))
      · have z0 := V2.c0
        have z1 := V2.c1
        go_simp
        clear z0 z1
        refine hK.out _ _ trivial (fun hHeld => ?_)
        clear hK K
        try simp only [Act.put, sA, sB, sC]
        rw [← hwp]
        exact met (H1_013 _ V1 V2 V3 V4 R1 R2 N) (by kernel_rfl)
      · have z0 := V3.c0
        have z1 := V3.c1
        go_simp
        clear z0 z1
        refine hK.out _ _ trivial (fun hHeld => ?_)
        clear hK K
        try simp only [Act.put, sA, sB, sC]
        rw [← hwp]
        exact met (H1_023 _ V1 V2 V3 V4 R1 R2 N) (by kernel_rfl)
    have H1_0 : ∀ V : World, Box2 w.heap.size V (w.heap.size) (.int .i64 x1) (.int .i64 y1) → Box2 w.heap.size V (w.heap.size + 1) (.int .i64 x2) (.int .i64 y2) → Box2 w.heap.size V (w.heap.size + 1 + 1) (.int .i64 x3) (.int .i64 y3) → Box2 w.heap.size V (w.heap.size + 1 + 1 + 1) (.int .i64 x4) (.int .i64 y4) → Box4 w.heap.size V (w.heap.size + 1 + 1 + 1 + 1) (.bool false) (.slice none 0 0) (.bool false) (.slice none 0 0) → Box4 w.heap.size V (w.heap.size + 1 + 1 + 1 + 1 + 1) (.bool false) (.slice none 0 0) (.bool false) (.slice none 0 0) → Below w.heap.size w V → wp 10 #[true, true, false, false, false, false, false, false, false, false, false, false] ⟨#[.agg #[.int .i64 x1, .int .i64 y1], .agg #[.int .i64 x2, .int .i64 y2], .agg #[.int .i64 x3, .int .i64 y3], .agg #[.int .i64 x4, .int .i64 y4], .pointer (some ⟨w.heap.size, 0, none⟩), .pointer (some ⟨w.heap.size + 1, 0, none⟩), .pointer (some ⟨w.heap.size + 1 + 1, 0, none⟩), .pointer (some ⟨w.heap.size + 1 + 1 + 1, 0, none⟩), .int .i64 0, .pointer (some ⟨w.heap.size + 1 + 1 + 1 + 1, 0, none⟩), .pointer (some ⟨w.heap.size + 1 + 1 + 1 + 1 + 1, 0, none⟩), undef, undef, undef, undef, .agg #[.int .i64 x1, .int .i64 y1], .agg #[.int .i64 X1, .int .i64 Y1], undef, undef, undef, undef, undef, undef, undef, undef, undef, undef, undef, undef, undef, undef, undef, undef, undef, undef, undef, undef, undef, undef, undef, undef, undef, undef, undef, undef, undef, undef, undef, undef, undef, undef, undef, undef, undef, undef, undef, undef, undef, undef, undef, undef, undef], []⟩ V := by
     as_aux_lemma =>
      intro V V1 V2 V3 V4 R1 R2 N
      have hHeld : True := trivial
      rw [hwp]
      refine wpAnyH_ready (rs := [2, 4, 6]) (by kernel_rfl) (by simp) (AllReadyH.cons (gt rfl) (fun K hK => ?_) (AllReadyH.cons (gt rfl) (fun K hK => ?_) (AllReadyH.cons (gt rfl) (fun K hK => ?_) AllReadyH.nil)))
      · have z0 := V2.c0
        have z1 := V2.c1
        go_simp
        clear z0 z1
        refine hK.out _ _ trivial (fun hHeld => ?_)
        clear hK K
        try simp only [Act.put, sA, sB, sC]
        rw [← hwp]
        exact met (H1_01 _ V1 V2 V3 V4 R1 R2 N) (by kernel_rfl)
      · have z0 := V3.c0
        have z1 := V3.c1
        go_simp
        clear z0 z1
        refine hK.out _ _ trivial (fun hHeld => ?_)
        clear hK K
        try simp only [Act.put, sA, sB, sC]
        rw [← hwp]
        exact met (H1_02 _ V1 V2 V3 V4 R1 R2 N) (by kernel_rfl)
      · have z0 := V4.c0
        have z1 := V4.c1
        go_simp
        clear z0 z1
        refine hK.out _ _ trivial (fun hHeld => ?_)
        clear hK K
        try simp only [Act.put, sA, sB, sC]
        rw [← hwp]
        exact met (H1_03 _ V1 V2 V3 V4 R1 R2 N) (by kernel_rfl)
    have H0_0123 : ∀ V : World, Box2 w.heap.size V (w.heap.size) (.int .i64 x1) (.int .i64 y1) → Box2 w.heap.size V (w.heap.size + 1) (.int .i64 x2) (.int .i64 y2) → Box2 w.heap.size V (w.heap.size + 1 + 1) (.int .i64 x3) (.int .i64 y3) → Box2 w.heap.size V (w.heap.size + 1 + 1 + 1) (.int .i64 x4) (.int .i64 y4) → Box4 w.heap.size V (w.heap.size + 1 + 1 + 1 + 1) (.bool false) (.slice none 0 0) (.bool false) (.slice none 0 0) → Box4 w.heap.size V (w.heap.size + 1 + 1 + 1 + 1 + 1) (.bool false) (.slice none 0 0) (.bool false) (.slice none 0 0) → Below w.heap.size w V → wp 8 #[true, false, true, false, true, false, true, false, false, false, false, false] ⟨#[.agg #[.int .i64 x1, .int .i64 y1], .agg #[.int .i64 x2, .int .i64 y2], .agg #[.int .i64 x3, .int .i64 y3], .agg #[.int .i64 x4, .int .i64 y4], .pointer (some ⟨w.heap.size, 0, none⟩), .pointer (some ⟨w.heap.size + 1, 0, none⟩), .pointer (some ⟨w.heap.size + 1 + 1, 0, none⟩), .pointer (some ⟨w.heap.size + 1 + 1 + 1, 0, none⟩), .int .i64 0, .pointer (some ⟨w.heap.size + 1 + 1 + 1 + 1, 0, none⟩), .pointer (some ⟨w.heap.size + 1 + 1 + 1 + 1 + 1, 0, none⟩), undef, undef, undef, undef, .agg #[.int .i64 x1, .int .i64 y1], undef, .agg #[.int .i64 x2, .int .i64 y2], undef, .agg #[.int .i64 x3, .int .i64 y3], undef, .agg #[.int .i64 x4, .int .i64 y4], undef, undef, undef, undef, undef, undef, undef, undef, undef, undef, undef, undef, undef, undef, undef, undef, undef, undef, undef, undef, undef, undef, undef, undef, undef, undef, undef, undef, undef, undef, undef, undef, undef, undef, undef, undef, undef, undef, undef, undef], []⟩ V := by
     as_aux_lemma =>
      intro V V1 V2 V3 V4 R1 R2 N
      have hHeld : True := trivial
      rw [hwp]
      refine wpAnyH_ready (rs := [1]) (by kernel_rfl) (by simp) (AllReadyH.cons (gt rfl) (fun K hK => ?_) AllReadyH.nil)
      · go_simp
        refine (implTakenPt x1 y1 _).mono ?_
        rintro e1 V' ⟨rfl, hb⟩
        rw [HX1.out, HY1.out]
        refine hK.out _ _ trivial (fun hHeld => ?_)
        clear hK K
        try simp only [Act.put, sA, sB, sC]
        rw [← hwp]
        exact met (H1_0123 _ (V1.below hb) (V2.below hb) (V3.below hb) (V4.below hb) (R1.below hb) (R2.below hb) (N.trans (hb.mono N.size))) (by kernel_rfl)
    have H0_012 : ∀ V : World, Box2 w.heap.size V (w.heap.size) (.int .i64 x1) (.int .i64 y1) → Box2 w.heap.size V (w.heap.size + 1) (.int .i64 x2) (.int .i64 y2) → Box2 w.heap.size V (w.heap.size + 1 + 1) (.int .i64 x3) (.int .i64 y3) → Box2 w.heap.size V (w.heap.size + 1 + 1 + 1) (.int .i64 x4) (.int .i64 y4) → Box4 w.heap.size V (w.heap.size + 1 + 1 + 1 + 1) (.bool false) (.slice none 0 0) (.bool false) (.slice none 0 0) → Box4 w.heap.size V (w.heap.size + 1 + 1 + 1 + 1 + 1) (.bool false) (.slice none 0 0) (.bool false) (.slice none 0 0) → Below w.heap.size w V → wp 9 #[true, false, true, false, true, false, false, false, false, false, false, false] ⟨#[.agg #[.int .i64 x1, .int .i64 y1], .agg #[.int .i64 x2, .int .i64 y2], .agg #[.int .i64 x3, .int .i64 y3], .agg #[.int .i64 x4, .int .i64 y4], .pointer (some ⟨w.heap.size, 0, none⟩), .pointer (some ⟨w.heap.size + 1, 0, none⟩), .pointer (some ⟨w.heap.size + 1 + 1, 0, none⟩), .pointer (some ⟨w.heap.size + 1 + 1 + 1, 0, none⟩), .int .i64 0, .pointer (some ⟨w.heap.size + 1 + 1 + 1 + 1, 0, none⟩), .pointer (some ⟨w.heap.size + 1 + 1 + 1 + 1 + 1, 0, none⟩), undef, undef, undef, undef, .agg #[.int .i64 x1, .int .i64 y1], undef, .agg #[.int .i64 x2, .int .i64 y2], undef, .agg #[.int .i64 x3, .int .i64 y3], undef, undef, undef, undef, undef, undef, undef, undef, undef, undef, undef, undef, undef, undef, undef, undef, undef, undef, undef, undef, undef, undef, undef, undef, undef, undef, undef, undef, undef, undef, undef, undef, undef, undef, undef, undef, undef, undef, undef, undef, undef, undef], []⟩ V := by
     as_aux_lemma =>
      intro V V1 V2 V3 V4 R1 R2 N
      have hHeld : True := trivial
      rw [hwp]
      refine wpAnyH_ready (rs := [1, 6]) (by kernel_rfl) (by simp) (AllReadyH.cons (gt rfl) (fun K hK => ?_) (AllReadyH.cons (gt rfl) (fun K hK => ?_) AllReadyH.nil))
      · go_simp
        refine (implTakenPt x1 y1 _).mono ?_
        rintro e1 V' ⟨rfl, hb⟩
        rw [HX1.out, HY1.out]
        refine hK.out _ _ trivial (fun hHeld => ?_)
        clear hK K
        try simp only [Act.put, sA, sB, sC]
        rw [← hwp]
        exact met (H1_012 _ (V1.below hb) (V2.below hb) (V3.below hb) (V4.below hb) (R1.below hb) (R2.below hb) (N.trans (hb.mono N.size))) (by kernel_rfl)
      · have z0 := V4.c0
        have z1 := V4.c1
        go_simp
        clear z0 z1
        refine hK.out _ _ trivial (fun hHeld => ?_)
        clear hK K
        try simp only [Act.put, sA, sB, sC]
        rw [← hwp]
        exact met (H0_0123 _ V1 V2 V3 V4 R1 R2 N) (by kernel_rfl)
    have H0_013 : ∀ V : World, Box2 w.heap.size V (w.heap.size) (.int .i64 x1) (.int .i64 y1) → Box2 w.heap.size V (w.heap.size + 1) (.int .i64 x2) (.int .i64 y2) → Box2 w.heap.size V (w.heap.size + 1 + 1) (.int .i64 x3) (.int .i64 y3) → Box2 w.heap.size V (w.heap.size + 1 + 1 + 1) (.int .i64 x4) (.int .i64 y4) → Box4 w.heap.size V (w.heap.size + 1 + 1 + 1 + 1) (.bool false) (.slice none 0 0) (.bool false) (.slice none 0 0) → Box4 w.heap.size V (w.heap.size + 1 + 1 + 1 + 1 + 1) (.bool false) (.slice none 0 0) (.bool false) (.slice none 0 0) → Below w.heap.size w V → wp 9 #[true, false, true, false, false, false, true, false, false, false, false, false] ⟨#[.agg #[.int .i64 x1, .int .i64 y1], .agg #[.int .i64 x2, .int .i64 y2], .agg #[.int .i64 x3, .int .i64 y3], .agg #[.int .i64 x4, .int .i64 y4], .pointer (some ⟨w.heap.size, 0, none⟩), .pointer (some ⟨w.heap.size + 1, 0, none⟩), .pointer (some ⟨w.heap.size + 1 + 1, 0, none⟩), .pointer (some ⟨w.heap.size + 1 + 1 + 1, 0, none⟩), .int .i64 0, .pointer (some ⟨w.heap.size + 1 + 1 + 1 + 1, 0, none⟩), .pointer (some ⟨w.heap.size + 1 + 1 + 1 + 1 + 1, 0, none⟩), undef, undef, undef, undef, .agg #[.int .i64 x1, .int .i64 y1], undef, .agg #[.int .i64 x2, .int .i64 y2], undef, undef, undef, .agg #[.int .i64 x4, .int .i64 y4], undef, undef, undef, undef, undef, undef, undef, undef, undef, undef, undef, undef, undef, undef, undef, undef, undef, undef, undef, undef, undef, undef, undef, undef, undef, undef, undef, undef, undef, undef, undef, undef, undef, undef, undef, undef, undef, undef, undef, undef], []⟩ V := by
     as_aux_lemma =>
      intro V V1 V2 V3 V4 R1 R2 N
      have hHeld : True := trivial
      rw [hwp]
      refine wpAnyH_ready (rs := [1, 4]) (by kernel_rfl) (by simp) (AllReadyH.cons (gt rfl) (fun K hK => ?_) (AllReadyH.cons (gt rfl) (fun K hK => ?_) AllReadyH.nil))
      · go_simp
        refine (implTakenPt x1 y1 _).mono ?_
        rintro e1 V' ⟨rfl, hb⟩
        rw [HX1.out, HY1.out]
        refine hK.out _ _ trivial (fun hHeld => ?_)
        clear hK K
        try simp only [Act.put, sA, sB, sC]
        rw [← hwp]
        exact met (H1_013 _ (V1.below hb) (V2.below hb) (V3.below hb) (V4.below hb) (R1.below hb) (R2.below hb) (N.trans (hb.mono N.size))) (by kernel_rfl)
      · have z0 := V3.c0
        have z1 := V3.c1
        go_simp
        clear z0 z1
        refine hK.out _ _ trivial (fun hHeld => ?_)
        clear hK K
        try simp only [Act.put, sA, sB, sC]
        rw [← hwp]
        exact met (H0_0123 _ V1 V2 V3 V4 R1 R2 N) (by kernel_rfl)
    have H0_023 : ∀ V : World, Box2 w.heap.size V (w.heap.size) (.int .i64 x1) (.int .i64 y1) → Box2 w.heap.size V (w.heap.size + 1) (.int .i64 x2) (.int .i64 y2) → Box2 w.heap.size V (w.heap.size + 1 + 1) (.int .i64 x3) (.int .i64 y3) → Box2 w.heap.size V (w.heap.size + 1 + 1 + 1) (.int .i64 x4) (.int .i64 y4) → Box4 w.heap.size V (w.heap.size + 1 + 1 + 1 + 1) (.bool false) (.slice none 0 0) (.bool false) (.slice none 0 0) → Box4 w.heap.size V (w.heap.size + 1 + 1 + 1 + 1 + 1) (.bool false) (.slice none 0 0) (.bool false) (.slice none 0 0) → Below w.heap.size w V → wp 9 #[true, false, false, false, true, false, true, false, false, false, false, false] ⟨#[.agg #[.int .i64 x1, .int .i64 y1], .agg #[.int .i64 x2, .int .i64 y2], .agg #[.int .i64 x3, .int .i64 y3], .agg #[.int .i64 x4, .int .i64 y4], .pointer (some ⟨w.heap.size, 0, none⟩), .pointer (some ⟨w.heap.size + 1, 0, none⟩), .pointer (some ⟨w.heap.size + 1 + 1, 0, none⟩), .pointer (some ⟨w.heap.size + 1 + 1 + 1, 0, none⟩), .int .i64 0, .pointer (some ⟨w.heap.size + 1 + 1 + 1 + 1, 0, none⟩), .pointer (some ⟨w.heap.size + 1 + 1 + 1 + 1 + 1, 0, none⟩), undef, undef, undef, undef, .agg #[.int .i64 x1, .int .i64 y1], undef, undef, undef, .agg #[.int .i64 x3, .int .i64 y3], undef, .agg #[.int .i64 x4, .int .i64 y4], undef, undef, undef, undef, undef, undef, undef, undef, undef, undef, undef, undef, undef, undef, undef, undef, undef, undef, undef, undef, undef, undef, undef, undef, undef, undef, undef, undef, undef, undef, undef, undef, undef, undef, undef, undef, undef, undef, undef, undef], []⟩ V := by
     as_aux_lemma =>
      intro V V1 V2 V3 V4 R1 R2 N
      have hHeld : True := trivial
      rw [hwp]
      refine wpAnyH_ready (rs := [1, 2]) (by kernel_rfl) (by simp) (AllReadyH.cons (gt rfl) (fun K hK => ?_) (AllReadyH.cons (gt rfl) (fun K hK => ?_) AllReadyH.nil))
      · go_simp
        refine (implTakenPt x1 y1 _).mono ?_
        rintro e1 V' ⟨rfl, hb⟩
        rw [HX1.out, HY1.out]
        refine hK.out _ _ trivial (fun hHeld => ?_)
        clear hK K
        try simp only [Act.put, sA, sB, sC]
        rw [← hwp]
        exact met (H1_023 _ (V1.below hb) (V2.below hb) (V3.below hb) (V4.below hb) (R1.below hb) (R2.below hb) (N.trans (hb.mono N.size))) (by kernel_rfl)
      · have z0 := V2.c0
        have z1 := V2.c1
        go_simp
        clear z0 z1
        refine hK.out _ _ trivial (fun hHeld => ?_)
        clear hK K
        try simp only [Act.put, sA, sB, sC]
        rw [← hwp]
        exact met (H0_0123 _ V1 V2 V3 V4 R1 R2 N) (by kernel_rfl)
    have H0_123 : ∀ V : World, Box2 w.heap.size V (w.heap.size) (.int .i64 x1) (.int .i64 y1) → Box2 w.heap.size V (w.heap.size + 1) (.int .i64 x2) (.int .i64 y2) → Box2 w.heap.size V (w.heap.size + 1 + 1) (.int .i64 x3) (.int .i64 y3) → Box2 w.heap.size V (w.heap.size + 1 + 1 + 1) (.int .i64 x4) (.int .i64 y4) → Box4 w.heap.size V (w.heap.size + 1 + 1 + 1 + 1) (.bool false) (.slice none 0 0) (.bool false) (.slice none 0 0) → Box4 w.heap.size V (w.heap.size + 1 + 1 + 1 + 1 + 1) (.bool false) (.slice none 0 0) (.bool false) (.slice none 0 0) → Below w.heap.size w V → wp 9 #[false, false, true, false, true, false, true, false, false, false, false, false] ⟨#[.agg #[.int .i64 x1, .int .i64 y1], .agg #[.int .i64 x2, .int .i64 y2], .agg #[.int .i64 x3, .int .i64 y3], .agg #[.int .i64 x4, .int .i64 y4], .pointer (some ⟨w.heap.size, 0, none⟩), .pointer (some ⟨w.heap.size + 1, 0, none⟩), .pointer (some ⟨w.heap.size + 1 + 1, 0, none⟩), .pointer (some ⟨w.heap.size + 1 + 1 + 1, 0, none⟩), .int .i64 0, .pointer (some ⟨w.heap.size + 1 + 1 + 1 + 1, 0, none⟩), .pointer (some ⟨w.heap.size + 1 + 1 + 1 + 1 + 1, 0, none⟩), undef, undef, undef, undef, undef, undef, .agg #[.int .i64 x2, .int .i64 y2], undef, .agg #[.int .i64 x3, .int .i64 y3], undef, .agg #[.int .i64 x4, .int .i64 y4], undef, undef, undef, undef, undef, undef, undef, undef, undef, undef, undef, undef, undef, undef, undef, undef, undef, undef, undef, undef, undef, undef, undef, undef, undef, undef, undef, undef, undef, undef, undef, undef, undef, undef, undef, undef, undef, undef, undef, undef], []⟩ V := by
     as_aux_lemma =>
      intro V V1 V2 V3 V4 R1 R2 N
      have hHeld : True := trivial
      rw [hwp]
      refine wpAnyH_ready (rs := [0]) (by kernel_rfl) (by simp) (AllReadyH.cons (gt rfl) (fun K hK => ?_) AllReadyH.nil)
      · have z0 := V1.c0
        have z1 := V1.c1
        go_simp
        clear z0 z1
        refine hK.out _ _ trivial (fun hHeld => ?_)
        clear hK K
        try simp only [Act.put, sA, sB, sC]
        rw [← hwp]
        exact met (H0_0123 _ V1 V2 V3 V4 R1 R2 N) (by kernel_rfl)
    have H0_01 : ∀ V : World, Box2 w.heap.size V (w.heap.size) (.int .i64 x1) (.int .i64 y1) → Box2 w.heap.size V (w.heap.size + 1) (.int .i64 x2) (.int .i64 y2) → Box2 w.heap.size V (w.heap.size + 1 + 1) (.int .i64 x3) (.int .i64 y3) → Box2 w.heap.size V (w.heap.size + 1 + 1 + 1) (.int .i64 x4) (.int .i64 y4) → Box4 w.heap.size V (w.heap.size + 1 + 1 + 1 + 1) (.bool false) (.slice none 0 0) (.bool false) (.slice none 0 0) → Box4 w.heap.size V (w.heap.size + 1 + 1 + 1 + 1 + 1) (.bool false) (.slice none 0 0) (.bool false) (.slice none 0 0) → Below w.heap.size w V → wp 10 #[true, false, true, false, false, false, false, false, false, false, false, false] ⟨#[.agg #[.int .i64 x1, .int .i64 y1], .agg #[.int .i64 x2, .int .i64 y2], .agg #[.int .i64 x3, .int .i64 y3], .agg #[.int .i64 x4, .int .i64 y4], .pointer (some ⟨w.heap.size, 0, none⟩), .pointer (some ⟨w.heap.size + 1, 0, none⟩), .pointer (some ⟨w.heap.size + 1 + 1, 0, none⟩), .pointer (some ⟨w.heap.size + 1 + 1 + 1, 0, none⟩), .int .i64 0, .pointer (some ⟨w.heap.size + 1 + 1 + 1 + 1, 0, none⟩), .pointer (some ⟨w.heap.size + 1 + 1 + 1 + 1 + 1, 0, none⟩), undef, undef, undef, undef, .agg #[.int .i64 x1, .int .i64 y1], undef, .agg #[.int .i64 x2, .int .i64 y2], undef, undef, undef, undef, undef, undef, undef, undef, undef, undef, undef, undef, undef, undef, undef, undef, undef, undef, undef, undef, undef, undef, undef, undef, undef, undef, undef, undef, undef, undef, undef, undef, undef, undef, undef, undef, undef, undef, undef, undef, undef, undef, undef, undef], []⟩ V := by
     as_aux_lemma =>
      intro V V1 V2 V3 V4 R1 R2 N
      have hHeld : True := trivial
      rw [hwp]
      refine wpAnyH_ready (rs := [1, 4, 6]) (by kernel_rfl) (by simp) (AllReadyH.cons (gt rfl) (fun K hK => ?_) (AllReadyH.cons (gt rfl) (fun K hK => ?_) (AllReadyH.cons (gt rfl) (fun K hK => ?_) AllReadyH.nil)))
      · go_simp
        refine (implTakenPt x1 y1 _).mono ?_
        rintro e1 V' ⟨rfl, hb⟩
        rw [HX1.out, HY1.out]
        refine hK.out _ _ trivial (fun hHeld => ?_)
        clear hK K
        try simp only [Act.put, sA, sB, sC]
        rw [← hwp]
        exact met (H1_01 _ (V1.below hb) (V2.below hb) (V3.below hb) (V4.below hb) (R1.below hb) (R2.below hb) (N.trans (hb.mono N.size))) (by kernel_rfl)
      · have z0 := V3.c0
        have z1 := V3.c1
        go_simp
        clear z0 z1
        refine hK.out _ _ trivial (fun hHeld => ?_)
        clear hK K
        try simp only [Act.put, sA, sB, sC]
        rw [← hwp]
        exact met (H0_012 _ V1 V2 V3 V4 R1 R2 N) (by kernel_rfl)
      · have z0 := V4.c0
        have z1 := V4.c1
        go_simp
        clear z0 z1
        refine hK.out _ _ trivial (fun hHeld => ?_)
        clear hK K
        try simp only [Act.put, sA, sB, sC]
        rw [← hwp]
        exact met (H0_013 _ V1 V2 V3 V4 R1 R2 N) (by kernel_rfl)
    have H0_02 : ∀ V : World, Box2 w.heap.size V (w.heap.size) (.int .i64 x1) (.int .i64 y1) → Box2 w.heap.size V (w.heap.size + 1) (.int .i64 x2) (.int .i64 y2) → Box2 w.heap.size V (w.heap.size + 1 + 1) (.int .i64 x3) (.int .i64 y3) → Box2 w.heap.size V (w.heap.size + 1 + 1 + 1) (.int .i64 x4) (.int .i64 y4) → Box4 w.heap.size V (w.heap.size + 1 + 1 + 1 + 1) (.bool false) (.slice none 0 0) (.bool false) (.slice none 0 0) → Box4 w.heap.size V (w.heap.size + 1 + 1 + 1 + 1 + 1) (.bool false) (.slice none 0 0) (.bool false) (.slice none 0 0) → Below w.heap.size w V → wp 10 #[true, false, false, false, true, false, false, false, false, false, false, false] ⟨#[.agg #[.int .i64 x1, .int .i64 y1], .agg #[.int .i64 x2, .int .i64 y2], .agg #[.int .i64 x3, .int .i64 y3], .agg #[.int .i64 x4, .int .i64 y4], .pointer (some ⟨w.heap.size, 0, none⟩), .pointer (some ⟨w.heap.size + 1, 0, none⟩), .pointer (some ⟨w.heap.size + 1 + 1, 0, none⟩), .pointer (some ⟨w.heap.size + 1 + 1 + 1, 0, none⟩), .int .i64 0, .pointer (some ⟨w.heap.size + 1 + 1 + 1 + 1, 0, none⟩), .pointer (some ⟨w.heap.size + 1 + 1 + 1 + 1 + 1, 0, none⟩), undef, undef, undef, undef, .agg #[.int .i64 x1, .int .i64 y1], undef, undef, undef, .agg #[.int .i64 x3, .int .i64 y3], undef, undef, undef, undef, undef, undef, undef, undef, undef, undef, undef, undef, undef, undef, undef, undef, undef, undef, undef, undef, undef, undef, undef, undef, undef, undef, undef, undef, undef, undef, undef, undef, undef, undef, undef, undef, undef, undef, undef, undef, undef, undef], []⟩ V := by
     as_aux_lemma =>
      intro V V1 V2 V3 V4 R1 R2 N
      have hHeld : True := trivial
      rw [hwp]
      refine wpAnyH_ready (rs := [1, 2, 6]) (by kernel_rfl) (by simp) (AllReadyH.cons (gt rfl) (fun K hK => ?_) (AllReadyH.cons (gt rfl) (fun K hK => ?_) (AllReadyH.cons (gt rfl) (fun K hK => ?_) AllReadyH.nil)))
      · go_simp
        refine (implTakenPt x1 y1 _).mono ?_
        rintro e1 V' ⟨rfl, hb⟩
        rw [HX1.out, HY1.out]
        refine hK.out _ _ trivial (fun hHeld => ?_)
        clear hK K
        try simp only [Act.put, sA, sB, sC]
        rw [← hwp]
        exact met (H1_02 _ (V1.below hb) (V2.below hb) (V3.below hb) (V4.below hb) (R1.below hb) (R2.below hb) (N.trans (hb.mono N.size))) (by kernel_rfl)
      · have z0 := V2.c0
        have z1 := V2.c1
        go_simp
        clear z0 z1
        refine hK.out _ _ trivial (fun hHeld => ?_)
        clear hK K
        try simp only [Act.put, sA, sB, sC]
        rw [← hwp]
        exact met (H0_012 _ V1 V2 V3 V4 R1 R2 N) (by kernel_rfl)
      · have z0 := V4.c0
        have z1 := V4.c1
        go_simp
        clear z0 z1
        refine hK.out _ _ trivial (fun hHeld => ?_)
        clear hK K
        try simp only [Act.put, sA, sB, sC]
        rw [← hwp]
        exact met (H0_023 _ V1 V2 V3 V4 R1 R2 N) (by kernel_rfl)
    have H0_03 : ∀ V : World, Box2 w.heap.size V (w.heap.size) (.int .i64 x1) (.int .i64 y1) → Box2 w.heap.size V (w.heap.size + 1) (.int .i64 x2) (.int .i64 y2) → Box2 w.heap.size V (w.heap.size + 1 + 1) (.int .i64 x3) (.int .i64 y3) → Box2 w.heap.size V (w.heap.size + 1 + 1 + 1) (.int .i64 x4) (.int .i64 y4) → Box4 w.heap.size V (w.heap.size + 1 + 1 + 1 + 1) (.bool false) (.slice none 0 0) (.bool false) (.slice none 0 0) → Box4 w.heap.size V (w.heap.size + 1 + 1 + 1 + 1 + 1) (.bool false) (.slice none 0 0) (.bool false) (.slice none 0 0) → Below w.heap.size w V → wp 10 #[true, false, false, false, false, false, true, false, false, false, false, false] ⟨#[.agg #[.int .i64 x1, .int .i64 y1], .agg #[.int .i64 x2, .int .i64 y2], .agg #[.int .i64 x3, .int .i64 y3], .agg #[.int .i64 x4, .int .i64 y4], .pointer (some ⟨w.heap.size, 0, none⟩), .pointer (some ⟨w.heap.size + 1, 0, none⟩), .pointer (some ⟨w.heap.size + 1 + 1, 0, none⟩), .pointer (some ⟨w.heap.size + 1 + 1 + 1, 0, none⟩), .int .i64 0, .pointer (some ⟨w.heap.size + 1 + 1 + 1 + 1, 0, none⟩), .pointer (some ⟨w.heap.size + 1 + 1 + 1 + 1 + 1, 0, none⟩), undef, undef, undef, undef, .agg #[.int .i64 x1, .int .i64 y1], undef, undef, undef, undef, undef, .agg #[.int .i64 x4, .int .i64 y4], undef, undef, undef, undef, undef, undef, undef, undef, undef, undef, undef, undef, undef, undef, undef, undef, undef, undef, undef, undef, undef, undef, undef, undef, undef, undef, undef, undef, undef, undef, undef, undef, undef, undef, undef, undef, undef, undef, undef, undef], []⟩ V := by
     as_aux_lemma =>
      intro V V1 V2 V3 V4 R1 R2 N
      have hHeld : True := trivial
      rw [hwp]
      refine wpAnyH_ready (rs := [1, 2, 4]) (by kernel_rfl) (by simp) (AllReadyH.cons (gt rfl) (fun K hK => ?_) (AllReadyH.cons (gt rfl) (fun K hK => ?_) (AllReadyH.cons (gt rfl) (fun K hK => ?_) AllReadyH.nil)))
      · go_simp
        refine (implTakenPt x1 y1 _).mono ?_
        rintro e1 V' ⟨rfl, hb⟩
        rw [HX1.out, HY1.out]
        refine hK.out _ _ trivial (fun hHeld => ?_)
        clear hK K
        try simp only [Act.put, sA, sB, sC]
        rw [← hwp]
        exact met (H1_03 _ (V1.below hb) (V2.below hb) (V3.below hb) (V4.below hb) (R1.below hb) (R2.below hb) (N.trans (hb.mono N.size))) (by kernel_rfl)
      · have z0 := V2.c0
        have z1 := V2.c1
        go_simp
        clear z0 z1
        refine hK.out _ _ trivial (fun hHeld => ?_)
        clear hK K
        try simp only [Act.put, sA, sB, sC]
        rw [← hwp]
        exact met (H0_013 _ V1 V2 V3 V4 R1 R2 N) (by kernel_rfl)
      · have z0 := V3.c0
        have z1 := V3.c1
        go_simp
        clear z0 z1
        refine hK.out _ _ trivial (fun hHeld => ?_)
        clear hK K
        try simp only [Act.put, sA, sB, sC]
        rw [← hwp]
        exact met (H0_023 _ V1 V2 V3 V4 R1 R2 N) (by kernel_rfl)
    have H0_12 : ∀ V : World, Box2 w.heap.size V (w.heap.size) (.int .i64 x1) (.int .i64 y1) → Box2 w.heap.size V (w.heap.size + 1) (.int .i64 x2) (.int .i64 y2) → Box2 w.heap.size V (w.heap.size + 1 + 1) (.int .i64 x3) (.int .i64 y3) → Box2 w.heap.size V (w.heap.size + 1 + 1 + 1) (.int .i64 x4) (.int .i64 y4) → Box4 w.heap.size V (w.heap.size + 1 + 1 + 1 + 1) (.bool false) (.slice none 0 0) (.bool false) (.slice none 0 0) → Box4 w.heap.size V (w.heap.size + 1 + 1 + 1 + 1 + 1) (.bool false) (.slice none 0 0) (.bool false) (.slice none 0 0) → Below w.heap.size w V → wp 10 #[false, false, true, false, true, false, false, false, false, false, false, false] ⟨#[.agg #[.int .i64 x1, .int .i64 y1], .agg #[.int .i64 x2, .int .i64 y2], .agg #[.int .i64 x3, .int .i64 y3], .agg #[.int .i64 x4, .int .i64 y4], .pointer (some ⟨w.heap.size, 0, none⟩), .pointer (some ⟨w.heap.size + 1, 0, none⟩), .pointer (some ⟨w.heap.size + 1 + 1, 0, none⟩), .pointer (some ⟨w.heap.size + 1 + 1 + 1, 0, none⟩), .int .i64 0, .pointer (some ⟨w.heap.size + 1 + 1 + 1 + 1, 0, none⟩), .pointer (some ⟨w.heap.size + 1 + 1 + 1 + 1 + 1, 0, none⟩), undef, undef, undef, undef, undef, undef, .agg #[.int .i64 x2, .int .i64 y2], undef, .agg #[.int .i64 x3, .int .i64 y3], undef, undef, undef, undef, undef, undef, undef, undef, undef, undef, undef, undef, undef, undef, undef, undef, undef, undef, undef, undef, undef, undef, undef, undef, undef, undef, undef, undef, undef, undef, undef, undef, undef, undef, undef, undef, undef, undef, undef, undef, undef, undef], []⟩ V := by
     as_aux_lemma =>
      intro V V1 V2 V3 V4 R1 R2 N
      have hHeld : True := trivial
      rw [hwp]
      refine wpAnyH_ready (rs := [0, 6]) (by kernel_rfl) (by simp) (AllReadyH.cons (gt rfl) (fun K hK => ?_) (AllReadyH.cons (gt rfl) (fun K hK => ?_) AllReadyH.nil))
      · have z0 := V1.c0
        have z1 := V1.c1
        go_simp
        clear z0 z1
        refine hK.out _ _ trivial (fun hHeld => ?_)
        clear hK K
        try simp only [Act.put, sA, sB, sC]
        rw [← hwp]
        exact met (H0_012 _ V1 V2 V3 V4 R1 R2 N) (by kernel_rfl)
      · have z0 := V4.c0
        have z1 := V4.c1
        go_simp
        clear z0 z1
        refine hK.out _ _ trivial (fun hHeld => ?_)
        clear hK K
        try simp only [Act.put, sA, sB, sC]
        rw [← hwp]
        exact met (H0_123 _ V1 V2 V3 V4 R1 R2 N) (by kernel_rfl)
    have H0_13 : ∀ V : World, Box2 w.heap.size V (w.heap.size) (.int .i64 x1) (.int .i64 y1) → Box2 w.heap.size V (w.heap.size + 1) (.int .i64 x2) (.int .i64 y2) → Box2 w.heap.size V (w.heap.size + 1 + 1) (.int .i64 x3) (.int .i64 y3) → Box2 w.heap.size V (w.heap.size + 1 + 1 + 1) (.int .i64 x4) (.int .i64 y4) → Box4 w.heap.size V (w.heap.size + 1 + 1 + 1 + 1) (.bool false) (.slice none 0 0) (.bool false) (.slice none 0 0) → Box4 w.heap.size V (w.heap.size + 1 + 1 + 1 + 1 + 1) (.bool false) (.slice none 0 0) (.bool false) (.slice none 0 0) → Below w.heap.size w V → wp 10 #[false, false, true, false, false, false, true, false, false, false, false, false] ⟨#[.agg #[.int .i64 x1, .int .i64 y1], .agg #[.int .i64 x2, .int .i64 y2], .agg #[.int .i64 x3, .int .i64 y3], .agg #[.int .i64 x4, .int .i64 y4], .pointer (some ⟨w.heap.size, 0, none⟩), .pointer (some ⟨w.heap.size + 1, 0, none⟩), .pointer (some ⟨w.heap.size + 1 + 1, 0, none⟩), .pointer (some ⟨w.heap.size + 1 + 1 + 1, 0, none⟩), .int .i64 0, .pointer (some ⟨w.heap.size + 1 + 1 + 1 + 1, 0, none⟩), .pointer (some ⟨w.heap.size + 1 + 1 + 1 + 1 + 1, 0, none⟩), undef, undef, undef, undef, undef, undef, .agg #[.int .i64 x2, .int .i64 y2], undef, undef, undef, .agg #[.int .i64 x4, .int .i64 y4], undef, undef, undef, undef, undef, undef, undef, undef, undef, undef, undef, undef, undef, undef, undef, undef, undef, undef, undef, undef, undef, undef, undef, undef, undef, undef, undef, undef, undef, undef, undef, undef, undef, undef, undef, undef, undef, undef, undef, undef], []⟩ V := by
     as_aux_lemma =>
      intro V V1 V2 V3 V4 R1 R2 N
      have hHeld : True := trivial
      rw [hwp]
      refine wpAnyH_ready (rs := [0, 4]) (by kernel_rfl) (by simp) (AllReadyH.cons (gt rfl) (fun K hK => ?_) (AllReadyH.cons (gt rfl) (fun K hK => ?_) AllReadyH.nil))
      · have z0 := V1.c0
        have z1 := V1.c1
        go_simp
        clear z0 z1
        refine hK.out _ _ trivial (fun hHeld => ?_)
        clear hK K
        try simp only [Act.put, sA, sB, sC]
        rw [← hwp]
        exact met (H0_013 _ V1 V2 V3 V4 R1 R2 N) (by kernel_rfl)
      · have z0 := V3.c0
        have z1 := V3.c1
        go_simp
        clear z0 z1
        refine hK.out _ _ trivial (fun hHeld => ?_)
        clear hK K
        try simp only [Act.put, sA, sB, sC]
        rw [← hwp]
        exact met (H0_123 _ V1 V2 V3 V4 R1 R2 N) (by kernel_rfl)
    have H0_23 : ∀ V : World, Box2 w.heap.size V (w.heap.size) (.int .i64 x1) (.int .i64 y1) → Box2 w.heap.size V (w.heap.size + 1) (.int .i64 x2) (.int .i64 y2) → Box2 w.heap.size V (w.heap.size + 1 + 1) (.int .i64 x3) (.int .i64 y3) → Box2 w.heap.size V (w.heap.size + 1 + 1 + 1) (.int .i64 x4) (.int .i64 y4) → Box4 w.heap.size V (w.heap.size + 1 + 1 + 1 + 1) (.bool false) (.slice none 0 0) (.bool false) (.slice none 0 0) → Box4 w.heap.size V (w.heap.size + 1 + 1 + 1 + 1 + 1) (.bool false) (.slice none 0 0) (.bool false) (.slice none 0 0) → Below w.heap.size w V → wp 10 #[false, false, false, false, true, false, true, false, false, false, false, false] ⟨#[.agg #[.int .i64 x1, .int .i64 y1], .agg #[.int .i64 x2, .int .i64 y2], .agg #[.int .i64 x3, .int .i64 y3], .agg #[.int .i64 x4, .int .i64 y4], .pointer (some ⟨w.heap.size, 0, none⟩), .pointer (some ⟨w.heap.size + 1, 0, none⟩), .pointer (some ⟨w.heap.size + 1 + 1, 0, none⟩), .pointer (some ⟨w.heap.size + 1 + 1 + 1, 0, none⟩), .int .i64 0, .pointer (some ⟨w.heap.size + 1 + 1 + 1 + 1, 0, none⟩), .pointer (some ⟨w.heap.size + 1 + 1 + 1 + 1 + 1, 0, none⟩), undef, undef, undef, undef, undef, undef, undef, undef, .agg #[.int .i64 x3, .int .i64 y3], undef, .agg #[.int .i64 x4, .int .i64 y4], undef, undef, undef, undef, undef, undef, undef, undef, undef, undef, undef, undef, undef, undef, undef, undef, undef, undef, undef, undef, undef, undef, undef, undef, undef, undef, undef, undef, undef, undef, undef, undef, undef, undef, undef, undef, undef, undef, undef, undef], []⟩ V := by
     as_aux_lemma =>
      intro V V1 V2 V3 V4 R1 R2 N
      have hHeld : True := trivial
      rw [hwp]
      refine wpAnyH_ready (rs := [0, 2]) (by kernel_rfl) (by simp) (AllReadyH.cons (gt rfl) (fun K hK => ?_) (AllReadyH.cons (gt rfl) (fun K hK => ?_) AllReadyH.nil))
      · have z0 := V1.c0
        have z1 := V1.c1
        go_simp
        clear z0 z1
        refine hK.out _ _ trivial (fun hHeld => ?_)
        clear hK K
        try simp only [Act.put, sA, sB, sC]
        rw [← hwp]
        exact met (H0_023 _ V1 V2 V3 V4 R1 R2 N) (by kernel_rfl)
      · have z0 := V2.c0
        have z1 := V2.c1
        go_simp
        clear z0 z1
        refine hK.out _ _ trivial (fun hHeld => ?_)
        clear hK K
        try simp only [Act.put, sA, sB, sC]
        rw [← hwp]
        exact met (H0_123 _ V1 V2 V3 V4 R1 R2 N) (by kernel_rfl)
    have H0_0 : ∀ V : World, Box2 w.heap.size V (w.heap.size) (.int .i64 x1) (.int .i64 y1) → Box2 w.heap.size V (w.heap.size + 1) (.int .i64 x2) (.int .i64 y2) → Box2 w.heap.size V (w.heap.size + 1 + 1) (.int .i64 x3) (.int .i64 y3) → Box2 w.heap.size V (w.heap.size + 1 + 1 + 1) (.int .i64 x4) (.int .i64 y4) → Box4 w.heap.size V (w.heap.size + 1 + 1 + 1 + 1) (.bool false) (.slice none 0 0) (.bool false) (.slice none 0 0) → Box4 w.heap.size V (w.heap.size + 1 + 1 + 1 + 1 + 1) (.bool false) (.slice none 0 0) (.bool false) (.slice none 0 0) → Below w.heap.size w V → wp 11 #[true, false, false, false, false, false, false, false, false, false, false, false] ⟨#[.agg #[.int .i64 x1, .int .i64 y1], .agg #[.int .i64 x2, .int .i64 y2], .agg #[.int .i64 x3, .int .i64 y3], .agg #[.int .i64 x4, .int .i64 y4], .pointer (some ⟨w.heap.size, 0, none⟩), .pointer (some ⟨w.heap.size + 1, 0, none⟩), .pointer (some ⟨w.heap.size + 1 + 1, 0, none⟩), .pointer (some ⟨w.heap.size + 1 + 1 + 1, 0, none⟩), .int .i64 0, .pointer (some ⟨w.heap.size + 1 + 1 + 1 + 1, 0, none⟩), .pointer (some ⟨w.heap.size + 1 + 1 + 1 + 1 + 1, 0, none⟩), undef, undef, undef, undef, .agg #[.int .i64 x1, .int .i64 y1], undef, undef, undef, undef, undef, undef, undef, undef, undef, undef, undef, undef, undef, undef, undef, undef, undef, undef, undef, undef, undef, undef, undef, undef, undef, undef, undef, undef, undef, undef, undef, undef, undef, undef, undef, undef, undef, undef, undef, undef, undef, undef, undef, undef, undef, undef], []⟩ V := by
     as_aux_lemma =>
      intro V V1 V2 V3 V4 R1 R2 N
      have hHeld : True := trivial
      rw [hwp]
      refine wpAnyH_ready (rs := [1, 2, 4, 6]) (by kernel_rfl) (by simp) (AllReadyH.cons (gt rfl) (fun K hK => ?_) (AllReadyH.cons (gt rfl) (fun K hK => ?_) (AllReadyH.cons (gt rfl) (fun K hK => ?_) (AllReadyH.cons (gt rfl) (fun K hK => ?_) AllReadyH.nil))))
      · go_simp
        refine (implTakenPt x1 y1 _).mono ?_
        rintro e1 V' ⟨rfl, hb⟩
        rw [HX1.out, HY1.out]
        refine hK.out _ _ trivial (fun hHeld => ?_)
        clear hK K
        try simp only [Act.put, sA, sB, sC]
        rw [← hwp]
        exact met (H1_0 _ (V1.below hb) (V2.below hb) (V3.below hb) (V4.below hb) (R1.below hb) (R2.below hb) (N.trans (hb.mono N.size))) (by kernel_rfl)
      · have z0 := V2.c0
        have z1 := V2.c1
        go_simp
        clear z0 z1
        refine hK.out _ _ trivial (fun hHeld => ?_)
        clear hK K
        try simp only [Act.put, sA, sB, sC]
        rw [← hwp]
        exact met (H0_01 _ V1 V2 V3 V4 R1 R2 N) (by kernel_rfl)
      · have z0 := V3.c0
        have z1 := V3.c1
        go_simp
        clear z0 z1
        refine hK.out _ _ trivial (fun hHeld => ?_)
        clear hK K
        try simp only [Act.put, sA, sB, sC]
        rw [← hwp]
        exact met (H0_02 _ V1 V2 V3 V4 R1 R2 N) (by kernel_rfl)
      · have z0 := V4.c0
        have z1 := V4.c1
        go_simp
        clear z0 z1
        refine hK.out _ _ trivial (fun hHeld => ?_)
        clear hK K
        try simp only [Act.put, sA, sB, sC]
        rw [← hwp]
        exact met (H0_03 _ V1 V2 V3 V4 R1 R2 N) (by kernel_rfl)
    have H0_1 : ∀ V : World, Box2 w.heap.size V (w.heap.size) (.int .i64 x1) (.int .i64 y1) → Box2 w.heap.size V (w.heap.size + 1) (.int .i64 x2) (.int .i64 y2) → Box2 w.heap.size V (w.heap.size + 1 + 1) (.int .i64 x3) (.int .i64 y3) → Box2 w.heap.size V (w.heap.size + 1 + 1 + 1) (.int .i64 x4) (.int .i64 y4) → Box4 w.heap.size V (w.heap.size + 1 + 1 + 1 + 1) (.bool false) (.slice none 0 0) (.bool false) (.slice none 0 0) → Box4 w.heap.size V (w.heap.size + 1 + 1 + 1 + 1 + 1) (.bool false) (.slice none 0 0) (.bool false) (.slice none 0 0) → Below w.heap.size w V → wp 11 #[false, false, true, false, false, false, false, false, false, false, false, false] ⟨#[.agg #[.int .i64 x1, .int .i64 y1], .agg #[.int .i64 x2, .int .i64 y2], .agg #[.int .i64 x3, .int .i64 y3], .agg #[.int .i64 x4, .int .i64 y4], .pointer (some ⟨w.heap.size, 0, none⟩), .pointer (some ⟨w.heap.size + 1, 0, none⟩), .pointer (some ⟨w.heap.size + 1 + 1, 0, none⟩), .pointer (some ⟨w.heap.size + 1 + 1 + 1, 0, none⟩), .int .i64 0, .pointer (some ⟨w.heap.size + 1 + 1 + 1 + 1, 0, none⟩), .pointer (some ⟨w.heap.size + 1 + 1 + 1 + 1 + 1, 0, none⟩), undef, undef, undef, undef, undef, undef, .agg #[.int .i64 x2, .int .i64 y2], undef, undef, undef, undef, undef, undef, undef, undef, undef, undef, undef, undef, undef, undef, undef, undef, undef, undef, undef, undef, undef, undef, undef, undef, undef, undef, undef, undef, undef, undef, undef, undef, undef, undef, undef, undef, undef, undef, undef, undef, undef, undef, undef, undef], []⟩ V := by
     as_aux_lemma =>
      intro V V1 V2 V3 V4 R1 R2 N
      have hHeld : True := trivial
      rw [hwp]
      refine wpAnyH_ready (rs := [0, 4, 6]) (by kernel_rfl) (by simp) (AllReadyH.cons (gt rfl) (fun K hK => ?_) (AllReadyH.cons (gt rfl) (fun K hK => ?_) (AllReadyH.cons (gt rfl) (fun K hK => ?_) AllReadyH.nil)))
      · have z0 := V1.c0
        have z1 := V1.c1
        go_simp
        clear z0 z1
        refine hK.out _ _ trivial (fun hHeld => ?_)
        clear hK K
        try simp only [Act.put, sA, sB, sC]
        rw [← hwp]
        exact met (H0_01 _ V1 V2 V3 V4 R1 R2 N) (by kernel_rfl)
      · have z0 := V3.c0
        have z1 := V3.c1
        go_simp
        clear z0 z1
        refine hK.out _ _ trivial (fun hHeld => ?_)
        clear hK K
        try simp only [Act.put, sA, sB, sC]
        rw [← hwp]
        exact met (H0_12 _ V1 V2 V3 V4 R1 R2 N) (by kernel_rfl)
      · have z0 := V4.c0
        have z1 := V4.c1
        go_simp
        clear z0 z1
        refine hK.out _ _ trivial (fun hHeld => ?_)
        clear hK K
        try simp only [Act.put, sA, sB, sC]
        rw [← hwp]
        exact met (H0_13 _ V1 V2 V3 V4 R1 R2 N) (by kernel_rfl)
    have H0_2 : ∀ V : World, Box2 w.heap.size V (w.heap.size) (.int .i64 x1) (.int .i64 y1) → Box2 w.heap.size V (w.heap.size + 1) (.int .i64 x2) (.int .i64 y2) → Box2 w.heap.size V (w.heap.size + 1 + 1) (.int .i64 x3) (.int .i64 y3) → Box2 w.heap.size V (w.heap.size + 1 + 1 + 1) (.int .i64 x4) (.int .i64 y4) → Box4 w.heap.size V (w.heap.size + 1 + 1 + 1 + 1) (.bool false) (.slice none 0 0) (.bool false) (.slice none 0 0) → Box4 w.heap.size V (w.heap.size + 1 + 1 + 1 + 1 + 1) (.bool false) (.slice none 0 0) (.bool false) (.slice none 0 0) → Below w.heap.size w V → wp 11 #[false, false, false, false, true, false, false, false, false, false, false, false] ⟨#[.agg #[.int .i64 x1, .int .i64 y1], .agg #[.int .i64 x2, .int .i64 y2], .agg #[.int .i64 x3, .int .i64 y3], .agg #[.int .i64 x4, .int .i64 y4], .pointer (some ⟨w.heap.size, 0, none⟩), .pointer (some ⟨w.heap.size + 1, 0, none⟩), .pointer (some ⟨w.heap.size + 1 + 1, 0, none⟩), .pointer (some ⟨w.heap.size + 1 + 1 + 1, 0, none⟩), .int .i64 0, .pointer (some ⟨w.heap.size + 1 + 1 + 1 + 1, 0, none⟩), .pointer (some ⟨w.heap.size + 1 + 1 + 1 + 1 + 1, 0, none⟩), undef, undef, undef, undef, undef, undef, undef, undef, .agg #[.int .i64 x3, .int .i64 y3], undef, undef, undef, undef, undef, undef, undef, undef, undef, undef, undef, undef, undef, undef, undef, undef, undef, undef, undef, undef, undef, undef, undef, undef, undef, undef, undef, undef, undef, undef, undef, undef, undef, undef, undef, undef, undef, undef, undef, undef, undef, undef], []⟩ V := by
     as_aux_lemma =>
      intro V V1 V2 V3 V4 R1 R2 N
      have hHeld : True := trivial
      rw [hwp]
      refine wpAnyH_ready (rs := [0, 2, 6]) (by kernel_rfl) (by simp) (AllReadyH.cons (gt rfl) (fun K hK => ?_) (AllReadyH.cons (gt rfl) (fun K hK => ?_) (AllReadyH.cons (gt rfl) (fun K hK => ?_) AllReadyH.nil)))
      · have z0 := V1.c0
        have z1 := V1.c1
        go_simp
        clear z0 z1
        refine hK.out _ _ trivial (fun hHeld => ?_)
        clear hK K
        try simp only [Act.put, sA, sB, sC]
        rw [← hwp]
        exact met (H0_02 _ V1 V2 V3 V4 R1 R2 N) (by kernel_rfl)
      · have z0 := V2.c0
        have z1 := V2.c1
        go_simp
        clear z0 z1
        refine hK.out _ _ trivial (fun hHeld => ?_)
        clear hK K
        try simp only [Act.put, sA, sB, sC]
        rw [← hwp]
        exact met (H0_12 _ V1 V2 V3 V4 R1 R2 N) (by kernel_rfl)
      · have z0 := V4.c0
        have z1 := V4.c1
        go_simp
        clear z0 z1
        refine hK.out _ _ trivial (fun hHeld => ?_)
        clear hK K
        try simp only [Act.put, sA, sB, sC]
        rw [← hwp]
        exact met (H0_23 _ V1 V2 V3 V4 R1 R2 N) (by kernel_rfl)
    have H0_3 : ∀ V : World, Box2 w.heap.size V (w.heap.size) (.int .i64 x1) (.int .i64 y1) → Box2 w.heap.size V (w.heap.size + 1) (.int .i64 x2) (.int .i64 y2) → Box2 w.heap.size V (w.heap.size + 1 + 1) (.int .i64 x3) (.int .i64 y3) → Box2 w.heap.size V (w.heap.size + 1 + 1 + 1) (.int .i64 x4) (.int .i64 y4) → Box4 w.heap.size V (w.heap.size + 1 + 1 + 1 + 1) (.bool false) (.slice none 0 0) (.bool false) (.slice none 0 0) → Box4 w.heap.size V (w.heap.size + 1 + 1 + 1 + 1 + 1) (.bool false) (.slice none 0 0) (.bool false) (.slice none 0 0) → Below w.heap.size w V → wp 11 #[false, false, false, false, false, false, true, false, false, false, false, false] ⟨#[.agg #[.int .i64 x1, .int .i64 y1], .agg #[.int .i64 x2, .int .i64 y2], .agg #[.int .i64 x3, .int .i64 y3], .agg #[.int .i64 x4, .int .i64 y4], .pointer (some ⟨w.heap.size, 0, none⟩), .pointer (some ⟨w.heap.size + 1, 0, none⟩), .pointer (some ⟨w.heap.size + 1 + 1, 0, none⟩), .pointer (some ⟨w.heap.size + 1 + 1 + 1, 0, none⟩), .int .i64 0, .pointer (some ⟨w.heap.size + 1 + 1 + 1 + 1, 0, none⟩), .pointer (some ⟨w.heap.size + 1 + 1 + 1 + 1 + 1, 0, none⟩), undef, undef, undef, undef, undef, undef, undef, undef, undef, undef, .agg #[.int .i64 x4, .int .i64 y4], undef, undef, undef, undef, undef, undef, undef, undef, undef, undef, undef, undef, undef, undef, undef, undef, undef, undef, undef, undef, undef, undef, undef, undef, undef, undef, undef, undef, undef, undef, undef, undef, undef, undef, undef, undef, undef, undef, undef, undef], []⟩ V := by
     as_aux_lemma =>
      intro V V1 V2 V3 V4 R1 R2 N
      have hHeld : True := trivial
      rw [hwp]
      refine wpAnyH_ready (rs := [0, 2, 4]) (by kernel_rfl) (by simp) (AllReadyH.cons (gt rfl) (fun K hK => ?_) (AllReadyH.cons (gt rfl) (fun K hK => ?_) (AllReadyH.cons (gt rfl) (fun K hK => ?_) AllReadyH.nil)))
      · have z0 := V1.c0
        have z1 := V1.c1
        go_simp
        clear z0 z1
        refine hK.out _ _ trivial (fun hHeld => ?_)
        clear hK K
        try simp only [Act.put, sA, sB, sC]
        rw [← hwp]
        exact met (H0_03 _ V1 V2 V3 V4 R1 R2 N) (by kernel_rfl)
      · have z0 := V2.c0
        have z1 := V2.c1
        go_simp
        clear z0 z1
        refine hK.out _ _ trivial (fun hHeld => ?_)
        clear hK K
        try simp only [Act.put, sA, sB, sC]
        rw [← hwp]
        exact met (H0_13 _ V1 V2 V3 V4 R1 R2 N) (by kernel_rfl)
      · have z0 := V3.c0
        have z1 := V3.c1
        go_simp
        clear z0 z1
        refine hK.out _ _ trivial (fun hHeld => ?_)
        clear hK K
        try simp only [Act.put, sA, sB, sC]
        rw [← hwp]
        exact met (H0_23 _ V1 V2 V3 V4 R1 R2 N) (by kernel_rfl)
    have H0_ : ∀ V : World, Box2 w.heap.size V (w.heap.size) (.int .i64 x1) (.int .i64 y1) → Box2 w.heap.size V (w.heap.size + 1) (.int .i64 x2) (.int .i64 y2) → Box2 w.heap.size V (w.heap.size + 1 + 1) (.int .i64 x3) (.int .i64 y3) → Box2 w.heap.size V (w.heap.size + 1 + 1 + 1) (.int .i64 x4) (.int .i64 y4) → Box4 w.heap.size V (w.heap.size + 1 + 1 + 1 + 1) (.bool false) (.slice none 0 0) (.bool false) (.slice none 0 0) → Box4 w.heap.size V (w.heap.size + 1 + 1 + 1 + 1 + 1) (.bool false) (.slice none 0 0) (.bool false) (.slice none 0 0) → Below w.heap.size w V → wp 12 #[false, false, false, false, false, false, false, false, false, false, false, false] ⟨#[.agg #[.int .i64 x1, .int .i64 y1], .agg #[.int .i64 x2, .int .i64 y2], .agg #[.int .i64 x3, .int .i64 y3], .agg #[.int .i64 x4, .int .i64 y4], .pointer (some ⟨w.heap.size, 0, none⟩), .pointer (some ⟨w.heap.size + 1, 0, none⟩), .pointer (some ⟨w.heap.size + 1 + 1, 0, none⟩), .pointer (some ⟨w.heap.size + 1 + 1 + 1, 0, none⟩), .int .i64 0, .pointer (some ⟨w.heap.size + 1 + 1 + 1 + 1, 0, none⟩), .pointer (some ⟨w.heap.size + 1 + 1 + 1 + 1 + 1, 0, none⟩), undef, undef, undef, undef, undef, undef, undef, undef, undef, undef, undef, undef, undef, undef, undef, undef, undef, undef, undef, undef, undef, undef, undef, undef, undef, undef, undef, undef, undef, undef, undef, undef, undef, undef, undef, undef, undef, undef, undef, undef, undef, undef, undef, undef, undef, undef, undef, undef, undef, undef, undef], []⟩ V := by
     as_aux_lemma =>
      intro V V1 V2 V3 V4 R1 R2 N
      have hHeld : True := trivial
      rw [hwp]
      refine wpAnyH_ready (rs := [0, 2, 4, 6]) (by kernel_rfl) (by simp) (AllReadyH.cons (gt rfl) (fun K hK => ?_) (AllReadyH.cons (gt rfl) (fun K hK => ?_) (AllReadyH.cons (gt rfl) (fun K hK => ?_) (AllReadyH.cons (gt rfl) (fun K hK => ?_) AllReadyH.nil))))
      · have z0 := V1.c0
        have z1 := V1.c1
        go_simp
        clear z0 z1
        refine hK.out _ _ trivial (fun hHeld => ?_)
        clear hK K
        try simp only [Act.put, sA, sB, sC]
        rw [← hwp]
        exact met (H0_0 _ V1 V2 V3 V4 R1 R2 N) (by kernel_rfl)
      · have z0 := V2.c0
        have z1 := V2.c1
        go_simp
        clear z0 z1
        refine hK.out _ _ trivial (fun hHeld => ?_)
        clear hK K
        try simp only [Act.put, sA, sB, sC]
        rw [← hwp]
        exact met (H0_1 _ V1 V2 V3 V4 R1 R2 N) (by kernel_rfl)
      · have z0 := V3.c0
        have z1 := V3.c1
        go_simp
        clear z0 z1
        refine hK.out _ _ trivial (fun hHeld => ?_)
        clear hK K
        try simp only [Act.put, sA, sB, sC]
        rw [← hwp]
        exact met (H0_2 _ V1 V2 V3 V4 R1 R2 N) (by kernel_rfl)
      · have z0 := V4.c0
        have z1 := V4.c1
        go_simp
        clear z0 z1
        refine hK.out _ _ trivial (fun hHeld => ?_)
        clear hK K
        try simp only [Act.put, sA, sB, sC]
        rw [← hwp]
        exact met (H0_3 _ V1 V2 V3 V4 R1 R2 N) (by kernel_rfl)
    exact met (H0_ _ V1 V2 V3 V4 R1 R2 N) (by kernel_rfl)
  clear V1 V2 V3 V4 R1 R2 B HW
  obtain ⟨rfl, V1, V2, V3, V4, R1, R2, B⟩ := hcut
  rename World => U4
  obtain ⟨j10, j11, _, _⟩ := id V1
  obtain ⟨j20, j21, _, _⟩ := id V2
  obtain ⟨j30, j31, _, _⟩ := id V3
  obtain ⟨j40, j41, _, _⟩ := id V4
  go_wp2_with fail
  clear j10 j11 j20 j21 j30 j31 j40 j41
  refine (meet_any X1 Y1 X2 Y2 X3 Y3 X4 Y4 _ C1 D1 C2 D2 C3 D3 C4 D4).mono ?_
  rintro e w5 ⟨rfl, hb⟩
  replace V1 := V1.below hb
  replace V2 := V2.below hb
  replace V3 := V3.below hb
  replace V4 := V4.below hb
  replace R1 := R1.below hb
  replace R2 := R2.below hb
  replace B := B.trans (hb.mono B.size)
  clear hb
  have HW2 : w.heap.size + 1 + 1 + 1 + 1 + 1 < w5.heap.size := R2.lt
  cases hm : metI X1 Y1 X2 Y2 X3 Y3 X4 Y4
  · have E := HC.out
    unfold crV at E
    rw [hm, if_neg (by decide)] at E
    simp only [Prod.mk.injEq] at E
    obtain ⟨rfl, rfl, rfl, rfl, rfl⟩ := E
    go_wp2_with fail
    refine (nought_is _).mono ?_
    rintro e w3 ⟨v3, rfl, I3, hb⟩
    have zw := HW2
    have Z3 := hb.size
    replace R1 := R1.below hb
    replace R2 := R2.below hb
    replace B := B.trans (hb.mono B.size)
    clear hb
    go_wp2_with fail
    refine (nought_is _).mono ?_
    rintro e w4 ⟨v4, rfl, I4, hb4⟩
    have TF := TwoFr.of I3 hb4 I4 Z3 (Nat.le_refl _)
    replace R1 := R1.below hb4
    replace R2 := R2.below hb4
    replace B := B.trans (hb4.mono B.size)
    clear hb4
    obtain ⟨g1, q1, m1, r1, g2, q2, m2, r2, g3, q3, m3, r3, g4, q4, m4, r4, E1, E2⟩ := TF.is'
    subst E1
    subst E2
    obtain ⟨s0, s1, s2, s3, sf, _⟩ := id R1
    obtain ⟨u0, u1, u2, u3, uf, _⟩ := id R2
    have F1 := (((TF.put (b := w.heap.size + 1 + 1 + 1 + 1) (by omega) (.bool g1) (.slice q1 m1 r1) (.bool g2) (.slice q2 m2 r2)).put (b := w.heap.size + 1 + 1 + 1 + 1 + 1) (by omega) (.bool g3) (.slice q3 m3 r3) (.bool g4) (.slice q4 m4 r4))).base_le (show w.heap.size ≤ _ by omega)
    have F3 := Box4.chain (Box4.chain B R1 (.bool g1) (.slice q1 m1 r1) (.bool g2) (.slice q2 m2 r2)) (R2.old (by omega) (.bool g1) (.slice q1 m1 r1) (.bool g2) (.slice q2 m2 r2)) (.bool g3) (.slice q3 m3 r3) (.bool g4) (.slice q4 m4 r4)
    go_wp2
    exact bodyPost_ret (v := .tuple #[.int .i64 0, .agg #[.bool g1, .slice q1 m1 r1, .bool g2, .slice q2 m2 r2], .agg #[.bool g3, .slice q3 m3 r3, .bool g4, .slice q4 m4 r4]]) (by simp [results, Try.results6, go_sem, s0, s1, s2, s3, u0, u1, u2, u3]) rfl ⟨_, _, rfl, F1, F3⟩
  · have HM : Hid (metI X1 Y1 X2 Y2 X3 Y3 X4 Y4 = true) := hm
    clear hm
    obtain ⟨j10, j11, _, _⟩ := id V1
    obtain ⟨j20, j21, _, _⟩ := id V2
    obtain ⟨j30, j31, _, _⟩ := id V3
    obtain ⟨j40, j41, _, _⟩ := id V4
    go_wp2_with fail
    clear j10 j11 j20 j21 j30 j31 j40 j41
    refine (sharedEnds_any X1 Y1 X2 Y2 X3 Y3 X4 Y4 _ C1 D1 C2 D2 C3 D3 C4 D4).mono ?_
    rintro e w6 ⟨rfl, hb⟩
    rw [shL_shared, shO_one]
    replace V1 := V1.below hb
    replace V2 := V2.below hb
    replace V3 := V3.below hb
    replace V4 := V4.below hb
    replace R1 := R1.below hb
    replace R2 := R2.below hb
    replace B := B.trans (hb.mono B.size)
    clear hb
    clear HW2
    have HW2 : w.heap.size + 1 + 1 + 1 + 1 + 1 < w6.heap.size := R2.lt
    obtain ⟨ll, HLL⟩ : ∃ l, Hid (shared X1 Y1 X2 Y2 X3 Y3 X4 Y4 = l) := ⟨_, rfl⟩
    rw [HLL.out]
    have CO := one_crd C1 D1 C2 D2 C3 D3 C4 D4
    obtain ⟨ox, oy, HO⟩ : ∃ ox oy, Hid (oneOf X1 Y1 X2 Y2 X3 Y3 X4 Y4 = (ox, oy)) := ⟨_, _, rfl⟩
    rw [HO.out] at CO
    rw [HO.out]
    dsimp only at CO
    have bn := below1 w6 (.cells #[.int .i64 ox, .int .i64 oy] 25)
    have VO := Box2.new w6 (lo := w6.heap.size) (Nat.le_refl _) (.int .i64 ox) (.int .i64 oy) 25
    replace V1 := V1.below bn
    replace V2 := V2.below bn
    replace V3 := V3.below bn
    replace V4 := V4.below bn
    replace R1 := R1.below bn
    replace R2 := R2.below bn
    replace B := B.trans (bn.mono B.size)
    clear bn
    by_cases l0 : ll.length = 0
    · have HA0 : allW X1 Y1 X2 Y2 X3 Y3 X4 Y4 ≠ 0 := allW_ne HM.out (by rw [HLL.out]; exact List.eq_nil_of_length_eq_zero l0)
      have E := HC.out
      unfold crV at E
      rw [HM.out, if_pos rfl, HLL.out, if_pos l0] at E
      simp only [Prod.mk.injEq] at E
      obtain ⟨e1, e2, e3, e4, e5⟩ := E
      subst e1
      have HE : Hid (cN (crX X1 Y1 X2 Y2 X3 Y3 X4 Y4) (allW X1 Y1 X2 Y2 X3 Y3 X4 Y4) = n1 ∧ cD (crX X1 Y1 X2 Y2 X3 Y3 X4 Y4) (allW X1 Y1 X2 Y2 X3 Y3 X4 Y4) = d1 ∧ cN (crY X1 Y1 X2 Y2 X3 Y3 X4 Y4) (allW X1 Y1 X2 Y2 X3 Y3 X4 Y4) = n2 ∧ cD (crY X1 Y1 X2 Y2 X3 Y3 X4 Y4) (allW X1 Y1 X2 Y2 X3 Y3 X4 Y4) = d2) := ⟨e2, e3, e4, e5⟩
      clear e2 e3 e4 e5 CO
      have hl0 : ((ll.length : Int) == 0) = true := by rw [l0]; rfl
      clear l0
      obtain ⟨j10, j11, _, _⟩ := id V1
      obtain ⟨j20, j21, _, _⟩ := id V2
      obtain ⟨j30, j31, _, _⟩ := id V3
      obtain ⟨j40, j41, _, _⟩ := id V4
      go_wp2_with fail
      clear j10 j11 j20 j21 j30 j31 j40 j41
      have HW7 : w.heap.size + 1 + 1 + 1 + 1 + 1 < (w6.alloc (.cells #[.int .i64 ox, .int .i64 oy] 25)).heap.size := R2.lt
      generalize w6.alloc (.cells #[.int .i64 ox, .int .i64 oy] 25) = W7 at *
      refine (crossing_any X1 Y1 X2 Y2 X3 Y3 X4 Y4 _ C1 D1 C2 D2 C3 D3 C4 D4 HA0).mono ?_
      rintro e w8 ⟨v1, v2, rfl, TF0, hb⟩
      have TF := TF0.eq HE.out.1 HE.out.2.1 HE.out.2.2.1 HE.out.2.2.2
      clear TF0
      replace R1 := R1.below hb
      replace R2 := R2.below hb
      replace B := B.trans (hb.mono B.size)
      clear hb
      obtain ⟨g1, q1, m1, r1, g2, q2, m2, r2, g3, q3, m3, r3, g4, q4, m4, r4, E1, E2⟩ := TF.is'
      subst E1
      subst E2
      have bn := below2 w8 (.cells #[.bool g1, .slice q1 m1 r1, .bool g2, .slice q2 m2 r2] 32) (.cells #[.bool g3, .slice q3 m3 r3, .bool g4, .slice q4 m4 r4] 32)
      have VF := (Box4.new w8 (lo := 0) (by omega) (.bool g1) (.slice q1 m1 r1) (.bool g2) (.slice q2 m2 r2) 32).below (below1 _ (.cells #[.bool g3, .slice q3 m3 r3, .bool g4, .slice q4 m4 r4] 32))
      have VG := Box4.new (w8.alloc (.cells #[.bool g1, .slice q1 m1 r1, .bool g2, .slice q2 m2 r2] 32)) (lo := 0) (by omega) (.bool g3) (.slice q3 m3 r3) (.bool g4) (.slice q4 m4 r4) 32
      rw [World.size_alloc] at VG
      have HW8 : w.heap.size + 1 + 1 + 1 + 1 + 1 < w8.heap.size := R2.lt
      replace TF := TF.below bn
      replace R1 := R1.below bn
      replace R2 := R2.below bn
      replace B := B.trans (bn.mono B.size)
      clear bn
      go_upto_region 8 with fail
      generalize (w8.alloc (.cells #[.bool g1, .slice q1 m1 r1, .bool g2, .slice q2 m2 r2] 32)).alloc (.cells #[.bool g3, .slice q3 m3 r3, .bool g4, .slice q4 m4 r4] 32) = W8 at *
      generalize w8.heap.size = q8 at *
      obtain ⟨f0, f1, f2, f3, _, _⟩ := id VF
      obtain ⟨h0, h1, h2, h3, _, _⟩ := id VG
      obtain ⟨s0, s1, s2, s3, sf, _⟩ := id R1
      obtain ⟨u0, u1, u2, u3, uf, _⟩ := id R2
      go_region
      have F1 := (((TF.put (b := w.heap.size + 1 + 1 + 1 + 1) (by omega) (.bool g1) (.slice q1 m1 r1) (.bool g2) (.slice q2 m2 r2)).put (b := w.heap.size + 1 + 1 + 1 + 1 + 1) (by omega) (.bool g3) (.slice q3 m3 r3) (.bool g4) (.slice q4 m4 r4))).base_le (show w.heap.size ≤ _ by omega)
      have F3 := Box4.chain (Box4.chain B R1 (.bool g1) (.slice q1 m1 r1) (.bool g2) (.slice q2 m2 r2)) (R2.old (by omega) (.bool g1) (.slice q1 m1 r1) (.bool g2) (.slice q2 m2 r2)) (.bool g3) (.slice q3 m3 r3) (.bool g4) (.slice q4 m4 r4)
      go_wp2
      exact bodyPost_ret (v := .tuple #[.int .i64 1, .agg #[.bool g1, .slice q1 m1 r1, .bool g2, .slice q2 m2 r2], .agg #[.bool g3, .slice q3 m3 r3, .bool g4, .slice q4 m4 r4]]) (by simp [results, Try.results6, go_sem, s0, s1, s2, s3, u0, u1, u2, u3]) rfl ⟨_, _, rfl, F1.below (Below.refl _ _).drew, F3.drew⟩
    · have hl0 : ((ll.length : Int) == 0) = false := by rw [beq_eq_false_iff_ne]; omega
      by_cases l1 : ll.length = 1
      · have E := HC.out
        unfold crV at E
        rw [HM.out, if_pos rfl, HLL.out, if_neg l0, if_pos l1, HO.out] at E
        simp only [Prod.mk.injEq] at E
        obtain ⟨e1, e2, e3, e4, e5⟩ := E
        subst e1
        have HE : Hid (ox = n1 ∧ 1 = d1 ∧ oy = n2 ∧ 1 = d2) := ⟨e2, e3, e4, e5⟩
        clear e2 e3 e4 e5
        have hl1 : ((ll.length : Int) == 1) = true := by rw [l1]; rfl
        clear l0 l1
        obtain ⟨bx1, bx2⟩ : -9223372036854775808 ≤ ox ∧ ox ≤ 9223372036854775807 := by have := CO.1; unfold Crd at this; omega
        obtain ⟨by1, by2⟩ : -9223372036854775808 ≤ oy ∧ oy ≤ 9223372036854775807 := by have := CO.2; unfold Crd at this; omega
        clear CO
        go_upto_region 10 with fail
        have HW7 : w.heap.size + 1 + 1 + 1 + 1 + 1 < (w6.alloc (.cells #[.int .i64 ox, .int .i64 oy] 25)).heap.size := R2.lt
        generalize w6.alloc (.cells #[.int .i64 ox, .int .i64 oy] 25) = W7 at *
        generalize w6.heap.size = q6 at *
        have K : W7.cell? ⟨q6, 0, none⟩ = some (.int .i64 ox) ∧ W7.cell? ⟨q6, 1, none⟩ = some (.int .i64 oy) := ⟨VO.c0, VO.c1⟩
        have Kd : W7.drew.cell? ⟨q6, 0, none⟩ = some (.int .i64 ox) ∧ W7.drew.cell? ⟨q6, 1, none⟩ = some (.int .i64 oy) := K
        have N0 : Below W7.heap.size W7 W7.drew := (Below.refl _ _).drew
        go_region_held3 (fun w' => w'.cell? ⟨q6, 0, none⟩ = some (.int .i64 ox) ∧ w'.cell? ⟨q6, 1, none⟩ = some (.int .i64 oy))
          (first | with_reducible exact Kd | with_reducible exact t1 | with_reducible exact t2 | with_reducible exact ⟨(cput4 (by omega)).trans t2.1, (cput4 (by omega)).trans t2.2⟩ | with_reducible exact ⟨(cput4 (by omega)).trans ((cput4 (by omega)).trans t2.1), (cput4 (by omega)).trans ((cput4 (by omega)).trans t2.2)⟩)
          (first
          | (go_at_call_of 19 (Value.int .i64 ox); refine (implWhole ox _ bx1 bx2).mono ?_; rintro e w7 ⟨v3, rfl, I3, hb⟩; have N3 := N0.trans hb; have t1 : w7.cell? ⟨q6, 0, none⟩ = some (.int .i64 ox) ∧ w7.cell? ⟨q6, 1, none⟩ = some (.int .i64 oy) := ⟨bat N3 K.1, bat N3 K.2⟩; have z3 := N3.size)
          | (go_at_call_of 19 (Value.int .i64 oy); refine (implWhole oy _ by1 by2).mono ?_; rintro e w8 ⟨v4, rfl, I4, hb4⟩; have N4 := N3.trans (hb4.mono N3.size); have t2 : w8.cell? ⟨q6, 0, none⟩ = some (.int .i64 ox) ∧ w8.cell? ⟨q6, 1, none⟩ = some (.int .i64 oy) := ⟨bat N4 K.1, bat N4 K.2⟩; have TF := (TwoFr.of I3 hb4 I4 z3 (Nat.le_refl _)).base_le (show W7.heap.size ≤ _ from Nat.le_refl _); obtain ⟨g1, q1, m1, r1, g2, q2, m2, r2, g3, q3, m3, r3, g4, q4, m4, r4, E1, E2⟩ := TF.is'; subst E1; subst E2; have B4 := B.trans (N4.mono B.size); have R14 := R1.below N4; have R24 := R2.below N4; obtain ⟨s0, s1, s2, s3, sf, _⟩ := id R14; obtain ⟨u0, u1, u2, u3, uf, _⟩ := id R24))
        all_goals
          replace B := B4
          replace R1 := R14
          replace R2 := R24
          clear B4 R14 R24
          have F1 := (((TF.put (b := w.heap.size + 1 + 1 + 1 + 1) (by omega) (.bool g1) (.slice q1 m1 r1) (.bool g2) (.slice q2 m2 r2)).put (b := w.heap.size + 1 + 1 + 1 + 1 + 1) (by omega) (.bool g3) (.slice q3 m3 r3) (.bool g4) (.slice q4 m4 r4))).base_le (show w.heap.size ≤ _ by omega)
          have F3 := Box4.chain (Box4.chain B R1 (.bool g1) (.slice q1 m1 r1) (.bool g2) (.slice q2 m2 r2)) (R2.old (by omega) (.bool g1) (.slice q1 m1 r1) (.bool g2) (.slice q2 m2 r2)) (.bool g3) (.slice q3 m3 r3) (.bool g4) (.slice q4 m4 r4)
          go_wp2
          exact bodyPost_ret (v := .tuple #[.int .i64 1, .agg #[.bool g1, .slice q1 m1 r1, .bool g2, .slice q2 m2 r2], .agg #[.bool g3, .slice q3 m3 r3, .bool g4, .slice q4 m4 r4]]) (by simp [results, Try.results6, go_sem, s0, s1, s2, s3, u0, u1, u2, u3]) rfl ⟨_, _, rfl, F1.eq HE.out.1 HE.out.2.1 HE.out.2.2.1 HE.out.2.2.2, F3⟩
      · have E := HC.out
        unfold crV at E
        rw [HM.out, if_pos rfl, HLL.out, if_neg l0, if_neg l1] at E
        simp only [Prod.mk.injEq] at E
        obtain ⟨rfl, rfl, rfl, rfl, rfl⟩ := E
        have hl1 : ((ll.length : Int) == 1) = false := by rw [beq_eq_false_iff_ne]; omega
        clear l0 l1 CO VO V1 V2 V3 V4
        go_upto_region 11 with fail
        have HW7 : w.heap.size + 1 + 1 + 1 + 1 + 1 < (w6.alloc (.cells #[.int .i64 ox, .int .i64 oy] 25)).heap.size := R2.lt
        generalize w6.alloc (.cells #[.int .i64 ox, .int .i64 oy] 25) = W7 at *
        clear HW2
        have HW2 := HW7
        go_wp2_with fail
        refine (nought_is _).mono ?_
        rintro e w3 ⟨v3, rfl, I3, hb⟩
        have zw := HW2
        have Z3 := hb.size
        replace R1 := R1.below hb
        replace R2 := R2.below hb
        replace B := B.trans (hb.mono B.size)
        clear hb
        go_wp2_with fail
        refine (nought_is _).mono ?_
        rintro e w4 ⟨v4, rfl, I4, hb4⟩
        have TF := TwoFr.of I3 hb4 I4 Z3 (Nat.le_refl _)
        replace R1 := R1.below hb4
        replace R2 := R2.below hb4
        replace B := B.trans (hb4.mono B.size)
        clear hb4
        obtain ⟨g1, q1, m1, r1, g2, q2, m2, r2, g3, q3, m3, r3, g4, q4, m4, r4, E1, E2⟩ := TF.is'
        subst E1
        subst E2
        obtain ⟨s0, s1, s2, s3, sf, _⟩ := id R1
        obtain ⟨u0, u1, u2, u3, uf, _⟩ := id R2
        have F1 := (((TF.put (b := w.heap.size + 1 + 1 + 1 + 1) (by omega) (.bool g1) (.slice q1 m1 r1) (.bool g2) (.slice q2 m2 r2)).put (b := w.heap.size + 1 + 1 + 1 + 1 + 1) (by omega) (.bool g3) (.slice q3 m3 r3) (.bool g4) (.slice q4 m4 r4))).base_le (show w.heap.size ≤ _ by omega)
        have F3 := Box4.chain (Box4.chain B R1 (.bool g1) (.slice q1 m1 r1) (.bool g2) (.slice q2 m2 r2)) (R2.old (by omega) (.bool g1) (.slice q1 m1 r1) (.bool g2) (.slice q2 m2 r2)) (.bool g3) (.slice q3 m3 r3) (.bool g4) (.slice q4 m4 r4)
        go_wp2
        exact bodyPost_ret (v := .tuple #[.int .i64 2, .agg #[.bool g1, .slice q1 m1 r1, .bool g2, .slice q2 m2 r2], .agg #[.bool g3, .slice q3 m3 r3, .bool g4, .slice q4 m4 r4]]) (by simp [results, Try.results6, go_sem, s0, s1, s2, s3, u0, u1, u2, u3]) rfl ⟨_, _, rfl, F1, F3⟩
end Go.Proofs.Ytfhcbgjnojcigaa
