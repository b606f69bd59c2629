/- The law on PieceBox: at every argument the program's PieceBox is the specification's, and it writes into no argument. -/
import Derived.Test.YtnefdfgonolafaaFracL
import Derived.Test.YtnefdfgonolafaaPbJ
import Derived.Test.YtnefdfgonolafaaPbT
namespace Go.Proofs.Ytnefdfgonolafaa
open Go.RowKit

set_option maxRecDepth 20000 in
set_option maxHeartbeats 1000000 in
theorem szPiece (g0 h0 : Bool) (a0 b0 : Option Addr) (c0 d0 X0 Y0 : Nat) (g1 h1 : Bool) (a1 b1 : Option Addr) (c1 d1 X1 Y1 : Nat) (g2 h2 : Bool) (a2 b2 : Option Addr) (c2 d2 X2 Y2 : Nat) (g3 h3 : Bool) (a3 b3 : Option Addr) (c3 d3 X3 Y3 : Nat) (w : World) (m0 : X0 ≤ 9223372036854775807) (n0 : Y0 ≤ 9223372036854775807) (m1 : X1 ≤ 9223372036854775807) (n1 : Y1 ≤ 9223372036854775807) (m2 : X2 ≤ 9223372036854775807) (n2 : Y2 ≤ 9223372036854775807) (m3 : X3 ≤ 9223372036854775807) (n3 : Y3 ≤ 9223372036854775807) :
    Calls Try.prog 4 #[.agg #[.bool g0, .slice a0 X0 c0, .bool h0, .slice b0 Y0 d0, .bool g1, .slice a1 X1 c1, .bool h1, .slice b1 Y1 d1, .bool g2, .slice a2 X2 c2, .bool h2, .slice b2 Y2 d2, .bool g3, .slice a3 X3 c3, .bool h3, .slice b3 Y3 d3], .int .i64 1048576] w fun e w' => ∃ r, e = .returned (.int .i64 r) ∧ (r < 0 ∨ (0 ≤ r ∧ X0 ≤ 1048576 ∧ Y0 ≤ 1048576 ∧ X1 ≤ 1048576 ∧ Y1 ≤ 1048576 ∧ X2 ≤ 1048576 ∧ Y2 ≤ 1048576 ∧ X3 ≤ 1048576 ∧ Y3 ≤ 1048576)) ∧ Below w.heap.size w w' := by
  have B := below1 w (.cells #[.bool g0, .slice a0 X0 c0, .bool h0, .slice b0 Y0 d0, .bool g1, .slice a1 X1 c1, .bool h1, .slice b1 Y1 d1, .bool g2, .slice a2 X2 c2, .bool h2, .slice b2 Y2 d2, .bool g3, .slice a3 X3 c3, .bool h3, .slice b3 Y3 d3] 28)
  have V := BoxL.new w (Nat.le_refl _) [.bool g0, .slice a0 X0 c0, .bool h0, .slice b0 Y0 d0, .bool g1, .slice a1 X1 c1, .bool h1, .slice b1 Y1 d1, .bool g2, .slice a2 X2 c2, .bool h2, .slice b2 Y2 d2, .bool g3, .slice a3 X3 c3, .bool h3, .slice b3 Y3 d3] 28
  go_enter Try.func4, Try.ntmps4
  go_upto_region 1 with fail
  generalize hW : w.alloc (.cells #[.bool g0, .slice a0 X0 c0, .bool h0, .slice b0 Y0 d0, .bool g1, .slice a1 X1 c1, .bool h1, .slice b1 Y1 d1, .bool g2, .slice a2 X2 c2, .bool h2, .slice b2 Y2 d2, .bool g3, .slice a3 X3 c3, .bool h3, .slice b3 Y3 d3] 28) = W at *
  clear hW
  have z0 := V.c 0 _ rfl
  have z1 := V.c 1 _ rfl
  have z2 := V.c 2 _ rfl
  have z3 := V.c 3 _ rfl
  go_wp2_with fail
  refine (szF g0 h0 a0 b0 c0 d0 X0 Y0 1048576 _ (by omega) m0 n0).mono ?_
  rintro e w0 ⟨rfl, hb⟩
  replace V := V.below hb
  replace B := B.trans (hb.mono B.size)
  clear hb z0 z1 z2 z3
  obtain ⟨L0, hL0⟩ : ∃ z, z = 1048576 - (X0 : Int) - (Y0 : Int) := ⟨_, rfl⟩
  rw [← hL0]
  by_cases hc0 : L0 < 0
  · rw [if_pos hc0]
    have HB : Hid (Below w.heap.size w w0) := B
    clear B V
    go_wp2
    go_ret
    exact ⟨-1, rfl, .inl (by decide), HB.out⟩
  rw [if_neg hc0]
  have hu0 : L0 ≤ 1048576 := by omega
  replace hL0 : Hid (_ = _) := hL0
  have z0 := V.c 4 _ rfl
  have z1 := V.c 5 _ rfl
  have z2 := V.c 6 _ rfl
  have z3 := V.c 7 _ rfl
  go_wp2_with fail
  refine (szF g1 h1 a1 b1 c1 d1 X1 Y1 L0 _ (by omega) m1 n1).mono ?_
  rintro e w1 ⟨rfl, hb⟩
  replace V := V.below hb
  replace B := B.trans (hb.mono B.size)
  clear hb z0 z1 z2 z3
  obtain ⟨L1, hL1⟩ : ∃ z, z = L0 - (X1 : Int) - (Y1 : Int) := ⟨_, rfl⟩
  rw [← hL1]
  by_cases hc1 : L1 < 0
  · rw [if_pos hc1]
    have HB : Hid (Below w.heap.size w w1) := B
    clear B V
    go_wp2
    go_ret
    exact ⟨-1, rfl, .inl (by decide), HB.out⟩
  rw [if_neg hc1]
  have hu1 : L1 ≤ 1048576 := by omega
  replace hL1 : Hid (_ = _) := hL1
  have z0 := V.c 8 _ rfl
  have z1 := V.c 9 _ rfl
  have z2 := V.c 10 _ rfl
  have z3 := V.c 11 _ rfl
  go_wp2_with fail
  refine (szF g2 h2 a2 b2 c2 d2 X2 Y2 L1 _ (by omega) m2 n2).mono ?_
  rintro e w2 ⟨rfl, hb⟩
  replace V := V.below hb
  replace B := B.trans (hb.mono B.size)
  clear hb z0 z1 z2 z3
  obtain ⟨L2, hL2⟩ : ∃ z, z = L1 - (X2 : Int) - (Y2 : Int) := ⟨_, rfl⟩
  rw [← hL2]
  by_cases hc2 : L2 < 0
  · rw [if_pos hc2]
    have HB : Hid (Below w.heap.size w w2) := B
    clear B V
    go_wp2
    go_ret
    exact ⟨-1, rfl, .inl (by decide), HB.out⟩
  rw [if_neg hc2]
  have hu2 : L2 ≤ 1048576 := by omega
  replace hL2 : Hid (_ = _) := hL2
  have z0 := V.c 12 _ rfl
  have z1 := V.c 13 _ rfl
  have z2 := V.c 14 _ rfl
  have z3 := V.c 15 _ rfl
  go_wp2_with fail
  refine (szF g3 h3 a3 b3 c3 d3 X3 Y3 L2 _ (by omega) m3 n3).mono ?_
  rintro e w3 ⟨rfl, hb⟩
  replace V := V.below hb
  replace B := B.trans (hb.mono B.size)
  clear hb z0 z1 z2 z3
  obtain ⟨L3, hL3⟩ : ∃ z, z = L2 - (X3 : Int) - (Y3 : Int) := ⟨_, rfl⟩
  rw [← hL3]
  by_cases hc3 : L3 < 0
  · rw [if_pos hc3]
    have HB : Hid (Below w.heap.size w w3) := B
    clear B V
    go_wp2
    go_ret
    exact ⟨-1, rfl, .inl (by decide), HB.out⟩
  rw [if_neg hc3]
  have hu3 : L3 ≤ 1048576 := by omega
  replace hL3 : Hid (_ = _) := hL3
  have HB : Hid (Below w.heap.size w w3) := B
  clear B V
  go_wp2
  go_ret
  have e0 := hL0.out
  have e1 := hL1.out
  have e2 := hL2.out
  have e3 := hL3.out
  exact ⟨L3, rfl, .inr ⟨by omega, by omega, by omega, by omega, by omega, by omega, by omega, by omega, by omega⟩, HB.out⟩

set_option maxRecDepth 20000 in
set_option maxHeartbeats 4000000 in
theorem toPiece_any (g0 h0 : Bool) (a0 b0 : Option Addr) (c0 d0 : Nat) (x0 y0 : List Int) (g1 h1 : Bool) (a1 b1 : Option Addr) (c1 d1 : Nat) (x1 y1 : List Int) (g2 h2 : Bool) (a2 b2 : Option Addr) (c2 d2 : Nat) (x2 y2 : List Int) (g3 h3 : Bool) (a3 b3 : Option Addr) (c3 d3 : Nat) (x3 y3 : List Int) (w : World) (hx0 : Came w a0 c0 x0) (hy0 : Came w b0 d0 y0) (hx1 : Came w a1 c1 x1) (hy1 : Came w b1 d1 y1) (hx2 : Came w a2 c2 x2) (hy2 : Came w b2 d2 y2) (hx3 : Came w a3 c3 x3) (hy3 : Came w b3 d3 y3) (sx0 : x0.length ≤ 1048576) (sy0 : y0.length ≤ 1048576) (sx1 : x1.length ≤ 1048576) (sy1 : y1.length ≤ 1048576) (sx2 : x2.length ≤ 1048576) (sy2 : y2.length ≤ 1048576) (sx3 : x3.length ≤ 1048576) (sy3 : y3.length ≤ 1048576) :
    Calls Try.prog 6 #[.agg #[.bool g0, .slice a0 x0.length c0, .bool h0, .slice b0 y0.length d0, .bool g1, .slice a1 x1.length c1, .bool h1, .slice b1 y1.length d1, .bool g2, .slice a2 x2.length c2, .bool h2, .slice b2 y2.length d2, .bool g3, .slice a3 x3.length c3, .bool h3, .slice b3 y3.length d3]] w fun e w' => ∃ a0' c0' b0' d0' a1' c1' b1' d1' a2' c2' b2' d2' a3' c3' b3' d3', e = .returned (.agg #[.bool g0, .slice a0' x0.length c0', .bool h0, .slice b0' y0.length d0', .bool g1, .slice a1' x1.length c1', .bool h1, .slice b1' y1.length d1', .bool g2, .slice a2' x2.length c2', .bool h2, .slice b2' y2.length d2', .bool g3, .slice a3' x3.length c3', .bool h3, .slice b3' y3.length d3']) ∧ Sees w' a0' c0' x0 ∧ Sees w' b0' d0' y0 ∧ Sees w' a1' c1' x1 ∧ Sees w' b1' d1' y1 ∧ Sees w' a2' c2' x2 ∧ Sees w' b2' d2' y2 ∧ Sees w' a3' c3' x3 ∧ Sees w' b3' d3' y3 ∧ Below w.heap.size w w' := by
  have B := below3 w (.cells #[.bool g0, .slice a0 x0.length c0, .bool h0, .slice b0 y0.length d0, .bool g1, .slice a1 x1.length c1, .bool h1, .slice b1 y1.length d1, .bool g2, .slice a2 x2.length c2, .bool h2, .slice b2 y2.length d2, .bool g3, .slice a3 x3.length c3, .bool h3, .slice b3 y3.length d3] 28) (.cells #[.bool false, .slice none 0 0, .bool false, .slice none 0 0, .bool false, .slice none 0 0, .bool false, .slice none 0 0, .bool false, .slice none 0 0, .bool false, .slice none 0 0, .bool false, .slice none 0 0, .bool false, .slice none 0 0] 40) (.cells #[.bool false, .slice none 0 0, .bool false, .slice none 0 0, .bool false, .slice none 0 0, .bool false, .slice none 0 0, .bool false, .slice none 0 0, .bool false, .slice none 0 0, .bool false, .slice none 0 0, .bool false, .slice none 0 0] 40)
  have V := BoxL.new w (Nat.le_refl _) [.bool g0, .slice a0 x0.length c0, .bool h0, .slice b0 y0.length d0, .bool g1, .slice a1 x1.length c1, .bool h1, .slice b1 y1.length d1, .bool g2, .slice a2 x2.length c2, .bool h2, .slice b2 y2.length d2, .bool g3, .slice a3 x3.length c3, .bool h3, .slice b3 y3.length d3] 28
  have bb2 := below2 (w.alloc (.cells #[.bool g0, .slice a0 x0.length c0, .bool h0, .slice b0 y0.length d0, .bool g1, .slice a1 x1.length c1, .bool h1, .slice b1 y1.length d1, .bool g2, .slice a2 x2.length c2, .bool h2, .slice b2 y2.length d2, .bool g3, .slice a3 x3.length c3, .bool h3, .slice b3 y3.length d3] 28)) (.cells #[.bool false, .slice none 0 0, .bool false, .slice none 0 0, .bool false, .slice none 0 0, .bool false, .slice none 0 0, .bool false, .slice none 0 0, .bool false, .slice none 0 0, .bool false, .slice none 0 0, .bool false, .slice none 0 0] 40) (.cells #[.bool false, .slice none 0 0, .bool false, .slice none 0 0, .bool false, .slice none 0 0, .bool false, .slice none 0 0, .bool false, .slice none 0 0, .bool false, .slice none 0 0, .bool false, .slice none 0 0, .bool false, .slice none 0 0] 40)
  have VR := BoxL.new (w.alloc (.cells #[.bool g0, .slice a0 x0.length c0, .bool h0, .slice b0 y0.length d0, .bool g1, .slice a1 x1.length c1, .bool h1, .slice b1 y1.length d1, .bool g2, .slice a2 x2.length c2, .bool h2, .slice b2 y2.length d2, .bool g3, .slice a3 x3.length c3, .bool h3, .slice b3 y3.length d3] 28)) (Nat.le_refl _) [.bool false, .slice none 0 0, .bool false, .slice none 0 0, .bool false, .slice none 0 0, .bool false, .slice none 0 0, .bool false, .slice none 0 0, .bool false, .slice none 0 0, .bool false, .slice none 0 0, .bool false, .slice none 0 0] 40
  have bb1 := below1 ((w.alloc (.cells #[.bool g0, .slice a0 x0.length c0, .bool h0, .slice b0 y0.length d0, .bool g1, .slice a1 x1.length c1, .bool h1, .slice b1 y1.length d1, .bool g2, .slice a2 x2.length c2, .bool h2, .slice b2 y2.length d2, .bool g3, .slice a3 x3.length c3, .bool h3, .slice b3 y3.length d3] 28)).alloc (.cells #[.bool false, .slice none 0 0, .bool false, .slice none 0 0, .bool false, .slice none 0 0, .bool false, .slice none 0 0, .bool false, .slice none 0 0, .bool false, .slice none 0 0, .bool false, .slice none 0 0, .bool false, .slice none 0 0] 40)) (.cells #[.bool false, .slice none 0 0, .bool false, .slice none 0 0, .bool false, .slice none 0 0, .bool false, .slice none 0 0, .bool false, .slice none 0 0, .bool false, .slice none 0 0, .bool false, .slice none 0 0, .bool false, .slice none 0 0] 40)
  have VO := BoxL.new ((w.alloc (.cells #[.bool g0, .slice a0 x0.length c0, .bool h0, .slice b0 y0.length d0, .bool g1, .slice a1 x1.length c1, .bool h1, .slice b1 y1.length d1, .bool g2, .slice a2 x2.length c2, .bool h2, .slice b2 y2.length d2, .bool g3, .slice a3 x3.length c3, .bool h3, .slice b3 y3.length d3] 28)).alloc (.cells #[.bool false, .slice none 0 0, .bool false, .slice none 0 0, .bool false, .slice none 0 0, .bool false, .slice none 0 0, .bool false, .slice none 0 0, .bool false, .slice none 0 0, .bool false, .slice none 0 0, .bool false, .slice none 0 0] 40)) (Nat.le_refl _) [.bool false, .slice none 0 0, .bool false, .slice none 0 0, .bool false, .slice none 0 0, .bool false, .slice none 0 0, .bool false, .slice none 0 0, .bool false, .slice none 0 0, .bool false, .slice none 0 0, .bool false, .slice none 0 0] 40
  replace V := V.below bb2
  replace VR := VR.below bb1
  clear bb1 bb2
  rw [World.size_alloc] at VR
  rw [World.size_alloc, World.size_alloc] at VO
  replace hx0 : Hid _ := hx0
  replace hy0 : Hid _ := hy0
  replace hx1 : Hid _ := hx1
  replace hy1 : Hid _ := hy1
  replace hx2 : Hid _ := hx2
  replace hy2 : Hid _ := hy2
  replace hx3 : Hid _ := hx3
  replace hy3 : Hid _ := hy3
  go_enter Try.func6, Try.ntmps6
  go_upto_region 2 with fail
  generalize hW : ((w.alloc (.cells #[.bool g0, .slice a0 x0.length c0, .bool h0, .slice b0 y0.length d0, .bool g1, .slice a1 x1.length c1, .bool h1, .slice b1 y1.length d1, .bool g2, .slice a2 x2.length c2, .bool h2, .slice b2 y2.length d2, .bool g3, .slice a3 x3.length c3, .bool h3, .slice b3 y3.length d3] 28)).alloc (.cells #[.bool false, .slice none 0 0, .bool false, .slice none 0 0, .bool false, .slice none 0 0, .bool false, .slice none 0 0, .bool false, .slice none 0 0, .bool false, .slice none 0 0, .bool false, .slice none 0 0, .bool false, .slice none 0 0] 40)).alloc (.cells #[.bool false, .slice none 0 0, .bool false, .slice none 0 0, .bool false, .slice none 0 0, .bool false, .slice none 0 0, .bool false, .slice none 0 0, .bool false, .slice none 0 0, .bool false, .slice none 0 0, .bool false, .slice none 0 0] 40) = W at *
  clear hW
  have z0 := V.c 0 _ rfl
  have z1 := V.c 1 _ rfl
  have z2 := V.c 2 _ rfl
  have z3 := V.c 3 _ rfl
  go_wp2_with fail
  refine (toF g0 h0 a0 b0 c0 d0 x0 y0 _ (hx0.out.below B) (hy0.out.below B) sx0 sy0).mono ?_
  rintro e w0 ⟨a0', c0', b0', d0', rfl, oa0, ob0, _, hb⟩
  replace oa0 := oa0.base_le (show w.heap.size + 3 ≤ _ by have := VO.lt; omega)
  replace ob0 := ob0.base_le (show w.heap.size + 3 ≤ _ by have := VO.lt; omega)
  replace V := V.below hb
  replace VR := VR.below hb
  replace VO := VO.below hb
  replace B := B.trans (hb.mono B.size)
  clear hb z0 z1 z2 z3
  have k0 := VO.c 0 _ rfl
  have k1 := VO.c 1 _ rfl
  have k2 := VO.c 2 _ rfl
  have k3 := VO.c 3 _ rfl
  have kf := VO.fr
  have z0 := V.c 4 _ rfl
  have z1 := V.c 5 _ rfl
  have z2 := V.c 6 _ rfl
  have z3 := V.c 7 _ rfl
  go_wp2_with fail
  clear k0 k1 k2 k3 kf
  have ne1 : w.heap.size ≠ w.heap.size + 2 := by omega
  have ne2 : w.heap.size + 1 ≠ w.heap.size + 2 := by omega
  have lo2 : w.heap.size ≤ w.heap.size + 2 := by omega
  have lt3 : w.heap.size + 2 < w.heap.size + 3 := by omega
  replace V := V.far ne1 0 (.bool g0)
  replace VR := VR.far ne2 0 (.bool g0)
  replace VO := VO.put 0 (.bool g0) (by simp)
  replace B := B.setCell (p := ⟨w.heap.size + 2, 0, none⟩) lo2 (.bool g0)
  replace oa0 := oa0.setCell (p := ⟨w.heap.size + 2, 0, none⟩) lt3 (.bool g0)
  replace ob0 := ob0.setCell (p := ⟨w.heap.size + 2, 0, none⟩) lt3 (.bool g0)
  replace V := V.far ne1 1 (.slice a0' x0.length c0')
  replace VR := VR.far ne2 1 (.slice a0' x0.length c0')
  replace VO := VO.put 1 (.slice a0' x0.length c0') (by simp)
  replace B := B.setCell (p := ⟨w.heap.size + 2, 1, none⟩) lo2 (.slice a0' x0.length c0')
  replace oa0 := oa0.setCell (p := ⟨w.heap.size + 2, 1, none⟩) lt3 (.slice a0' x0.length c0')
  replace ob0 := ob0.setCell (p := ⟨w.heap.size + 2, 1, none⟩) lt3 (.slice a0' x0.length c0')
  replace V := V.far ne1 2 (.bool h0)
  replace VR := VR.far ne2 2 (.bool h0)
  replace VO := VO.put 2 (.bool h0) (by simp)
  replace B := B.setCell (p := ⟨w.heap.size + 2, 2, none⟩) lo2 (.bool h0)
  replace oa0 := oa0.setCell (p := ⟨w.heap.size + 2, 2, none⟩) lt3 (.bool h0)
  replace ob0 := ob0.setCell (p := ⟨w.heap.size + 2, 2, none⟩) lt3 (.bool h0)
  replace V := V.far ne1 3 (.slice b0' y0.length d0')
  replace VR := VR.far ne2 3 (.slice b0' y0.length d0')
  replace VO := VO.put 3 (.slice b0' y0.length d0') (by simp)
  replace B := B.setCell (p := ⟨w.heap.size + 2, 3, none⟩) lo2 (.slice b0' y0.length d0')
  replace oa0 := oa0.setCell (p := ⟨w.heap.size + 2, 3, none⟩) lt3 (.slice b0' y0.length d0')
  replace ob0 := ob0.setCell (p := ⟨w.heap.size + 2, 3, none⟩) lt3 (.slice b0' y0.length d0')
  simp only [List.set_cons_zero, List.set_cons_succ] at VO
  clear ne1 ne2 lo2 lt3
  generalize (((w0.setCell ⟨w.heap.size + 2, 0, none⟩ (.bool g0)).setCell ⟨w.heap.size + 2, 1, none⟩ (.slice a0' x0.length c0')).setCell ⟨w.heap.size + 2, 2, none⟩ (.bool h0)).setCell ⟨w.heap.size + 2, 3, none⟩ (.slice b0' y0.length d0') = W0 at *
  refine (toF g1 h1 a1 b1 c1 d1 x1 y1 _ (hx1.out.below B) (hy1.out.below B) sx1 sy1).mono ?_
  rintro e w1 ⟨a1', c1', b1', d1', rfl, oa1, ob1, _, hb⟩
  replace oa1 := oa1.base_le (show w.heap.size + 3 ≤ _ by have := VO.lt; omega)
  replace ob1 := ob1.base_le (show w.heap.size + 3 ≤ _ by have := VO.lt; omega)
  replace oa0 := oa0.below hb
  replace ob0 := ob0.below hb
  replace V := V.below hb
  replace VR := VR.below hb
  replace VO := VO.below hb
  replace B := B.trans (hb.mono B.size)
  clear hb z0 z1 z2 z3
  have k0 := VO.c 4 _ rfl
  have k1 := VO.c 5 _ rfl
  have k2 := VO.c 6 _ rfl
  have k3 := VO.c 7 _ rfl
  have kf := VO.fr
  have z0 := V.c 8 _ rfl
  have z1 := V.c 9 _ rfl
  have z2 := V.c 10 _ rfl
  have z3 := V.c 11 _ rfl
  go_wp2_with fail
  clear k0 k1 k2 k3 kf
  have ne1 : w.heap.size ≠ w.heap.size + 2 := by omega
  have ne2 : w.heap.size + 1 ≠ w.heap.size + 2 := by omega
  have lo2 : w.heap.size ≤ w.heap.size + 2 := by omega
  have lt3 : w.heap.size + 2 < w.heap.size + 3 := by omega
  replace V := V.far ne1 4 (.bool g1)
  replace VR := VR.far ne2 4 (.bool g1)
  replace VO := VO.put 4 (.bool g1) (by simp)
  replace B := B.setCell (p := ⟨w.heap.size + 2, 4, none⟩) lo2 (.bool g1)
  replace oa0 := oa0.setCell (p := ⟨w.heap.size + 2, 4, none⟩) lt3 (.bool g1)
  replace ob0 := ob0.setCell (p := ⟨w.heap.size + 2, 4, none⟩) lt3 (.bool g1)
  replace oa1 := oa1.setCell (p := ⟨w.heap.size + 2, 4, none⟩) lt3 (.bool g1)
  replace ob1 := ob1.setCell (p := ⟨w.heap.size + 2, 4, none⟩) lt3 (.bool g1)
  replace V := V.far ne1 5 (.slice a1' x1.length c1')
  replace VR := VR.far ne2 5 (.slice a1' x1.length c1')
  replace VO := VO.put 5 (.slice a1' x1.length c1') (by simp)
  replace B := B.setCell (p := ⟨w.heap.size + 2, 5, none⟩) lo2 (.slice a1' x1.length c1')
  replace oa0 := oa0.setCell (p := ⟨w.heap.size + 2, 5, none⟩) lt3 (.slice a1' x1.length c1')
  replace ob0 := ob0.setCell (p := ⟨w.heap.size + 2, 5, none⟩) lt3 (.slice a1' x1.length c1')
  replace oa1 := oa1.setCell (p := ⟨w.heap.size + 2, 5, none⟩) lt3 (.slice a1' x1.length c1')
  replace ob1 := ob1.setCell (p := ⟨w.heap.size + 2, 5, none⟩) lt3 (.slice a1' x1.length c1')
  replace V := V.far ne1 6 (.bool h1)
  replace VR := VR.far ne2 6 (.bool h1)
  replace VO := VO.put 6 (.bool h1) (by simp)
  replace B := B.setCell (p := ⟨w.heap.size + 2, 6, none⟩) lo2 (.bool h1)
  replace oa0 := oa0.setCell (p := ⟨w.heap.size + 2, 6, none⟩) lt3 (.bool h1)
  replace ob0 := ob0.setCell (p := ⟨w.heap.size + 2, 6, none⟩) lt3 (.bool h1)
  replace oa1 := oa1.setCell (p := ⟨w.heap.size + 2, 6, none⟩) lt3 (.bool h1)
  replace ob1 := ob1.setCell (p := ⟨w.heap.size + 2, 6, none⟩) lt3 (.bool h1)
  replace V := V.far ne1 7 (.slice b1' y1.length d1')
  replace VR := VR.far ne2 7 (.slice b1' y1.length d1')
  replace VO := VO.put 7 (.slice b1' y1.length d1') (by simp)
  replace B := B.setCell (p := ⟨w.heap.size + 2, 7, none⟩) lo2 (.slice b1' y1.length d1')
  replace oa0 := oa0.setCell (p := ⟨w.heap.size + 2, 7, none⟩) lt3 (.slice b1' y1.length d1')
  replace ob0 := ob0.setCell (p := ⟨w.heap.size + 2, 7, none⟩) lt3 (.slice b1' y1.length d1')
  replace oa1 := oa1.setCell (p := ⟨w.heap.size + 2, 7, none⟩) lt3 (.slice b1' y1.length d1')
  replace ob1 := ob1.setCell (p := ⟨w.heap.size + 2, 7, none⟩) lt3 (.slice b1' y1.length d1')
  simp only [List.set_cons_zero, List.set_cons_succ] at VO
  clear ne1 ne2 lo2 lt3
  generalize (((w1.setCell ⟨w.heap.size + 2, 4, none⟩ (.bool g1)).setCell ⟨w.heap.size + 2, 5, none⟩ (.slice a1' x1.length c1')).setCell ⟨w.heap.size + 2, 6, none⟩ (.bool h1)).setCell ⟨w.heap.size + 2, 7, none⟩ (.slice b1' y1.length d1') = W1 at *
  refine (toF g2 h2 a2 b2 c2 d2 x2 y2 _ (hx2.out.below B) (hy2.out.below B) sx2 sy2).mono ?_
  rintro e w2 ⟨a2', c2', b2', d2', rfl, oa2, ob2, _, hb⟩
  replace oa2 := oa2.base_le (show w.heap.size + 3 ≤ _ by have := VO.lt; omega)
  replace ob2 := ob2.base_le (show w.heap.size + 3 ≤ _ by have := VO.lt; omega)
  replace oa0 := oa0.below hb
  replace ob0 := ob0.below hb
  replace oa1 := oa1.below hb
  replace ob1 := ob1.below hb
  replace V := V.below hb
  replace VR := VR.below hb
  replace VO := VO.below hb
  replace B := B.trans (hb.mono B.size)
  clear hb z0 z1 z2 z3
  have k0 := VO.c 8 _ rfl
  have k1 := VO.c 9 _ rfl
  have k2 := VO.c 10 _ rfl
  have k3 := VO.c 11 _ rfl
  have kf := VO.fr
  have z0 := V.c 12 _ rfl
  have z1 := V.c 13 _ rfl
  have z2 := V.c 14 _ rfl
  have z3 := V.c 15 _ rfl
  go_wp2_with fail
  clear k0 k1 k2 k3 kf
  have ne1 : w.heap.size ≠ w.heap.size + 2 := by omega
  have ne2 : w.heap.size + 1 ≠ w.heap.size + 2 := by omega
  have lo2 : w.heap.size ≤ w.heap.size + 2 := by omega
  have lt3 : w.heap.size + 2 < w.heap.size + 3 := by omega
  replace V := V.far ne1 8 (.bool g2)
  replace VR := VR.far ne2 8 (.bool g2)
  replace VO := VO.put 8 (.bool g2) (by simp)
  replace B := B.setCell (p := ⟨w.heap.size + 2, 8, none⟩) lo2 (.bool g2)
  replace oa0 := oa0.setCell (p := ⟨w.heap.size + 2, 8, none⟩) lt3 (.bool g2)
  replace ob0 := ob0.setCell (p := ⟨w.heap.size + 2, 8, none⟩) lt3 (.bool g2)
  replace oa1 := oa1.setCell (p := ⟨w.heap.size + 2, 8, none⟩) lt3 (.bool g2)
  replace ob1 := ob1.setCell (p := ⟨w.heap.size + 2, 8, none⟩) lt3 (.bool g2)
  replace oa2 := oa2.setCell (p := ⟨w.heap.size + 2, 8, none⟩) lt3 (.bool g2)
  replace ob2 := ob2.setCell (p := ⟨w.heap.size + 2, 8, none⟩) lt3 (.bool g2)
  replace V := V.far ne1 9 (.slice a2' x2.length c2')
  replace VR := VR.far ne2 9 (.slice a2' x2.length c2')
  replace VO := VO.put 9 (.slice a2' x2.length c2') (by simp)
  replace B := B.setCell (p := ⟨w.heap.size + 2, 9, none⟩) lo2 (.slice a2' x2.length c2')
  replace oa0 := oa0.setCell (p := ⟨w.heap.size + 2, 9, none⟩) lt3 (.slice a2' x2.length c2')
  replace ob0 := ob0.setCell (p := ⟨w.heap.size + 2, 9, none⟩) lt3 (.slice a2' x2.length c2')
  replace oa1 := oa1.setCell (p := ⟨w.heap.size + 2, 9, none⟩) lt3 (.slice a2' x2.length c2')
  replace ob1 := ob1.setCell (p := ⟨w.heap.size + 2, 9, none⟩) lt3 (.slice a2' x2.length c2')
  replace oa2 := oa2.setCell (p := ⟨w.heap.size + 2, 9, none⟩) lt3 (.slice a2' x2.length c2')
  replace ob2 := ob2.setCell (p := ⟨w.heap.size + 2, 9, none⟩) lt3 (.slice a2' x2.length c2')
  replace V := V.far ne1 10 (.bool h2)
  replace VR := VR.far ne2 10 (.bool h2)
  replace VO := VO.put 10 (.bool h2) (by simp)
  replace B := B.setCell (p := ⟨w.heap.size + 2, 10, none⟩) lo2 (.bool h2)
  replace oa0 := oa0.setCell (p := ⟨w.heap.size + 2, 10, none⟩) lt3 (.bool h2)
  replace ob0 := ob0.setCell (p := ⟨w.heap.size + 2, 10, none⟩) lt3 (.bool h2)
  replace oa1 := oa1.setCell (p := ⟨w.heap.size + 2, 10, none⟩) lt3 (.bool h2)
  replace ob1 := ob1.setCell (p := ⟨w.heap.size + 2, 10, none⟩) lt3 (.bool h2)
  replace oa2 := oa2.setCell (p := ⟨w.heap.size + 2, 10, none⟩) lt3 (.bool h2)
  replace ob2 := ob2.setCell (p := ⟨w.heap.size + 2, 10, none⟩) lt3 (.bool h2)
  replace V := V.far ne1 11 (.slice b2' y2.length d2')
  replace VR := VR.far ne2 11 (.slice b2' y2.length d2')
  replace VO := VO.put 11 (.slice b2' y2.length d2') (by simp)
  replace B := B.setCell (p := ⟨w.heap.size + 2, 11, none⟩) lo2 (.slice b2' y2.length d2')
  replace oa0 := oa0.setCell (p := ⟨w.heap.size + 2, 11, none⟩) lt3 (.slice b2' y2.length d2')
  replace ob0 := ob0.setCell (p := ⟨w.heap.size + 2, 11, none⟩) lt3 (.slice b2' y2.length d2')
  replace oa1 := oa1.setCell (p := ⟨w.heap.size + 2, 11, none⟩) lt3 (.slice b2' y2.length d2')
  replace ob1 := ob1.setCell (p := ⟨w.heap.size + 2, 11, none⟩) lt3 (.slice b2' y2.length d2')
  replace oa2 := oa2.setCell (p := ⟨w.heap.size + 2, 11, none⟩) lt3 (.slice b2' y2.length d2')
  replace ob2 := ob2.setCell (p := ⟨w.heap.size + 2, 11, none⟩) lt3 (.slice b2' y2.length d2')
  simp only [List.set_cons_zero, List.set_cons_succ] at VO
  clear ne1 ne2 lo2 lt3
  generalize (((w2.setCell ⟨w.heap.size + 2, 8, none⟩ (.bool g2)).setCell ⟨w.heap.size + 2, 9, none⟩ (.slice a2' x2.length c2')).setCell ⟨w.heap.size + 2, 10, none⟩ (.bool h2)).setCell ⟨w.heap.size + 2, 11, none⟩ (.slice b2' y2.length d2') = W2 at *
  refine (toF g3 h3 a3 b3 c3 d3 x3 y3 _ (hx3.out.below B) (hy3.out.below B) sx3 sy3).mono ?_
  rintro e w3 ⟨a3', c3', b3', d3', rfl, oa3, ob3, _, hb⟩
  replace oa3 := oa3.base_le (show w.heap.size + 3 ≤ _ by have := VO.lt; omega)
  replace ob3 := ob3.base_le (show w.heap.size + 3 ≤ _ by have := VO.lt; omega)
  replace oa0 := oa0.below hb
  replace ob0 := ob0.below hb
  replace oa1 := oa1.below hb
  replace ob1 := ob1.below hb
  replace oa2 := oa2.below hb
  replace ob2 := ob2.below hb
  replace V := V.below hb
  replace VR := VR.below hb
  replace VO := VO.below hb
  replace B := B.trans (hb.mono B.size)
  clear hb z0 z1 z2 z3
  have k0 := VO.c 12 _ rfl
  have k1 := VO.c 13 _ rfl
  have k2 := VO.c 14 _ rfl
  have k3 := VO.c 15 _ rfl
  have kf := VO.fr
  clear V
  have q0 := VO.c 0 _ rfl
  have q1 := VO.c 1 _ rfl
  have q2 := VO.c 2 _ rfl
  have q3 := VO.c 3 _ rfl
  have q4 := VO.c 4 _ rfl
  have q5 := VO.c 5 _ rfl
  have q6 := VO.c 6 _ rfl
  have q7 := VO.c 7 _ rfl
  have q8 := VO.c 8 _ rfl
  have q9 := VO.c 9 _ rfl
  have q10 := VO.c 10 _ rfl
  have q11 := VO.c 11 _ rfl
  have r0 := VR.c 0 _ rfl
  have r1 := VR.c 1 _ rfl
  have r2 := VR.c 2 _ rfl
  have r3 := VR.c 3 _ rfl
  have r4 := VR.c 4 _ rfl
  have r5 := VR.c 5 _ rfl
  have r6 := VR.c 6 _ rfl
  have r7 := VR.c 7 _ rfl
  have r8 := VR.c 8 _ rfl
  have r9 := VR.c 9 _ rfl
  have r10 := VR.c 10 _ rfl
  have r11 := VR.c 11 _ rfl
  have r12 := VR.c 12 _ rfl
  have r13 := VR.c 13 _ rfl
  have r14 := VR.c 14 _ rfl
  have r15 := VR.c 15 _ rfl
  have rf := VR.fr
  have lt1 := VR.lt
  have lt2 := VO.lt
  have ge2 : w.heap.size ≤ w.heap.size + 2 := by omega
  have ge1 : w.heap.size ≤ w.heap.size + 1 := by omega
  have l2 : w.heap.size + 2 < w.heap.size + 3 := by omega
  have l1 : w.heap.size + 1 < w.heap.size + 3 := by omega
  have HB : Hid (Below w.heap.size w ((((((((((((((((((((w3.setCell ⟨w.heap.size + 2, 12, none⟩ (.bool g3)).setCell ⟨w.heap.size + 2, 13, none⟩ (.slice a3' x3.length c3')).setCell ⟨w.heap.size + 2, 14, none⟩ (.bool h3)).setCell ⟨w.heap.size + 2, 15, none⟩ (.slice b3' y3.length d3')).setCell ⟨w.heap.size + 1, 0, none⟩ (.bool g0)).setCell ⟨w.heap.size + 1, 1, none⟩ (.slice a0' x0.length c0')).setCell ⟨w.heap.size + 1, 2, none⟩ (.bool h0)).setCell ⟨w.heap.size + 1, 3, none⟩ (.slice b0' y0.length d0')).setCell ⟨w.heap.size + 1, 4, none⟩ (.bool g1)).setCell ⟨w.heap.size + 1, 5, none⟩ (.slice a1' x1.length c1')).setCell ⟨w.heap.size + 1, 6, none⟩ (.bool h1)).setCell ⟨w.heap.size + 1, 7, none⟩ (.slice b1' y1.length d1')).setCell ⟨w.heap.size + 1, 8, none⟩ (.bool g2)).setCell ⟨w.heap.size + 1, 9, none⟩ (.slice a2' x2.length c2')).setCell ⟨w.heap.size + 1, 10, none⟩ (.bool h2)).setCell ⟨w.heap.size + 1, 11, none⟩ (.slice b2' y2.length d2')).setCell ⟨w.heap.size + 1, 12, none⟩ (.bool g3)).setCell ⟨w.heap.size + 1, 13, none⟩ (.slice a3' x3.length c3')).setCell ⟨w.heap.size + 1, 14, none⟩ (.bool h3)).setCell ⟨w.heap.size + 1, 15, none⟩ (.slice b3' y3.length d3'))) := ((((((((((((((((((((B.setCell (p := ⟨w.heap.size + 2, 12, none⟩) ge2 (.bool g3)).setCell (p := ⟨w.heap.size + 2, 13, none⟩) ge2 (.slice a3' x3.length c3')).setCell (p := ⟨w.heap.size + 2, 14, none⟩) ge2 (.bool h3)).setCell (p := ⟨w.heap.size + 2, 15, none⟩) ge2 (.slice b3' y3.length d3')).setCell (p := ⟨w.heap.size + 1, 0, none⟩) ge1 (.bool g0)).setCell (p := ⟨w.heap.size + 1, 1, none⟩) ge1 (.slice a0' x0.length c0')).setCell (p := ⟨w.heap.size + 1, 2, none⟩) ge1 (.bool h0)).setCell (p := ⟨w.heap.size + 1, 3, none⟩) ge1 (.slice b0' y0.length d0')).setCell (p := ⟨w.heap.size + 1, 4, none⟩) ge1 (.bool g1)).setCell (p := ⟨w.heap.size + 1, 5, none⟩) ge1 (.slice a1' x1.length c1')).setCell (p := ⟨w.heap.size + 1, 6, none⟩) ge1 (.bool h1)).setCell (p := ⟨w.heap.size + 1, 7, none⟩) ge1 (.slice b1' y1.length d1')).setCell (p := ⟨w.heap.size + 1, 8, none⟩) ge1 (.bool g2)).setCell (p := ⟨w.heap.size + 1, 9, none⟩) ge1 (.slice a2' x2.length c2')).setCell (p := ⟨w.heap.size + 1, 10, none⟩) ge1 (.bool h2)).setCell (p := ⟨w.heap.size + 1, 11, none⟩) ge1 (.slice b2' y2.length d2')).setCell (p := ⟨w.heap.size + 1, 12, none⟩) ge1 (.bool g3)).setCell (p := ⟨w.heap.size + 1, 13, none⟩) ge1 (.slice a3' x3.length c3')).setCell (p := ⟨w.heap.size + 1, 14, none⟩) ge1 (.bool h3)).setCell (p := ⟨w.heap.size + 1, 15, none⟩) ge1 (.slice b3' y3.length d3'))
  have OW : Hid (∀ (a : Option Addr) (c : Nat) (xs : List Int), Own (w.heap.size + 3) w3 a c xs → Sees ((((((((((((((((((((w3.setCell ⟨w.heap.size + 2, 12, none⟩ (.bool g3)).setCell ⟨w.heap.size + 2, 13, none⟩ (.slice a3' x3.length c3')).setCell ⟨w.heap.size + 2, 14, none⟩ (.bool h3)).setCell ⟨w.heap.size + 2, 15, none⟩ (.slice b3' y3.length d3')).setCell ⟨w.heap.size + 1, 0, none⟩ (.bool g0)).setCell ⟨w.heap.size + 1, 1, none⟩ (.slice a0' x0.length c0')).setCell ⟨w.heap.size + 1, 2, none⟩ (.bool h0)).setCell ⟨w.heap.size + 1, 3, none⟩ (.slice b0' y0.length d0')).setCell ⟨w.heap.size + 1, 4, none⟩ (.bool g1)).setCell ⟨w.heap.size + 1, 5, none⟩ (.slice a1' x1.length c1')).setCell ⟨w.heap.size + 1, 6, none⟩ (.bool h1)).setCell ⟨w.heap.size + 1, 7, none⟩ (.slice b1' y1.length d1')).setCell ⟨w.heap.size + 1, 8, none⟩ (.bool g2)).setCell ⟨w.heap.size + 1, 9, none⟩ (.slice a2' x2.length c2')).setCell ⟨w.heap.size + 1, 10, none⟩ (.bool h2)).setCell ⟨w.heap.size + 1, 11, none⟩ (.slice b2' y2.length d2')).setCell ⟨w.heap.size + 1, 12, none⟩ (.bool g3)).setCell ⟨w.heap.size + 1, 13, none⟩ (.slice a3' x3.length c3')).setCell ⟨w.heap.size + 1, 14, none⟩ (.bool h3)).setCell ⟨w.heap.size + 1, 15, none⟩ (.slice b3' y3.length d3')) a c xs) := fun a c xs h => ((((((((((((((((((((h.setCell (p := ⟨w.heap.size + 2, 12, none⟩) l2 (.bool g3)).setCell (p := ⟨w.heap.size + 2, 13, none⟩) l2 (.slice a3' x3.length c3')).setCell (p := ⟨w.heap.size + 2, 14, none⟩) l2 (.bool h3)).setCell (p := ⟨w.heap.size + 2, 15, none⟩) l2 (.slice b3' y3.length d3')).setCell (p := ⟨w.heap.size + 1, 0, none⟩) l1 (.bool g0)).setCell (p := ⟨w.heap.size + 1, 1, none⟩) l1 (.slice a0' x0.length c0')).setCell (p := ⟨w.heap.size + 1, 2, none⟩) l1 (.bool h0)).setCell (p := ⟨w.heap.size + 1, 3, none⟩) l1 (.slice b0' y0.length d0')).setCell (p := ⟨w.heap.size + 1, 4, none⟩) l1 (.bool g1)).setCell (p := ⟨w.heap.size + 1, 5, none⟩) l1 (.slice a1' x1.length c1')).setCell (p := ⟨w.heap.size + 1, 6, none⟩) l1 (.bool h1)).setCell (p := ⟨w.heap.size + 1, 7, none⟩) l1 (.slice b1' y1.length d1')).setCell (p := ⟨w.heap.size + 1, 8, none⟩) l1 (.bool g2)).setCell (p := ⟨w.heap.size + 1, 9, none⟩) l1 (.slice a2' x2.length c2')).setCell (p := ⟨w.heap.size + 1, 10, none⟩) l1 (.bool h2)).setCell (p := ⟨w.heap.size + 1, 11, none⟩) l1 (.slice b2' y2.length d2')).setCell (p := ⟨w.heap.size + 1, 12, none⟩) l1 (.bool g3)).setCell (p := ⟨w.heap.size + 1, 13, none⟩) l1 (.slice a3' x3.length c3')).setCell (p := ⟨w.heap.size + 1, 14, none⟩) l1 (.bool h3)).setCell (p := ⟨w.heap.size + 1, 15, none⟩) l1 (.slice b3' y3.length d3')).toSees
  replace oa0 : Hid _ := oa0
  replace ob0 : Hid _ := ob0
  replace oa1 : Hid _ := oa1
  replace ob1 : Hid _ := ob1
  replace oa2 : Hid _ := oa2
  replace ob2 : Hid _ := ob2
  replace oa3 : Hid _ := oa3
  replace ob3 : Hid _ := ob3
  clear B VR VO ge1 ge2 l1 l2
  go_wp2
  exact bodyPost_ret (v := .agg #[.bool g0, .slice a0' x0.length c0', .bool h0, .slice b0' y0.length d0', .bool g1, .slice a1' x1.length c1', .bool h1, .slice b1' y1.length d1', .bool g2, .slice a2' x2.length c2', .bool h2, .slice b2' y2.length d2', .bool g3, .slice a3' x3.length c3', .bool h3, .slice b3' y3.length d3']) (by simp [results, Try.results6, go_sem, r0, r1, r2, r3, r4, r5, r6, r7, r8, r9, r10, r11, r12, r13, r14, r15]) rfl ⟨a0', c0', b0', d0', a1', c1', b1', d1', a2', c2', b2', d2', a3', c3', b3', d3', rfl, OW.out _ _ _ oa0.out, OW.out _ _ _ ob0.out, OW.out _ _ _ oa1.out, OW.out _ _ _ ob1.out, OW.out _ _ _ oa2.out, OW.out _ _ _ ob2.out, OW.out _ _ _ oa3.out, OW.out _ _ _ ob3.out, HB.out⟩

set_option maxRecDepth 20000 in
set_option maxHeartbeats 4000000 in
theorem eqPiece_any (g0 h0 : Bool) (a0 b0 : Option Addr) (c0 d0 : Nat) (x0 y0 : List Int) (g1 h1 : Bool) (a1 b1 : Option Addr) (c1 d1 : Nat) (x1 y1 : List Int) (g2 h2 : Bool) (a2 b2 : Option Addr) (c2 d2 : Nat) (x2 y2 : List Int) (g3 h3 : Bool) (a3 b3 : Option Addr) (c3 d3 : Nat) (x3 y3 : List Int) (a0' b0' : Option Addr) (c0' d0' : Nat) (a1' b1' : Option Addr) (c1' d1' : Nat) (a2' b2' : Option Addr) (c2' d2' : Nat) (a3' b3' : Option Addr) (c3' d3' : Nat) (w : World) (hx0 : Sees w a0 c0 x0) (hy0 : Sees w b0 d0 y0) (kx0 : Sees w a0' c0' x0) (ky0 : Sees w b0' d0' y0) (hx1 : Sees w a1 c1 x1) (hy1 : Sees w b1 d1 y1) (kx1 : Sees w a1' c1' x1) (ky1 : Sees w b1' d1' y1) (hx2 : Sees w a2 c2 x2) (hy2 : Sees w b2 d2 y2) (kx2 : Sees w a2' c2' x2) (ky2 : Sees w b2' d2' y2) (hx3 : Sees w a3 c3 x3) (hy3 : Sees w b3 d3 y3) (kx3 : Sees w a3' c3' x3) (ky3 : Sees w b3' d3' y3) :
    Calls Try.prog 9 #[.agg #[.bool g0, .slice a0 x0.length c0, .bool h0, .slice b0 y0.length d0, .bool g1, .slice a1 x1.length c1, .bool h1, .slice b1 y1.length d1, .bool g2, .slice a2 x2.length c2, .bool h2, .slice b2 y2.length d2, .bool g3, .slice a3 x3.length c3, .bool h3, .slice b3 y3.length d3], .agg #[.bool g0, .slice a0' x0.length c0', .bool h0, .slice b0' y0.length d0', .bool g1, .slice a1' x1.length c1', .bool h1, .slice b1' y1.length d1', .bool g2, .slice a2' x2.length c2', .bool h2, .slice b2' y2.length d2', .bool g3, .slice a3' x3.length c3', .bool h3, .slice b3' y3.length d3']] w fun e w' => e = .returned (.bool true) ∧ Below w.heap.size w w' := by
  have B := below2 w (.cells #[.bool g0, .slice a0 x0.length c0, .bool h0, .slice b0 y0.length d0, .bool g1, .slice a1 x1.length c1, .bool h1, .slice b1 y1.length d1, .bool g2, .slice a2 x2.length c2, .bool h2, .slice b2 y2.length d2, .bool g3, .slice a3 x3.length c3, .bool h3, .slice b3 y3.length d3] 40) (.cells #[.bool g0, .slice a0' x0.length c0', .bool h0, .slice b0' y0.length d0', .bool g1, .slice a1' x1.length c1', .bool h1, .slice b1' y1.length d1', .bool g2, .slice a2' x2.length c2', .bool h2, .slice b2' y2.length d2', .bool g3, .slice a3' x3.length c3', .bool h3, .slice b3' y3.length d3'] 40)
  have V := BoxL.new w (Nat.le_refl _) [.bool g0, .slice a0 x0.length c0, .bool h0, .slice b0 y0.length d0, .bool g1, .slice a1 x1.length c1, .bool h1, .slice b1 y1.length d1, .bool g2, .slice a2 x2.length c2, .bool h2, .slice b2 y2.length d2, .bool g3, .slice a3 x3.length c3, .bool h3, .slice b3 y3.length d3] 40
  have bb := below1 (w.alloc (.cells #[.bool g0, .slice a0 x0.length c0, .bool h0, .slice b0 y0.length d0, .bool g1, .slice a1 x1.length c1, .bool h1, .slice b1 y1.length d1, .bool g2, .slice a2 x2.length c2, .bool h2, .slice b2 y2.length d2, .bool g3, .slice a3 x3.length c3, .bool h3, .slice b3 y3.length d3] 40)) (.cells #[.bool g0, .slice a0' x0.length c0', .bool h0, .slice b0' y0.length d0', .bool g1, .slice a1' x1.length c1', .bool h1, .slice b1' y1.length d1', .bool g2, .slice a2' x2.length c2', .bool h2, .slice b2' y2.length d2', .bool g3, .slice a3' x3.length c3', .bool h3, .slice b3' y3.length d3'] 40)
  have V2 := BoxL.new (w.alloc (.cells #[.bool g0, .slice a0 x0.length c0, .bool h0, .slice b0 y0.length d0, .bool g1, .slice a1 x1.length c1, .bool h1, .slice b1 y1.length d1, .bool g2, .slice a2 x2.length c2, .bool h2, .slice b2 y2.length d2, .bool g3, .slice a3 x3.length c3, .bool h3, .slice b3 y3.length d3] 40)) (Nat.le_refl _) [.bool g0, .slice a0' x0.length c0', .bool h0, .slice b0' y0.length d0', .bool g1, .slice a1' x1.length c1', .bool h1, .slice b1' y1.length d1', .bool g2, .slice a2' x2.length c2', .bool h2, .slice b2' y2.length d2', .bool g3, .slice a3' x3.length c3', .bool h3, .slice b3' y3.length d3'] 40
  replace V := V.below bb
  clear bb
  rw [World.size_alloc] at V2
  replace hx0 : Hid _ := hx0
  replace hy0 : Hid _ := hy0
  replace kx0 : Hid _ := kx0
  replace ky0 : Hid _ := ky0
  replace hx1 : Hid _ := hx1
  replace hy1 : Hid _ := hy1
  replace kx1 : Hid _ := kx1
  replace ky1 : Hid _ := ky1
  replace hx2 : Hid _ := hx2
  replace hy2 : Hid _ := hy2
  replace kx2 : Hid _ := kx2
  replace ky2 : Hid _ := ky2
  replace hx3 : Hid _ := hx3
  replace hy3 : Hid _ := hy3
  replace kx3 : Hid _ := kx3
  replace ky3 : Hid _ := ky3
  go_enter Try.func9, Try.ntmps9
  go_upto_region 1 with fail
  generalize hW : (w.alloc (.cells #[.bool g0, .slice a0 x0.length c0, .bool h0, .slice b0 y0.length d0, .bool g1, .slice a1 x1.length c1, .bool h1, .slice b1 y1.length d1, .bool g2, .slice a2 x2.length c2, .bool h2, .slice b2 y2.length d2, .bool g3, .slice a3 x3.length c3, .bool h3, .slice b3 y3.length d3] 40)).alloc (.cells #[.bool g0, .slice a0' x0.length c0', .bool h0, .slice b0' y0.length d0', .bool g1, .slice a1' x1.length c1', .bool h1, .slice b1' y1.length d1', .bool g2, .slice a2' x2.length c2', .bool h2, .slice b2' y2.length d2', .bool g3, .slice a3' x3.length c3', .bool h3, .slice b3' y3.length d3'] 40) = W at *
  clear hW
  have z0 := V.c 0 _ rfl
  have k0 := V2.c 0 _ rfl
  have z1 := V.c 1 _ rfl
  have k1 := V2.c 1 _ rfl
  have z2 := V.c 2 _ rfl
  have k2 := V2.c 2 _ rfl
  have z3 := V.c 3 _ rfl
  have k3 := V2.c 3 _ rfl
  go_wp2_with fail
  refine (eqF g0 h0 a0 a0' b0 b0' c0 c0' d0 d0' x0 y0 _ (hx0.out.below B) (kx0.out.below B) (hy0.out.below B) (ky0.out.below B)).mono ?_
  rintro e w0 ⟨rfl, hb⟩
  replace V := V.below hb
  replace V2 := V2.below hb
  replace B := B.trans (hb.mono B.size)
  clear hb z0 z1 z2 z3 k0 k1 k2 k3
  have z0 := V.c 4 _ rfl
  have k0 := V2.c 4 _ rfl
  have z1 := V.c 5 _ rfl
  have k1 := V2.c 5 _ rfl
  have z2 := V.c 6 _ rfl
  have k2 := V2.c 6 _ rfl
  have z3 := V.c 7 _ rfl
  have k3 := V2.c 7 _ rfl
  go_wp2_with fail
  refine (eqF g1 h1 a1 a1' b1 b1' c1 c1' d1 d1' x1 y1 _ (hx1.out.below B) (kx1.out.below B) (hy1.out.below B) (ky1.out.below B)).mono ?_
  rintro e w1 ⟨rfl, hb⟩
  replace V := V.below hb
  replace V2 := V2.below hb
  replace B := B.trans (hb.mono B.size)
  clear hb z0 z1 z2 z3 k0 k1 k2 k3
  have z0 := V.c 8 _ rfl
  have k0 := V2.c 8 _ rfl
  have z1 := V.c 9 _ rfl
  have k1 := V2.c 9 _ rfl
  have z2 := V.c 10 _ rfl
  have k2 := V2.c 10 _ rfl
  have z3 := V.c 11 _ rfl
  have k3 := V2.c 11 _ rfl
  go_wp2_with fail
  refine (eqF g2 h2 a2 a2' b2 b2' c2 c2' d2 d2' x2 y2 _ (hx2.out.below B) (kx2.out.below B) (hy2.out.below B) (ky2.out.below B)).mono ?_
  rintro e w2 ⟨rfl, hb⟩
  replace V := V.below hb
  replace V2 := V2.below hb
  replace B := B.trans (hb.mono B.size)
  clear hb z0 z1 z2 z3 k0 k1 k2 k3
  have z0 := V.c 12 _ rfl
  have k0 := V2.c 12 _ rfl
  have z1 := V.c 13 _ rfl
  have k1 := V2.c 13 _ rfl
  have z2 := V.c 14 _ rfl
  have k2 := V2.c 14 _ rfl
  have z3 := V.c 15 _ rfl
  have k3 := V2.c 15 _ rfl
  go_wp2_with fail
  refine (eqF g3 h3 a3 a3' b3 b3' c3 c3' d3 d3' x3 y3 _ (hx3.out.below B) (kx3.out.below B) (hy3.out.below B) (ky3.out.below B)).mono ?_
  rintro e w3 ⟨rfl, hb⟩
  replace V := V.below hb
  replace V2 := V2.below hb
  replace B := B.trans (hb.mono B.size)
  clear hb z0 z1 z2 z3 k0 k1 k2 k3
  have HB : Hid (Below w.heap.size w w3) := B
  clear B V V2
  go_wp2
  go_ret
  exact ⟨rfl, HB.out⟩

set_option maxRecDepth 20000 in
set_option maxHeartbeats 8000000 in
theorem lawPieceBox (g0 h0 : Bool) (a0 b0 : Option Addr) (c0 d0 : Nat) (x0 y0 : List Int) (g1 h1 : Bool) (a1 b1 : Option Addr) (c1 d1 : Nat) (x1 y1 : List Int) (g2 h2 : Bool) (a2 b2 : Option Addr) (c2 d2 : Nat) (x2 y2 : List Int) (g3 h3 : Bool) (a3 b3 : Option Addr) (c3 d3 : Nat) (x3 y3 : List Int) (w : World) (hx0 : Came w a0 c0 x0) (hy0 : Came w b0 d0 y0) (hx1 : Came w a1 c1 x1) (hy1 : Came w b1 d1 y1) (hx2 : Came w a2 c2 x2) (hy2 : Came w b2 d2 y2) (hx3 : Came w a3 c3 x3) (hy3 : Came w b3 d3 y3) :
    Calls Try.prog 3 #[.agg #[.bool g0, .slice a0 x0.length c0, .bool h0, .slice b0 y0.length d0, .bool g1, .slice a1 x1.length c1, .bool h1, .slice b1 y1.length d1, .bool g2, .slice a2 x2.length c2, .bool h2, .slice b2 y2.length d2, .bool g3, .slice a3 x3.length c3, .bool h3, .slice b3 y3.length d3]] w fun e w' => e = .returned (.bool true) ∧ Below w.heap.size w w' := by
  have m0 : x0.length ≤ 9223372036854775807 := by have := hx0.max; have := hx0.fits; unfold maxLen at *; omega
  have n0 : y0.length ≤ 9223372036854775807 := by have := hy0.max; have := hy0.fits; unfold maxLen at *; omega
  have m1 : x1.length ≤ 9223372036854775807 := by have := hx1.max; have := hx1.fits; unfold maxLen at *; omega
  have n1 : y1.length ≤ 9223372036854775807 := by have := hy1.max; have := hy1.fits; unfold maxLen at *; omega
  have m2 : x2.length ≤ 9223372036854775807 := by have := hx2.max; have := hx2.fits; unfold maxLen at *; omega
  have n2 : y2.length ≤ 9223372036854775807 := by have := hy2.max; have := hy2.fits; unfold maxLen at *; omega
  have m3 : x3.length ≤ 9223372036854775807 := by have := hx3.max; have := hx3.fits; unfold maxLen at *; omega
  have n3 : y3.length ≤ 9223372036854775807 := by have := hy3.max; have := hy3.fits; unfold maxLen at *; omega
  have SP := fun a0q b0q c0q d0q a1q b1q c1q d1q a2q b2q c2q d2q a3q b3q c3q d3q W i0 j0 i1 j1 i2 j2 i3 j3 => specPieceBox g0 h0 a0q b0q c0q d0q x0 y0 g1 h1 a1q b1q c1q d1q x1 y1 g2 h2 a2q b2q c2q d2q x2 y2 g3 h3 a3q b3q c3q d3q x3 y3 W i0 j0 i1 j1 i2 j2 i3 j3
  have IM := fun a0q b0q c0q d0q a1q b1q c1q d1q a2q b2q c2q d2q a3q b3q c3q d3q W i0 j0 i1 j1 i2 j2 i3 j3 => implPieceBox g0 h0 a0q b0q c0q d0q x0 y0 g1 h1 a1q b1q c1q d1q x1 y1 g2 h2 a2q b2q c2q d2q x2 y2 g3 h3 a3q b3q c3q d3q x3 y3 W i0 j0 i1 j1 i2 j2 i3 j3
  obtain ⟨K, hK⟩ : ∃ z, pbB (rdB g0 x0 h0 y0) (rdB g1 x1 h1 y1) (rdB g2 x2 h2 y2) (rdB g3 x3 h3 y3) = z := ⟨_, rfl⟩
  rw [hK] at SP IM
  obtain ⟨A1, hA1⟩ : ∃ z, pbV K (min (rdQ g0 x0 h0 y0) (rdQ g2 x2 h2 y2)) = z := ⟨_, rfl⟩
  rw [hA1] at SP IM
  clear hA1
  obtain ⟨A2, hA2⟩ : ∃ z, pbV K (min (rdQ g1 x1 h1 y1) (rdQ g3 x3 h3 y3)) = z := ⟨_, rfl⟩
  rw [hA2] at SP IM
  clear hA2
  obtain ⟨A3, hA3⟩ : ∃ z, pbV K (max (rdU g0 x0 h0 y0) (rdU g2 x2 h2 y2)) = z := ⟨_, rfl⟩
  rw [hA3] at SP IM
  clear hA3
  obtain ⟨A4, hA4⟩ : ∃ z, pbV K (max (rdU g1 x1 h1 y1) (rdU g3 x3 h3 y3)) = z := ⟨_, rfl⟩
  rw [hA4] at SP IM
  clear hA4
  clear hK
  replace SP : Hid _ := SP
  replace IM : Hid _ := IM
  have B := below1 w (.cells #[.bool g0, .slice a0 x0.length c0, .bool h0, .slice b0 y0.length d0, .bool g1, .slice a1 x1.length c1, .bool h1, .slice b1 y1.length d1, .bool g2, .slice a2 x2.length c2, .bool h2, .slice b2 y2.length d2, .bool g3, .slice a3 x3.length c3, .bool h3, .slice b3 y3.length d3] 28)
  have V := BoxL.new w (Nat.le_refl _) [.bool g0, .slice a0 x0.length c0, .bool h0, .slice b0 y0.length d0, .bool g1, .slice a1 x1.length c1, .bool h1, .slice b1 y1.length d1, .bool g2, .slice a2 x2.length c2, .bool h2, .slice b2 y2.length d2, .bool g3, .slice a3 x3.length c3, .bool h3, .slice b3 y3.length d3] 28
  replace hx0 : Hid _ := hx0
  replace hy0 : Hid _ := hy0
  replace hx1 : Hid _ := hx1
  replace hy1 : Hid _ := hy1
  replace hx2 : Hid _ := hx2
  replace hy2 : Hid _ := hy2
  replace hx3 : Hid _ := hx3
  replace hy3 : Hid _ := hy3
  go_enter Try.func3, Try.ntmps3
  go_upto_region 2 with fail
  generalize hW : w.alloc (.cells #[.bool g0, .slice a0 x0.length c0, .bool h0, .slice b0 y0.length d0, .bool g1, .slice a1 x1.length c1, .bool h1, .slice b1 y1.length d1, .bool g2, .slice a2 x2.length c2, .bool h2, .slice b2 y2.length d2, .bool g3, .slice a3 x3.length c3, .bool h3, .slice b3 y3.length d3] 28) = W at *
  clear hW
  have z0 := V.c 0 _ rfl
  have z1 := V.c 1 _ rfl
  have z2 := V.c 2 _ rfl
  have z3 := V.c 3 _ rfl
  have z4 := V.c 4 _ rfl
  have z5 := V.c 5 _ rfl
  have z6 := V.c 6 _ rfl
  have z7 := V.c 7 _ rfl
  have z8 := V.c 8 _ rfl
  have z9 := V.c 9 _ rfl
  have z10 := V.c 10 _ rfl
  have z11 := V.c 11 _ rfl
  have z12 := V.c 12 _ rfl
  have z13 := V.c 13 _ rfl
  have z14 := V.c 14 _ rfl
  have z15 := V.c 15 _ rfl
  go_wp2_with fail
  refine (szPiece g0 h0 a0 b0 c0 d0 x0.length y0.length g1 h1 a1 b1 c1 d1 x1.length y1.length g2 h2 a2 b2 c2 d2 x2.length y2.length g3 h3 a3 b3 c3 d3 x3.length y3.length _ m0 n0 m1 n1 m2 n2 m3 n3).mono ?_
  rintro e w1 ⟨r, rfl, hr, hb⟩
  clear z0 z1 z2 z3 z4 z5 z6 z7 z8 z9 z10 z11 z12 z13 z14 z15
  replace V := V.below hb
  replace B := B.trans (hb.mono B.size)
  clear hb
  rcases hr with hr | ⟨hr, sx0, sy0, sx1, sy1, sx2, sy2, sx3, sy3⟩
  · have HB : Hid (Below w.heap.size w w1) := B
    clear B V
    go_wp2
    go_ret
    exact ⟨rfl, HB.out⟩
  have hr' : ¬ r < 0 := by omega
  replace sx0 : Hid _ := sx0
  replace sy0 : Hid _ := sy0
  clear m0 n0
  replace sx1 : Hid _ := sx1
  replace sy1 : Hid _ := sy1
  clear m1 n1
  replace sx2 : Hid _ := sx2
  replace sy2 : Hid _ := sy2
  clear m2 n2
  replace sx3 : Hid _ := sx3
  replace sy3 : Hid _ := sy3
  clear m3 n3
  go_upto_region 5 with fail
  as_aux_lemma =>
    have z0 := V.c 0 _ rfl
    have z1 := V.c 1 _ rfl
    have z2 := V.c 2 _ rfl
    have z3 := V.c 3 _ rfl
    have z4 := V.c 4 _ rfl
    have z5 := V.c 5 _ rfl
    have z6 := V.c 6 _ rfl
    have z7 := V.c 7 _ rfl
    have z8 := V.c 8 _ rfl
    have z9 := V.c 9 _ rfl
    have z10 := V.c 10 _ rfl
    have z11 := V.c 11 _ rfl
    have z12 := V.c 12 _ rfl
    have z13 := V.c 13 _ rfl
    have z14 := V.c 14 _ rfl
    have z15 := V.c 15 _ rfl
    go_wp2_with fail
    refine (toPiece_any g0 h0 a0 b0 c0 d0 x0 y0 g1 h1 a1 b1 c1 d1 x1 y1 g2 h2 a2 b2 c2 d2 x2 y2 g3 h3 a3 b3 c3 d3 x3 y3 _ (hx0.out.below B) (hy0.out.below B) (hx1.out.below B) (hy1.out.below B) (hx2.out.below B) (hy2.out.below B) (hx3.out.below B) (hy3.out.below B) sx0.out sy0.out sx1.out sy1.out sx2.out sy2.out sx3.out sy3.out).mono ?_
    rintro e w2 ⟨a0s, c0s, b0s, d0s, a1s, c1s, b1s, d1s, a2s, c2s, b2s, d2s, a3s, c3s, b3s, d3s, rfl, i0s, j0s, i1s, j1s, i2s, j2s, i3s, j3s, hb⟩
    clear z0 z1 z2 z3 z4 z5 z6 z7 z8 z9 z10 z11 z12 z13 z14 z15
    replace V := V.below hb
    replace B := B.trans (hb.mono B.size)
    clear hb
    go_wp2_with fail
    refine Calls.mono (SP.out _ _ _ _ _ _ _ _ _ _ _ _ _ _ _ _ _ i0s j0s i1s j1s i2s j2s i3s j3s) ?_
    rintro e w3 ⟨rfl, hb⟩
    replace V := V.below hb
    replace B := B.trans (hb.mono B.size)
    clear hb
    clear i0s j0s i1s j1s i2s j2s i3s j3s SP
    go_upto_region 6 with fail
    as_aux_lemma =>
      have hb := below1 w3 (.cells #[.int .i64 A1, .int .i64 A2, .int .i64 A3, .int .i64 A4] 33)
      have V4 := Box4.new w3 (Nat.le_refl _) (.int .i64 A1) (.int .i64 A2) (.int .i64 A3) (.int .i64 A4) 33
      replace V := V.below hb
      replace B := B.trans (hb.mono B.size)
      clear hb
      generalize hW : w3.alloc (.cells #[.int .i64 A1, .int .i64 A2, .int .i64 A3, .int .i64 A4] 33) = w4 at *
      clear hW
      generalize w3.heap.size = p4 at *
      have z0 := V.c 0 _ rfl
      have z1 := V.c 1 _ rfl
      have z2 := V.c 2 _ rfl
      have z3 := V.c 3 _ rfl
      have z4 := V.c 4 _ rfl
      have z5 := V.c 5 _ rfl
      have z6 := V.c 6 _ rfl
      have z7 := V.c 7 _ rfl
      have z8 := V.c 8 _ rfl
      have z9 := V.c 9 _ rfl
      have z10 := V.c 10 _ rfl
      have z11 := V.c 11 _ rfl
      have z12 := V.c 12 _ rfl
      have z13 := V.c 13 _ rfl
      have z14 := V.c 14 _ rfl
      have z15 := V.c 15 _ rfl
      go_wp2_with fail
      refine (toPiece_any g0 h0 a0 b0 c0 d0 x0 y0 g1 h1 a1 b1 c1 d1 x1 y1 g2 h2 a2 b2 c2 d2 x2 y2 g3 h3 a3 b3 c3 d3 x3 y3 _ (hx0.out.below B) (hy0.out.below B) (hx1.out.below B) (hy1.out.below B) (hx2.out.below B) (hy2.out.below B) (hx3.out.below B) (hy3.out.below B) sx0.out sy0.out sx1.out sy1.out sx2.out sy2.out sx3.out sy3.out).mono ?_
      rintro e w5 ⟨a0t, c0t, b0t, d0t, a1t, c1t, b1t, d1t, a2t, c2t, b2t, d2t, a3t, c3t, b3t, d3t, rfl, i0t, j0t, i1t, j1t, i2t, j2t, i3t, j3t, hb⟩
      clear z0 z1 z2 z3 z4 z5 z6 z7 z8 z9 z10 z11 z12 z13 z14 z15
      replace V := V.below hb
      replace V4 := V4.below hb
      replace B := B.trans (hb.mono B.size)
      clear hb
      go_upto_region 7 with fail
      as_aux_lemma =>
        have hb := below1 w5 (.cells #[.bool g0, .slice a0t x0.length c0t, .bool h0, .slice b0t y0.length d0t, .bool g1, .slice a1t x1.length c1t, .bool h1, .slice b1t y1.length d1t, .bool g2, .slice a2t x2.length c2t, .bool h2, .slice b2t y2.length d2t, .bool g3, .slice a3t x3.length c3t, .bool h3, .slice b3t y3.length d3t] 40)
        have V6 := BoxL.new w5 (Nat.le_refl _) [.bool g0, .slice a0t x0.length c0t, .bool h0, .slice b0t y0.length d0t, .bool g1, .slice a1t x1.length c1t, .bool h1, .slice b1t y1.length d1t, .bool g2, .slice a2t x2.length c2t, .bool h2, .slice b2t y2.length d2t, .bool g3, .slice a3t x3.length c3t, .bool h3, .slice b3t y3.length d3t] 40
        replace i0t := i0t.below hb
        replace j0t := j0t.below hb
        replace i1t := i1t.below hb
        replace j1t := j1t.below hb
        replace i2t := i2t.below hb
        replace j2t := j2t.below hb
        replace i3t := i3t.below hb
        replace j3t := j3t.below hb
        replace V := V.below hb
        replace V4 := V4.below hb
        replace B := B.trans (hb.mono B.size)
        clear hb
        generalize hW : w5.alloc (.cells #[.bool g0, .slice a0t x0.length c0t, .bool h0, .slice b0t y0.length d0t, .bool g1, .slice a1t x1.length c1t, .bool h1, .slice b1t y1.length d1t, .bool g2, .slice a2t x2.length c2t, .bool h2, .slice b2t y2.length d2t, .bool g3, .slice a3t x3.length c3t, .bool h3, .slice b3t y3.length d3t] 40) = w6 at *
        clear hW
        generalize w5.heap.size = p6 at *
        have z0 := V6.c 0 _ rfl
        have z1 := V6.c 1 _ rfl
        have z2 := V6.c 2 _ rfl
        have z3 := V6.c 3 _ rfl
        have z4 := V6.c 4 _ rfl
        have z5 := V6.c 5 _ rfl
        have z6 := V6.c 6 _ rfl
        have z7 := V6.c 7 _ rfl
        have z8 := V6.c 8 _ rfl
        have z9 := V6.c 9 _ rfl
        have z10 := V6.c 10 _ rfl
        have z11 := V6.c 11 _ rfl
        have z12 := V6.c 12 _ rfl
        have z13 := V6.c 13 _ rfl
        have z14 := V6.c 14 _ rfl
        have z15 := V6.c 15 _ rfl
        go_wp2_with fail
        refine Calls.mono (IM.out _ _ _ _ _ _ _ _ _ _ _ _ _ _ _ _ _ i0t j0t i1t j1t i2t j2t i3t j3t) ?_
        rintro e w7 ⟨rfl, hb⟩
        clear IM
        clear z0 z1 z2 z3 z4 z5 z6 z7 z8 z9 z10 z11 z12 z13 z14 z15
        replace i0t := i0t.below hb
        replace j0t := j0t.below hb
        replace i1t := i1t.below hb
        replace j1t := j1t.below hb
        replace i2t := i2t.below hb
        replace j2t := j2t.below hb
        replace i3t := i3t.below hb
        replace j3t := j3t.below hb
        replace V := V.below hb
        replace V4 := V4.below hb
        replace V6 := V6.below hb
        replace B := B.trans (hb.mono B.size)
        clear hb
        go_upto_region 8 with fail
        as_aux_lemma =>
          have hb := below1 w7 (.cells #[.int .i64 A1, .int .i64 A2, .int .i64 A3, .int .i64 A4] 33)
          have V7 := Box4.new w7 (Nat.le_refl _) (.int .i64 A1) (.int .i64 A2) (.int .i64 A3) (.int .i64 A4) 33
          replace i0t := i0t.below hb
          replace j0t := j0t.below hb
          replace i1t := i1t.below hb
          replace j1t := j1t.below hb
          replace i2t := i2t.below hb
          replace j2t := j2t.below hb
          replace i3t := i3t.below hb
          replace j3t := j3t.below hb
          replace V := V.below hb
          replace V4 := V4.below hb
          replace V6 := V6.below hb
          replace B := B.trans (hb.mono B.size)
          clear hb
          generalize hW : w7.alloc (.cells #[.int .i64 A1, .int .i64 A2, .int .i64 A3, .int .i64 A4] 33) = w8 at *
          clear hW
          generalize w7.heap.size = p7 at *
          obtain ⟨q0, q1, q2, q3, _, _⟩ := id V7
          obtain ⟨r0, r1, r2, r3, _, _⟩ := id V4
          go_wp2_with fail
          refine (eqBox_any _ _ _ _ _ _ _ _ _).mono ?_
          rintro e w9 ⟨rfl, hb⟩
          rw [eqX_refl]
          clear q0 q1 q2 q3 r0 r1 r2 r3
          replace i0t := i0t.below hb
          replace j0t := j0t.below hb
          replace i1t := i1t.below hb
          replace j1t := j1t.below hb
          replace i2t := i2t.below hb
          replace j2t := j2t.below hb
          replace i3t := i3t.below hb
          replace j3t := j3t.below hb
          replace V := V.below hb
          replace V4 := V4.below hb
          replace V6 := V6.below hb
          replace V7 := V7.below hb
          replace B := B.trans (hb.mono B.size)
          clear hb
          have hKK : (K != K) = false := by simp
          go_upto_region 10 with fail
          as_aux_lemma =>
            have z0 := V.c 0 _ rfl
            have z1 := V.c 1 _ rfl
            have z2 := V.c 2 _ rfl
            have z3 := V.c 3 _ rfl
            have z4 := V.c 4 _ rfl
            have z5 := V.c 5 _ rfl
            have z6 := V.c 6 _ rfl
            have z7 := V.c 7 _ rfl
            have z8 := V.c 8 _ rfl
            have z9 := V.c 9 _ rfl
            have z10 := V.c 10 _ rfl
            have z11 := V.c 11 _ rfl
            have z12 := V.c 12 _ rfl
            have z13 := V.c 13 _ rfl
            have z14 := V.c 14 _ rfl
            have z15 := V.c 15 _ rfl
            have k0 := V6.c 0 _ rfl
            have k1 := V6.c 1 _ rfl
            have k2 := V6.c 2 _ rfl
            have k3 := V6.c 3 _ rfl
            have k4 := V6.c 4 _ rfl
            have k5 := V6.c 5 _ rfl
            have k6 := V6.c 6 _ rfl
            have k7 := V6.c 7 _ rfl
            have k8 := V6.c 8 _ rfl
            have k9 := V6.c 9 _ rfl
            have k10 := V6.c 10 _ rfl
            have k11 := V6.c 11 _ rfl
            have k12 := V6.c 12 _ rfl
            have k13 := V6.c 13 _ rfl
            have k14 := V6.c 14 _ rfl
            have k15 := V6.c 15 _ rfl
            refine wp_region_held_drew (S := Below w9.heap.size w9) (by kernel_rfl) ((Below.refl _ _).drew) (fun hHeld => ?_)
            have N : Below w9.heap.size w9 w9.drew := hHeld
            revert hHeld N
            generalize w9.drew = ww0
            intro hHeld N
            refine takeQ (i := 0) (gt rfl) (by kernel_rfl) (fun _ _ _ h => h) (by rfl) (by intro wq hSw; have q0 := bat hSw k0; have q1 := bat hSw k1; have q2 := bat hSw k2; have q3 := bat hSw k3; have q4 := bat hSw k4; have q5 := bat hSw k5; have q6 := bat hSw k6; have q7 := bat hSw k7; have q8 := bat hSw k8; have q9 := bat hSw k9; have q10 := bat hSw k10; have q11 := bat hSw k11; have q12 := bat hSw k12; have q13 := bat hSw k13; have q14 := bat hSw k14; have q15 := bat hSw k15; go_simp <;> with_reducible rfl) (by assumption) ?_
            try simp only [Act.put, sA, sB, sC]
            refine takeQ (i := 1) (gt rfl) (by kernel_rfl) (fun _ _ _ h => h) (by rfl) (by intro wq hSw; have q0 := bat hSw z0; have q1 := bat hSw z1; have q2 := bat hSw z2; have q3 := bat hSw z3; have q4 := bat hSw z4; have q5 := bat hSw z5; have q6 := bat hSw z6; have q7 := bat hSw z7; have q8 := bat hSw z8; have q9 := bat hSw z9; have q10 := bat hSw z10; have q11 := bat hSw z11; have q12 := bat hSw z12; have q13 := bat hSw z13; have q14 := bat hSw z14; have q15 := bat hSw z15; go_simp <;> with_reducible rfl) (by assumption) ?_
            try simp only [Act.put, sA, sB, sC]
            have B10 := B.trans (N.mono B.size)
            refine wpAnyH_ready (rs := [2]) (by kernel_rfl) (by simp) (AllReadyH.cons (gt rfl) (fun K hK => ?_) AllReadyH.nil)
            go_simp
            refine (toPiece_any g0 h0 a0 b0 c0 d0 x0 y0 g1 h1 a1 b1 c1 d1 x1 y1 g2 h2 a2 b2 c2 d2 x2 y2 g3 h3 a3 b3 c3 d3 x3 y3 _ (hx0.out.below B10) (hy0.out.below B10) (hx1.out.below B10) (hy1.out.below B10) (hx2.out.below B10) (hy2.out.below B10) (hx3.out.below B10) (hy3.out.below B10) sx0.out sy0.out sx1.out sy1.out sx2.out sy2.out sx3.out sy3.out).mono ?_
            rintro e w10 ⟨a0u, c0u, b0u, d0u, a1u, c1u, b1u, d1u, a2u, c2u, b2u, d2u, a3u, c3u, b3u, d3u, rfl, i0u, j0u, i1u, j1u, i2u, j2u, i3u, j3u, hb⟩
            replace N := N.trans (hb.mono N.size)
            refine hK.out _ _ N (fun hHeld => ?_)
            clear hK K hb
            try simp only [Act.put, sA, sB, sC]
            have i9 := trivial
            replace i0t := i0t.below N
            replace j0t := j0t.below N
            replace i1t := i1t.below N
            replace j1t := j1t.below N
            replace i2t := i2t.below N
            replace j2t := j2t.below N
            replace i3t := i3t.below N
            replace j3t := j3t.below N
            refine wpAnyH_ready (rs := [3]) (by kernel_rfl) (by simp) (AllReadyH.cons (gt rfl) (fun K hK => ?_) AllReadyH.nil)
            go_simp
            refine (eqPiece_any g0 h0 a0t b0t c0t d0t x0 y0 g1 h1 a1t b1t c1t d1t x1 y1 g2 h2 a2t b2t c2t d2t x2 y2 g3 h3 a3t b3t c3t d3t x3 y3 _ _ _ _ _ _ _ _ _ _ _ _ _ _ _ _ _ i0t j0t i0u j0u i1t j1t i1u j1u i2t j2t i2u j2u i3t j3t i3u j3u).mono ?_
            rintro e w11 ⟨rfl, hb⟩
            replace N := N.trans (hb.mono N.size)
            refine hK.out _ _ N (fun hHeld => ?_)
            clear hK K hb
            try simp only [Act.put, sA, sB, sC]
            refine takeQ (i := 4) (gt rfl) (by kernel_rfl) (fun _ _ _ h => h) (by rfl) (by intro wq hSw; go_simp <;> with_reducible rfl) (by assumption) ?_
            try simp only [Act.put, sA, sB, sC]
            refine wpAnyH_done (by kernel_rfl) ?_ _
            have HB : Hid (Below w.heap.size w w11) := B.trans (N.mono B.size)
            clear B N V V4 V6 V7 B10 hHeld
            clear z0 z1 z2 z3 z4 z5 z6 z7 z8 z9 z10 z11 z12 z13 z14 z15
            clear k0 k1 k2 k3 k4 k5 k6 k7 k8 k9 k10 k11 k12 k13 k14 k15
            clear i0t j0t i0u j0u i1t j1t i1u j1u i2t j2t i2u j2u i3t j3t i3u j3u
            go_wp2
            go_ret
            exact ⟨rfl, HB.out⟩
end Go.Proofs.Ytnefdfgonolafaa
