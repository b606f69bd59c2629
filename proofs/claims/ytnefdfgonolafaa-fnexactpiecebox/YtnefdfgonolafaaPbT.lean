/- The box of whole numbers around a piece: of the specification. -/
import Derived.Test.YtnefdfgonolafaaPbS
import Derived.Test.YtnefdfgonolafaaBoxV
namespace Go.Proofs.Ytnefdfgonolafaa
open Go.RowKit

def pbB (k0 k1 k2 k3 : Bool) : Bool := k0 && (k1 && (k2 && k3))
def pbV (k : Bool) (z : Int) : Int := if k then z else 0

theorem Box4.chainX {w0 : Nat} {W w : World} {p : Nat} (N : Below w0 W w) (h : w0 ≤ p) (u0 u1 u2 u3 : Value) : Below w0 W ((((w.setCell ⟨p, 0, none⟩ u0).setCell ⟨p, 1, none⟩ u1).setCell ⟨p, 2, none⟩ u2).setCell ⟨p, 3, none⟩ u3) :=
  (((N.setCell h u0).setCell h u1).setCell h u2).setCell h u3

set_option maxRecDepth 20000 in
set_option maxHeartbeats 4000000 in
theorem specPieceBox (g0 h0 : Bool) (a0 b0 : Option Addr) (c0 d0 : Nat) (x0 y0 : List Int) (g1 h1 : Bool) (a1 b1 : Option Addr) (c1 d1 : Nat) (x1 y1 : List Int) (g2 h2 : Bool) (a2 b2 : Option Addr) (c2 d2 : Nat) (x2 y2 : List Int) (g3 h3 : Bool) (a3 b3 : Option Addr) (c3 d3 : Nat) (x3 y3 : List Int) (w : World) (hx0 : Sees w a0 c0 x0) (hy0 : Sees w b0 d0 y0) (hx1 : Sees w a1 c1 x1) (hy1 : Sees w b1 d1 y1) (hx2 : Sees w a2 c2 x2) (hy2 : Sees w b2 d2 y2) (hx3 : Sees w a3 c3 x3) (hy3 : Sees w b3 d3 y3) :
    Calls Try.prog 5 #[.agg #[.bool g0, .slice a0 x0.length c0, .bool h0, .slice b0 y0.length d0, .bool g1, .slice a1 x1.length c1, .bool h1, .slice b1 y1.length d1, .bool g2, .slice a2 x2.length c2, .bool h2, .slice b2 y2.length d2, .bool g3, .slice a3 x3.length c3, .bool h3, .slice b3 y3.length d3]] w fun e w' => e = .returned (.tuple #[.agg #[.int .i64 (pbV (pbB (rdB g0 x0 h0 y0) (rdB g1 x1 h1 y1) (rdB g2 x2 h2 y2) (rdB g3 x3 h3 y3)) (min (rdQ g0 x0 h0 y0) (rdQ g2 x2 h2 y2))), .int .i64 (pbV (pbB (rdB g0 x0 h0 y0) (rdB g1 x1 h1 y1) (rdB g2 x2 h2 y2) (rdB g3 x3 h3 y3)) (min (rdQ g1 x1 h1 y1) (rdQ g3 x3 h3 y3))), .int .i64 (pbV (pbB (rdB g0 x0 h0 y0) (rdB g1 x1 h1 y1) (rdB g2 x2 h2 y2) (rdB g3 x3 h3 y3)) (max (rdU g0 x0 h0 y0) (rdU g2 x2 h2 y2))), .int .i64 (pbV (pbB (rdB g0 x0 h0 y0) (rdB g1 x1 h1 y1) (rdB g2 x2 h2 y2) (rdB g3 x3 h3 y3)) (max (rdU g1 x1 h1 y1) (rdU g3 x3 h3 y3)))], .bool (pbB (rdB g0 x0 h0 y0) (rdB g1 x1 h1 y1) (rdB g2 x2 h2 y2) (rdB g3 x3 h3 y3))]) ∧ Below w.heap.size w w' := by
  have B := below1 w (.cells #[.bool g0, .slice a0 x0.length c0, .bool h0, .slice b0 y0.length d0, .bool g1, .slice a1 x1.length c1, .bool h1, .slice b1 y1.length d1, .bool g2, .slice a2 x2.length c2, .bool h2, .slice b2 y2.length d2, .bool g3, .slice a3 x3.length c3, .bool h3, .slice b3 y3.length d3] 40)
  have V := BoxL.new w (Nat.le_refl _) [.bool g0, .slice a0 x0.length c0, .bool h0, .slice b0 y0.length d0, .bool g1, .slice a1 x1.length c1, .bool h1, .slice b1 y1.length d1, .bool g2, .slice a2 x2.length c2, .bool h2, .slice b2 y2.length d2, .bool g3, .slice a3 x3.length c3, .bool h3, .slice b3 y3.length d3] 40
  have C0 := fun W hb => specRound g0 h0 a0 b0 c0 d0 x0 y0 W (hx0.below (w' := W) hb) (hy0.below hb)
  have C1 := fun W hb => specRound g1 h1 a1 b1 c1 d1 x1 y1 W (hx1.below (w' := W) hb) (hy1.below hb)
  have C2 := fun W hb => specRound g2 h2 a2 b2 c2 d2 x2 y2 W (hx2.below (w' := W) hb) (hy2.below hb)
  have C3 := fun W hb => specRound g3 h3 a3 b3 c3 d3 x3 y3 W (hx3.below (w' := W) hb) (hy3.below hb)
  obtain ⟨k0, HK0⟩ : ∃ x, Hid (rdB g0 x0 h0 y0 = x) := ⟨_, rfl⟩
  obtain ⟨Q0, HQ0⟩ : ∃ x, Hid (rdQ g0 x0 h0 y0 = x) := ⟨_, rfl⟩
  obtain ⟨U0, HU0⟩ : ∃ x, Hid (rdU g0 x0 h0 y0 = x) := ⟨_, rfl⟩
  obtain ⟨k1, HK1⟩ : ∃ x, Hid (rdB g1 x1 h1 y1 = x) := ⟨_, rfl⟩
  obtain ⟨Q1, HQ1⟩ : ∃ x, Hid (rdQ g1 x1 h1 y1 = x) := ⟨_, rfl⟩
  obtain ⟨U1, HU1⟩ : ∃ x, Hid (rdU g1 x1 h1 y1 = x) := ⟨_, rfl⟩
  obtain ⟨k2, HK2⟩ : ∃ x, Hid (rdB g2 x2 h2 y2 = x) := ⟨_, rfl⟩
  obtain ⟨Q2, HQ2⟩ : ∃ x, Hid (rdQ g2 x2 h2 y2 = x) := ⟨_, rfl⟩
  obtain ⟨U2, HU2⟩ : ∃ x, Hid (rdU g2 x2 h2 y2 = x) := ⟨_, rfl⟩
  obtain ⟨k3, HK3⟩ : ∃ x, Hid (rdB g3 x3 h3 y3 = x) := ⟨_, rfl⟩
  obtain ⟨Q3, HQ3⟩ : ∃ x, Hid (rdQ g3 x3 h3 y3 = x) := ⟨_, rfl⟩
  obtain ⟨U3, HU3⟩ : ∃ x, Hid (rdU g3 x3 h3 y3 = x) := ⟨_, rfl⟩
  rw [HK0.out, HQ0.out, HU0.out, HK1.out, HQ1.out, HU1.out, HK2.out, HQ2.out, HU2.out, HK3.out, HQ3.out, HU3.out]
  rw [HK0.out, HQ0.out, HU0.out] at C0
  replace C0 : Hid _ := C0
  rw [HK1.out, HQ1.out, HU1.out] at C1
  replace C1 : Hid _ := C1
  rw [HK2.out, HQ2.out, HU2.out] at C2
  replace C2 : Hid _ := C2
  rw [HK3.out, HQ3.out, HU3.out] at C3
  replace C3 : Hid _ := C3
  clear HK0 HQ0 HU0 hx0 hy0 HK1 HQ1 HU1 hx1 hy1 HK2 HQ2 HU2 hx2 hy2 HK3 HQ3 HU3 hx3 hy3
  obtain ⟨K, HK⟩ : ∃ x, Hid (pbB k0 k1 k2 k3 = x) := ⟨_, rfl⟩
  rw [HK.out]
  have V2 := Box4.new (w.alloc (.cells #[.bool g0, .slice a0 x0.length c0, .bool h0, .slice b0 y0.length d0, .bool g1, .slice a1 x1.length c1, .bool h1, .slice b1 y1.length d1, .bool g2, .slice a2 x2.length c2, .bool h2, .slice b2 y2.length d2, .bool g3, .slice a3 x3.length c3, .bool h3, .slice b3 y3.length d3] 40)) (Nat.le_refl _) (.int .i64 0) (.int .i64 0) (.int .i64 0) (.int .i64 0) 33
  have hb := below1 (w.alloc (.cells #[.bool g0, .slice a0 x0.length c0, .bool h0, .slice b0 y0.length d0, .bool g1, .slice a1 x1.length c1, .bool h1, .slice b1 y1.length d1, .bool g2, .slice a2 x2.length c2, .bool h2, .slice b2 y2.length d2, .bool g3, .slice a3 x3.length c3, .bool h3, .slice b3 y3.length d3] 40)) (.cells #[.int .i64 0, .int .i64 0, .int .i64 0, .int .i64 0] 33)
  replace V := V.below hb
  replace B := B.trans (hb.mono B.size)
  clear hb
  have e1 : (w.alloc (.cells #[.bool g0, .slice a0 x0.length c0, .bool h0, .slice b0 y0.length d0, .bool g1, .slice a1 x1.length c1, .bool h1, .slice b1 y1.length d1, .bool g2, .slice a2 x2.length c2, .bool h2, .slice b2 y2.length d2, .bool g3, .slice a3 x3.length c3, .bool h3, .slice b3 y3.length d3] 40)).heap.size = w.heap.size + 1 := World.size_alloc ..
  rw [e1] at V2
  clear e1
  go_enter Try.func5, Try.ntmps5
  go_upto_region 1 with fail
  generalize hW : (w.alloc (.cells #[.bool g0, .slice a0 x0.length c0, .bool h0, .slice b0 y0.length d0, .bool g1, .slice a1 x1.length c1, .bool h1, .slice b1 y1.length d1, .bool g2, .slice a2 x2.length c2, .bool h2, .slice b2 y2.length d2, .bool g3, .slice a3 x3.length c3, .bool h3, .slice b3 y3.length d3] 40)).alloc (.cells #[.int .i64 0, .int .i64 0, .int .i64 0, .int .i64 0] 33) = W at *
  clear hW
  have z0 := V.c 0 _ rfl
  have z1 := V.c 1 _ rfl
  have z2 := V.c 2 _ rfl
  have z3 := V.c 3 _ rfl
  go_wp2_with fail
  refine Calls.mono (C0.out _ B) ?_
  rintro e w0 ⟨l0, m0, rfl, hr0, hb⟩
  replace V := V.below hb
  replace V2 := V2.below hb
  replace B := B.trans (hb.mono B.size)
  replace hr0 : Hid _ := hr0
  clear hb z0 z1 z2 z3 C0
  have z0 := V.c 4 _ rfl
  have z1 := V.c 5 _ rfl
  have z2 := V.c 6 _ rfl
  have z3 := V.c 7 _ rfl
  go_wp2_with fail
  refine Calls.mono (C1.out _ B) ?_
  rintro e w1 ⟨l1, m1, rfl, hr1, hb⟩
  replace V := V.below hb
  replace V2 := V2.below hb
  replace B := B.trans (hb.mono B.size)
  replace hr1 : Hid _ := hr1
  clear hb z0 z1 z2 z3 C1
  have z0 := V.c 8 _ rfl
  have z1 := V.c 9 _ rfl
  have z2 := V.c 10 _ rfl
  have z3 := V.c 11 _ rfl
  go_wp2_with fail
  refine Calls.mono (C2.out _ B) ?_
  rintro e w2 ⟨l2, m2, rfl, hr2, hb⟩
  replace V := V.below hb
  replace V2 := V2.below hb
  replace B := B.trans (hb.mono B.size)
  replace hr2 : Hid _ := hr2
  clear hb z0 z1 z2 z3 C2
  have z0 := V.c 12 _ rfl
  have z1 := V.c 13 _ rfl
  have z2 := V.c 14 _ rfl
  have z3 := V.c 15 _ rfl
  go_wp2_with fail
  refine Calls.mono (C3.out _ B) ?_
  rintro e w3 ⟨l3, m3, rfl, hr3, hb⟩
  replace V := V.below hb
  replace V2 := V2.below hb
  replace B := B.trans (hb.mono B.size)
  replace hr3 : Hid _ := hr3
  clear hb z0 z1 z2 z3 C3
  have HB : Hid (Below w.heap.size w w3) := B
  obtain ⟨r0, r1, r2, r3, rf, _⟩ := id V2
  have hlt := V2.lt
  clear B V
  cases k0
  · obtain rfl : K = false := by rw [← HK.out]; rfl
    clear HK hr0 hr1 hr2 hr3
    have B3 : Hid _ := Box4.chainX HB.out (Nat.le_succ _) (.int .i64 0) (.int .i64 0) (.int .i64 0) (.int .i64 0)
    go_wp2
    exact bodyPost_ret (v := .tuple #[.agg #[.int .i64 0, .int .i64 0, .int .i64 0, .int .i64 0], .bool false]) (by simp [results, Try.results5, go_sem, r0, r1, r2, r3]) rfl ⟨rfl, B3.out⟩
  · skip
    cases k1
    · obtain rfl : K = false := by rw [← HK.out]; rfl
      clear HK hr0 hr1 hr2 hr3
      have B3 : Hid _ := Box4.chainX HB.out (Nat.le_succ _) (.int .i64 0) (.int .i64 0) (.int .i64 0) (.int .i64 0)
      go_wp2
      exact bodyPost_ret (v := .tuple #[.agg #[.int .i64 0, .int .i64 0, .int .i64 0, .int .i64 0], .bool false]) (by simp [results, Try.results5, go_sem, r0, r1, r2, r3]) rfl ⟨rfl, B3.out⟩
    · skip
      cases k2
      · obtain rfl : K = false := by rw [← HK.out]; rfl
        clear HK hr0 hr1 hr2 hr3
        have B3 : Hid _ := Box4.chainX HB.out (Nat.le_succ _) (.int .i64 0) (.int .i64 0) (.int .i64 0) (.int .i64 0)
        go_wp2
        exact bodyPost_ret (v := .tuple #[.agg #[.int .i64 0, .int .i64 0, .int .i64 0, .int .i64 0], .bool false]) (by simp [results, Try.results5, go_sem, r0, r1, r2, r3]) rfl ⟨rfl, B3.out⟩
      · skip
        cases k3
        · obtain rfl : K = false := by rw [← HK.out]; rfl
          clear HK hr0 hr1 hr2 hr3
          have B3 : Hid _ := Box4.chainX HB.out (Nat.le_succ _) (.int .i64 0) (.int .i64 0) (.int .i64 0) (.int .i64 0)
          go_wp2
          exact bodyPost_ret (v := .tuple #[.agg #[.int .i64 0, .int .i64 0, .int .i64 0, .int .i64 0], .bool false]) (by simp [results, Try.results5, go_sem, r0, r1, r2, r3]) rfl ⟨rfl, B3.out⟩
        · skip
          obtain rfl : K = true := by rw [← HK.out]; rfl
          obtain ⟨rfl, rfl⟩ := hr0.out rfl
          obtain ⟨rfl, rfl⟩ := hr1.out rfl
          obtain ⟨rfl, rfl⟩ := hr2.out rfl
          obtain ⟨rfl, rfl⟩ := hr3.out rfl
          clear HK hr0 hr1 hr2 hr3
          go_wp2_with fail
          refine (l4Min_any _ _ _).mono ?_
          rintro e w4 ⟨rfl, rfl⟩
          go_wp2_with fail
          refine (l4Min_any _ _ _).mono ?_
          rintro e w5 ⟨rfl, rfl⟩
          go_wp2_with fail
          refine (l4Max_any _ _ _).mono ?_
          rintro e w6 ⟨rfl, rfl⟩
          go_wp2_with fail
          refine (l4Max_any _ _ _).mono ?_
          rintro e w7 ⟨rfl, rfl⟩
          have B3 : Hid _ := Box4.chainX HB.out (Nat.le_succ _) (.int .i64 (min l0 l2)) (.int .i64 (min l1 l3)) (.int .i64 (max m0 m2)) (.int .i64 (max m1 m3))
          go_wp2
          exact bodyPost_ret (v := .tuple #[.agg #[.int .i64 (min l0 l2), .int .i64 (min l1 l3), .int .i64 (max m0 m2), .int .i64 (max m1 m3)], .bool true]) (by simp [results, Try.results5, go_sem, r0, r1, r2, r3]) rfl ⟨rfl, B3.out⟩
end Go.Proofs.Ytnefdfgonolafaa
