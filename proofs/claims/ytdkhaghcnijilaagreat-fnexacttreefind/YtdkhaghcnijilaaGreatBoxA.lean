/- Boxes in boxes, areas, margins, gaps. -/
import Derived.Test.YtdkhaghcnijilaaGreatBoxO
import Derived.Test.YtdkhaghcnijilaaGreatPtS
namespace Go.Proofs.YtdkhaghcnijilaaGreat
open Go.RowKit

def insd (a b c d m n r s : Int) : Bool := boxOk a b c d && (inX m n r s a b && inX m n r s c d)
def area (a b c d : Int) : Int := if boxOk a b c d then (c - a) * (d - b) else 0
def marg (a b c d : Int) : Int := if boxOk a b c d then (c - a) + (d - b) else 0
def wide (a b c d : Int) : Int := if boxOk a b c d then c - a else 0
def high (a b c d : Int) : Int := if boxOk a b c d then d - b else 0

set_option maxHeartbeats 4000000 in
theorem specBoxArea (a b c d : Int) (w : World) :
    Calls Tryz.prog 123 #[.agg #[.int .i64 a, .int .i64 b, .int .i64 c, .int .i64 d]] w fun e w' => e = .returned (.int .i64 (area a b c d)) ∧ Below w.heap.size w w' := by
  have H : Hid (area a b c d = if boxOk a b c d then (c - a) * (d - b) else 0) := (rfl : area a b c d = _)
  cases h1 : boxOk a b c d
  · skip
    have k0 := bcB w a b c d 35
    have B0 := below1 w (.cells #[.int .i64 a, .int .i64 b, .int .i64 c, .int .i64 d] 35)
    go_enter Tryz.func123, Tryz.ntmps123
    go_wp2_with fail
    generalize (w.alloc (.cells #[.int .i64 a, .int .i64 b, .int .i64 c, .int .i64 d] 35)) = W0 at *
    have B : Below W0.heap.size W0 W0 := Below.refl _ _
    have K := k0
    obtain ⟨k1, k2, k3, k4⟩ := k0
    go_wp2_with ((go_at_call 42; refine (specBoxOk _ _ _ _ _).mono ?_; rintro e w1 ⟨rfl, hb⟩; rw [h1]; replace B := B.trans (hb.mono B.size); clear hb; obtain ⟨k1, k2, k3, k4⟩ := bkB B K))
    go_ret
    exact ⟨ret_int (by rw [H.out, h1]; simp), B0.trans (B.mono B0.size)⟩
  · obtain ⟨q1, q2, q3, q4⟩ := boxOk_crd h1
    obtain ⟨p1, p2⟩ := (q3.dif q1).mul (q4.dif q2)
    unfold Crd at q1 q2 q3 q4
    obtain ⟨a1, a2⟩ := q1
    obtain ⟨b1, b2⟩ := q2
    obtain ⟨c1, c2⟩ := q3
    obtain ⟨d1, d2⟩ := q4
    have k0 := bcB w a b c d 35
    have B0 := below1 w (.cells #[.int .i64 a, .int .i64 b, .int .i64 c, .int .i64 d] 35)
    go_enter Tryz.func123, Tryz.ntmps123
    go_wp2_with fail
    generalize (w.alloc (.cells #[.int .i64 a, .int .i64 b, .int .i64 c, .int .i64 d] 35)) = W0 at *
    have B : Below W0.heap.size W0 W0 := Below.refl _ _
    have K := k0
    obtain ⟨k1, k2, k3, k4⟩ := k0
    go_wp2_with ((go_at_call 42; refine (specBoxOk _ _ _ _ _).mono ?_; rintro e w1 ⟨rfl, hb⟩; rw [h1]; replace B := B.trans (hb.mono B.size); clear hb; obtain ⟨k1, k2, k3, k4⟩ := bkB B K))
    go_ret
    exact ⟨ret_int (by rw [H.out, h1]; simp; try omega), B0.trans (B.mono B0.size)⟩

set_option maxHeartbeats 4000000 in
theorem size_any (a b c d : Int) (w : World) :
    Calls Tryz.prog 183 #[.agg #[.int .i64 a, .int .i64 b, .int .i64 c, .int .i64 d]] w fun e w' => e = .returned (.agg #[.int .i64 (wide a b c d), .int .i64 (high a b c d)]) ∧ Below w.heap.size w w' := by
  have HX : Hid (wide a b c d = if boxOk a b c d then c - a else 0) := (rfl : wide a b c d = _)
  have HY : Hid (high a b c d = if boxOk a b c d then d - b else 0) := (rfl : high a b c d = _)
  have B := below2 w (.cells #[.int .i64 a, .int .i64 b, .int .i64 c, .int .i64 d] 35) (.cells #[.int .i64 0, .int .i64 0] 33)
  have P0 := (Box4.new w (Nat.le_refl _) (.int .i64 a) (.int .i64 b) (.int .i64 c) (.int .i64 d) 35).below (below1 _ (.cells #[.int .i64 0, .int .i64 0] 33))
  have P1 := Box2.new (w.alloc (.cells #[.int .i64 a, .int .i64 b, .int .i64 c, .int .i64 d] 35)) (lo := w.heap.size) (by simp) (.int .i64 0) (.int .i64 0) 33
  simp only [World.size_alloc] at P1
  cases h1 : boxOk a b c d
  · skip
    go_enter Tryz.func183, Tryz.ntmps183
    go_wp2_with fail
    generalize ((w.alloc (.cells #[.int .i64 a, .int .i64 b, .int .i64 c, .int .i64 d] 35)).alloc (.cells #[.int .i64 0, .int .i64 0] 33)) = W0 at *
    refine (implBoxOk _ _ _ _ _).mono ?_
    rintro e w1 ⟨rfl, hb⟩
    rw [h1]
    replace B := B.trans (hb.mono B.size)
    replace P0 := P0.below hb
    replace P1 := P1.below hb
    clear hb
    have R1 := P1
    obtain ⟨k1, k2, k3, k4, kf, _⟩ := P0
    obtain ⟨d0, d1, df, _⟩ := P1
    go_wp2
    rw [HX.out, HY.out, h1]
    exact bodyPost_ret (v := _) (by simp [results, Tryz.results183, go_sem, d0, d1]; try rfl) rfl ⟨by simp, (B.setCell (by simp) _).setCell (by simp) _⟩
  · obtain ⟨q1, q2, q3, q4⟩ := boxOk_crd h1
    go_enter Tryz.func183, Tryz.ntmps183
    go_wp2_with fail
    generalize ((w.alloc (.cells #[.int .i64 a, .int .i64 b, .int .i64 c, .int .i64 d] 35)).alloc (.cells #[.int .i64 0, .int .i64 0] 33)) = W0 at *
    refine (implBoxOk _ _ _ _ _).mono ?_
    rintro e w1 ⟨rfl, hb⟩
    rw [h1]
    replace B := B.trans (hb.mono B.size)
    replace P0 := P0.below hb
    replace P1 := P1.below hb
    clear hb
    have R1 := P1
    obtain ⟨k1, k2, k3, k4, kf, _⟩ := P0
    obtain ⟨d0, d1, df, _⟩ := P1
    go_wp2_with fail
    refine (way_any _ _ _ _ _ q1 q2 q3 q4).mono ?_
    rintro e w3 ⟨rfl, hb⟩
    replace B := B.trans (hb.mono B.size)
    replace R1 := R1.below hb
    clear hb d0 d1 df k1 k2 k3 k4 kf
    have R2 := R1
    obtain ⟨d0, d1, df, _⟩ := R1
    go_wp2
    rw [HX.out, HY.out, h1]
    exact bodyPost_ret (v := _) (by simp [results, Tryz.results183, go_sem, d0, d1]; try rfl) rfl ⟨by simp, (B.setCell (by simp) _).setCell (by simp) _⟩

theorem wide_dif (a b c d : Int) : Dif (wide a b c d) := by
  unfold wide
  cases h : boxOk a b c d
  · simp [Dif]
  · obtain ⟨q1, q2, q3, q4⟩ := boxOk_crd h
    simpa using q3.dif q1
theorem high_dif (a b c d : Int) : Dif (high a b c d) := by
  unfold high
  cases h : boxOk a b c d
  · simp [Dif]
  · obtain ⟨q1, q2, q3, q4⟩ := boxOk_crd h
    simpa using q4.dif q2
theorem area_is (a b c d : Int) : area a b c d = wide a b c d * high a b c d := by unfold area wide high; cases boxOk a b c d <;> simp
theorem marg_is (a b c d : Int) : marg a b c d = wide a b c d + high a b c d := by unfold marg wide high; cases boxOk a b c d <;> simp

set_option maxHeartbeats 4000000 in
theorem implBoxArea (a b c d : Int) (w : World) :
    Calls Tryz.prog 144 #[.agg #[.int .i64 a, .int .i64 b, .int .i64 c, .int .i64 d]] w fun e w' => e = .returned (.int .i64 (area a b c d)) ∧ Below w.heap.size w w' := by
  rw [area_is]
  have q1 := wide_dif a b c d
  have q2 := high_dif a b c d
  obtain ⟨p1, p2⟩ := q1.mul q2
  unfold Dif at q1 q2
  obtain ⟨a1, a2⟩ := q1
  obtain ⟨b1, b2⟩ := q2
  have k0 := bcB w a b c d 35
  have B0 := below1 w (.cells #[.int .i64 a, .int .i64 b, .int .i64 c, .int .i64 d] 35)
  go_enter Tryz.func144, Tryz.ntmps144
  go_wp2_with fail
  generalize (w.alloc (.cells #[.int .i64 a, .int .i64 b, .int .i64 c, .int .i64 d] 35)) = W0 at *
  have B : Below W0.heap.size W0 W0 := Below.refl _ _
  have K := k0
  obtain ⟨k1, k2, k3, k4⟩ := k0
  go_wp2_with ((go_at_call 183; refine (size_any _ _ _ _ _).mono ?_; rintro e w1 ⟨rfl, hb⟩; replace B := B.trans (hb.mono B.size); clear hb; obtain ⟨k1, k2, k3, k4⟩ := bkB B K))
  go_ret
  exact ⟨rfl, B0.trans ((B.alloc B.size _).mono B0.size)⟩

end Go.Proofs.YtdkhaghcnijilaaGreat
