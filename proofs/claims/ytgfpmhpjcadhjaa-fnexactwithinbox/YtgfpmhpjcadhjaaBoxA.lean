/- Boxes in boxes, areas, margins, gaps. -/
import Derived.Test.YtgfpmhpjcadhjaaBoxO
import Derived.Test.YtgfpmhpjcadhjaaPtS
namespace Go.Proofs.Ytgfpmhpjcadhjaa
open Go.RowKit

def insd (a b c d m n r s : Int) : Bool := boxOk a b c d && (inX m n r s a b && inX m n r s c d)
def area (a b c d : Int) : Int := if boxOk a b c d then (c - a) * (d - b) else 0
def marg (a b c d : Int) : Int := if boxOk a b c d then (c - a) + (d - b) else 0
def wide (a b c d : Int) : Int := if boxOk a b c d then c - a else 0
def high (a b c d : Int) : Int := if boxOk a b c d then d - b else 0

set_option maxHeartbeats 4000000 in
theorem specInside (a b c d m n r s : Int) (w : World) :
    Calls Try.prog 23 #[.agg #[.int .i64 a, .int .i64 b, .int .i64 c, .int .i64 d], .agg #[.int .i64 m, .int .i64 n, .int .i64 r, .int .i64 s]] w fun e w' => e = .returned (.bool (insd a b c d m n r s)) ∧ Below w.heap.size w w' := by
  have H : Hid (insd a b c d m n r s = (boxOk a b c d && (inX m n r s a b && inX m n r s c d))) := (rfl : insd a b c d m n r s = _)
  cases h1 : boxOk a b c d <;> cases h2 : inX m n r s a b
  all_goals
    have k0 := bcBB w a b c d m n r s 29 29
    have B0 := below2 w (.cells #[.int .i64 a, .int .i64 b, .int .i64 c, .int .i64 d] 29) (.cells #[.int .i64 m, .int .i64 n, .int .i64 r, .int .i64 s] 29)
    go_enter Try.func23, Try.ntmps23
    go_wp2_with fail
    generalize ((w.alloc (.cells #[.int .i64 a, .int .i64 b, .int .i64 c, .int .i64 d] 29)).alloc (.cells #[.int .i64 m, .int .i64 n, .int .i64 r, .int .i64 s] 29)) = W0 at *
    have B : Below W0.heap.size W0 W0 := Below.refl _ _
    have K := k0
    obtain ⟨k1, k2, k3, k4, k5, k6, k7, k8⟩ := k0
    go_wp2_with (first | (go_at_call 36; refine (specBoxOk _ _ _ _ _).mono ?_; rintro e w1 ⟨rfl, hb⟩; rw [h1]; replace B := B.trans (hb.mono B.size); clear hb; obtain ⟨k1, k2, k3, k4, k5, k6, k7, k8⟩ := bkBB B K) | (go_at_call 37; refine (specInBox _ _ _ _ _ _ _).mono ?_; rintro e w1 ⟨rfl, hb⟩; (first | rw [h2] | skip); replace B := B.trans (hb.mono B.size); clear hb; obtain ⟨k1, k2, k3, k4, k5, k6, k7, k8⟩ := bkBB B K))
  all_goals
    go_ret
    exact ⟨ret_bool (by rw [H.out]; simp [h1, h2]), B0.trans (B.mono B0.size)⟩

set_option maxHeartbeats 4000000 in
theorem implInside (a b c d m n r s : Int) (w : World) :
    Calls Try.prog 25 #[.agg #[.int .i64 a, .int .i64 b, .int .i64 c, .int .i64 d], .agg #[.int .i64 m, .int .i64 n, .int .i64 r, .int .i64 s]] w fun e w' => e = .returned (.bool (insd a b c d m n r s)) ∧ Below w.heap.size w w' := by
  have H : Hid (insd a b c d m n r s = (boxOk a b c d && (inX m n r s a b && inX m n r s c d))) := (rfl : insd a b c d m n r s = _)
  cases h1 : boxOk a b c d <;> cases h2 : inX m n r s a b
  all_goals
    have k0 := bcBB w a b c d m n r s 29 29
    have B0 := below2 w (.cells #[.int .i64 a, .int .i64 b, .int .i64 c, .int .i64 d] 29) (.cells #[.int .i64 m, .int .i64 n, .int .i64 r, .int .i64 s] 29)
    go_enter Try.func25, Try.ntmps25
    go_wp2_with fail
    generalize ((w.alloc (.cells #[.int .i64 a, .int .i64 b, .int .i64 c, .int .i64 d] 29)).alloc (.cells #[.int .i64 m, .int .i64 n, .int .i64 r, .int .i64 s] 29)) = W0 at *
    have B : Below W0.heap.size W0 W0 := Below.refl _ _
    have K := k0
    obtain ⟨k1, k2, k3, k4, k5, k6, k7, k8⟩ := k0
    go_wp2_with (first | (go_at_call 38; refine (implBoxOk _ _ _ _ _).mono ?_; rintro e w1 ⟨rfl, hb⟩; rw [h1]; replace B := B.trans (hb.mono B.size); clear hb; obtain ⟨k1, k2, k3, k4, k5, k6, k7, k8⟩ := bkBB B K) | (go_at_call 39; refine (implInBox _ _ _ _ _ _ _).mono ?_; rintro e w1 ⟨rfl, hb⟩; (first | rw [h2] | skip); replace B := B.trans (hb.mono B.size); clear hb; obtain ⟨k1, k2, k3, k4, k5, k6, k7, k8⟩ := bkBB B K))
  all_goals
    go_ret
    exact ⟨ret_bool (by rw [H.out]; simp [h1, h2]), B0.trans (B.mono B0.size)⟩

theorem wide_dif (a b c d : Int) : Dif (wide a b c d) := by
  unfold wide
  cases h : boxOk a b c d
  · simp [Dif]
  · obtain ⟨q1, q2, q3, q4⟩ := boxOk_crd h
    simpa using q3.dif q1
theorem high_dif (a b c d : Int) : Dif (high a b c d) := by
  unfold high
  cases h : boxOk a b c d
  · simp [Dif]
  · obtain ⟨q1, q2, q3, q4⟩ := boxOk_crd h
    simpa using q4.dif q2
theorem area_is (a b c d : Int) : area a b c d = wide a b c d * high a b c d := by unfold area wide high; cases boxOk a b c d <;> simp
theorem marg_is (a b c d : Int) : marg a b c d = wide a b c d + high a b c d := by unfold marg wide high; cases boxOk a b c d <;> simp

end Go.Proofs.Ytgfpmhpjcadhjaa
