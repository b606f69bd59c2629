/- CurveKey of the program: the place of a box's middle. -/
import Derived.Test.YtbnoddemohhpgaaCurI
import Derived.Test.YtbnoddemohhpgaaCurK
namespace Go.Proofs.Ytbnoddemohhpgaa
open Go.RowKit

set_option maxRecDepth 20000 in
set_option maxHeartbeats 1000000 in
theorem implCurveKey (a b c d : Int) (w : World) :
    Calls Try.prog 7 #[.agg #[.int .i64 a, .int .i64 b, .int .i64 c, .int .i64 d]] w fun e w' => e = .returned (.int .i64 (cvKey a b c d)) ∧ Below w.heap.size w w' := by
  have B0 := below1 w (.cells #[.int .i64 a, .int .i64 b, .int .i64 c, .int .i64 d] 33)
  have V4 := Box4.new w (lo := w.heap.size) (Nat.le_refl _) (.int .i64 a) (.int .i64 b) (.int .i64 c) (.int .i64 d) 33
  obtain ⟨k0, k1, k2, k3, _, _⟩ := id V4
  cases ok : boxOk a b c d
  · have V : Hid (cvKey a b c d = -1) := by show _ = _; unfold cvKey; rw [ok]; rfl
    go_enter Try.func7, Try.ntmps7
    go_wp2_with fail
    generalize w.alloc (.cells #[.int .i64 a, .int .i64 b, .int .i64 c, .int .i64 d] 33) = W0 at *
    refine (implBoxOk a b c d _).mono ?_
    rintro e w1 ⟨rfl, hb⟩
    rw [ok]
    have B1 := B0.trans (hb.mono B0.size)
    clear hb
    go_wp2
    go_ret
    exact ⟨by rw [V.out]; rfl, B1⟩
  · have V : Hid (cvKey a b c d = cvOf ((a + c) / 2) ((b + d) / 2)) := by show _ = _; unfold cvKey; rw [ok]; rfl
    have C : ((-10000000 ≤ a ∧ a ≤ 10000000) ∧ (-10000000 ≤ b ∧ b ≤ 10000000)) ∧ ((-10000000 ≤ c ∧ c ≤ 10000000) ∧ (-10000000 ≤ d ∧ d ≤ 10000000)) := by
      unfold boxOk at ok
      simp only [Bool.and_eq_true] at ok
      exact ⟨cvCrd ok.1, cvCrd ok.2.1⟩
    have wx : wrap64 (a + c) = a + c := by unfold wrap64; omega
    have wy : wrap64 (b + d) = b + d := by unfold wrap64; omega
    have hx : wrap64 ((a + c) / 2) = (a + c) / 2 := by unfold wrap64; omega
    have hy : wrap64 ((b + d) / 2) = (b + d) / 2 := by unfold wrap64; omega
    go_enter Try.func7, Try.ntmps7
    go_wp2_with fail
    generalize w.alloc (.cells #[.int .i64 a, .int .i64 b, .int .i64 c, .int .i64 d] 33) = W0 at *
    refine (implBoxOk a b c d _).mono ?_
    rintro e W1 ⟨rfl, hb⟩
    rw [ok]
    have B1 := B0.trans (hb.mono B0.size)
    replace V4 := V4.below hb
    clear hb k0 k1 k2 k3
    obtain ⟨k0, k1, k2, k3, _, _⟩ := id V4
    go_wp2_with fail
    refine (implCurveOf ((a + c) / 2) ((b + d) / 2) _).mono ?_
    rintro e w2 ⟨rfl, hb⟩
    replace B1 := B1.trans (hb.mono B1.size)
    clear hb
    go_wp2
    go_ret
    exact ⟨by rw [V.out]; rfl, B1⟩
end Go.Proofs.Ytbnoddemohhpgaa
