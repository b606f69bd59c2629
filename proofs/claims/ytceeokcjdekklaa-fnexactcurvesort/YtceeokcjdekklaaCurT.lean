/- CurveOf of the specification: a point's place on the curve. -/
import Derived.Test.YtceeokcjdekklaaCurS
import Derived.Test.YtceeokcjdekklaaTree
namespace Go.Proofs.Ytceeokcjdekklaa
open Go.RowKit

/-- A point's place on the curve, -1 where it is none. -/
def cvOf (x y : Int) : Int := if ptOk x y then hOf 25 (x + 10000000) (y + 10000000) else -1
theorem cvCrd {x y : Int} (h : ptOk x y = true) : (-10000000 ≤ x ∧ x ≤ 10000000) ∧ (-10000000 ≤ y ∧ y ≤ 10000000) := by
  unfold ptOk inB at h
  simp only [Bool.and_eq_true, decide_eq_true_eq] at h
  omega
theorem l10Half_any (n : Int) (w : World) (h : -9223372036854775808 ≤ n ∧ n ≤ 9223372036854775807) :
    Calls Try.prog 23 #[.int .i64 n] w fun e w' => e = .returned (.int .i64 (n / 2)) ∧ Below w.heap.size w w' := by
  have wh : wrap64 (n / 2) = n / 2 := by unfold wrap64; omega
  go_enter Try.func23, Try.ntmps23
  go_wp2
  go_ret
  exact ⟨rfl, Below.refl _ _⟩

set_option maxRecDepth 20000 in
set_option maxHeartbeats 1000000 in
theorem specCurveOf (x y : Int) (w : World) :
    Calls Try.prog 22 #[.agg #[.int .i64 x, .int .i64 y]] w fun e w' => e = .returned (.int .i64 (cvOf x y)) ∧ Below w.heap.size w w' := by
  have B0 := below1 w (.cells #[.int .i64 x, .int .i64 y] 35)
  obtain ⟨k0, k1, _, _⟩ := Box2.new w (lo := w.heap.size) (Nat.le_refl _) (.int .i64 x) (.int .i64 y) 35
  cases ok : ptOk x y
  · have V : Hid (cvOf x y = -1) := by show _ = _; unfold cvOf; rw [ok]; rfl
    go_enter Try.func22, Try.ntmps22
    go_wp2_with fail
    generalize w.alloc (.cells #[.int .i64 x, .int .i64 y] 35) = W0 at *
    refine (specPtOk x y _).mono ?_
    rintro e w1 ⟨rfl, hb⟩
    rw [ok]
    have B1 := B0.trans (hb.mono B0.size)
    clear hb
    go_wp2
    go_ret
    exact ⟨by rw [V.out]; rfl, B1⟩
  · have V : Hid (cvOf x y = hOf 25 (x + 10000000) (y + 10000000)) := by show _ = _; unfold cvOf; rw [ok]; rfl
    have C := cvCrd ok
    have wx : wrap64 (x + 10000000) = x + 10000000 := by unfold wrap64; omega
    have wy : wrap64 (y + 10000000) = y + 10000000 := by unfold wrap64; omega
    go_enter Try.func22, Try.ntmps22
    go_wp2_with fail
    generalize w.alloc (.cells #[.int .i64 x, .int .i64 y] 35) = W0 at *
    refine (specPtOk x y _).mono ?_
    rintro e w1 ⟨rfl, hb⟩
    rw [ok]
    have B1 := B0.trans (hb.mono B0.size)
    replace k0 := bat hb k0
    replace k1 := bat hb k1
    clear hb
    go_wp2_with fail
    refine (l10Of_any (x + 10000000) (y + 10000000) _ (by omega) (by omega)).mono ?_
    rintro e w2 ⟨rfl, hb⟩
    have B2 := B1.trans (hb.mono B1.size)
    clear hb
    go_wp2
    go_ret
    exact ⟨by rw [V.out]; rfl, B2⟩
end Go.Proofs.Ytceeokcjdekklaa
