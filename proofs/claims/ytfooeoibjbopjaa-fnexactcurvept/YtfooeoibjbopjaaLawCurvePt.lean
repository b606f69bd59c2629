/- The law on CurvePt: at every argument the program's CurvePt is the specification's. -/
import Derived.Test.YtfooeoibjbopjaaBoxW
import Derived.Test.YtfooeoibjbopjaaCurU
import Derived.Test.YtfooeoibjbopjaaCurV
namespace Go.Proofs.Ytfooeoibjbopjaa
open Go.RowKit

set_option maxHeartbeats 2000000 in
theorem lawCurvePt (n : Int) (w : World) (_h1 : -9223372036854775808 ≤ n) (_h2 : n ≤ 9223372036854775807) :
    Calls Try.prog 4 #[.int .i64 n] w fun e w' => e = .returned (.bool true) ∧ Below w.heap.size w w' := by
  obtain ⟨X, hX⟩ : ∃ X, Hid ((cvPt n).1.1 = X) := ⟨_, rfl⟩
  obtain ⟨Y, hY⟩ : ∃ X, Hid ((cvPt n).1.2 = X) := ⟨_, rfl⟩
  obtain ⟨b, hb0⟩ : ∃ b, Hid ((cvPt n).2 = b) := ⟨_, rfl⟩
  have E : eqP X Y X Y = true := by unfold eqP; simp
  have bb : (b != b) = false := by simp
  go_enter Try.func4, Try.ntmps4
  go_wp2_with fail
  refine (specCurvePt n _).mono ?_
  rintro e w1 ⟨rfl, B⟩
  rw [hX.out, hY.out, hb0.out]
  have N1 := below1 w1 (.cells #[.int .i64 X, .int .i64 Y] 25)
  have A1 := Box2.new w1 (lo := w.heap.size) B.size (.int .i64 X) (.int .i64 Y) 25
  replace B := B.trans (N1.mono B.size)
  clear N1
  go_wp2_with fail
  generalize w1.alloc (.cells #[.int .i64 X, .int .i64 Y] 25) = W1 at *
  refine (implCurvePt n _).mono ?_
  rintro e w2 ⟨rfl, hb⟩
  rw [hX.out, hY.out, hb0.out]
  replace B := B.trans (hb.mono B.size)
  replace A1 := A1.below hb
  clear hb
  have N1 := below1 w2 (.cells #[.int .i64 X, .int .i64 Y] 25)
  have A2 := Box2.new w2 (lo := w.heap.size) B.size (.int .i64 X) (.int .i64 Y) 25
  replace B := B.trans (N1.mono B.size)
  replace A1 := A1.below N1
  obtain ⟨k0, k1, _, _⟩ := A1
  obtain ⟨k2, k3, _, _⟩ := A2
  clear N1
  go_wp2_with fail
  generalize w2.alloc (.cells #[.int .i64 X, .int .i64 Y] 25) = W2 at *
  refine (eqPt_any _ _ _ _ _).mono ?_
  rintro e w3 ⟨rfl, hb⟩
  rw [E]
  replace B := B.trans (hb.mono B.size)
  go_wp2
  go_ret
  exact ⟨rfl, B⟩
end Go.Proofs.Ytfooeoibjbopjaa
