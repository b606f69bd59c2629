/- The law on BoxOf: at every argument the program's BoxOf is the specification's, field by field; it writes into no argument. -/
import Derived.Test.YtokmphhpnoochalBoxS
import Derived.Test.YtokmphhpnoochalPtsL
namespace Go.Proofs.Ytokmphhpnoochal
open Go.RowKit

set_option maxRecDepth 20000 in
set_option maxHeartbeats 2000000 in
theorem lawBoxOf (a : Option Addr) (cap : Nat) (ps : List (Int × Int)) (w : World) (h : SeesP w a cap ps) :
    Calls Try.prog 8 #[.slice a ps.length cap] w fun e w' => e = .returned (.bool true) ∧ Below w.heap.size w w' := by
  have hm := h.max
  have hf := h.fits
  unfold maxLen at hm
  by_cases hs : ps.length ≤ 1048576
  · obtain ⟨u1, H1⟩ : ∃ u, Hid (bA ps = u) := ⟨_, rfl⟩
    obtain ⟨u2, H2⟩ : ∃ u, Hid (bB ps = u) := ⟨_, rfl⟩
    obtain ⟨u3, H3⟩ : ∃ u, Hid (bC ps = u) := ⟨_, rfl⟩
    obtain ⟨u4, H4⟩ : ∃ u, Hid (bD ps = u) := ⟨_, rfl⟩
    obtain ⟨ok, H5⟩ : ∃ u, Hid (bOk ps = u) := ⟨_, rfl⟩
    have hok : (ok != ok) = false := by cases ok <;> rfl
    go_enter Try.func8, Try.ntmps8
    go_wp2_with fail
    refine (szPts _ _ _ _ _ (by omega) (by omega)).mono ?_
    rintro e w0 ⟨rfl, rfl⟩
    rw [if_neg (by omega)]
    go_wp2_with fail
    refine (toPts _ _ _ _ h hs).mono ?_
    rintro e w1 ⟨a1, c1, rfl, s1, B⟩
    go_wp2_with fail
    refine (specBoxOf _ _ _ _ s1).mono ?_
    rintro e w2 ⟨rfl, hb⟩
    rw [H1.out, H2.out, H3.out, H4.out, H5.out]
    replace B := B.trans (hb.mono B.size)
    clear hb s1
    have K0 := Box4.new w2 (Nat.le_refl _) (.int .i64 u1) (.int .i64 u2) (.int .i64 u3) (.int .i64 u4) 44
    have bn := below1 w2 (.cells #[.int .i64 u1, .int .i64 u2, .int .i64 u3, .int .i64 u4] 44)
    replace B := B.trans (bn.mono B.size)
    clear bn
    go_wp2_with fail
    generalize hQ : w2.heap.size = q at *
    generalize w2.alloc (.cells #[.int .i64 u1, .int .i64 u2, .int .i64 u3, .int .i64 u4] 44) = W2 at *
    clear hQ
    refine (toPts _ _ _ _ (h.below B) hs).mono ?_
    rintro e w3 ⟨a3, c3, rfl, s3, hb⟩
    replace B := B.trans (hb.mono B.size)
    replace K0 := K0.below hb
    clear hb
    go_wp2_with fail
    refine (implBoxOf _ _ _ _ s3).mono ?_
    rintro e w4 ⟨rfl, hb⟩
    rw [H1.out, H2.out, H3.out, H4.out, H5.out]
    replace B := B.trans (hb.mono B.size)
    replace K0 := K0.below hb
    replace s3 := s3.below hb
    clear hb
    have bn := below1 w4 (.cells #[.int .i64 u1, .int .i64 u2, .int .i64 u3, .int .i64 u4] 44)
    have Z : q < w4.heap.size := K0.lt
    obtain ⟨c0, k1, k2, k3, _, _⟩ := id K0
    go_wp2_with fail
    refine (eqBox_any _ _ _ _ _ _ _ _ _).mono ?_
    rintro e w5 ⟨rfl, hb⟩
    rw [eqX_refl]
    replace bn := bn.trans (hb.mono bn.size)
    replace B := B.trans (bn.mono B.size)
    replace s3 := s3.below bn
    clear hb bn c0 k1 k2 k3 K0 Z
    go_wp2_with fail
    refine (toPts _ _ _ _ (h.below B) hs).mono ?_
    rintro e w6 ⟨a6, c6, rfl, s6, hb⟩
    replace B := B.trans (hb.mono B.size)
    replace s3 := s3.below hb
    clear hb
    go_wp2_with fail
    refine (eqPts _ _ _ _ _ _ s3 s6).mono ?_
    rintro e w7 ⟨rfl, hb⟩
    replace B := B.trans (hb.mono B.size)
    clear hb
    go_wp2
    go_ret
    exact ⟨rfl, B⟩
  · go_enter Try.func8, Try.ntmps8
    go_wp2_with fail
    refine (szPts _ _ _ _ _ (by omega) (by omega)).mono ?_
    rintro e w0 ⟨rfl, rfl⟩
    rw [if_pos (by omega)]
    go_wp2
    go_ret
    exact ⟨rfl, Below.refl _ _⟩
end Go.Proofs.Ytokmphhpnoochal
