/- The law on TwiceArea: at every argument the program's TwiceArea is the specification's; it writes into no argument. -/
import Derived.Test.YtfddiojcahbkfanRingE
namespace Go.Proofs.Ytfddiojcahbkfan
open Go.RowKit

set_option maxRecDepth 20000 in
set_option maxHeartbeats 1000000 in
theorem lawTwiceArea (a : Option Addr) (cap : Nat) (ps : List (Int × Int)) (w : World) (h : SeesP w a cap ps) :
    Calls Try.prog 6 #[.slice a ps.length cap] w fun e w' => e = .returned (.bool true) ∧ Below w.heap.size w w' := by
  have hm := h.max
  have hf := h.fits
  unfold maxLen at hm
  by_cases hs : ps.length ≤ 1048576
  · obtain ⟨z, HZ⟩ : ∃ u, Hid (twA ps = u) := ⟨_, rfl⟩
    go_enter Try.func6, Try.ntmps6
    go_wp2_with fail
    refine (szPts _ _ _ _ _ (by omega) (by omega)).mono ?_
    rintro e w0 ⟨rfl, rfl⟩
    rw [if_neg (by omega)]
    go_wp2_with fail
    refine (toPts _ _ _ _ h hs).mono ?_
    rintro e w1 ⟨a1, c1, rfl, s1, B⟩
    go_wp2_with fail
    refine (specTwice _ _ _ _ s1).mono ?_
    rintro e w2 ⟨rfl, hb⟩
    rw [HZ.out]
    replace B := B.trans (hb.mono B.size)
    clear hb s1
    go_wp2_with fail
    refine (toPts _ _ _ _ (h.below B) hs).mono ?_
    rintro e w3 ⟨a3, c3, rfl, s3, hb⟩
    replace B := B.trans (hb.mono B.size)
    clear hb
    go_wp2_with fail
    refine (implTwice _ _ _ _ s3).mono ?_
    rintro e w4 ⟨rfl, hb⟩
    rw [HZ.out]
    replace B := B.trans (hb.mono B.size)
    replace s3 := s3.below hb
    clear hb
    go_wp2_with fail
    refine (toPts _ _ _ _ (h.below B) hs).mono ?_
    rintro e w6 ⟨a6, c6, rfl, s6, hb⟩
    replace B := B.trans (hb.mono B.size)
    replace s3 := s3.below hb
    clear hb
    go_wp2_with fail
    refine (eqPts _ _ _ _ _ _ s3 s6).mono ?_
    rintro e w7 ⟨rfl, hb⟩
    replace B := B.trans (hb.mono B.size)
    clear hb
    go_wp2
    go_ret
    exact ⟨rfl, B⟩
  · go_enter Try.func6, Try.ntmps6
    go_wp2_with fail
    refine (szPts _ _ _ _ _ (by omega) (by omega)).mono ?_
    rintro e w0 ⟨rfl, rfl⟩
    rw [if_pos (by omega)]
    go_wp2
    go_ret
    exact ⟨rfl, Below.refl _ _⟩
end Go.Proofs.Ytfddiojcahbkfan
