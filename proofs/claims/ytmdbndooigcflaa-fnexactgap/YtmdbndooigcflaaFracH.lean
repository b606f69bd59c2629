/- The laws' marks on a fraction, held. -/
import Derived.Test.YtmdbndooigcflaaEq
namespace Go.Proofs.Ytmdbndooigcflaa
open Go.RowKit

set_option maxHeartbeats 1000000 in
theorem heldF (g h : Bool) (a b : Option Addr) (c d n m : Nat) (k : Int) (w : World) (h1 : Sees w a c (marks k n)) (h2 : Sees w b d (marks (k + n) m)) (hk : 0 ≤ k) (hs : k + n + m < 4294967296) :
    Calls Try.prog 10 #[.agg #[.bool g, .slice a n c, .bool h, .slice b m d], .int .i64 k] w fun e w' => e = .returned (.int .i64 (k + n + m)) ∧ Below w.heap.size w w' := by
  have h0 : 0 ≤ k + n := by omega
  have h0' : 0 ≤ k + n + m := by omega
  have B0 := below1 w (.cells #[.bool g, .slice a n c, .bool h, .slice b m d] 28)
  go_enter Try.func10, Try.ntmps10
  go_wp2_with fail
  refine (heldN g a c n k _ (h1.below B0) hk (by omega)).mono ?_
  rintro e w1 ⟨rfl, hb⟩
  obtain ⟨q, _⟩ := at_block hb (b := w.heap.size) (by simp)
  have B1 := B0.trans (hb.mono (by simp))
  clear hb
  go_wp2_with fail
  refine (heldN h b d m (k + n) _ (h2.below B1) h0 (by omega)).mono ?_
  rintro e w2 ⟨rfl, hb⟩
  have B2 := B1.trans (hb.mono B1.size)
  go_wp2
  go_ret
  exact ⟨rfl, B2⟩
end Go.Proofs.Ytmdbndooigcflaa
