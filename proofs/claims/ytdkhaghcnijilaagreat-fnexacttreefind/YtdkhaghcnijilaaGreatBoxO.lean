/- Overlaps, points in boxes, boxes in boxes. -/
import Derived.Test.YtdkhaghcnijilaaGreatPtG
namespace Go.Proofs.YtdkhaghcnijilaaGreat
open Go.RowKit

def ovl (a b c d m n r s : Int) : Bool := boxOk a b c d && (boxOk m n r s && (decide (a ≤ r) && (decide (m ≤ c) && (decide (b ≤ s) && decide (n ≤ d)))))
def inX (a b c d x y : Int) : Bool := boxOk a b c d && (ptOk x y && (inB x a c && inB y b d))
theorem boxOk_le {a b c d : Int} (h : boxOk a b c d = true) : a ≤ c ∧ b ≤ d := by unfold boxOk at h; simp at h; exact h.2.2
theorem boxOk_crd {a b c d : Int} (h : boxOk a b c d = true) : Crd a ∧ Crd b ∧ Crd c ∧ Crd d := by
  unfold boxOk ptOk at h
  simp only [Bool.and_eq_true, inB_true] at h
  unfold Crd
  omega
theorem ovl_rng (a b c d m n r s : Int) : ovl a b c d m n r s = (boxOk a b c d && (boxOk m n r s && (rng a c m r && rng b d n s))) := by
  unfold ovl
  cases h1 : boxOk a b c d
  · rfl
  · cases h2 : boxOk m n r s
    · rfl
    · have := boxOk_le h1
      have := boxOk_le h2
      rw [Bool.eq_iff_iff]
      simp [rng]
      omega
theorem boxOk_pt (x y : Int) : boxOk x y x y = ptOk x y := by unfold boxOk; cases ptOk x y <;> simp
theorem ovl_pt (a b c d x y : Int) : ovl a b c d x y x y = inX a b c d x y := by
  unfold ovl inX
  rw [boxOk_pt]
  cases h1 : boxOk a b c d
  · rfl
  · cases h2 : ptOk x y
    · rfl
    · rw [Bool.eq_iff_iff]
      simp [inB]
      omega

set_option maxHeartbeats 4000000 in
theorem specOverlap (a b c d m n r s : Int) (w : World) :
    Calls Tryz.prog 63 #[.agg #[.int .i64 a, .int .i64 b, .int .i64 c, .int .i64 d], .agg #[.int .i64 m, .int .i64 n, .int .i64 r, .int .i64 s]] w fun e w' => e = .returned (.bool (ovl a b c d m n r s)) ∧ Below w.heap.size w w' := by
  have H : Hid (ovl a b c d m n r s = (boxOk a b c d && (boxOk m n r s && (decide (a ≤ r) && (decide (m ≤ c) && (decide (b ≤ s) && decide (n ≤ d))))))) := (rfl : ovl a b c d m n r s = _)
  cases h1 : boxOk a b c d <;> cases h2 : boxOk m n r s
  all_goals
    have k0 := bcBB w a b c d m n r s 35 35
    have B0 := below2 w (.cells #[.int .i64 a, .int .i64 b, .int .i64 c, .int .i64 d] 35) (.cells #[.int .i64 m, .int .i64 n, .int .i64 r, .int .i64 s] 35)
    go_enter Tryz.func63, Tryz.ntmps63
    go_wp2_with fail
    generalize ((w.alloc (.cells #[.int .i64 a, .int .i64 b, .int .i64 c, .int .i64 d] 35)).alloc (.cells #[.int .i64 m, .int .i64 n, .int .i64 r, .int .i64 s] 35)) = W0 at *
    have B : Below W0.heap.size W0 W0 := Below.refl _ _
    have K := k0
    obtain ⟨k1, k2, k3, k4, k5, k6, k7, k8⟩ := k0
    go_wp2_with (first | (go_at_call 42; refine (specBoxOk _ _ _ _ _).mono ?_; rintro e w1 ⟨rfl, hb⟩; (first | rw [h1] | rw [h2]); replace B := B.trans (hb.mono B.size); clear hb; obtain ⟨k1, k2, k3, k4, k5, k6, k7, k8⟩ := bkBB B K))
  all_goals
    go_ret
    exact ⟨ret_bool (by rw [H.out]; simp_all <;> omega), B0.trans (B.mono B0.size)⟩

set_option maxHeartbeats 4000000 in
theorem implOverlap (a b c d m n r s : Int) (w : World) :
    Calls Tryz.prog 73 #[.agg #[.int .i64 a, .int .i64 b, .int .i64 c, .int .i64 d], .agg #[.int .i64 m, .int .i64 n, .int .i64 r, .int .i64 s]] w fun e w' => e = .returned (.bool (ovl a b c d m n r s)) ∧ Below w.heap.size w w' := by
  have H : Hid (ovl a b c d m n r s = (boxOk a b c d && (boxOk m n r s && (rng a c m r && rng b d n s)))) := ovl_rng a b c d m n r s
  cases h1 : boxOk a b c d <;> cases h2 : boxOk m n r s <;> cases h3 : rng a c m r
  all_goals
    have k0 := bcBB w a b c d m n r s 35 35
    have B0 := below2 w (.cells #[.int .i64 a, .int .i64 b, .int .i64 c, .int .i64 d] 35) (.cells #[.int .i64 m, .int .i64 n, .int .i64 r, .int .i64 s] 35)
    go_enter Tryz.func73, Tryz.ntmps73
    go_wp2_with fail
    generalize ((w.alloc (.cells #[.int .i64 a, .int .i64 b, .int .i64 c, .int .i64 d] 35)).alloc (.cells #[.int .i64 m, .int .i64 n, .int .i64 r, .int .i64 s] 35)) = W0 at *
    have B : Below W0.heap.size W0 W0 := Below.refl _ _
    have K := k0
    obtain ⟨k1, k2, k3, k4, k5, k6, k7, k8⟩ := k0
    go_wp2_with (first | (go_at_call 55; refine (implBoxOk _ _ _ _ _).mono ?_; rintro e w1 ⟨rfl, hb⟩; (first | rw [h1] | rw [h2]); replace B := B.trans (hb.mono B.size); clear hb; obtain ⟨k1, k2, k3, k4, k5, k6, k7, k8⟩ := bkBB B K) | (go_at_call 115; refine (rangesMeet_any _ _ _ _ _).mono ?_; rintro e w1 ⟨rfl, rfl⟩; (first | rw [h3] | skip)))
  all_goals
    go_ret
    exact ⟨ret_bool (by rw [H.out]; simp [h1, h2, h3]), B0.trans (B.mono B0.size)⟩

end Go.Proofs.YtdkhaghcnijilaaGreat
