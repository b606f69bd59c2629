/- Overlaps, points in boxes, boxes in boxes. -/
import Derived.Test.YtgfpmhpjcadhjaaPtG
namespace Go.Proofs.Ytgfpmhpjcadhjaa
open Go.RowKit

def ovl (a b c d m n r s : Int) : Bool := boxOk a b c d && (boxOk m n r s && (decide (a ≤ r) && (decide (m ≤ c) && (decide (b ≤ s) && decide (n ≤ d)))))
def inX (a b c d x y : Int) : Bool := boxOk a b c d && (ptOk x y && (inB x a c && inB y b d))
theorem boxOk_le {a b c d : Int} (h : boxOk a b c d = true) : a ≤ c ∧ b ≤ d := by unfold boxOk at h; simp at h; exact h.2.2
theorem boxOk_crd {a b c d : Int} (h : boxOk a b c d = true) : Crd a ∧ Crd b ∧ Crd c ∧ Crd d := by
  unfold boxOk ptOk at h
  simp only [Bool.and_eq_true, inB_true] at h
  unfold Crd
  omega
theorem ovl_rng (a b c d m n r s : Int) : ovl a b c d m n r s = (boxOk a b c d && (boxOk m n r s && (rng a c m r && rng b d n s))) := by
  unfold ovl
  cases h1 : boxOk a b c d
  · rfl
  · cases h2 : boxOk m n r s
    · rfl
    · have := boxOk_le h1
      have := boxOk_le h2
      rw [Bool.eq_iff_iff]
      simp [rng]
      omega
theorem boxOk_pt (x y : Int) : boxOk x y x y = ptOk x y := by unfold boxOk; cases ptOk x y <;> simp
theorem ovl_pt (a b c d x y : Int) : ovl a b c d x y x y = inX a b c d x y := by
  unfold ovl inX
  rw [boxOk_pt]
  cases h1 : boxOk a b c d
  · rfl
  · cases h2 : ptOk x y
    · rfl
    · rw [Bool.eq_iff_iff]
      simp [inB]
      omega

set_option maxHeartbeats 4000000 in
theorem implOverlap (a b c d m n r s : Int) (w : World) :
    Calls Try.prog 50 #[.agg #[.int .i64 a, .int .i64 b, .int .i64 c, .int .i64 d], .agg #[.int .i64 m, .int .i64 n, .int .i64 r, .int .i64 s]] w fun e w' => e = .returned (.bool (ovl a b c d m n r s)) ∧ Below w.heap.size w w' := by
  have H : Hid (ovl a b c d m n r s = (boxOk a b c d && (boxOk m n r s && (rng a c m r && rng b d n s)))) := ovl_rng a b c d m n r s
  cases h1 : boxOk a b c d <;> cases h2 : boxOk m n r s <;> cases h3 : rng a c m r
  all_goals
    have k0 := bcBB w a b c d m n r s 29 29
    have B0 := below2 w (.cells #[.int .i64 a, .int .i64 b, .int .i64 c, .int .i64 d] 29) (.cells #[.int .i64 m, .int .i64 n, .int .i64 r, .int .i64 s] 29)
    go_enter Try.func50, Try.ntmps50
    go_wp2_with fail
    generalize ((w.alloc (.cells #[.int .i64 a, .int .i64 b, .int .i64 c, .int .i64 d] 29)).alloc (.cells #[.int .i64 m, .int .i64 n, .int .i64 r, .int .i64 s] 29)) = W0 at *
    have B : Below W0.heap.size W0 W0 := Below.refl _ _
    have K := k0
    obtain ⟨k1, k2, k3, k4, k5, k6, k7, k8⟩ := k0
    go_wp2_with (first | (go_at_call 38; refine (implBoxOk _ _ _ _ _).mono ?_; rintro e w1 ⟨rfl, hb⟩; (first | rw [h1] | rw [h2]); replace B := B.trans (hb.mono B.size); clear hb; obtain ⟨k1, k2, k3, k4, k5, k6, k7, k8⟩ := bkBB B K) | (go_at_call 64; refine (rangesMeet_any _ _ _ _ _).mono ?_; rintro e w1 ⟨rfl, rfl⟩; (first | rw [h3] | skip)))
  all_goals
    go_ret
    exact ⟨ret_bool (by rw [H.out]; simp [h1, h2, h3]), B0.trans (B.mono B0.size)⟩

set_option maxHeartbeats 4000000 in
theorem specInBox (a b c d x y : Int) (w : World) :
    Calls Try.prog 37 #[.agg #[.int .i64 a, .int .i64 b, .int .i64 c, .int .i64 d], .agg #[.int .i64 x, .int .i64 y]] w fun e w' => e = .returned (.bool (inX a b c d x y)) ∧ Below w.heap.size w w' := by
  have H : Hid (inX a b c d x y = (boxOk a b c d && (ptOk x y && (inB x a c && inB y b d)))) := (rfl : inX a b c d x y = _)
  cases h1 : boxOk a b c d <;> cases h2 : ptOk x y <;> cases h3 : inB x a c
  all_goals
    have k0 := bcBP w a b c d x y 29 27
    have B0 := below2 w (.cells #[.int .i64 a, .int .i64 b, .int .i64 c, .int .i64 d] 29) (.cells #[.int .i64 x, .int .i64 y] 27)
    go_enter Try.func37, Try.ntmps37
    go_wp2_with fail
    generalize ((w.alloc (.cells #[.int .i64 a, .int .i64 b, .int .i64 c, .int .i64 d] 29)).alloc (.cells #[.int .i64 x, .int .i64 y] 27)) = W0 at *
    have B : Below W0.heap.size W0 W0 := Below.refl _ _
    have K := k0
    obtain ⟨k1, k2, k3, k4, k5, k6⟩ := k0
    go_wp2_with (first | (go_at_call 36; refine (specBoxOk _ _ _ _ _).mono ?_; rintro e w1 ⟨rfl, hb⟩; rw [h1]; replace B := B.trans (hb.mono B.size); clear hb; obtain ⟨k1, k2, k3, k4, k5, k6⟩ := bkBP B K) | (go_at_call 28; refine (specPtOk _ _ _).mono ?_; rintro e w1 ⟨rfl, hb⟩; rw [h2]; replace B := B.trans (hb.mono B.size); clear hb; obtain ⟨k1, k2, k3, k4, k5, k6⟩ := bkBP B K) | (go_at_call 42; refine (l1In_any _ _ _ _).mono ?_; rintro e w1 ⟨rfl, rfl⟩; (first | rw [h3] | skip)))
  all_goals
    go_ret
    exact ⟨ret_bool (by rw [H.out]; simp [h1, h2, h3]), B0.trans (B.mono B0.size)⟩

set_option maxHeartbeats 2000000 in
theorem implInBox (a b c d x y : Int) (w : World) :
    Calls Try.prog 39 #[.agg #[.int .i64 a, .int .i64 b, .int .i64 c, .int .i64 d], .agg #[.int .i64 x, .int .i64 y]] w fun e w' => e = .returned (.bool (inX a b c d x y)) ∧ Below w.heap.size w w' := by
  have H : Hid (ovl a b c d x y x y = inX a b c d x y) := ovl_pt a b c d x y
  have k0 := bcBP w a b c d x y 29 27
  have B0 := below2 w (.cells #[.int .i64 a, .int .i64 b, .int .i64 c, .int .i64 d] 29) (.cells #[.int .i64 x, .int .i64 y] 27)
  go_enter Try.func39, Try.ntmps39
  go_wp2_with fail
  generalize ((w.alloc (.cells #[.int .i64 a, .int .i64 b, .int .i64 c, .int .i64 d] 29)).alloc (.cells #[.int .i64 x, .int .i64 y] 27)) = W0 at *
  have B : Below W0.heap.size W0 W0 := Below.refl _ _
  go_region_held3 (fun w' => w'.cell? ⟨w.heap.size, 0, none⟩ = some (.int .i64 a) ∧ w'.cell? ⟨w.heap.size, 1, none⟩ = some (.int .i64 b) ∧ w'.cell? ⟨w.heap.size, 2, none⟩ = some (.int .i64 c) ∧ w'.cell? ⟨w.heap.size, 3, none⟩ = some (.int .i64 d) ∧ w'.cell? ⟨w.heap.size + 1, 0, none⟩ = some (.int .i64 x) ∧ w'.cell? ⟨w.heap.size + 1, 1, none⟩ = some (.int .i64 y))
    (first | exact k0 | exact bkBP B k0 | exact bkBP B.drew k0)
    (first
    | (go_at_call 46; refine (boxAt_any _ _ _).mono ?_; rintro e w1 ⟨rfl, hb⟩; (first | replace B := B.trans (hb.mono B.size) | replace B := B.drew.trans (hb.mono B.drew.size)))
    | (go_at_call 50; refine (implOverlap _ _ _ _ _ _ _ _ _).mono ?_; rintro e w1 ⟨rfl, hb⟩; rw [H.out]; (first | replace B := B.trans (hb.mono B.size) | replace B := B.drew.trans (hb.mono B.drew.size))))
  all_goals
    go_wp2
    go_ret
    exact ⟨rfl, B0.trans (B.mono B0.size)⟩

end Go.Proofs.Ytgfpmhpjcadhjaa
