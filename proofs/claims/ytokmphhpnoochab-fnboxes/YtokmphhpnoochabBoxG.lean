/- A point's gap to a box. -/
import Derived.Test.YtokmphhpnoochabBoxA
namespace Go.Proofs.Ytokmphhpnoochab
open Go.RowKit

def nr (x a c : Int) : Int := min (max x a) c
def bgap (a b c d x y : Int) : Int := if boxOk a b c d && ptOk x y then (x - nr x a c) * (x - nr x a c) + (y - nr y b d) * (y - nr y b d) else -1
theorem nr_crd {x a c : Int} (h : Crd x) (k : Crd a) (l : Crd c) : Crd (nr x a c) := by unfold Crd nr at *; omega
theorem near (x : Int) {a c : Int} (h : a ≤ c) : (x < a ∧ a ≤ c ∧ Hid (nr x a c = a)) ∨ (a ≤ x ∧ x ≤ c ∧ Hid (nr x a c = x)) ∨ (a ≤ x ∧ c < x ∧ Hid (nr x a c = c)) := by
  rcases Int.lt_or_le x a with k | k
  · exact .inl ⟨k, h, by show nr x a c = a; unfold nr; omega⟩
  · rcases Int.lt_or_le c x with l | l
    · exact .inr (.inr ⟨k, l, by show nr x a c = c; unfold nr; omega⟩)
    · exact .inr (.inl ⟨k, l, by show nr x a c = x; unfold nr; omega⟩)
theorem dif0 : Dif 0 := by unfold Dif; omega
theorem ptOk_crd {x y : Int} (h : ptOk x y = true) : Crd x ∧ Crd y := by
  unfold ptOk at h
  simp only [Bool.and_eq_true, inB_true] at h
  exact h

set_option maxHeartbeats 4000000 in
theorem implBoxGap (a b c d x y : Int) (w : World) :
    Calls Try.prog 29 #[.agg #[.int .i64 a, .int .i64 b, .int .i64 c, .int .i64 d], .agg #[.int .i64 x, .int .i64 y]] w fun e w' => e = .returned (.int .i64 (bgap a b c d x y)) ∧ Below w.heap.size w w' := by
  have H : Hid (bgap a b c d x y = if boxOk a b c d && ptOk x y then (x - nr x a c) * (x - nr x a c) + (y - nr y b d) * (y - nr y b d) else -1) := (rfl : bgap a b c d x y = _)
  by_cases h0 : boxOk a b c d = true ∧ ptOk x y = true
  · obtain ⟨h1, h2⟩ := h0
    obtain ⟨q1, q2, q3, q4⟩ := boxOk_crd h1
    obtain ⟨q5, q6⟩ := ptOk_crd h2
    have r1 := nr_crd q5 q1 q3
    have r2 := nr_crd q6 q2 q4
    have HX : Hid (nr x a c = min (max x a) c) := (rfl : nr x a c = _)
    have HY : Hid (nr y b d = min (max y b) d) := (rfl : nr y b d = _)
    have g1 := boxOk_le h1
    clear HX HY r1 r2
    obtain ⟨g2, g3⟩ := g1
    rcases near x g2 with ⟨e1, e2, ex⟩ | ⟨e1, e2, ex⟩ | ⟨e1, e2, ex⟩ <;> rcases near y g3 with ⟨e3, e4, ey⟩ | ⟨e3, e4, ey⟩ | ⟨e3, e4, ey⟩
    all_goals
      have k0 := bcBP w a b c d x y 31 25
      have B0 := below2 w (.cells #[.int .i64 a, .int .i64 b, .int .i64 c, .int .i64 d] 31) (.cells #[.int .i64 x, .int .i64 y] 25)
      go_enter Try.func29, Try.ntmps29
      go_wp2_with fail
      generalize ((w.alloc (.cells #[.int .i64 a, .int .i64 b, .int .i64 c, .int .i64 d] 31)).alloc (.cells #[.int .i64 x, .int .i64 y] 25)) = W0 at *
      have B : Below W0.heap.size W0 W0 := Below.refl _ _
      have Z : w.heap.size + 1 < W0.heap.size := World.block_lt_of_cell? _ _ k0.2.2.2.2.1
      have K := k0
      obtain ⟨k1, k2, k3, k4, k5, k6⟩ := k0
      go_wp2_with (first | (go_at_call 27; refine (implBoxOk _ _ _ _ _).mono ?_; rintro e w1 ⟨rfl, hb⟩; rw [h1]; replace B := B.trans (hb.mono B.size); clear hb; obtain ⟨k1, k2, k3, k4, k5, k6⟩ := bkBP B K; have z1 : w.heap.size < w1.heap.size := Nat.lt_of_lt_of_le (Nat.lt_of_succ_lt Z) B.size; have z2 : w.heap.size + 1 < w1.heap.size := Nat.lt_of_lt_of_le Z B.size) | (go_at_call 10; refine (implPtOk _ _ _).mono ?_; rintro e w1 ⟨rfl, hb⟩; rw [h2]; replace B := B.trans (hb.mono B.size); clear hb; obtain ⟨k1, k2, k3, k4, k5, k6⟩ := bkBP B K; have z1 : w.heap.size < w1.heap.size := Nat.lt_of_lt_of_le (Nat.lt_of_succ_lt Z) B.size; have z2 : w.heap.size + 1 < w1.heap.size := Nat.lt_of_lt_of_le Z B.size))
      clear k1 k2 k3 k4 k5 k6 K Z z1 z2
      refine (way_any _ _ _ _ _ (by assumption) (by assumption) (by assumption) (by assumption)).mono ?_
      rintro e w2 ⟨rfl, hb⟩
      replace B := (B.alloc B.size _).trans (hb.mono (B.alloc B.size _).size)
      clear hb
      go_wp2_with fail
      refine (along_any _ _ _ _ _ (by first | exact dif0 | exact Crd.dif (by assumption) (by assumption)) (by first | exact dif0 | exact Crd.dif (by assumption) (by assumption)) (by first | exact dif0 | exact Crd.dif (by assumption) (by assumption)) (by first | exact dif0 | exact Crd.dif (by assumption) (by assumption))).mono ?_
      rintro e w3 ⟨rfl, hb⟩
      replace B := (B.alloc B.size _).trans (hb.mono (B.alloc B.size _).size)
      clear hb
      go_wp2
      go_ret
      refine ⟨ret_int ?_, B0.trans (B.mono B0.size)⟩
      rw [H.out, h1, h2]
      clear B B0
      show (_ : Int) = (x - nr x a c) * (x - nr x a c) + (y - nr y b d) * (y - nr y b d)
      rw [ex.out, ey.out]
      clear ex ey H
      grind
  · have h3 : (boxOk a b c d && ptOk x y) = false := by cases hA : boxOk a b c d <;> cases hB : ptOk x y <;> simp_all
    cases h1 : boxOk a b c d <;> cases h2 : ptOk x y
    all_goals
      first
      | (exfalso; exact h0 ⟨h1, h2⟩)
      | skip
    all_goals
      have k0 := bcBP w a b c d x y 31 25
      have B0 := below2 w (.cells #[.int .i64 a, .int .i64 b, .int .i64 c, .int .i64 d] 31) (.cells #[.int .i64 x, .int .i64 y] 25)
      go_enter Try.func29, Try.ntmps29
      go_wp2_with fail
      generalize ((w.alloc (.cells #[.int .i64 a, .int .i64 b, .int .i64 c, .int .i64 d] 31)).alloc (.cells #[.int .i64 x, .int .i64 y] 25)) = W0 at *
      have B : Below W0.heap.size W0 W0 := Below.refl _ _
      have K := k0
      obtain ⟨k1, k2, k3, k4, k5, k6⟩ := k0
      go_wp2_with (first | (go_at_call 27; refine (implBoxOk _ _ _ _ _).mono ?_; rintro e w1 ⟨rfl, hb⟩; rw [h1]; replace B := B.trans (hb.mono B.size); clear hb; obtain ⟨k1, k2, k3, k4, k5, k6⟩ := bkBP B K) | (go_at_call 10; refine (implPtOk _ _ _).mono ?_; rintro e w1 ⟨rfl, hb⟩; rw [h2]; replace B := B.trans (hb.mono B.size); clear hb; obtain ⟨k1, k2, k3, k4, k5, k6⟩ := bkBP B K))
      go_ret
      exact ⟨ret_int (by rw [H.out, h1, h2]; rfl), B0.trans (B.mono B0.size)⟩

end Go.Proofs.Ytokmphhpnoochab
