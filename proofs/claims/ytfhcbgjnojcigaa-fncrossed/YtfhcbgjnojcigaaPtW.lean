import Derived.Test.YtfhcbgjnojcigaaBase
import Derived.Test.YtfhcbgjnojcigaaPtG
import Derived.Test.YtfhcbgjnojcigaaProg
import Derived.Deep.RegionHeld3
import Derived.WideKeyEntry
import Derived.DeepKeys4
/- Points: which are right, what they are taken as; the ways between them. -/
namespace Go.Proofs.Ytfhcbgjnojcigaa
open Go.RowKit

/-- Right, by both coordinates. -/
def ptOk (x y : Int) : Bool := inB x (-10000000) 10000000 && inB y (-10000000) 10000000
/-- What a coordinate is taken as. -/
def tX (x y : Int) : Int := if ptOk x y then x else 0
def tY (x y : Int) : Int := if ptOk x y then y else 0
/-- Within the limit. -/
def Crd (n : Int) : Prop := -10000000 ≤ n ∧ n ≤ 10000000
theorem inB_true {x lo hi : Int} : inB x lo hi = true ↔ lo ≤ x ∧ x ≤ hi := by simp [inB]
theorem tX_crd (x y : Int) : Crd (tX x y) := by
  unfold tX Crd
  by_cases h : ptOk x y = true
  · rw [if_pos h]; unfold ptOk at h; rw [Bool.and_eq_true, inB_true, inB_true] at h; omega
  · rw [if_neg h]; omega
theorem tY_crd (x y : Int) : Crd (tY x y) := by
  unfold tY Crd
  by_cases h : ptOk x y = true
  · rw [if_pos h]; unfold ptOk at h; rw [Bool.and_eq_true, inB_true, inB_true] at h; omega
  · rw [if_neg h]; omega

theorem coordOk_any (n : Int) (w : World) :
    Calls Try.prog 46 #[.int .i64 n] w fun e w' => e = .returned (.bool (inB n (-10000000) 10000000)) ∧ w' = w := by
  by_cases h1 : -10000000 ≤ n <;> by_cases h2 : n ≤ 10000000
  all_goals
    have E : inB n (-10000000) 10000000 = (decide (-10000000 ≤ n) && decide (n ≤ 10000000)) := rfl
    have H : Hid (inB n (-10000000) 10000000 = (decide (-10000000 ≤ n) && decide (n ≤ 10000000))) := E
    clear E
    go_enter Try.func46, Try.ntmps46
    go_wp2
    go_ret
    exact ⟨by rw [H.out]; simp [h1, h2], rfl⟩

theorem l1In_any (n lo hi : Int) (w : World) :
    Calls Try.prog 24 #[.int .i64 n, .int .i64 lo, .int .i64 hi] w fun e w' => e = .returned (.bool (inB n lo hi)) ∧ w' = w := by
  have H : Hid (inB n lo hi = (decide (lo ≤ n) && decide (n ≤ hi))) := (rfl : inB n lo hi = _)
  by_cases h1 : lo ≤ n <;> by_cases h2 : n ≤ hi
  all_goals
    go_enter Try.func24, Try.ntmps24
    go_wp2
    go_ret
    exact ⟨by rw [H.out]; simp [h1, h2], rfl⟩

theorem implPtOk (x y : Int) (w : World) :
    Calls Try.prog 28 #[.agg #[.int .i64 x, .int .i64 y]] w fun e w' => e = .returned (.bool (ptOk x y)) ∧ Below w.heap.size w w' := by
  have H : Hid (ptOk x y = (inB x (-10000000) 10000000 && inB y (-10000000) 10000000)) := (rfl : ptOk x y = _)
  cases h1 : inB x (-10000000) 10000000
  all_goals
    go_enter Try.func28, Try.ntmps28
    go_wp2_with (go_at_call 46; refine (coordOk_any _ _).mono ?_; rintro e w' ⟨rfl, rfl⟩; try rw [h1])
    go_ret
    exact ⟨by rw [H.out, h1]; simp, below1 _ _⟩

theorem specPtOk (x y : Int) (w : World) :
    Calls Try.prog 10 #[.agg #[.int .i64 x, .int .i64 y]] w fun e w' => e = .returned (.bool (ptOk x y)) ∧ Below w.heap.size w w' := by
  have H : Hid (ptOk x y = (inB x (-10000000) 10000000 && inB y (-10000000) 10000000)) := (rfl : ptOk x y = _)
  cases h1 : inB x (-10000000) 10000000
  all_goals
    go_enter Try.func10, Try.ntmps10
    go_wp2_with (go_at_call 24; refine (l1In_any _ _ _ _).mono ?_; rintro e w' ⟨rfl, rfl⟩; try rw [h1])
    go_ret
    exact ⟨by rw [H.out, h1]; simp, below1 _ _⟩

theorem implTakenPt (x y : Int) (w : World) :
    Calls Try.prog 14 #[.agg #[.int .i64 x, .int .i64 y]] w fun e w' => e = .returned (.agg #[.int .i64 (tX x y), .int .i64 (tY x y)]) ∧ Below w.heap.size w w' := by
  have HX : Hid (tX x y = if ptOk x y then x else 0) := (rfl : tX x y = _)
  have HY : Hid (tY x y = if ptOk x y then y else 0) := (rfl : tY x y = _)
  cases h : ptOk x y
  all_goals
    go_enter Try.func14, Try.ntmps14
    go_wp2_with fail
    refine (implPtOk x y _).mono ?_
    rintro e w1 ⟨rfl, hb⟩
    rw [h]
    have B := (below2 w (.cells #[.int .i64 x, .int .i64 y] 25) (.cells #[.int .i64 0, .int .i64 0] 25)).trans (hb.mono (by simp; omega))
    obtain ⟨hc, hf⟩ := bcell hb
    have hz : w.heap.size + 1 < w1.heap.size := by have := hb.size; simp at this; omega
    clear hb
    go_wp2
    rw [HX.out, HY.out, h]
    exact bodyPost_ret (v := _) (by simp [results, Try.results14, go_sem, hc]; try rfl) rfl ⟨rfl, (B.setCell (by simp) _).setCell (by simp) _⟩

theorem specTakenPt (x y : Int) (w : World) :
    Calls Try.prog 21 #[.agg #[.int .i64 x, .int .i64 y]] w fun e w' => e = .returned (.agg #[.int .i64 (tX x y), .int .i64 (tY x y)]) ∧ Below w.heap.size w w' := by
  have HX : Hid (tX x y = if ptOk x y then x else 0) := (rfl : tX x y = _)
  have HY : Hid (tY x y = if ptOk x y then y else 0) := (rfl : tY x y = _)
  cases h : ptOk x y
  all_goals
    go_enter Try.func21, Try.ntmps21
    go_wp2_with fail
    refine (specPtOk x y _).mono ?_
    rintro e w1 ⟨rfl, hb⟩
    rw [h]
    have B := (below2 w (.cells #[.int .i64 x, .int .i64 y] 25) (.cells #[.int .i64 0, .int .i64 0] 25)).trans (hb.mono (by simp; omega))
    obtain ⟨hc, hf⟩ := bcell hb
    have hz : w.heap.size + 1 < w1.heap.size := by have := hb.size; simp at this; omega
    clear hb
    go_wp2
    rw [HX.out, HY.out, h]
    exact bodyPost_ret (v := _) (by simp [results, Try.results21, go_sem, hc]; try rfl) rfl ⟨rfl, (B.setCell (by simp) _).setCell (by simp) _⟩

/-- Between two coordinates. -/
def Dif (n : Int) : Prop := -20000000 ≤ n ∧ n ≤ 20000000
theorem Crd.dif {a b : Int} (h : Crd a) (k : Crd b) : Dif (a - b) := by unfold Crd at h k; unfold Dif; omega
theorem Dif.mul {a b : Int} (h : Dif a) (k : Dif b) : -400000000000000 ≤ a * b ∧ a * b ≤ 400000000000000 := by
  unfold Dif at h k
  have h1 := Int.mul_nonneg (show 0 ≤ 20000000 - a by omega) (show 0 ≤ 20000000 - b by omega)
  have h2 := Int.mul_nonneg (show 0 ≤ 20000000 + a by omega) (show 0 ≤ 20000000 + b by omega)
  have h3 := Int.mul_nonneg (show 0 ≤ 20000000 - a by omega) (show 0 ≤ 20000000 + b by omega)
  have h4 := Int.mul_nonneg (show 0 ≤ 20000000 + a by omega) (show 0 ≤ 20000000 - b by omega)
  grind

theorem way_any (x1 y1 x2 y2 : Int) (w : World) (h1 : Crd x1) (h2 : Crd y1) (h3 : Crd x2) (h4 : Crd y2) :
    Calls Try.prog 33 #[.agg #[.int .i64 x1, .int .i64 y1], .agg #[.int .i64 x2, .int .i64 y2]] w fun e w' => e = .returned (.agg #[.int .i64 (x2 - x1), .int .i64 (y2 - y1)]) ∧ Below w.heap.size w w' := by
  obtain ⟨a1, b1⟩ := h1
  obtain ⟨a2, b2⟩ := h2
  obtain ⟨a3, b3⟩ := h3
  obtain ⟨a4, b4⟩ := h4
  go_enter Try.func33, Try.ntmps33
  go_wp2
  exact bodyPost_ret (v := .agg #[.int .i64 (x2 - x1), .int .i64 (y2 - y1)]) (by simp [results, Try.results33, go_sem]) rfl ⟨rfl, below3 _ _ _ _⟩

theorem across_any (x1 y1 x2 y2 : Int) (w : World) (h1 : Dif x1) (h2 : Dif y1) (h3 : Dif x2) (h4 : Dif y2) :
    Calls Try.prog 34 #[.agg #[.int .i64 x1, .int .i64 y1], .agg #[.int .i64 x2, .int .i64 y2]] w fun e w' => e = .returned (.int .i64 (x1 * y2 - y1 * x2)) ∧ Below w.heap.size w w' := by
  obtain ⟨a1, b1⟩ := h1.mul h4
  obtain ⟨a2, b2⟩ := h2.mul h3
  go_enter Try.func34, Try.ntmps34
  go_wp2
  go_ret
  exact ⟨rfl, below2 _ _ _⟩

theorem sgn1_neg {n : Int} (h : n < 0) : sgn1 n = -1 := by unfold sgn1; rw [if_neg (by omega), if_pos h]
theorem sgn1_pos {n : Int} (h : 0 < n) : sgn1 n = 1 := by unfold sgn1; rw [if_pos h]
theorem sgn1_cases (n : Int) : sgn1 n = -1 ∨ sgn1 n = 0 ∨ sgn1 n = 1 := by
  rcases Int.lt_trichotomy n 0 with h | h | h
  · exact .inl (sgn1_neg h)
  · subst h; exact .inr (.inl rfl)
  · exact .inr (.inr (sgn1_pos h))
theorem ret_bool {a b : Bool} (h : a = b) : Ending.returned (.bool a) = .returned (.bool b) := by rw [h]

theorem isNaN_any (n : Int) (w : World) :
    Calls Try.prog 56 #[.int .i64 n] w fun e w' => e = .returned (.bool false) ∧ w' = w := by
  go_enter Try.func56, Try.ntmps56
  go_wp2
  go_ret
  exact ⟨rfl, rfl⟩

theorem compare0 (n : Int) (w : World) :
    Calls Try.prog 47 #[.int .i64 n, .int .i64 0] w fun e w' => e = .returned (.int .i64 (sgn1 n)) ∧ w' = w := by
  rcases Int.lt_trichotomy n 0 with h | h | h
  · have h' : ¬ 0 < n := by omega
    go_enter Try.func47, Try.ntmps47
    go_wp2_with (go_at_call 56; refine (isNaN_any _ _).mono ?_; rintro e w' ⟨rfl, rfl⟩)
    go_ret
    exact ⟨by rw [sgn1_neg h]; rfl, rfl⟩
  · subst h
    go_enter Try.func47, Try.ntmps47
    go_wp2_with (go_at_call 56; refine (isNaN_any _ _).mono ?_; rintro e w' ⟨rfl, rfl⟩)
    go_ret
    exact ⟨rfl, rfl⟩
  · have h' : ¬ n < 0 := by omega
    go_enter Try.func47, Try.ntmps47
    go_wp2_with (go_at_call 56; refine (isNaN_any _ _).mono ?_; rintro e w' ⟨rfl, rfl⟩)
    go_ret
    exact ⟨by rw [sgn1_pos h]; rfl, rfl⟩

theorem l3Sign_any (n : Int) (w : World) :
    Calls Try.prog 37 #[.int .i64 n] w fun e w' => e = .returned (.int .i64 (sgn1 n)) ∧ w' = w := by
  rcases Int.lt_trichotomy n 0 with h | h | h
  · have h' : ¬ 0 < n := by omega
    go_enter Try.func37, Try.ntmps37
    go_wp2
    go_ret
    exact ⟨by rw [sgn1_neg h]; rfl, rfl⟩
  · subst h
    go_enter Try.func37, Try.ntmps37
    go_wp2
    go_ret
    exact ⟨rfl, rfl⟩
  · have h' : ¬ n < 0 := by omega
    go_enter Try.func37, Try.ntmps37
    go_wp2
    go_ret
    exact ⟨by rw [sgn1_pos h]; rfl, rfl⟩

theorem l3Area_any (x1 y1 x2 y2 x3 y3 : Int) (w : World) (h1 : Crd x1) (h2 : Crd y1) (h3 : Crd x2) (h4 : Crd y2) (h5 : Crd x3) (h6 : Crd y3) :
    Calls Try.prog 38 #[.agg #[.int .i64 x1, .int .i64 y1], .agg #[.int .i64 x2, .int .i64 y2], .agg #[.int .i64 x3, .int .i64 y3]] w fun e w' => e = .returned (.int .i64 (ar x1 y1 x2 y2 x3 y3)) ∧ Below w.heap.size w w' := by
  obtain ⟨p1, p2⟩ := (h3.dif h1).mul (h6.dif h2)
  obtain ⟨q1, q2⟩ := (h4.dif h2).mul (h5.dif h1)
  obtain ⟨a1, b1⟩ := h1
  obtain ⟨a2, b2⟩ := h2
  obtain ⟨a3, b3⟩ := h3
  obtain ⟨a4, b4⟩ := h4
  obtain ⟨a5, b5⟩ := h5
  obtain ⟨a6, b6⟩ := h6
  go_enter Try.func38, Try.ntmps38
  go_wp2
  go_ret
  exact ⟨rfl, below3 _ _ _ _⟩
end Go.Proofs.Ytfhcbgjnojcigaa

/- Boxes of points in memory: what lies in them stays there. -/
namespace Go.Proofs.Ytfhcbgjnojcigaa
open Go.RowKit

theorem ptbox1 (w : World) (x1 y1 : Int) (t : TypeId) : (w.alloc (.cells #[.int .i64 x1, .int .i64 y1] t)).cell? ⟨w.heap.size, 0, none⟩ = some (.int .i64 x1) ∧ (w.alloc (.cells #[.int .i64 x1, .int .i64 y1] t)).cell? ⟨w.heap.size, 1, none⟩ = some (.int .i64 y1) := by
  refine ⟨?_, ?_⟩ <;> simp [go_sem]
theorem ptkeep1 {W w' : World} {b : Nat} {x1 y1 : Int} (k : W.cell? ⟨b, 0, none⟩ = some (.int .i64 x1) ∧ W.cell? ⟨b, 1, none⟩ = some (.int .i64 y1)) (B : Below W.heap.size W w') : w'.cell? ⟨b, 0, none⟩ = some (.int .i64 x1) ∧ w'.cell? ⟨b, 1, none⟩ = some (.int .i64 y1) :=
  ⟨bat B k.1, bat B k.2⟩
theorem ptbelow1 (w : World) (x1 y1 : Int) (t : TypeId) : Below w.heap.size w (w.alloc (.cells #[.int .i64 x1, .int .i64 y1] t)) := below1 _ _
theorem ptbox2 (w : World) (x1 y1 x2 y2 : Int) (t : TypeId) : ((w.alloc (.cells #[.int .i64 x1, .int .i64 y1] t)).alloc (.cells #[.int .i64 x2, .int .i64 y2] t)).cell? ⟨w.heap.size, 0, none⟩ = some (.int .i64 x1) ∧ ((w.alloc (.cells #[.int .i64 x1, .int .i64 y1] t)).alloc (.cells #[.int .i64 x2, .int .i64 y2] t)).cell? ⟨w.heap.size, 1, none⟩ = some (.int .i64 y1) ∧ ((w.alloc (.cells #[.int .i64 x1, .int .i64 y1] t)).alloc (.cells #[.int .i64 x2, .int .i64 y2] t)).cell? ⟨w.heap.size + 1, 0, none⟩ = some (.int .i64 x2) ∧ ((w.alloc (.cells #[.int .i64 x1, .int .i64 y1] t)).alloc (.cells #[.int .i64 x2, .int .i64 y2] t)).cell? ⟨w.heap.size + 1, 1, none⟩ = some (.int .i64 y2) := by
  refine ⟨?_, ?_, ?_, ?_⟩ <;> simp [go_sem]
theorem ptkeep2 {W w' : World} {b : Nat} {x1 y1 x2 y2 : Int} (k : W.cell? ⟨b, 0, none⟩ = some (.int .i64 x1) ∧ W.cell? ⟨b, 1, none⟩ = some (.int .i64 y1) ∧ W.cell? ⟨b + 1, 0, none⟩ = some (.int .i64 x2) ∧ W.cell? ⟨b + 1, 1, none⟩ = some (.int .i64 y2)) (B : Below W.heap.size W w') : w'.cell? ⟨b, 0, none⟩ = some (.int .i64 x1) ∧ w'.cell? ⟨b, 1, none⟩ = some (.int .i64 y1) ∧ w'.cell? ⟨b + 1, 0, none⟩ = some (.int .i64 x2) ∧ w'.cell? ⟨b + 1, 1, none⟩ = some (.int .i64 y2) :=
  ⟨bat B k.1, bat B k.2.1, bat B k.2.2.1, bat B k.2.2.2⟩
theorem ptbelow2 (w : World) (x1 y1 x2 y2 : Int) (t : TypeId) : Below w.heap.size w ((w.alloc (.cells #[.int .i64 x1, .int .i64 y1] t)).alloc (.cells #[.int .i64 x2, .int .i64 y2] t)) := below2 _ _ _
theorem ptbox3 (w : World) (x1 y1 x2 y2 x3 y3 : Int) (t : TypeId) : (((w.alloc (.cells #[.int .i64 x1, .int .i64 y1] t)).alloc (.cells #[.int .i64 x2, .int .i64 y2] t)).alloc (.cells #[.int .i64 x3, .int .i64 y3] t)).cell? ⟨w.heap.size, 0, none⟩ = some (.int .i64 x1) ∧ (((w.alloc (.cells #[.int .i64 x1, .int .i64 y1] t)).alloc (.cells #[.int .i64 x2, .int .i64 y2] t)).alloc (.cells #[.int .i64 x3, .int .i64 y3] t)).cell? ⟨w.heap.size, 1, none⟩ = some (.int .i64 y1) ∧ (((w.alloc (.cells #[.int .i64 x1, .int .i64 y1] t)).alloc (.cells #[.int .i64 x2, .int .i64 y2] t)).alloc (.cells #[.int .i64 x3, .int .i64 y3] t)).cell? ⟨w.heap.size + 1, 0, none⟩ = some (.int .i64 x2) ∧ (((w.alloc (.cells #[.int .i64 x1, .int .i64 y1] t)).alloc (.cells #[.int .i64 x2, .int .i64 y2] t)).alloc (.cells #[.int .i64 x3, .int .i64 y3] t)).cell? ⟨w.heap.size + 1, 1, none⟩ = some (.int .i64 y2) ∧ (((w.alloc (.cells #[.int .i64 x1, .int .i64 y1] t)).alloc (.cells #[.int .i64 x2, .int .i64 y2] t)).alloc (.cells #[.int .i64 x3, .int .i64 y3] t)).cell? ⟨w.heap.size + 1 + 1, 0, none⟩ = some (.int .i64 x3) ∧ (((w.alloc (.cells #[.int .i64 x1, .int .i64 y1] t)).alloc (.cells #[.int .i64 x2, .int .i64 y2] t)).alloc (.cells #[.int .i64 x3, .int .i64 y3] t)).cell? ⟨w.heap.size + 1 + 1, 1, none⟩ = some (.int .i64 y3) := by
  refine ⟨?_, ?_, ?_, ?_, ?_, ?_⟩ <;> simp [go_sem]
theorem ptkeep3 {W w' : World} {b : Nat} {x1 y1 x2 y2 x3 y3 : Int} (k : W.cell? ⟨b, 0, none⟩ = some (.int .i64 x1) ∧ W.cell? ⟨b, 1, none⟩ = some (.int .i64 y1) ∧ W.cell? ⟨b + 1, 0, none⟩ = some (.int .i64 x2) ∧ W.cell? ⟨b + 1, 1, none⟩ = some (.int .i64 y2) ∧ W.cell? ⟨b + 1 + 1, 0, none⟩ = some (.int .i64 x3) ∧ W.cell? ⟨b + 1 + 1, 1, none⟩ = some (.int .i64 y3)) (B : Below W.heap.size W w') : w'.cell? ⟨b, 0, none⟩ = some (.int .i64 x1) ∧ w'.cell? ⟨b, 1, none⟩ = some (.int .i64 y1) ∧ w'.cell? ⟨b + 1, 0, none⟩ = some (.int .i64 x2) ∧ w'.cell? ⟨b + 1, 1, none⟩ = some (.int .i64 y2) ∧ w'.cell? ⟨b + 1 + 1, 0, none⟩ = some (.int .i64 x3) ∧ w'.cell? ⟨b + 1 + 1, 1, none⟩ = some (.int .i64 y3) :=
  ⟨bat B k.1, bat B k.2.1, bat B k.2.2.1, bat B k.2.2.2.1, bat B k.2.2.2.2.1, bat B k.2.2.2.2.2⟩
theorem ptbelow3 (w : World) (x1 y1 x2 y2 x3 y3 : Int) (t : TypeId) : Below w.heap.size w (((w.alloc (.cells #[.int .i64 x1, .int .i64 y1] t)).alloc (.cells #[.int .i64 x2, .int .i64 y2] t)).alloc (.cells #[.int .i64 x3, .int .i64 y3] t)) := below3 _ _ _ _
theorem ptbox4 (w : World) (x1 y1 x2 y2 x3 y3 x4 y4 : Int) (t : TypeId) : ((((w.alloc (.cells #[.int .i64 x1, .int .i64 y1] t)).alloc (.cells #[.int .i64 x2, .int .i64 y2] t)).alloc (.cells #[.int .i64 x3, .int .i64 y3] t)).alloc (.cells #[.int .i64 x4, .int .i64 y4] t)).cell? ⟨w.heap.size, 0, none⟩ = some (.int .i64 x1) ∧ ((((w.alloc (.cells #[.int .i64 x1, .int .i64 y1] t)).alloc (.cells #[.int .i64 x2, .int .i64 y2] t)).alloc (.cells #[.int .i64 x3, .int .i64 y3] t)).alloc (.cells #[.int .i64 x4, .int .i64 y4] t)).cell? ⟨w.heap.size, 1, none⟩ = some (.int .i64 y1) ∧ ((((w.alloc (.cells #[.int .i64 x1, .int .i64 y1] t)).alloc (.cells #[.int .i64 x2, .int .i64 y2] t)).alloc (.cells #[.int .i64 x3, .int .i64 y3] t)).alloc (.cells #[.int .i64 x4, .int .i64 y4] t)).cell? ⟨w.heap.size + 1, 0, none⟩ = some (.int .i64 x2) ∧ ((((w.alloc (.cells #[.int .i64 x1, .int .i64 y1] t)).alloc (.cells #[.int .i64 x2, .int .i64 y2] t)).alloc (.cells #[.int .i64 x3, .int .i64 y3] t)).alloc (.cells #[.int .i64 x4, .int .i64 y4] t)).cell? ⟨w.heap.size + 1, 1, none⟩ = some (.int .i64 y2) ∧ ((((w.alloc (.cells #[.int .i64 x1, .int .i64 y1] t)).alloc (.cells #[.int .i64 x2, .int .i64 y2] t)).alloc (.cells #[.int .i64 x3, .int .i64 y3] t)).alloc (.cells #[.int .i64 x4, .int .i64 y4] t)).cell? ⟨w.heap.size + 1 + 1, 0, none⟩ = some (.int .i64 x3) ∧ ((((w.alloc (.cells #[.int .i64 x1, .int .i64 y1] t)).alloc (.cells #[.int .i64 x2, .int .i64 y2] t)).alloc (.cells #[.int .i64 x3, .int .i64 y3] t)).alloc (.cells #[.int .i64 x4, .int .i64 y4] t)).cell? ⟨w.heap.size + 1 + 1, 1, none⟩ = some (.int .i64 y3) ∧ ((((w.alloc (.cells #[.int .i64 x1, .int .i64 y1] t)).alloc (.cells #[.int .i64 x2, .int .i64 y2] t)).alloc (.cells #[.int .i64 x3, .int .i64 y3] t)).alloc (.cells #[.int .i64 x4, .int .i64 y4] t)).cell? ⟨w.heap.size + 1 + 1 + 1, 0, none⟩ = some (.int .i64 x4) ∧ ((((w.alloc (.cells #[.int .i64 x1, .int .i64 y1] t)).alloc (.cells #[.int .i64 x2, .int .i64 y2] t)).alloc (.cells #[.int .i64 x3, .int .i64 y3] t)).alloc (.cells #[.int .i64 x4, .int .i64 y4] t)).cell? ⟨w.heap.size + 1 + 1 + 1, 1, none⟩ = some (.int .i64 y4) := by
  refine ⟨?_, ?_, ?_, ?_, ?_, ?_, ?_, ?_⟩ <;> simp [go_sem]
theorem ptkeep4 {W w' : World} {b : Nat} {x1 y1 x2 y2 x3 y3 x4 y4 : Int} (k : W.cell? ⟨b, 0, none⟩ = some (.int .i64 x1) ∧ W.cell? ⟨b, 1, none⟩ = some (.int .i64 y1) ∧ W.cell? ⟨b + 1, 0, none⟩ = some (.int .i64 x2) ∧ W.cell? ⟨b + 1, 1, none⟩ = some (.int .i64 y2) ∧ W.cell? ⟨b + 1 + 1, 0, none⟩ = some (.int .i64 x3) ∧ W.cell? ⟨b + 1 + 1, 1, none⟩ = some (.int .i64 y3) ∧ W.cell? ⟨b + 1 + 1 + 1, 0, none⟩ = some (.int .i64 x4) ∧ W.cell? ⟨b + 1 + 1 + 1, 1, none⟩ = some (.int .i64 y4)) (B : Below W.heap.size W w') : w'.cell? ⟨b, 0, none⟩ = some (.int .i64 x1) ∧ w'.cell? ⟨b, 1, none⟩ = some (.int .i64 y1) ∧ w'.cell? ⟨b + 1, 0, none⟩ = some (.int .i64 x2) ∧ w'.cell? ⟨b + 1, 1, none⟩ = some (.int .i64 y2) ∧ w'.cell? ⟨b + 1 + 1, 0, none⟩ = some (.int .i64 x3) ∧ w'.cell? ⟨b + 1 + 1, 1, none⟩ = some (.int .i64 y3) ∧ w'.cell? ⟨b + 1 + 1 + 1, 0, none⟩ = some (.int .i64 x4) ∧ w'.cell? ⟨b + 1 + 1 + 1, 1, none⟩ = some (.int .i64 y4) :=
  ⟨bat B k.1, bat B k.2.1, bat B k.2.2.1, bat B k.2.2.2.1, bat B k.2.2.2.2.1, bat B k.2.2.2.2.2.1, bat B k.2.2.2.2.2.2.1, bat B k.2.2.2.2.2.2.2⟩
theorem ptbelow4 (w : World) (x1 y1 x2 y2 x3 y3 x4 y4 : Int) (t : TypeId) : Below w.heap.size w ((((w.alloc (.cells #[.int .i64 x1, .int .i64 y1] t)).alloc (.cells #[.int .i64 x2, .int .i64 y2] t)).alloc (.cells #[.int .i64 x3, .int .i64 y3] t)).alloc (.cells #[.int .i64 x4, .int .i64 y4] t)) := below4 _ _ _ _ _
end Go.Proofs.Ytfhcbgjnojcigaa

/- Turns: of the program, of the specification. -/
namespace Go.Proofs.Ytfhcbgjnojcigaa
open Go.RowKit

set_option maxRecDepth 20000 in
set_option maxHeartbeats 2000000 in
theorem turn_any (x1 y1 x2 y2 x3 y3 : Int) (w : World) (c1 : Crd x1) (d1 : Crd y1) (c2 : Crd x2) (d2 : Crd y2) (c3 : Crd x3) (d3 : Crd y3) :
    Calls Try.prog 30 #[.agg #[.int .i64 x1, .int .i64 y1], .agg #[.int .i64 x2, .int .i64 y2], .agg #[.int .i64 x3, .int .i64 y3]] w fun e w' => e = .returned (.int .i64 (sgn1 (ar x1 y1 x2 y2 x3 y3))) ∧ Below w.heap.size w w' := by
  have k0 := ptbox3 w x1 y1 x2 y2 x3 y3 25
  have B0 := ptbelow3 w x1 y1 x2 y2 x3 y3 25
  have e1 := c2.dif c1
  have e2 := d2.dif d1
  have e3 := c3.dif c1
  have e4 := d3.dif d1
  have H : Hid ((x2 - x1) * (y3 - y1) - (y2 - y1) * (x3 - x1) = ar x1 y1 x2 y2 x3 y3) := (rfl : _ = ar x1 y1 x2 y2 x3 y3)
  go_enter Try.func30, Try.ntmps30
  go_wp2_with fail
  generalize (((w.alloc (.cells #[.int .i64 x1, .int .i64 y1] 25)).alloc (.cells #[.int .i64 x2, .int .i64 y2] 25)).alloc (.cells #[.int .i64 x3, .int .i64 y3] 25)) = W0 at *
  have B : Below W0.heap.size W0 W0 := Below.refl _ _
  go_region_held3 (fun w' => w'.cell? ⟨w.heap.size, 0, none⟩ = some (.int .i64 x1) ∧ w'.cell? ⟨w.heap.size, 1, none⟩ = some (.int .i64 y1) ∧ w'.cell? ⟨w.heap.size + 1, 0, none⟩ = some (.int .i64 x2) ∧ w'.cell? ⟨w.heap.size + 1, 1, none⟩ = some (.int .i64 y2) ∧ w'.cell? ⟨w.heap.size + 1 + 1, 0, none⟩ = some (.int .i64 x3) ∧ w'.cell? ⟨w.heap.size + 1 + 1, 1, none⟩ = some (.int .i64 y3))
    (first | exact k0 | exact ptkeep3 k0 B | exact ptkeep3 k0 B.drew)
    (first
    | (go_at_call 33; refine (way_any _ _ _ _ _ (by assumption) (by assumption) (by assumption) (by assumption)).mono ?_; rintro e w1 ⟨rfl, hb⟩; (first | replace B := B.trans (hb.mono B.size) | replace B := B.drew.trans (hb.mono B.drew.size)))
    | (go_at_call 34; refine (across_any _ _ _ _ _ (by assumption) (by assumption) (by assumption) (by assumption)).mono ?_; rintro e w1 ⟨rfl, hb⟩; (first | replace B := B.trans (hb.mono B.size) | replace B := B.drew.trans (hb.mono B.drew.size)); rw [H.out])
    | (go_at_call 47; refine (compare0 _ _).mono ?_; rintro e w1 ⟨rfl, rfl⟩))
  all_goals
    go_wp2
    go_ret
    exact ⟨rfl, B0.trans (B.mono B0.size)⟩

end Go.Proofs.Ytfhcbgjnojcigaa

/- Between two, and ranges that meet. -/
namespace Go.Proofs.Ytfhcbgjnojcigaa
open Go.RowKit

theorem l3Between_any (a b x : Int) (w : World) :
    Calls Try.prog 51 #[.int .i64 a, .int .i64 b, .int .i64 x] w fun e w' => e = .returned (.bool (btw a b x)) ∧ w' = w := by
  have H : Hid (btw a b x = (inB x a b || inB x b a)) := (rfl : btw a b x = _)
  cases h1 : inB x a b
  all_goals
    go_enter Try.func51, Try.ntmps51
    go_wp2_with (go_at_call 24; refine (l1In_any _ _ _ _).mono ?_; rintro e w' ⟨rfl, rfl⟩; try rw [h1])
    go_ret
    exact ⟨by rw [H.out, h1]; simp, rfl⟩

theorem rangesMeet_any (a b c d : Int) (w : World) :
    Calls Try.prog 29 #[.int .i64 a, .int .i64 b, .int .i64 c, .int .i64 d] w fun e w' => e = .returned (.bool (rng a b c d)) ∧ w' = w := by
  have H : Hid (rng a b c d = (decide (min a b ≤ max c d) && decide (min c d ≤ max a b))) := (rfl : rng a b c d = _)
  by_cases h1 : a ≤ b <;> by_cases h2 : c ≤ d
  all_goals
    go_enter Try.func29, Try.ntmps29
    go_wp2
  all_goals
    go_ret
    exact ⟨ret_bool (by rw [H.out, Bool.eq_iff_iff]; simp; omega), rfl⟩
end Go.Proofs.Ytfhcbgjnojcigaa

/- A map by points. -/
namespace Go.Proofs.Ytfhcbgjnojcigaa
open Go.RowKit Go.WideMaps

/-- A point as a value. -/
def ptV (p : Int × Int) : Value := .agg #[.int .i64 p.1, .int .i64 p.2]
theorem ptV_inj {p q : Int × Int} (h : ptV p = ptV q) : p = q := by
  unfold ptV at h
  simp only [Value.agg.injEq] at h
  have h1 : (.int .i64 p.1 : Value) = .int .i64 q.1 := by have := congrArg (·[0]?) h; simpa using this
  have h2 : (.int .i64 p.2 : Value) = .int .i64 q.2 := by have := congrArg (·[1]?) h; simpa using this
  simp only [Value.int.injEq, true_and] at h1 h2
  exact Prod.ext h1 h2
theorem laidOutM : laidOutB Try.prog = true := by kernel_rfl
theorem widePt : (match Try.prog.underlying 25 with | some (.array _ _) | some (.struct _) => true | _ => false) = true := by rw [Try.underlying25]
set_option maxRecDepth 100000 in
theorem lawPt : KeyLaw Try.prog 25 := deep_law_laid laidOutM (m := 2) (by omega) (of_decide_eq_true (by kernel_rfl)) (by kernel_rfl) widePt
theorem cellsPtM : Try.prog.cellsOf 25 = 2 := by kernel_rfl
theorem cellsIntM : Try.prog.cellsOf 3 = 1 := by kernel_rfl
theorem keyTypePt : Try.prog.keyType 25 = true := by kernel_rfl
theorem crd_wf {n : Int} (h : Crd n) : (Lit.int .i64 n).wf = true := WalkArith.wf_i64 (by unfold Crd at h; omega)
theorem keyPt {p : Int × Int} (h1 : Crd p.1) (h2 : Crd p.2) : ∃ l, keyOf Try.prog 25 (ptV p) = some l := by
  have w1 := crd_wf h1
  have w2 := crd_wf h2
  unfold keyOf ptV
  rw [Try.underlying25]
  have hf : (Value.agg #[.int .i64 p.1, .int .i64 p.2]).formed Try.prog 25 = true := by simp [Value.formed, Try.underlying25, cellsPtM]
  simp only [keyTypePt, hf, Bool.and_self, if_true]
  obtain ⟨m, hm⟩ : ∃ m, Try.prog.types.size = m + 1 := ⟨_, rfl⟩
  rw [hm]
  simp [Program.keyLits, Try.underlying25, Try.underlying3, cellsPtM, cellsIntM, Value.cells, w1, w2]

/-- Block b is a map whose keys are these points, in the order in which they came. -/
def PMap (w : World) (b : Nat) (l : List (Int × Int)) : Prop :=
  ∃ es clock, w.heap[b]? = some (.map es clock) ∧ es.toList.map (·.key) = l.map ptV ∧ (∀ e ∈ es.toList, (∃ n, e.val = .int .i64 n) ∧ e.born < clock) ∧ (es.toList.map (·.born)).Nodup
theorem PMap.of_heap {w w' : World} {b : Nat} {l : List (Int × Int)} (h : PMap w b l) (e : w'.heap[b]? = w.heap[b]?) : PMap w' b l := by
  obtain ⟨es, clock, h1, h2⟩ := h
  exact ⟨es, clock, e.trans h1, h2⟩
theorem PMap.lt {w : World} {b : Nat} {l : List (Int × Int)} (h : PMap w b l) : b < w.heap.size := by
  obtain ⟨es, clock, h1, _⟩ := h
  exact (Array.getElem?_eq_some_iff.1 h1).1
theorem zeroInt (w : World) : (zeroValue 3).run Try.prog w = .ok (.int .i64 0) w := by kernel_rfl
theorem grown_block {w : World} {b : Nat} {es : Array MapEntry} {clock : Nat} (hb : w.heap[b]? = some (.map es clock)) (o : Obj) : w.grownBy (ChangeMaps.setBlock w b o) (some b) :=
  ⟨rfl, rfl, rfl, by simp [ChangeMaps.setBlock], fun k _ hne => ChangeMaps.heap_setBlock_other hb o (by intro e; exact hne (by rw [e]))⟩

set_option maxHeartbeats 1000000 in
theorem PMap.bump {w : World} {b : Nat} {l : List (Int × Int)} (h : PMap w b l) (hl : ∀ q ∈ l, Crd q.1 ∧ Crd q.2) {p : Int × Int} (h1 : Crd p.1) (h2 : Crd p.2) :
    ∃ (n : Int) (v0 : Value) (st : Nat) (W1 : World), (Instr.lookup 60 (.map (some b)) (ptV p) false).run Try.prog w = .ok (.int .i64 n) w ∧
      (Instr.mapEntry 60 (.map (some b)) (ptV p)).run Try.prog w = .ok (.tuple #[v0, goInt st]) W1 ∧
      (Instr.lookup 60 (.map (some b)) (ptV p) false).run Try.prog W1 = .ok (.int .i64 n) W1 ∧ w.grownBy W1 (some b) ∧
      ∀ m, ∃ W2, (Instr.entryStore 60 (.map (some b)) (goInt st) (.int .i64 m)).run Try.prog W1 = .ok () W2 ∧ PMap W2 b (if l.contains p then l else l ++ [p]) ∧ w.grownBy W2 (some b) := by
  obtain ⟨es, clock, hb, hk, hv, hn⟩ := h
  obtain ⟨kl, hkey⟩ := keyPt h1 h2
  have K := lawPt
  have ht := Try.underlying60
  have keys : ∀ e ∈ es.toList, ∃ l, keyOf Try.prog 25 e.key = some l := fun e he => by
    have : e.key ∈ l.map ptV := by rw [← hk]; exact List.mem_map.2 ⟨e, he, rfl⟩
    obtain ⟨q, hq, e1⟩ := List.mem_map.1 this
    rw [← e1]
    exact keyPt (hl q hq).1 (hl q hq).2
  have memk : (∃ e ∈ es.toList, e.key = ptV p) ↔ p ∈ l := by
    constructor
    · rintro ⟨e, he, e1⟩
      have : e.key ∈ l.map ptV := by rw [← hk]; exact List.mem_map.2 ⟨e, he, rfl⟩
      obtain ⟨q, hq, e2⟩ := List.mem_map.1 this
      rw [e1] at e2
      rw [← ptV_inj e2]
      exact hq
    · intro hp
      have : ptV p ∈ es.toList.map (·.key) := by rw [hk]; exact List.mem_map.2 ⟨p, hp, rfl⟩
      obtain ⟨e, he, e1⟩ := List.mem_map.1 this
      exact ⟨e, he, e1⟩
  rcases K.find w hkey es.toList keys with ⟨f1, f2⟩ | ⟨j, e0, f1, f2, f3⟩
  · have hnot : ¬ p ∈ l := fun hp => by obtain ⟨e, he, e1⟩ := memk.2 hp; exact f2 e he e1
    have hb1 := ChangeMaps.heap_setBlock_same hb (.map (es.push ⟨ptV p, .int .i64 0, clock⟩) (clock + 1))
    refine ⟨0, .int .i64 0, clock, ChangeMaps.setBlock w b (.map (es.push ⟨ptV p, .int .i64 0, clock⟩) (clock + 1)), ?_, ?_, ?_, grown_block hb _, fun m => ?_⟩
    · simp [Instr.lookup, run_underlying ht, MapKept.run_getObj_map hb, K.check w _ hkey, f1, Result.andThen]
    · simp [Instr.mapEntry, run_underlying ht, MapKept.run_getObj_map hb, K.check w false hkey, f1, MapKept.run_setObj_map _ hb, Result.andThen, ChangeMaps.setBlock]
    · have keys1 : ∀ e ∈ (es.push ⟨ptV p, .int .i64 0, clock⟩).toList, ∃ l, keyOf Try.prog 25 e.key = some l := fun e he => by
        simp only [Array.toList_push, List.mem_append, List.mem_singleton] at he
        rcases he with he | rfl
        · exact keys e he
        · exact ⟨kl, hkey⟩
      rcases K.find (ChangeMaps.setBlock w b (.map (es.push ⟨ptV p, .int .i64 0, clock⟩) (clock + 1))) hkey _ keys1 with ⟨g1, g2⟩ | ⟨j, e, g1, g2, g3⟩
      · exact absurd rfl (g2 ⟨ptV p, .int .i64 0, clock⟩ (by simp))
      · have he : e.val = .int .i64 0 := by
          have := List.mem_of_getElem? g2
          simp only [Array.toList_push, List.mem_append, List.mem_singleton] at this
          rcases this with he | rfl
          · exact absurd g3 (f2 e he)
          · rfl
        rw [Array.toList_push] at g1
        simp [Instr.lookup, run_underlying ht, MapKept.run_getObj_map hb1, K.check _ _ hkey, g1, he, Result.andThen]
    · have hidx : (es.push ⟨ptV p, .int .i64 0, clock⟩).findIdx? (fun e => ((e.born : Nat) : Int) == ((clock : Nat) : Int)) = some es.size := by
        rw [WideElems.findIdx_arr]
        exact WideElems.findIdx_born (l := (es.push ⟨ptV p, .int .i64 0, clock⟩).toList) (j := es.size) (e0 := ⟨ptV p, .int .i64 0, clock⟩) (by
          rw [Array.toList_push, List.map_append]
          refine List.nodup_append.2 ⟨hn, by simp, fun a ha c hc e1 => ?_⟩
          simp only [List.map_cons, List.map_nil, List.mem_singleton] at hc
          obtain ⟨x, hx, rfl⟩ := List.mem_map.1 ha
          have := (hv x hx).2
          omega) (by simp)
      have hmod : (es.push ⟨ptV p, .int .i64 0, clock⟩).modify es.size (fun e => { e with val := .int .i64 m }) = es.push ⟨ptV p, .int .i64 m, clock⟩ := by
        apply Array.ext'
        rw [Array.toList_modify, Array.toList_push, Array.toList_push, ← Array.length_toList, WideElems.modify_last]
      refine ⟨ChangeMaps.setBlock (ChangeMaps.setBlock w b (.map (es.push ⟨ptV p, .int .i64 0, clock⟩) (clock + 1))) b (.map (es.push ⟨ptV p, .int .i64 m, clock⟩) (clock + 1)), ?_, ?_, grownBy_trans (grown_block hb _) (grown_block hb1 _)⟩
      · generalize ChangeMaps.setBlock w b (.map (es.push ⟨ptV p, .int .i64 0, clock⟩) (clock + 1)) = W1 at *
        simp [Instr.entryStore, MapKept.run_getObj_map hb1, asInt, asIntOf, goInt, hidx, hmod, MapKept.run_setObj_map _ hb1, Result.andThen, ChangeMaps.setBlock]
      · have hc : l.contains p = false := by simpa using hnot
        rw [hc]
        refine ⟨_, _, ChangeMaps.heap_setBlock_same hb1 _, ?_, ?_, ?_⟩
        · rw [Array.toList_push, List.map_append, hk]
          simp
        · intro e he
          simp only [Array.toList_push, List.mem_append, List.mem_singleton] at he
          rcases he with he | rfl
          · have := hv e he
            exact ⟨this.1, by omega⟩
          · exact ⟨⟨m, rfl⟩, by simp⟩
        · rw [Array.toList_push, List.map_append]
          refine List.nodup_append.2 ⟨hn, by simp, fun a ha c hc e1 => ?_⟩
          simp only [List.map_cons, List.map_nil, List.mem_singleton] at hc
          obtain ⟨x, hx, rfl⟩ := List.mem_map.1 ha
          have := (hv x hx).2
          omega
  · have hin : p ∈ l := memk.1 ⟨e0, List.mem_of_getElem? f2, f3⟩
    obtain ⟨⟨n, hval⟩, hborn⟩ := hv e0 (List.mem_of_getElem? f2)
    have hj : es[j]? = some e0 := by simpa using f2
    have hsame : es.modify j (fun e => { e with key := ptV p }) = es := by
      apply Array.ext'
      rw [Array.toList_modify, ChangeMaps.modify_eq_set _ _ _ _ f2]
      have : ({ e0 with key := ptV p } : MapEntry) = e0 := by rw [← f3]
      rw [this]
      exact WideElems.set_self _ _ _ f2
    have hb1 := ChangeMaps.heap_setBlock_same hb (.map es clock)
    have f1' : (Instr.findKey 25 (ptV p) es.toList).run Try.prog (ChangeMaps.setBlock w b (.map es clock)) = .ok (some (j, e0.val)) (ChangeMaps.setBlock w b (.map es clock)) := by
      have e : ChangeMaps.setBlock w b (.map es clock) = w := by
        unfold ChangeMaps.setBlock
        rw [show w.heap.setIfInBounds b (.map es clock) = w.heap from ?_]
        apply Array.ext'
        rw [Array.toList_setIfInBounds]
        exact WideElems.set_self _ _ _ (by rw [Array.getElem?_toList]; exact hb)
      rw [e]
      exact f1
    refine ⟨n, e0.val, e0.born, ChangeMaps.setBlock w b (.map es clock), ?_, ?_, ?_, grown_block hb _, fun m => ?_⟩
    · simp [Instr.lookup, run_underlying ht, MapKept.run_getObj_map hb, K.check w _ hkey, f1, hval, Result.andThen]
    · simp [Instr.mapEntry, run_underlying ht, MapKept.run_getObj_map hb, K.check w false hkey, f1, hj, f3, K.stays w hkey, hsame, MapKept.run_setObj_map _ hb, Result.andThen, ChangeMaps.setBlock]
    · simp [Instr.lookup, run_underlying ht, MapKept.run_getObj_map hb1, K.check _ _ hkey, f1', hval, Result.andThen]
    · have hidx : es.findIdx? (fun e => ((e.born : Nat) : Int) == ((e0.born : Nat) : Int)) = some j := by
        rw [WideElems.findIdx_arr]
        exact WideElems.findIdx_born hn f2
      have hset : (es.modify j (fun e => { e with val := .int .i64 m })).toList = es.toList.set j { e0 with val := .int .i64 m } := by
        rw [Array.toList_modify, ChangeMaps.modify_eq_set _ _ _ _ f2]
      refine ⟨ChangeMaps.setBlock (ChangeMaps.setBlock w b (.map es clock)) b (.map (es.modify j (fun e => { e with val := .int .i64 m })) clock), ?_, ?_, grownBy_trans (grown_block hb _) (grown_block hb1 _)⟩
      · clear f1'
        generalize ChangeMaps.setBlock w b (.map es clock) = W1 at *
        simp [Instr.entryStore, MapKept.run_getObj_map hb1, asInt, asIntOf, goInt, hidx, MapKept.run_setObj_map _ hb1, Result.andThen, ChangeMaps.setBlock]
      · have hc : l.contains p = true := by simpa using hin
        rw [hc]
        have maps : ∀ {α : Type} (f : MapEntry → α), f { e0 with val := .int .i64 m } = f e0 → (es.toList.set j { e0 with val := .int .i64 m }).map f = es.toList.map f := fun f hf => by
          rw [List.map_set, hf, WideElems.set_self _ _ _ (by rw [List.getElem?_map, f2]; rfl)]
        refine ⟨_, _, ChangeMaps.heap_setBlock_same hb1 _, ?_, ?_, ?_⟩
        · rw [hset, maps (·.key) rfl, hk]
          rfl
        · intro e he
          rw [hset] at he
          rcases List.mem_or_eq_of_mem_set he with he | rfl
          · exact hv e he
          · exact ⟨⟨m, rfl⟩, hborn⟩
        · rw [hset, maps (·.born) rfl]
          exact hn
end Go.Proofs.Ytfhcbgjnojcigaa

/- Squares and products of ways. -/
namespace Go.Proofs.Ytfhcbgjnojcigaa
open Go.RowKit

end Go.Proofs.Ytfhcbgjnojcigaa
