import Derived.Test.YthfgeihgmknkcaaBase
import Derived.Test.YthfgeihgmknkcaaPtG
import Derived.Test.YthfgeihgmknkcaaProg
import Derived.Deep.RegionHeld3
import Derived.WideKeyEntry
import Derived.DeepKeys4
/- Points: which are right, what they are taken as; the ways between them. -/
namespace Go.Proofs.Ythfgeihgmknkcaa
open Go.RowKit

/-- Right, by both coordinates. -/
def ptOk (x y : Int) : Bool := inB x (-10000000) 10000000 && inB y (-10000000) 10000000
/-- What a coordinate is taken as. -/
def tX (x y : Int) : Int := if ptOk x y then x else 0
def tY (x y : Int) : Int := if ptOk x y then y else 0
/-- Within the limit. -/
def Crd (n : Int) : Prop := -10000000 ≤ n ∧ n ≤ 10000000
theorem inB_true {x lo hi : Int} : inB x lo hi = true ↔ lo ≤ x ∧ x ≤ hi := by simp [inB]
theorem tX_crd (x y : Int) : Crd (tX x y) := by
  unfold tX Crd
  by_cases h : ptOk x y = true
  · rw [if_pos h]; unfold ptOk at h; rw [Bool.and_eq_true, inB_true, inB_true] at h; omega
  · rw [if_neg h]; omega
theorem tY_crd (x y : Int) : Crd (tY x y) := by
  unfold tY Crd
  by_cases h : ptOk x y = true
  · rw [if_pos h]; unfold ptOk at h; rw [Bool.and_eq_true, inB_true, inB_true] at h; omega
  · rw [if_neg h]; omega

theorem coordOk_any (n : Int) (w : World) :
    Calls Try.prog 100 #[.int .i64 n] w fun e w' => e = .returned (.bool (inB n (-10000000) 10000000)) ∧ w' = w := by
  by_cases h1 : -10000000 ≤ n <;> by_cases h2 : n ≤ 10000000
  all_goals
    have E : inB n (-10000000) 10000000 = (decide (-10000000 ≤ n) && decide (n ≤ 10000000)) := rfl
    have H : Hid (inB n (-10000000) 10000000 = (decide (-10000000 ≤ n) && decide (n ≤ 10000000))) := E
    clear E
    go_enter Try.func100, Try.ntmps100
    go_wp2
    go_ret
    exact ⟨by rw [H.out]; simp [h1, h2], rfl⟩

theorem l1In_any (n lo hi : Int) (w : World) :
    Calls Try.prog 98 #[.int .i64 n, .int .i64 lo, .int .i64 hi] w fun e w' => e = .returned (.bool (inB n lo hi)) ∧ w' = w := by
  have H : Hid (inB n lo hi = (decide (lo ≤ n) && decide (n ≤ hi))) := (rfl : inB n lo hi = _)
  by_cases h1 : lo ≤ n <;> by_cases h2 : n ≤ hi
  all_goals
    go_enter Try.func98, Try.ntmps98
    go_wp2
    go_ret
    exact ⟨by rw [H.out]; simp [h1, h2], rfl⟩

theorem implPtOk (x y : Int) (w : World) :
    Calls Try.prog 65 #[.agg #[.int .i64 x, .int .i64 y]] w fun e w' => e = .returned (.bool (ptOk x y)) ∧ Below w.heap.size w w' := by
  have H : Hid (ptOk x y = (inB x (-10000000) 10000000 && inB y (-10000000) 10000000)) := (rfl : ptOk x y = _)
  cases h1 : inB x (-10000000) 10000000
  all_goals
    go_enter Try.func65, Try.ntmps65
    go_wp2_with (go_at_call 100; refine (coordOk_any _ _).mono ?_; rintro e w' ⟨rfl, rfl⟩; try rw [h1])
    go_ret
    exact ⟨by rw [H.out, h1]; simp, below1 _ _⟩

theorem specPtOk (x y : Int) (w : World) :
    Calls Try.prog 63 #[.agg #[.int .i64 x, .int .i64 y]] w fun e w' => e = .returned (.bool (ptOk x y)) ∧ Below w.heap.size w w' := by
  have H : Hid (ptOk x y = (inB x (-10000000) 10000000 && inB y (-10000000) 10000000)) := (rfl : ptOk x y = _)
  cases h1 : inB x (-10000000) 10000000
  all_goals
    go_enter Try.func63, Try.ntmps63
    go_wp2_with (go_at_call 98; refine (l1In_any _ _ _ _).mono ?_; rintro e w' ⟨rfl, rfl⟩; try rw [h1])
    go_ret
    exact ⟨by rw [H.out, h1]; simp, below1 _ _⟩

theorem toPt_any (x y : Int) (w : World) :
    Calls Try.prog 8 #[.agg #[.int .i64 x, .int .i64 y]] w fun e w' => e = .returned (.agg #[.int .i64 x, .int .i64 y]) ∧ Below w.heap.size w w' := by
  go_enter Try.func8, Try.ntmps8
  go_wp2
  exact bodyPost_ret (v := .agg #[.int .i64 x, .int .i64 y]) (by simp [results, Try.results8, go_sem]) rfl ⟨rfl, below3 _ _ _ _⟩

theorem implTakenPt (x y : Int) (w : World) :
    Calls Try.prog 38 #[.agg #[.int .i64 x, .int .i64 y]] w fun e w' => e = .returned (.agg #[.int .i64 (tX x y), .int .i64 (tY x y)]) ∧ Below w.heap.size w w' := by
  have HX : Hid (tX x y = if ptOk x y then x else 0) := (rfl : tX x y = _)
  have HY : Hid (tY x y = if ptOk x y then y else 0) := (rfl : tY x y = _)
  cases h : ptOk x y
  all_goals
    go_enter Try.func38, Try.ntmps38
    go_wp2_with fail
    refine (implPtOk x y _).mono ?_
    rintro e w1 ⟨rfl, hb⟩
    rw [h]
    have B := (below2 w (.cells #[.int .i64 x, .int .i64 y] 31) (.cells #[.int .i64 0, .int .i64 0] 31)).trans (hb.mono (by simp; omega))
    obtain ⟨hc, hf⟩ := bcell hb
    have hz : w.heap.size + 1 < w1.heap.size := by have := hb.size; simp at this; omega
    clear hb
    go_wp2
    rw [HX.out, HY.out, h]
    exact bodyPost_ret (v := _) (by simp [results, Try.results38, go_sem, hc]; try rfl) rfl ⟨rfl, (B.setCell (by simp) _).setCell (by simp) _⟩

theorem specTakenPt (x y : Int) (w : World) :
    Calls Try.prog 27 #[.agg #[.int .i64 x, .int .i64 y]] w fun e w' => e = .returned (.agg #[.int .i64 (tX x y), .int .i64 (tY x y)]) ∧ Below w.heap.size w w' := by
  have HX : Hid (tX x y = if ptOk x y then x else 0) := (rfl : tX x y = _)
  have HY : Hid (tY x y = if ptOk x y then y else 0) := (rfl : tY x y = _)
  cases h : ptOk x y
  all_goals
    go_enter Try.func27, Try.ntmps27
    go_wp2_with fail
    refine (specPtOk x y _).mono ?_
    rintro e w1 ⟨rfl, hb⟩
    rw [h]
    have B := (below2 w (.cells #[.int .i64 x, .int .i64 y] 31) (.cells #[.int .i64 0, .int .i64 0] 31)).trans (hb.mono (by simp; omega))
    obtain ⟨hc, hf⟩ := bcell hb
    have hz : w.heap.size + 1 < w1.heap.size := by have := hb.size; simp at this; omega
    clear hb
    go_wp2
    rw [HX.out, HY.out, h]
    exact bodyPost_ret (v := _) (by simp [results, Try.results27, go_sem, hc]; try rfl) rfl ⟨rfl, (B.setCell (by simp) _).setCell (by simp) _⟩

/-- Between two coordinates. -/
def Dif (n : Int) : Prop := -20000000 ≤ n ∧ n ≤ 20000000
theorem Crd.dif {a b : Int} (h : Crd a) (k : Crd b) : Dif (a - b) := by unfold Crd at h k; unfold Dif; omega
theorem Dif.mul {a b : Int} (h : Dif a) (k : Dif b) : -400000000000000 ≤ a * b ∧ a * b ≤ 400000000000000 := by
  unfold Dif at h k
  have h1 := Int.mul_nonneg (show 0 ≤ 20000000 - a by omega) (show 0 ≤ 20000000 - b by omega)
  have h2 := Int.mul_nonneg (show 0 ≤ 20000000 + a by omega) (show 0 ≤ 20000000 + b by omega)
  have h3 := Int.mul_nonneg (show 0 ≤ 20000000 - a by omega) (show 0 ≤ 20000000 + b by omega)
  have h4 := Int.mul_nonneg (show 0 ≤ 20000000 + a by omega) (show 0 ≤ 20000000 - b by omega)
  grind

theorem way_any (x1 y1 x2 y2 : Int) (w : World) (h1 : Crd x1) (h2 : Crd y1) (h3 : Crd x2) (h4 : Crd y2) :
    Calls Try.prog 80 #[.agg #[.int .i64 x1, .int .i64 y1], .agg #[.int .i64 x2, .int .i64 y2]] w fun e w' => e = .returned (.agg #[.int .i64 (x2 - x1), .int .i64 (y2 - y1)]) ∧ Below w.heap.size w w' := by
  obtain ⟨a1, b1⟩ := h1
  obtain ⟨a2, b2⟩ := h2
  obtain ⟨a3, b3⟩ := h3
  obtain ⟨a4, b4⟩ := h4
  go_enter Try.func80, Try.ntmps80
  go_wp2
  exact bodyPost_ret (v := .agg #[.int .i64 (x2 - x1), .int .i64 (y2 - y1)]) (by simp [results, Try.results80, go_sem]) rfl ⟨rfl, below3 _ _ _ _⟩

theorem across_any (x1 y1 x2 y2 : Int) (w : World) (h1 : Dif x1) (h2 : Dif y1) (h3 : Dif x2) (h4 : Dif y2) :
    Calls Try.prog 81 #[.agg #[.int .i64 x1, .int .i64 y1], .agg #[.int .i64 x2, .int .i64 y2]] w fun e w' => e = .returned (.int .i64 (x1 * y2 - y1 * x2)) ∧ Below w.heap.size w w' := by
  obtain ⟨a1, b1⟩ := h1.mul h4
  obtain ⟨a2, b2⟩ := h2.mul h3
  go_enter Try.func81, Try.ntmps81
  go_wp2
  go_ret
  exact ⟨rfl, below2 _ _ _⟩

theorem sgn1_neg {n : Int} (h : n < 0) : sgn1 n = -1 := by unfold sgn1; rw [if_neg (by omega), if_pos h]
theorem sgn1_pos {n : Int} (h : 0 < n) : sgn1 n = 1 := by unfold sgn1; rw [if_pos h]
theorem sgn1_cases (n : Int) : sgn1 n = -1 ∨ sgn1 n = 0 ∨ sgn1 n = 1 := by
  rcases Int.lt_trichotomy n 0 with h | h | h
  · exact .inl (sgn1_neg h)
  · subst h; exact .inr (.inl rfl)
  · exact .inr (.inr (sgn1_pos h))
theorem ret_bool {a b : Bool} (h : a = b) : Ending.returned (.bool a) = .returned (.bool b) := by rw [h]

theorem isNaN_any (n : Int) (w : World) :
    Calls Try.prog 122 #[.int .i64 n] w fun e w' => e = .returned (.bool false) ∧ w' = w := by
  go_enter Try.func122, Try.ntmps122
  go_wp2
  go_ret
  exact ⟨rfl, rfl⟩

theorem compare0 (n : Int) (w : World) :
    Calls Try.prog 110 #[.int .i64 n, .int .i64 0] w fun e w' => e = .returned (.int .i64 (sgn1 n)) ∧ w' = w := by
  rcases Int.lt_trichotomy n 0 with h | h | h
  · have h' : ¬ 0 < n := by omega
    go_enter Try.func110, Try.ntmps110
    go_wp2_with (go_at_call 122; refine (isNaN_any _ _).mono ?_; rintro e w' ⟨rfl, rfl⟩)
    go_ret
    exact ⟨by rw [sgn1_neg h]; rfl, rfl⟩
  · subst h
    go_enter Try.func110, Try.ntmps110
    go_wp2_with (go_at_call 122; refine (isNaN_any _ _).mono ?_; rintro e w' ⟨rfl, rfl⟩)
    go_ret
    exact ⟨rfl, rfl⟩
  · have h' : ¬ n < 0 := by omega
    go_enter Try.func110, Try.ntmps110
    go_wp2_with (go_at_call 122; refine (isNaN_any _ _).mono ?_; rintro e w' ⟨rfl, rfl⟩)
    go_ret
    exact ⟨by rw [sgn1_pos h]; rfl, rfl⟩

theorem l3Sign_any (n : Int) (w : World) :
    Calls Try.prog 70 #[.int .i64 n] w fun e w' => e = .returned (.int .i64 (sgn1 n)) ∧ w' = w := by
  rcases Int.lt_trichotomy n 0 with h | h | h
  · have h' : ¬ 0 < n := by omega
    go_enter Try.func70, Try.ntmps70
    go_wp2
    go_ret
    exact ⟨by rw [sgn1_neg h]; rfl, rfl⟩
  · subst h
    go_enter Try.func70, Try.ntmps70
    go_wp2
    go_ret
    exact ⟨rfl, rfl⟩
  · have h' : ¬ n < 0 := by omega
    go_enter Try.func70, Try.ntmps70
    go_wp2
    go_ret
    exact ⟨by rw [sgn1_pos h]; rfl, rfl⟩

theorem l3Area_any (x1 y1 x2 y2 x3 y3 : Int) (w : World) (h1 : Crd x1) (h2 : Crd y1) (h3 : Crd x2) (h4 : Crd y2) (h5 : Crd x3) (h6 : Crd y3) :
    Calls Try.prog 31 #[.agg #[.int .i64 x1, .int .i64 y1], .agg #[.int .i64 x2, .int .i64 y2], .agg #[.int .i64 x3, .int .i64 y3]] w fun e w' => e = .returned (.int .i64 (ar x1 y1 x2 y2 x3 y3)) ∧ Below w.heap.size w w' := by
  obtain ⟨p1, p2⟩ := (h3.dif h1).mul (h6.dif h2)
  obtain ⟨q1, q2⟩ := (h4.dif h2).mul (h5.dif h1)
  obtain ⟨a1, b1⟩ := h1
  obtain ⟨a2, b2⟩ := h2
  obtain ⟨a3, b3⟩ := h3
  obtain ⟨a4, b4⟩ := h4
  obtain ⟨a5, b5⟩ := h5
  obtain ⟨a6, b6⟩ := h6
  go_enter Try.func31, Try.ntmps31
  go_wp2
  go_ret
  exact ⟨rfl, below3 _ _ _ _⟩
end Go.Proofs.Ythfgeihgmknkcaa

/- Boxes of points in memory: what lies in them stays there. -/
namespace Go.Proofs.Ythfgeihgmknkcaa
open Go.RowKit

theorem ptbox1 (w : World) (x1 y1 : Int) (t : TypeId) : (w.alloc (.cells #[.int .i64 x1, .int .i64 y1] t)).cell? ⟨w.heap.size, 0, none⟩ = some (.int .i64 x1) ∧ (w.alloc (.cells #[.int .i64 x1, .int .i64 y1] t)).cell? ⟨w.heap.size, 1, none⟩ = some (.int .i64 y1) := by
  refine ⟨?_, ?_⟩ <;> simp [go_sem]
theorem ptkeep1 {W w' : World} {b : Nat} {x1 y1 : Int} (k : W.cell? ⟨b, 0, none⟩ = some (.int .i64 x1) ∧ W.cell? ⟨b, 1, none⟩ = some (.int .i64 y1)) (B : Below W.heap.size W w') : w'.cell? ⟨b, 0, none⟩ = some (.int .i64 x1) ∧ w'.cell? ⟨b, 1, none⟩ = some (.int .i64 y1) :=
  ⟨bat B k.1, bat B k.2⟩
theorem ptbelow1 (w : World) (x1 y1 : Int) (t : TypeId) : Below w.heap.size w (w.alloc (.cells #[.int .i64 x1, .int .i64 y1] t)) := below1 _ _
theorem ptbox2 (w : World) (x1 y1 x2 y2 : Int) (t : TypeId) : ((w.alloc (.cells #[.int .i64 x1, .int .i64 y1] t)).alloc (.cells #[.int .i64 x2, .int .i64 y2] t)).cell? ⟨w.heap.size, 0, none⟩ = some (.int .i64 x1) ∧ ((w.alloc (.cells #[.int .i64 x1, .int .i64 y1] t)).alloc (.cells #[.int .i64 x2, .int .i64 y2] t)).cell? ⟨w.heap.size, 1, none⟩ = some (.int .i64 y1) ∧ ((w.alloc (.cells #[.int .i64 x1, .int .i64 y1] t)).alloc (.cells #[.int .i64 x2, .int .i64 y2] t)).cell? ⟨w.heap.size + 1, 0, none⟩ = some (.int .i64 x2) ∧ ((w.alloc (.cells #[.int .i64 x1, .int .i64 y1] t)).alloc (.cells #[.int .i64 x2, .int .i64 y2] t)).cell? ⟨w.heap.size + 1, 1, none⟩ = some (.int .i64 y2) := by
  refine ⟨?_, ?_, ?_, ?_⟩ <;> simp [go_sem]
theorem ptkeep2 {W w' : World} {b : Nat} {x1 y1 x2 y2 : Int} (k : W.cell? ⟨b, 0, none⟩ = some (.int .i64 x1) ∧ W.cell? ⟨b, 1, none⟩ = some (.int .i64 y1) ∧ W.cell? ⟨b + 1, 0, none⟩ = some (.int .i64 x2) ∧ W.cell? ⟨b + 1, 1, none⟩ = some (.int .i64 y2)) (B : Below W.heap.size W w') : w'.cell? ⟨b, 0, none⟩ = some (.int .i64 x1) ∧ w'.cell? ⟨b, 1, none⟩ = some (.int .i64 y1) ∧ w'.cell? ⟨b + 1, 0, none⟩ = some (.int .i64 x2) ∧ w'.cell? ⟨b + 1, 1, none⟩ = some (.int .i64 y2) :=
  ⟨bat B k.1, bat B k.2.1, bat B k.2.2.1, bat B k.2.2.2⟩
theorem ptbelow2 (w : World) (x1 y1 x2 y2 : Int) (t : TypeId) : Below w.heap.size w ((w.alloc (.cells #[.int .i64 x1, .int .i64 y1] t)).alloc (.cells #[.int .i64 x2, .int .i64 y2] t)) := below2 _ _ _
theorem ptbox3 (w : World) (x1 y1 x2 y2 x3 y3 : Int) (t : TypeId) : (((w.alloc (.cells #[.int .i64 x1, .int .i64 y1] t)).alloc (.cells #[.int .i64 x2, .int .i64 y2] t)).alloc (.cells #[.int .i64 x3, .int .i64 y3] t)).cell? ⟨w.heap.size, 0, none⟩ = some (.int .i64 x1) ∧ (((w.alloc (.cells #[.int .i64 x1, .int .i64 y1] t)).alloc (.cells #[.int .i64 x2, .int .i64 y2] t)).alloc (.cells #[.int .i64 x3, .int .i64 y3] t)).cell? ⟨w.heap.size, 1, none⟩ = some (.int .i64 y1) ∧ (((w.alloc (.cells #[.int .i64 x1, .int .i64 y1] t)).alloc (.cells #[.int .i64 x2, .int .i64 y2] t)).alloc (.cells #[.int .i64 x3, .int .i64 y3] t)).cell? ⟨w.heap.size + 1, 0, none⟩ = some (.int .i64 x2) ∧ (((w.alloc (.cells #[.int .i64 x1, .int .i64 y1] t)).alloc (.cells #[.int .i64 x2, .int .i64 y2] t)).alloc (.cells #[.int .i64 x3, .int .i64 y3] t)).cell? ⟨w.heap.size + 1, 1, none⟩ = some (.int .i64 y2) ∧ (((w.alloc (.cells #[.int .i64 x1, .int .i64 y1] t)).alloc (.cells #[.int .i64 x2, .int .i64 y2] t)).alloc (.cells #[.int .i64 x3, .int .i64 y3] t)).cell? ⟨w.heap.size + 1 + 1, 0, none⟩ = some (.int .i64 x3) ∧ (((w.alloc (.cells #[.int .i64 x1, .int .i64 y1] t)).alloc (.cells #[.int .i64 x2, .int .i64 y2] t)).alloc (.cells #[.int .i64 x3, .int .i64 y3] t)).cell? ⟨w.heap.size + 1 + 1, 1, none⟩ = some (.int .i64 y3) := by
  refine ⟨?_, ?_, ?_, ?_, ?_, ?_⟩ <;> simp [go_sem]
theorem ptkeep3 {W w' : World} {b : Nat} {x1 y1 x2 y2 x3 y3 : Int} (k : W.cell? ⟨b, 0, none⟩ = some (.int .i64 x1) ∧ W.cell? ⟨b, 1, none⟩ = some (.int .i64 y1) ∧ W.cell? ⟨b + 1, 0, none⟩ = some (.int .i64 x2) ∧ W.cell? ⟨b + 1, 1, none⟩ = some (.int .i64 y2) ∧ W.cell? ⟨b + 1 + 1, 0, none⟩ = some (.int .i64 x3) ∧ W.cell? ⟨b + 1 + 1, 1, none⟩ = some (.int .i64 y3)) (B : Below W.heap.size W w') : w'.cell? ⟨b, 0, none⟩ = some (.int .i64 x1) ∧ w'.cell? ⟨b, 1, none⟩ = some (.int .i64 y1) ∧ w'.cell? ⟨b + 1, 0, none⟩ = some (.int .i64 x2) ∧ w'.cell? ⟨b + 1, 1, none⟩ = some (.int .i64 y2) ∧ w'.cell? ⟨b + 1 + 1, 0, none⟩ = some (.int .i64 x3) ∧ w'.cell? ⟨b + 1 + 1, 1, none⟩ = some (.int .i64 y3) :=
  ⟨bat B k.1, bat B k.2.1, bat B k.2.2.1, bat B k.2.2.2.1, bat B k.2.2.2.2.1, bat B k.2.2.2.2.2⟩
theorem ptbelow3 (w : World) (x1 y1 x2 y2 x3 y3 : Int) (t : TypeId) : Below w.heap.size w (((w.alloc (.cells #[.int .i64 x1, .int .i64 y1] t)).alloc (.cells #[.int .i64 x2, .int .i64 y2] t)).alloc (.cells #[.int .i64 x3, .int .i64 y3] t)) := below3 _ _ _ _
theorem ptbox4 (w : World) (x1 y1 x2 y2 x3 y3 x4 y4 : Int) (t : TypeId) : ((((w.alloc (.cells #[.int .i64 x1, .int .i64 y1] t)).alloc (.cells #[.int .i64 x2, .int .i64 y2] t)).alloc (.cells #[.int .i64 x3, .int .i64 y3] t)).alloc (.cells #[.int .i64 x4, .int .i64 y4] t)).cell? ⟨w.heap.size, 0, none⟩ = some (.int .i64 x1) ∧ ((((w.alloc (.cells #[.int .i64 x1, .int .i64 y1] t)).alloc (.cells #[.int .i64 x2, .int .i64 y2] t)).alloc (.cells #[.int .i64 x3, .int .i64 y3] t)).alloc (.cells #[.int .i64 x4, .int .i64 y4] t)).cell? ⟨w.heap.size, 1, none⟩ = some (.int .i64 y1) ∧ ((((w.alloc (.cells #[.int .i64 x1, .int .i64 y1] t)).alloc (.cells #[.int .i64 x2, .int .i64 y2] t)).alloc (.cells #[.int .i64 x3, .int .i64 y3] t)).alloc (.cells #[.int .i64 x4, .int .i64 y4] t)).cell? ⟨w.heap.size + 1, 0, none⟩ = some (.int .i64 x2) ∧ ((((w.alloc (.cells #[.int .i64 x1, .int .i64 y1] t)).alloc (.cells #[.int .i64 x2, .int .i64 y2] t)).alloc (.cells #[.int .i64 x3, .int .i64 y3] t)).alloc (.cells #[.int .i64 x4, .int .i64 y4] t)).cell? ⟨w.heap.size + 1, 1, none⟩ = some (.int .i64 y2) ∧ ((((w.alloc (.cells #[.int .i64 x1, .int .i64 y1] t)).alloc (.cells #[.int .i64 x2, .int .i64 y2] t)).alloc (.cells #[.int .i64 x3, .int .i64 y3] t)).alloc (.cells #[.int .i64 x4, .int .i64 y4] t)).cell? ⟨w.heap.size + 1 + 1, 0, none⟩ = some (.int .i64 x3) ∧ ((((w.alloc (.cells #[.int .i64 x1, .int .i64 y1] t)).alloc (.cells #[.int .i64 x2, .int .i64 y2] t)).alloc (.cells #[.int .i64 x3, .int .i64 y3] t)).alloc (.cells #[.int .i64 x4, .int .i64 y4] t)).cell? ⟨w.heap.size + 1 + 1, 1, none⟩ = some (.int .i64 y3) ∧ ((((w.alloc (.cells #[.int .i64 x1, .int .i64 y1] t)).alloc (.cells #[.int .i64 x2, .int .i64 y2] t)).alloc (.cells #[.int .i64 x3, .int .i64 y3] t)).alloc (.cells #[.int .i64 x4, .int .i64 y4] t)).cell? ⟨w.heap.size + 1 + 1 + 1, 0, none⟩ = some (.int .i64 x4) ∧ ((((w.alloc (.cells #[.int .i64 x1, .int .i64 y1] t)).alloc (.cells #[.int .i64 x2, .int .i64 y2] t)).alloc (.cells #[.int .i64 x3, .int .i64 y3] t)).alloc (.cells #[.int .i64 x4, .int .i64 y4] t)).cell? ⟨w.heap.size + 1 + 1 + 1, 1, none⟩ = some (.int .i64 y4) := by
  refine ⟨?_, ?_, ?_, ?_, ?_, ?_, ?_, ?_⟩ <;> simp [go_sem]
theorem ptkeep4 {W w' : World} {b : Nat} {x1 y1 x2 y2 x3 y3 x4 y4 : Int} (k : W.cell? ⟨b, 0, none⟩ = some (.int .i64 x1) ∧ W.cell? ⟨b, 1, none⟩ = some (.int .i64 y1) ∧ W.cell? ⟨b + 1, 0, none⟩ = some (.int .i64 x2) ∧ W.cell? ⟨b + 1, 1, none⟩ = some (.int .i64 y2) ∧ W.cell? ⟨b + 1 + 1, 0, none⟩ = some (.int .i64 x3) ∧ W.cell? ⟨b + 1 + 1, 1, none⟩ = some (.int .i64 y3) ∧ W.cell? ⟨b + 1 + 1 + 1, 0, none⟩ = some (.int .i64 x4) ∧ W.cell? ⟨b + 1 + 1 + 1, 1, none⟩ = some (.int .i64 y4)) (B : Below W.heap.size W w') : w'.cell? ⟨b, 0, none⟩ = some (.int .i64 x1) ∧ w'.cell? ⟨b, 1, none⟩ = some (.int .i64 y1) ∧ w'.cell? ⟨b + 1, 0, none⟩ = some (.int .i64 x2) ∧ w'.cell? ⟨b + 1, 1, none⟩ = some (.int .i64 y2) ∧ w'.cell? ⟨b + 1 + 1, 0, none⟩ = some (.int .i64 x3) ∧ w'.cell? ⟨b + 1 + 1, 1, none⟩ = some (.int .i64 y3) ∧ w'.cell? ⟨b + 1 + 1 + 1, 0, none⟩ = some (.int .i64 x4) ∧ w'.cell? ⟨b + 1 + 1 + 1, 1, none⟩ = some (.int .i64 y4) :=
  ⟨bat B k.1, bat B k.2.1, bat B k.2.2.1, bat B k.2.2.2.1, bat B k.2.2.2.2.1, bat B k.2.2.2.2.2.1, bat B k.2.2.2.2.2.2.1, bat B k.2.2.2.2.2.2.2⟩
theorem ptbelow4 (w : World) (x1 y1 x2 y2 x3 y3 x4 y4 : Int) (t : TypeId) : Below w.heap.size w ((((w.alloc (.cells #[.int .i64 x1, .int .i64 y1] t)).alloc (.cells #[.int .i64 x2, .int .i64 y2] t)).alloc (.cells #[.int .i64 x3, .int .i64 y3] t)).alloc (.cells #[.int .i64 x4, .int .i64 y4] t)) := below4 _ _ _ _ _
end Go.Proofs.Ythfgeihgmknkcaa

/- Turns: of the program, of the specification. -/
namespace Go.Proofs.Ythfgeihgmknkcaa
open Go.RowKit

set_option maxRecDepth 20000 in
set_option maxHeartbeats 2000000 in
theorem turn_any (x1 y1 x2 y2 x3 y3 : Int) (w : World) (c1 : Crd x1) (d1 : Crd y1) (c2 : Crd x2) (d2 : Crd y2) (c3 : Crd x3) (d3 : Crd y3) :
    Calls Try.prog 77 #[.agg #[.int .i64 x1, .int .i64 y1], .agg #[.int .i64 x2, .int .i64 y2], .agg #[.int .i64 x3, .int .i64 y3]] w fun e w' => e = .returned (.int .i64 (sgn1 (ar x1 y1 x2 y2 x3 y3))) ∧ Below w.heap.size w w' := by
  have k0 := ptbox3 w x1 y1 x2 y2 x3 y3 31
  have B0 := ptbelow3 w x1 y1 x2 y2 x3 y3 31
  have e1 := c2.dif c1
  have e2 := d2.dif d1
  have e3 := c3.dif c1
  have e4 := d3.dif d1
  have H : Hid ((x2 - x1) * (y3 - y1) - (y2 - y1) * (x3 - x1) = ar x1 y1 x2 y2 x3 y3) := (rfl : _ = ar x1 y1 x2 y2 x3 y3)
  go_enter Try.func77, Try.ntmps77
  go_wp2_with fail
  generalize (((w.alloc (.cells #[.int .i64 x1, .int .i64 y1] 31)).alloc (.cells #[.int .i64 x2, .int .i64 y2] 31)).alloc (.cells #[.int .i64 x3, .int .i64 y3] 31)) = W0 at *
  have B : Below W0.heap.size W0 W0 := Below.refl _ _
  go_region_held3 (fun w' => w'.cell? ⟨w.heap.size, 0, none⟩ = some (.int .i64 x1) ∧ w'.cell? ⟨w.heap.size, 1, none⟩ = some (.int .i64 y1) ∧ w'.cell? ⟨w.heap.size + 1, 0, none⟩ = some (.int .i64 x2) ∧ w'.cell? ⟨w.heap.size + 1, 1, none⟩ = some (.int .i64 y2) ∧ w'.cell? ⟨w.heap.size + 1 + 1, 0, none⟩ = some (.int .i64 x3) ∧ w'.cell? ⟨w.heap.size + 1 + 1, 1, none⟩ = some (.int .i64 y3))
    (first | exact k0 | exact ptkeep3 k0 B | exact ptkeep3 k0 B.drew)
    (first
    | (go_at_call 80; refine (way_any _ _ _ _ _ (by assumption) (by assumption) (by assumption) (by assumption)).mono ?_; rintro e w1 ⟨rfl, hb⟩; (first | replace B := B.trans (hb.mono B.size) | replace B := B.drew.trans (hb.mono B.drew.size)))
    | (go_at_call 81; refine (across_any _ _ _ _ _ (by assumption) (by assumption) (by assumption) (by assumption)).mono ?_; rintro e w1 ⟨rfl, hb⟩; (first | replace B := B.trans (hb.mono B.size) | replace B := B.drew.trans (hb.mono B.drew.size)); rw [H.out])
    | (go_at_call 110; refine (compare0 _ _).mono ?_; rintro e w1 ⟨rfl, rfl⟩))
  all_goals
    go_wp2
    go_ret
    exact ⟨rfl, B0.trans (B.mono B0.size)⟩

end Go.Proofs.Ythfgeihgmknkcaa

/- Between two, and ranges that meet. -/
namespace Go.Proofs.Ythfgeihgmknkcaa
open Go.RowKit

theorem l3Between_any (a b x : Int) (w : World) :
    Calls Try.prog 104 #[.int .i64 a, .int .i64 b, .int .i64 x] w fun e w' => e = .returned (.bool (btw a b x)) ∧ w' = w := by
  have H : Hid (btw a b x = (inB x a b || inB x b a)) := (rfl : btw a b x = _)
  cases h1 : inB x a b
  all_goals
    go_enter Try.func104, Try.ntmps104
    go_wp2_with (go_at_call 98; refine (l1In_any _ _ _ _).mono ?_; rintro e w' ⟨rfl, rfl⟩; try rw [h1])
    go_ret
    exact ⟨by rw [H.out, h1]; simp, rfl⟩

theorem rangesMeet_any (a b c d : Int) (w : World) :
    Calls Try.prog 76 #[.int .i64 a, .int .i64 b, .int .i64 c, .int .i64 d] w fun e w' => e = .returned (.bool (rng a b c d)) ∧ w' = w := by
  have H : Hid (rng a b c d = (decide (min a b ≤ max c d) && decide (min c d ≤ max a b))) := (rfl : rng a b c d = _)
  by_cases h1 : a ≤ b <;> by_cases h2 : c ≤ d
  all_goals
    go_enter Try.func76, Try.ntmps76
    go_wp2
  all_goals
    go_ret
    exact ⟨ret_bool (by rw [H.out, Bool.eq_iff_iff]; simp; omega), rfl⟩
end Go.Proofs.Ythfgeihgmknkcaa

/- A map by points. -/
namespace Go.Proofs.Ythfgeihgmknkcaa
open Go.RowKit Go.WideMaps

/-- A point as a value. -/
def ptV (p : Int × Int) : Value := .agg #[.int .i64 p.1, .int .i64 p.2]
theorem ptV_inj {p q : Int × Int} (h : ptV p = ptV q) : p = q := by
  unfold ptV at h
  simp only [Value.agg.injEq] at h
  have h1 : (.int .i64 p.1 : Value) = .int .i64 q.1 := by have := congrArg (·[0]?) h; simpa using this
  have h2 : (.int .i64 p.2 : Value) = .int .i64 q.2 := by have := congrArg (·[1]?) h; simpa using this
  simp only [Value.int.injEq, true_and] at h1 h2
  exact Prod.ext h1 h2
theorem laidOutM : laidOutB Try.prog = true := by kernel_rfl
theorem widePt : (match Try.prog.underlying 31 with | some (.array _ _) | some (.struct _) => true | _ => false) = true := by rw [Try.underlying31]
set_option maxRecDepth 100000 in
theorem lawPt : KeyLaw Try.prog 31 := deep_law_laid laidOutM (m := 2) (by omega) (of_decide_eq_true (by kernel_rfl)) (by kernel_rfl) widePt
theorem cellsPtM : Try.prog.cellsOf 31 = 2 := by kernel_rfl
theorem cellsIntM : Try.prog.cellsOf 3 = 1 := by kernel_rfl
theorem keyTypePt : Try.prog.keyType 31 = true := by kernel_rfl
theorem crd_wf {n : Int} (h : Crd n) : (Lit.int .i64 n).wf = true := WalkArith.wf_i64 (by unfold Crd at h; omega)
theorem keyPt {p : Int × Int} (h1 : Crd p.1) (h2 : Crd p.2) : ∃ l, keyOf Try.prog 31 (ptV p) = some l := by
  have w1 := crd_wf h1
  have w2 := crd_wf h2
  unfold keyOf ptV
  rw [Try.underlying31]
  have hf : (Value.agg #[.int .i64 p.1, .int .i64 p.2]).formed Try.prog 31 = true := by simp [Value.formed, Try.underlying31, cellsPtM]
  simp only [keyTypePt, hf, Bool.and_self, if_true]
  obtain ⟨m, hm⟩ : ∃ m, Try.prog.types.size = m + 1 := ⟨_, rfl⟩
  rw [hm]
  simp [Program.keyLits, Try.underlying31, Try.underlying3, cellsPtM, cellsIntM, Value.cells, w1, w2]

/-- Block b is a map whose keys are these points, in the order in which they came. -/
def PMap (w : World) (b : Nat) (l : List (Int × Int)) : Prop :=
  ∃ es clock, w.heap[b]? = some (.map es clock) ∧ es.toList.map (·.key) = l.map ptV ∧ (∀ e ∈ es.toList, (∃ n, e.val = .int .i64 n) ∧ e.born < clock) ∧ (es.toList.map (·.born)).Nodup
theorem PMap.of_heap {w w' : World} {b : Nat} {l : List (Int × Int)} (h : PMap w b l) (e : w'.heap[b]? = w.heap[b]?) : PMap w' b l := by
  obtain ⟨es, clock, h1, h2⟩ := h
  exact ⟨es, clock, e.trans h1, h2⟩
theorem PMap.lt {w : World} {b : Nat} {l : List (Int × Int)} (h : PMap w b l) : b < w.heap.size := by
  obtain ⟨es, clock, h1, _⟩ := h
  exact (Array.getElem?_eq_some_iff.1 h1).1
theorem zeroInt (w : World) : (zeroValue 3).run Try.prog w = .ok (.int .i64 0) w := by kernel_rfl
theorem grown_block {w : World} {b : Nat} {es : Array MapEntry} {clock : Nat} (hb : w.heap[b]? = some (.map es clock)) (o : Obj) : w.grownBy (ChangeMaps.setBlock w b o) (some b) :=
  ⟨rfl, rfl, rfl, by simp [ChangeMaps.setBlock], fun k _ hne => ChangeMaps.heap_setBlock_other hb o (by intro e; exact hne (by rw [e]))⟩

set_option maxHeartbeats 1000000 in
theorem PMap.bump {w : World} {b : Nat} {l : List (Int × Int)} (h : PMap w b l) (hl : ∀ q ∈ l, Crd q.1 ∧ Crd q.2) {p : Int × Int} (h1 : Crd p.1) (h2 : Crd p.2) :
    ∃ (n : Int) (v0 : Value) (st : Nat) (W1 : World), (Instr.lookup 110 (.map (some b)) (ptV p) false).run Try.prog w = .ok (.int .i64 n) w ∧
      (Instr.mapEntry 110 (.map (some b)) (ptV p)).run Try.prog w = .ok (.tuple #[v0, goInt st]) W1 ∧
      (Instr.lookup 110 (.map (some b)) (ptV p) false).run Try.prog W1 = .ok (.int .i64 n) W1 ∧ w.grownBy W1 (some b) ∧
      ∀ m, ∃ W2, (Instr.entryStore 110 (.map (some b)) (goInt st) (.int .i64 m)).run Try.prog W1 = .ok () W2 ∧ PMap W2 b (if l.contains p then l else l ++ [p]) ∧ w.grownBy W2 (some b) := by
  obtain ⟨es, clock, hb, hk, hv, hn⟩ := h
  obtain ⟨kl, hkey⟩ := keyPt h1 h2
  have K := lawPt
  have ht := Try.underlying110
  have keys : ∀ e ∈ es.toList, ∃ l, keyOf Try.prog 31 e.key = some l := fun e he => by
    have : e.key ∈ l.map ptV := by rw [← hk]; exact List.mem_map.2 ⟨e, he, rfl⟩
    obtain ⟨q, hq, e1⟩ := List.mem_map.1 this
    rw [← e1]
    exact keyPt (hl q hq).1 (hl q hq).2
  have memk : (∃ e ∈ es.toList, e.key = ptV p) ↔ p ∈ l := by
    constructor
    · rintro ⟨e, he, e1⟩
      have : e.key ∈ l.map ptV := by rw [← hk]; exact List.mem_map.2 ⟨e, he, rfl⟩
      obtain ⟨q, hq, e2⟩ := List.mem_map.1 this
      rw [e1] at e2
      rw [← ptV_inj e2]
      exact hq
    · intro hp
      have : ptV p ∈ es.toList.map (·.key) := by rw [hk]; exact List.mem_map.2 ⟨p, hp, rfl⟩
      obtain ⟨e, he, e1⟩ := List.mem_map.1 this
      exact ⟨e, he, e1⟩
  rcases K.find w hkey es.toList keys with ⟨f1, f2⟩ | ⟨j, e0, f1, f2, f3⟩
  · have hnot : ¬ p ∈ l := fun hp => by obtain ⟨e, he, e1⟩ := memk.2 hp; exact f2 e he e1
    have hb1 := ChangeMaps.heap_setBlock_same hb (.map (es.push ⟨ptV p, .int .i64 0, clock⟩) (clock + 1))
    refine ⟨0, .int .i64 0, clock, ChangeMaps.setBlock w b (.map (es.push ⟨ptV p, .int .i64 0, clock⟩) (clock + 1)), ?_, ?_, ?_, grown_block hb _, fun m => ?_⟩
    · simp [Instr.lookup, run_underlying ht, MapKept.run_getObj_map hb, K.check w _ hkey, f1, Result.andThen]
    · simp [Instr.mapEntry, run_underlying ht, MapKept.run_getObj_map hb, K.check w false hkey, f1, MapKept.run_setObj_map _ hb, Result.andThen, ChangeMaps.setBlock]
    · have keys1 : ∀ e ∈ (es.push ⟨ptV p, .int .i64 0, clock⟩).toList, ∃ l, keyOf Try.prog 31 e.key = some l := fun e he => by
        simp only [Array.toList_push, List.mem_append, List.mem_singleton] at he
        rcases he with he | rfl
        · exact keys e he
        · exact ⟨kl, hkey⟩
      rcases K.find (ChangeMaps.setBlock w b (.map (es.push ⟨ptV p, .int .i64 0, clock⟩) (clock + 1))) hkey _ keys1 with ⟨g1, g2⟩ | ⟨j, e, g1, g2, g3⟩
      · exact absurd rfl (g2 ⟨ptV p, .int .i64 0, clock⟩ (by simp))
      · have he : e.val = .int .i64 0 := by
          have := List.mem_of_getElem? g2
          simp only [Array.toList_push, List.mem_append, List.mem_singleton] at this
          rcases this with he | rfl
          · exact absurd g3 (f2 e he)
          · rfl
        rw [Array.toList_push] at g1
        simp [Instr.lookup, run_underlying ht, MapKept.run_getObj_map hb1, K.check _ _ hkey, g1, he, Result.andThen]
    · have hidx : (es.push ⟨ptV p, .int .i64 0, clock⟩).findIdx? (fun e => ((e.born : Nat) : Int) == ((clock : Nat) : Int)) = some es.size := by
        rw [WideElems.findIdx_arr]
        exact WideElems.findIdx_born (l := (es.push ⟨ptV p, .int .i64 0, clock⟩).toList) (j := es.size) (e0 := ⟨ptV p, .int .i64 0, clock⟩) (by
          rw [Array.toList_push, List.map_append]
          refine List.nodup_append.2 ⟨hn, by simp, fun a ha c hc e1 => ?_⟩
          simp only [List.map_cons, List.map_nil, List.mem_singleton] at hc
          obtain ⟨x, hx, rfl⟩ := List.mem_map.1 ha
          have := (hv x hx).2
          omega) (by simp)
      have hmod : (es.push ⟨ptV p, .int .i64 0, clock⟩).modify es.size (fun e => { e with val := .int .i64 m }) = es.push ⟨ptV p, .int .i64 m, clock⟩ := by
        apply Array.ext'
        rw [Array.toList_modify, Array.toList_push, Array.toList_push, ← Array.length_toList, WideElems.modify_last]
      refine ⟨ChangeMaps.setBlock (ChangeMaps.setBlock w b (.map (es.push ⟨ptV p, .int .i64 0, clock⟩) (clock + 1))) b (.map (es.push ⟨ptV p, .int .i64 m, clock⟩) (clock + 1)), ?_, ?_, grownBy_trans (grown_block hb _) (grown_block hb1 _)⟩
      · generalize ChangeMaps.setBlock w b (.map (es.push ⟨ptV p, .int .i64 0, clock⟩) (clock + 1)) = W1 at *
        simp [Instr.entryStore, MapKept.run_getObj_map hb1, asInt, asIntOf, goInt, hidx, hmod, MapKept.run_setObj_map _ hb1, Result.andThen, ChangeMaps.setBlock]
      · have hc : l.contains p = false := by simpa using hnot
        rw [hc]
        refine ⟨_, _, ChangeMaps.heap_setBlock_same hb1 _, ?_, ?_, ?_⟩
        · rw [Array.toList_push, List.map_append, hk]
          simp
        · intro e he
          simp only [Array.toList_push, List.mem_append, List.mem_singleton] at he
          rcases he with he | rfl
          · have := hv e he
            exact ⟨this.1, by omega⟩
          · exact ⟨⟨m, rfl⟩, by simp⟩
        · rw [Array.toList_push, List.map_append]
          refine List.nodup_append.2 ⟨hn, by simp, fun a ha c hc e1 => ?_⟩
          simp only [List.map_cons, List.map_nil, List.mem_singleton] at hc
          obtain ⟨x, hx, rfl⟩ := List.mem_map.1 ha
          have := (hv x hx).2
          omega
  · have hin : p ∈ l := memk.1 ⟨e0, List.mem_of_getElem? f2, f3⟩
    obtain ⟨⟨n, hval⟩, hborn⟩ := hv e0 (List.mem_of_getElem? f2)
    have hj : es[j]? = some e0 := by simpa using f2
    have hsame : es.modify j (fun e => { e with key := ptV p }) = es := by
      apply Array.ext'
      rw [Array.toList_modify, ChangeMaps.modify_eq_set _ _ _ _ f2]
      have : ({ e0 with key := ptV p } : MapEntry) = e0 := by rw [← f3]
      rw [this]
      exact WideElems.set_self _ _ _ f2
    have hb1 := ChangeMaps.heap_setBlock_same hb (.map es clock)
    have f1' : (Instr.findKey 31 (ptV p) es.toList).run Try.prog (ChangeMaps.setBlock w b (.map es clock)) = .ok (some (j, e0.val)) (ChangeMaps.setBlock w b (.map es clock)) := by
      have e : ChangeMaps.setBlock w b (.map es clock) = w := by
        unfold ChangeMaps.setBlock
        rw [show w.heap.setIfInBounds b (.map es clock) = w.heap from ?_]
        apply Array.ext'
        rw [Array.toList_setIfInBounds]
        exact WideElems.set_self _ _ _ (by rw [Array.getElem?_toList]; exact hb)
      rw [e]
      exact f1
    refine ⟨n, e0.val, e0.born, ChangeMaps.setBlock w b (.map es clock), ?_, ?_, ?_, grown_block hb _, fun m => ?_⟩
    · simp [Instr.lookup, run_underlying ht, MapKept.run_getObj_map hb, K.check w _ hkey, f1, hval, Result.andThen]
    · simp [Instr.mapEntry, run_underlying ht, MapKept.run_getObj_map hb, K.check w false hkey, f1, hj, f3, K.stays w hkey, hsame, MapKept.run_setObj_map _ hb, Result.andThen, ChangeMaps.setBlock]
    · simp [Instr.lookup, run_underlying ht, MapKept.run_getObj_map hb1, K.check _ _ hkey, f1', hval, Result.andThen]
    · have hidx : es.findIdx? (fun e => ((e.born : Nat) : Int) == ((e0.born : Nat) : Int)) = some j := by
        rw [WideElems.findIdx_arr]
        exact WideElems.findIdx_born hn f2
      have hset : (es.modify j (fun e => { e with val := .int .i64 m })).toList = es.toList.set j { e0 with val := .int .i64 m } := by
        rw [Array.toList_modify, ChangeMaps.modify_eq_set _ _ _ _ f2]
      refine ⟨ChangeMaps.setBlock (ChangeMaps.setBlock w b (.map es clock)) b (.map (es.modify j (fun e => { e with val := .int .i64 m })) clock), ?_, ?_, grownBy_trans (grown_block hb _) (grown_block hb1 _)⟩
      · clear f1'
        generalize ChangeMaps.setBlock w b (.map es clock) = W1 at *
        simp [Instr.entryStore, MapKept.run_getObj_map hb1, asInt, asIntOf, goInt, hidx, MapKept.run_setObj_map _ hb1, Result.andThen, ChangeMaps.setBlock]
      · have hc : l.contains p = true := by simpa using hin
        rw [hc]
        have maps : ∀ {α : Type} (f : MapEntry → α), f { e0 with val := .int .i64 m } = f e0 → (es.toList.set j { e0 with val := .int .i64 m }).map f = es.toList.map f := fun f hf => by
          rw [List.map_set, hf, WideElems.set_self _ _ _ (by rw [List.getElem?_map, f2]; rfl)]
        refine ⟨_, _, ChangeMaps.heap_setBlock_same hb1 _, ?_, ?_, ?_⟩
        · rw [hset, maps (·.key) rfl, hk]
          rfl
        · intro e he
          rw [hset] at he
          rcases List.mem_or_eq_of_mem_set he with he | rfl
          · exact hv e he
          · exact ⟨⟨m, rfl⟩, hborn⟩
        · rw [hset, maps (·.born) rfl]
          exact hn
end Go.Proofs.Ythfgeihgmknkcaa

/- Boxes: which are right; their memory. -/
namespace Go.Proofs.Ythfgeihgmknkcaa
open Go.RowKit

/-- Right, by all coordinates. -/
def boxOk (a b c d : Int) : Bool := ptOk a b && (ptOk c d && (decide (a ≤ c) && decide (b ≤ d)))
theorem bcB (w : World) (a b c d : Int) (ta : TypeId) :
    (w.alloc (.cells #[.int .i64 a, .int .i64 b, .int .i64 c, .int .i64 d] ta)).cell? ⟨w.heap.size, 0, none⟩ = some (.int .i64 a) ∧ (w.alloc (.cells #[.int .i64 a, .int .i64 b, .int .i64 c, .int .i64 d] ta)).cell? ⟨w.heap.size, 1, none⟩ = some (.int .i64 b) ∧ (w.alloc (.cells #[.int .i64 a, .int .i64 b, .int .i64 c, .int .i64 d] ta)).cell? ⟨w.heap.size, 2, none⟩ = some (.int .i64 c) ∧ (w.alloc (.cells #[.int .i64 a, .int .i64 b, .int .i64 c, .int .i64 d] ta)).cell? ⟨w.heap.size, 3, none⟩ = some (.int .i64 d) := by
  refine ⟨?_, ?_, ?_, ?_⟩ <;> simp [go_sem]
theorem bkB {W w' : World} {p : Nat} {a b c d : Int} (B : Below W.heap.size W w')
    (k : W.cell? ⟨p, 0, none⟩ = some (.int .i64 a) ∧ W.cell? ⟨p, 1, none⟩ = some (.int .i64 b) ∧ W.cell? ⟨p, 2, none⟩ = some (.int .i64 c) ∧ W.cell? ⟨p, 3, none⟩ = some (.int .i64 d)) :
    w'.cell? ⟨p, 0, none⟩ = some (.int .i64 a) ∧ w'.cell? ⟨p, 1, none⟩ = some (.int .i64 b) ∧ w'.cell? ⟨p, 2, none⟩ = some (.int .i64 c) ∧ w'.cell? ⟨p, 3, none⟩ = some (.int .i64 d) :=
  ⟨bat B k.1, bat B k.2.1, bat B k.2.2.1, bat B k.2.2.2⟩

theorem bcBB (w : World) (a b c d m n r s : Int) (ta tm : TypeId) :
    ((w.alloc (.cells #[.int .i64 a, .int .i64 b, .int .i64 c, .int .i64 d] ta)).alloc (.cells #[.int .i64 m, .int .i64 n, .int .i64 r, .int .i64 s] tm)).cell? ⟨w.heap.size, 0, none⟩ = some (.int .i64 a) ∧ ((w.alloc (.cells #[.int .i64 a, .int .i64 b, .int .i64 c, .int .i64 d] ta)).alloc (.cells #[.int .i64 m, .int .i64 n, .int .i64 r, .int .i64 s] tm)).cell? ⟨w.heap.size, 1, none⟩ = some (.int .i64 b) ∧ ((w.alloc (.cells #[.int .i64 a, .int .i64 b, .int .i64 c, .int .i64 d] ta)).alloc (.cells #[.int .i64 m, .int .i64 n, .int .i64 r, .int .i64 s] tm)).cell? ⟨w.heap.size, 2, none⟩ = some (.int .i64 c) ∧ ((w.alloc (.cells #[.int .i64 a, .int .i64 b, .int .i64 c, .int .i64 d] ta)).alloc (.cells #[.int .i64 m, .int .i64 n, .int .i64 r, .int .i64 s] tm)).cell? ⟨w.heap.size, 3, none⟩ = some (.int .i64 d) ∧ ((w.alloc (.cells #[.int .i64 a, .int .i64 b, .int .i64 c, .int .i64 d] ta)).alloc (.cells #[.int .i64 m, .int .i64 n, .int .i64 r, .int .i64 s] tm)).cell? ⟨w.heap.size + 1, 0, none⟩ = some (.int .i64 m) ∧ ((w.alloc (.cells #[.int .i64 a, .int .i64 b, .int .i64 c, .int .i64 d] ta)).alloc (.cells #[.int .i64 m, .int .i64 n, .int .i64 r, .int .i64 s] tm)).cell? ⟨w.heap.size + 1, 1, none⟩ = some (.int .i64 n) ∧ ((w.alloc (.cells #[.int .i64 a, .int .i64 b, .int .i64 c, .int .i64 d] ta)).alloc (.cells #[.int .i64 m, .int .i64 n, .int .i64 r, .int .i64 s] tm)).cell? ⟨w.heap.size + 1, 2, none⟩ = some (.int .i64 r) ∧ ((w.alloc (.cells #[.int .i64 a, .int .i64 b, .int .i64 c, .int .i64 d] ta)).alloc (.cells #[.int .i64 m, .int .i64 n, .int .i64 r, .int .i64 s] tm)).cell? ⟨w.heap.size + 1, 3, none⟩ = some (.int .i64 s) := by
  refine ⟨?_, ?_, ?_, ?_, ?_, ?_, ?_, ?_⟩ <;> simp [go_sem]
theorem bkBB {W w' : World} {p : Nat} {a b c d m n r s : Int} (B : Below W.heap.size W w')
    (k : W.cell? ⟨p, 0, none⟩ = some (.int .i64 a) ∧ W.cell? ⟨p, 1, none⟩ = some (.int .i64 b) ∧ W.cell? ⟨p, 2, none⟩ = some (.int .i64 c) ∧ W.cell? ⟨p, 3, none⟩ = some (.int .i64 d) ∧ W.cell? ⟨p + 1, 0, none⟩ = some (.int .i64 m) ∧ W.cell? ⟨p + 1, 1, none⟩ = some (.int .i64 n) ∧ W.cell? ⟨p + 1, 2, none⟩ = some (.int .i64 r) ∧ W.cell? ⟨p + 1, 3, none⟩ = some (.int .i64 s)) :
    w'.cell? ⟨p, 0, none⟩ = some (.int .i64 a) ∧ w'.cell? ⟨p, 1, none⟩ = some (.int .i64 b) ∧ w'.cell? ⟨p, 2, none⟩ = some (.int .i64 c) ∧ w'.cell? ⟨p, 3, none⟩ = some (.int .i64 d) ∧ w'.cell? ⟨p + 1, 0, none⟩ = some (.int .i64 m) ∧ w'.cell? ⟨p + 1, 1, none⟩ = some (.int .i64 n) ∧ w'.cell? ⟨p + 1, 2, none⟩ = some (.int .i64 r) ∧ w'.cell? ⟨p + 1, 3, none⟩ = some (.int .i64 s) :=
  ⟨bat B k.1, bat B k.2.1, bat B k.2.2.1, bat B k.2.2.2.1, bat B k.2.2.2.2.1, bat B k.2.2.2.2.2.1, bat B k.2.2.2.2.2.2.1, bat B k.2.2.2.2.2.2.2⟩

theorem bcBP (w : World) (a b c d x y : Int) (ta tx : TypeId) :
    ((w.alloc (.cells #[.int .i64 a, .int .i64 b, .int .i64 c, .int .i64 d] ta)).alloc (.cells #[.int .i64 x, .int .i64 y] tx)).cell? ⟨w.heap.size, 0, none⟩ = some (.int .i64 a) ∧ ((w.alloc (.cells #[.int .i64 a, .int .i64 b, .int .i64 c, .int .i64 d] ta)).alloc (.cells #[.int .i64 x, .int .i64 y] tx)).cell? ⟨w.heap.size, 1, none⟩ = some (.int .i64 b) ∧ ((w.alloc (.cells #[.int .i64 a, .int .i64 b, .int .i64 c, .int .i64 d] ta)).alloc (.cells #[.int .i64 x, .int .i64 y] tx)).cell? ⟨w.heap.size, 2, none⟩ = some (.int .i64 c) ∧ ((w.alloc (.cells #[.int .i64 a, .int .i64 b, .int .i64 c, .int .i64 d] ta)).alloc (.cells #[.int .i64 x, .int .i64 y] tx)).cell? ⟨w.heap.size, 3, none⟩ = some (.int .i64 d) ∧ ((w.alloc (.cells #[.int .i64 a, .int .i64 b, .int .i64 c, .int .i64 d] ta)).alloc (.cells #[.int .i64 x, .int .i64 y] tx)).cell? ⟨w.heap.size + 1, 0, none⟩ = some (.int .i64 x) ∧ ((w.alloc (.cells #[.int .i64 a, .int .i64 b, .int .i64 c, .int .i64 d] ta)).alloc (.cells #[.int .i64 x, .int .i64 y] tx)).cell? ⟨w.heap.size + 1, 1, none⟩ = some (.int .i64 y) := by
  refine ⟨?_, ?_, ?_, ?_, ?_, ?_⟩ <;> simp [go_sem]
theorem bkBP {W w' : World} {p : Nat} {a b c d x y : Int} (B : Below W.heap.size W w')
    (k : W.cell? ⟨p, 0, none⟩ = some (.int .i64 a) ∧ W.cell? ⟨p, 1, none⟩ = some (.int .i64 b) ∧ W.cell? ⟨p, 2, none⟩ = some (.int .i64 c) ∧ W.cell? ⟨p, 3, none⟩ = some (.int .i64 d) ∧ W.cell? ⟨p + 1, 0, none⟩ = some (.int .i64 x) ∧ W.cell? ⟨p + 1, 1, none⟩ = some (.int .i64 y)) :
    w'.cell? ⟨p, 0, none⟩ = some (.int .i64 a) ∧ w'.cell? ⟨p, 1, none⟩ = some (.int .i64 b) ∧ w'.cell? ⟨p, 2, none⟩ = some (.int .i64 c) ∧ w'.cell? ⟨p, 3, none⟩ = some (.int .i64 d) ∧ w'.cell? ⟨p + 1, 0, none⟩ = some (.int .i64 x) ∧ w'.cell? ⟨p + 1, 1, none⟩ = some (.int .i64 y) :=
  ⟨bat B k.1, bat B k.2.1, bat B k.2.2.1, bat B k.2.2.2.1, bat B k.2.2.2.2.1, bat B k.2.2.2.2.2⟩

theorem bcPP (w : World) (a b c d : Int) (ta tc : TypeId) :
    ((w.alloc (.cells #[.int .i64 a, .int .i64 b] ta)).alloc (.cells #[.int .i64 c, .int .i64 d] tc)).cell? ⟨w.heap.size, 0, none⟩ = some (.int .i64 a) ∧ ((w.alloc (.cells #[.int .i64 a, .int .i64 b] ta)).alloc (.cells #[.int .i64 c, .int .i64 d] tc)).cell? ⟨w.heap.size, 1, none⟩ = some (.int .i64 b) ∧ ((w.alloc (.cells #[.int .i64 a, .int .i64 b] ta)).alloc (.cells #[.int .i64 c, .int .i64 d] tc)).cell? ⟨w.heap.size + 1, 0, none⟩ = some (.int .i64 c) ∧ ((w.alloc (.cells #[.int .i64 a, .int .i64 b] ta)).alloc (.cells #[.int .i64 c, .int .i64 d] tc)).cell? ⟨w.heap.size + 1, 1, none⟩ = some (.int .i64 d) := by
  refine ⟨?_, ?_, ?_, ?_⟩ <;> simp [go_sem]
theorem bkPP {W w' : World} {p : Nat} {a b c d : Int} (B : Below W.heap.size W w')
    (k : W.cell? ⟨p, 0, none⟩ = some (.int .i64 a) ∧ W.cell? ⟨p, 1, none⟩ = some (.int .i64 b) ∧ W.cell? ⟨p + 1, 0, none⟩ = some (.int .i64 c) ∧ W.cell? ⟨p + 1, 1, none⟩ = some (.int .i64 d)) :
    w'.cell? ⟨p, 0, none⟩ = some (.int .i64 a) ∧ w'.cell? ⟨p, 1, none⟩ = some (.int .i64 b) ∧ w'.cell? ⟨p + 1, 0, none⟩ = some (.int .i64 c) ∧ w'.cell? ⟨p + 1, 1, none⟩ = some (.int .i64 d) :=
  ⟨bat B k.1, bat B k.2.1, bat B k.2.2.1, bat B k.2.2.2⟩

def eqP (a b c d : Int) : Bool := decide (a = c) && decide (b = d)
theorem eqP_refl (a b : Int) : eqP a b a b = true := by simp [eqP]
theorem eqPt_any (a b c d : Int) (w : World) :
    Calls Try.prog 55 #[.agg #[.int .i64 a, .int .i64 b], .agg #[.int .i64 c, .int .i64 d]] w fun e w' => e = .returned (.bool (eqP a b c d)) ∧ Below w.heap.size w w' := by
  have H : Hid (eqP a b c d = (decide (a = c) && decide (b = d))) := (rfl : eqP a b c d = _)
  go_enter Try.func55, Try.ntmps55
  go_wp2
  all_goals
    go_ret
    exact ⟨ret_bool (by rw [H.out]; simp_all), below2 _ _ _⟩

def eqX (a b c d m n r s : Int) : Bool := eqP a b m n && eqP c d r s
theorem eqX_refl (a b c d : Int) : eqX a b c d a b c d = true := by simp [eqX, eqP]
set_option maxHeartbeats 4000000 in
theorem eqBox_any (a b c d m n r s : Int) (w : World) :
    Calls Try.prog 17 #[.agg #[.int .i64 a, .int .i64 b, .int .i64 c, .int .i64 d], .agg #[.int .i64 m, .int .i64 n, .int .i64 r, .int .i64 s]] w fun e w' => e = .returned (.bool (eqX a b c d m n r s)) ∧ Below w.heap.size w w' := by
  have H : Hid (eqX a b c d m n r s = (eqP a b m n && eqP c d r s)) := (rfl : eqX a b c d m n r s = _)
  cases h1 : eqP a b m n <;> cases h2 : eqP c d r s
  all_goals
    have k0 := bcBB w a b c d m n r s 41 41
    have B0 := below2 w (.cells #[.int .i64 a, .int .i64 b, .int .i64 c, .int .i64 d] 41) (.cells #[.int .i64 m, .int .i64 n, .int .i64 r, .int .i64 s] 41)
    go_enter Try.func17, Try.ntmps17
    go_wp2_with fail
    generalize ((w.alloc (.cells #[.int .i64 a, .int .i64 b, .int .i64 c, .int .i64 d] 41)).alloc (.cells #[.int .i64 m, .int .i64 n, .int .i64 r, .int .i64 s] 41)) = W0 at *
    have B : Below W0.heap.size W0 W0 := Below.refl _ _
    have K := k0
    obtain ⟨k1, k2, k3, k4, k5, k6, k7, k8⟩ := k0
    go_wp2_with (first | (go_at_call 55; refine (eqPt_any _ _ _ _ _).mono ?_; rintro e w1 ⟨rfl, hb⟩; (first | rw [h1] | rw [h2]); replace B := B.trans (hb.mono B.size); clear hb; obtain ⟨k1, k2, k3, k4, k5, k6, k7, k8⟩ := bkBB B K))
  all_goals
    go_ret
    exact ⟨ret_bool (by rw [H.out]; simp_all <;> omega), B0.trans (B.mono B0.size)⟩

theorem ret_int {a b : Int} (h : a = b) : Ending.returned (.int .i64 a) = .returned (.int .i64 b) := by rw [h]
theorem l4Min_any (a b : Int) (w : World) :
    Calls Try.prog 88 #[.int .i64 a, .int .i64 b] w fun e w' => e = .returned (.int .i64 (min a b)) ∧ w' = w := by
  go_enter Try.func88, Try.ntmps88
  go_wp2
  all_goals
    go_ret
    exact ⟨ret_int (by omega), rfl⟩

theorem l4Max_any (a b : Int) (w : World) :
    Calls Try.prog 89 #[.int .i64 a, .int .i64 b] w fun e w' => e = .returned (.int .i64 (max a b)) ∧ w' = w := by
  go_enter Try.func89, Try.ntmps89
  go_wp2
  all_goals
    go_ret
    exact ⟨ret_int (by omega), rfl⟩

theorem Box4.putLo {lo p : Nat} {w : World} {x0 x1 x2 x3 : Value} (h : Box4 lo w p x0 x1 x2 x3) (u0 u1 : Value) : Box4 lo ((w.setCell ⟨p, 0, none⟩ u0).setCell ⟨p, 1, none⟩ u1) p u0 u1 x2 x3 :=
  ⟨(put_new2 h.c0 h.c1 u0 u1).1, (put_new2 h.c0 h.c1 u0 u1).2, (cell_other (.inr (by decide)) u1).trans ((cell_other (.inr (by decide)) u0).trans h.c2), (cell_other (.inr (by decide)) u1).trans ((cell_other (.inr (by decide)) u0).trans h.c3), fun o => (put_frozen2 p _ u0 u1).trans (h.fr o), h.lo⟩
theorem Box4.putHi {lo p : Nat} {w : World} {x0 x1 x2 x3 : Value} (h : Box4 lo w p x0 x1 x2 x3) (u0 u1 : Value) : Box4 lo ((w.setCell ⟨p, 2, none⟩ u0).setCell ⟨p, 3, none⟩ u1) p x0 x1 u0 u1 :=
  ⟨(cell_other (.inr (by decide)) u1).trans ((cell_other (.inr (by decide)) u0).trans h.c0), (cell_other (.inr (by decide)) u1).trans ((cell_other (.inr (by decide)) u0).trans h.c1), (cell_other (.inr (by decide)) u1).trans (cell_same h.c2 u0), cell_same ((cell_other (.inr (by decide)) u0).trans h.c3) u1, fun o => ((World.frozen?_setCell ..).trans (World.frozen?_setCell ..)).trans (h.fr o), h.lo⟩
theorem Box4.oldAny {lo p q : Nat} {w : World} {x0 x1 x2 x3 : Value} (h : Box4 lo w q x0 x1 x2 x3) (ne : q ≠ p) (i : Nat) (u : Value) : Box4 lo (w.setCell ⟨p, i, none⟩ u) q x0 x1 x2 x3 :=
  ⟨(cell_other (.inl (Ne.symm ne)) u).trans h.c0, (cell_other (.inl (Ne.symm ne)) u).trans h.c1, (cell_other (.inl (Ne.symm ne)) u).trans h.c2, (cell_other (.inl (Ne.symm ne)) u).trans h.c3, fun o => (World.frozen?_setCell ..).trans (h.fr o), h.lo⟩

theorem boxAt_any (x y : Int) (w : World) :
    Calls Try.prog 92 #[.agg #[.int .i64 x, .int .i64 y]] w fun e w' => e = .returned (.agg #[.int .i64 x, .int .i64 y, .int .i64 x, .int .i64 y]) ∧ Below w.heap.size w w' := by
  go_enter Try.func92, Try.ntmps92
  go_wp2
  exact bodyPost_ret (v := _) (by simp [results, Try.results92, go_sem]; try rfl) rfl ⟨rfl, below2 _ _ _⟩

end Go.Proofs.Ythfgeihgmknkcaa

/- Lists of points: in memory, their least box. -/
namespace Go.Proofs.Ythfgeihgmknkcaa
open Go.RowKit

/-- Points that lie in memory, one behind the other. -/
structure SeesP (w : World) (a : Option Addr) (cap : Nat) (ps : List (Int × Int)) : Prop where
  fits : ps.length ≤ cap
  max : cap ≤ maxLen
  cells : ps ≠ [] → ∃ b off, a = some ⟨b, off, none⟩ ∧ ∀ i, i < ps.length → w.cell? ⟨b, off + i * 2, none⟩ = some (.int .i64 (ps[i]?.getD (0, 0)).1) ∧ w.cell? ⟨b, off + i * 2 + 1, none⟩ = some (.int .i64 (ps[i]?.getD (0, 0)).2)
theorem SeesP.below {w w' : World} {a : Option Addr} {cap : Nat} {ps : List (Int × Int)} (h : SeesP w a cap ps) (hb : Below w.heap.size w w') : SeesP w' a cap ps :=
  ⟨h.fits, h.max, fun hn => by
    obtain ⟨b, off, ha, hc⟩ := h.cells hn
    exact ⟨b, off, ha, fun i hi => ⟨bat hb (hc i hi).1, bat hb (hc i hi).2⟩⟩⟩

def okL (ps : List (Int × Int)) : Bool := ps.all fun p => ptOk p.1 p.2
def bxA (ps : List (Int × Int)) (a : Int) : Int := ps.foldl (fun a p => min a p.1) a
def bxB (ps : List (Int × Int)) (a : Int) : Int := ps.foldl (fun a p => min a p.2) a
def bxC (ps : List (Int × Int)) (a : Int) : Int := ps.foldl (fun a p => max a p.1) a
def bxD (ps : List (Int × Int)) (a : Int) : Int := ps.foldl (fun a p => max a p.2) a
/-- The first point. -/
def hd (ps : List (Int × Int)) : Int × Int := ps[0]?.getD (0, 0)
def bOk (ps : List (Int × Int)) : Bool := !ps.isEmpty && okL ps
def bA (ps : List (Int × Int)) : Int := if bOk ps then bxA ps (hd ps).1 else 0
def bB (ps : List (Int × Int)) : Int := if bOk ps then bxB ps (hd ps).2 else 0
def bC (ps : List (Int × Int)) : Int := if bOk ps then bxC ps (hd ps).1 else 0
def bD (ps : List (Int × Int)) : Int := if bOk ps then bxD ps (hd ps).2 else 0

theorem takeS {ps : List (Int × Int)} {j : Nat} (h : j < ps.length) : ps.take (j + 1) = ps.take j ++ [ps[j]?.getD (0, 0)] := by
  rw [List.take_succ_eq_append_getElem h, List.getElem?_eq_getElem h]
  rfl
theorem okL_step {ps : List (Int × Int)} {j : Nat} (h : j < ps.length) (k : okL (ps.take j) = true) : okL (ps.take (j + 1)) = ptOk (ps[j]?.getD (0, 0)).1 (ps[j]?.getD (0, 0)).2 := by
  rw [takeS h]
  unfold okL at *
  rw [List.all_append, k]
  simp
theorem okL_bad {ps : List (Int × Int)} {j : Nat} (h : j < ps.length) (k : ptOk (ps[j]?.getD (0, 0)).1 (ps[j]?.getD (0, 0)).2 = false) : okL ps = false := by
  unfold okL
  rw [List.all_eq_false]
  refine ⟨ps[j], List.getElem_mem h, ?_⟩
  rw [List.getElem?_eq_getElem h] at k
  simpa using k
theorem f_step {ps : List (Int × Int)} {j : Nat} (h : j < ps.length) (a : Int) :
    bxA (ps.take (j + 1)) a = min (bxA (ps.take j) a) (ps[j]?.getD (0, 0)).1 ∧ bxB (ps.take (j + 1)) a = min (bxB (ps.take j) a) (ps[j]?.getD (0, 0)).2 ∧ bxC (ps.take (j + 1)) a = max (bxC (ps.take j) a) (ps[j]?.getD (0, 0)).1 ∧ bxD (ps.take (j + 1)) a = max (bxD (ps.take j) a) (ps[j]?.getD (0, 0)).2 := by
  rw [takeS h]
  unfold bxA bxB bxC bxD
  simp [List.foldl_append]
theorem b_bad {ps : List (Int × Int)} (h : bOk ps = false) : bA ps = 0 ∧ bB ps = 0 ∧ bC ps = 0 ∧ bD ps = 0 := by
  unfold bA bB bC bD
  rw [h]
  exact ⟨rfl, rfl, rfl, rfl⟩
theorem b_good {ps : List (Int × Int)} (h : bOk ps = true) : bA ps = bxA ps (hd ps).1 ∧ bB ps = bxB ps (hd ps).2 ∧ bC ps = bxC ps (hd ps).1 ∧ bD ps = bxD ps (hd ps).2 := by
  unfold bA bB bC bD
  rw [h]
  exact ⟨rfl, rfl, rfl, rfl⟩
end Go.Proofs.Ythfgeihgmknkcaa

/- Squares and products of ways. -/
namespace Go.Proofs.Ythfgeihgmknkcaa
open Go.RowKit

end Go.Proofs.Ythfgeihgmknkcaa
