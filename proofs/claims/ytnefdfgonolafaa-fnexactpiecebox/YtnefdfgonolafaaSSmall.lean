/- A number as an int: the specification's Small. -/
import Derived.Test.YtnefdfgonolafaaTNeg
import Derived.Test.YtnefdfgonolafaaSmallW
namespace Go.Proofs.Ytnefdfgonolafaa
open Go.RowKit

theorem ret_pair {a b : Int} {p q : Bool} (h : a = b) (k : p = q) : Ending.returned (.tuple #[.int .i64 a, .bool p]) = .returned (.tuple #[.int .i64 b, .bool q]) := by rw [h, k]

set_option maxHeartbeats 1000000 in
theorem specSmall (g : Bool) (a : Option Addr) (c : Nat) (xs : List Int) (w : World) (h : Sees w a c xs) :
    Calls Try.prog 24 #[.agg #[.bool g, .slice a xs.length c]] w fun e w' => e = .returned (.tuple #[.int .i64 (smZ (tk g xs)), .bool (smB (tk g xs))]) ∧ Below w.heap.size w w' := by
  obtain ⟨tl, tn, t24, t0⟩ := tk_facts g xs h.lim
  go_enter Try.func24, Try.ntmps24
  go_wp2_with fail
  refine (l1MagC g a c xs _ (h.below (below1 _ _))).mono ?_
  rintro e w1 ⟨a1, c1, rfl, hs1, hb⟩
  obtain ⟨q1, q2⟩ := at_block hb (b := w.heap.size) (by simp)
  have hz : w.heap.size < w1.heap.size := by have := hb.size; simp at this; omega
  have B1 := (below1 w _).trans (hb.mono (by simp))
  have h1 := h.below B1
  have hlim := h.lim
  clear hb h
  have HN : Hid (∀ W, Sees W a c xs → Calls Try.prog 42 #[.agg #[.bool g, .slice a xs.length c]] W fun e w' => e = .returned (.bool (tkG g xs)) ∧ Below W.heap.size W w') := fun W hW => l1NegC g a c xs W hW
  have E : Hid (tk g xs = sg (tkG g xs) (val (tkL g xs))) := rfl
  generalize tkL g xs = ys at *
  generalize tkG g xs = gg at *
  rcases ys with _ | ⟨x, _ | ⟨y, _ | ⟨u, r⟩⟩⟩
  · have hg0 := t0 rfl
    subst hg0
    obtain ⟨e1, e2⟩ := sm_in (z := 0) (by decide) (by decide)
    have EE : tk g xs = 0 := by rw [E.out]; simp [sg, val]
    rw [← EE] at e1 e2
    have E1 : Hid (smZ (tk g xs) = 0 ∧ smB (tk g xs) = true) := ⟨by rw [e1, EE], e2⟩
    clear e1 e2 EE E tl tn t0 t24 hs1
    simp only [List.length_nil] at *
    go_wp2
    refine wp_loop_rounds 1 ?_
    rw [rounds_succ]
    go_wp2_with fail
    refine (HN.out _ h1).mono ?_
    rintro e w2 ⟨rfl, hb⟩
    go_wp2
    go_ret2
    exact ⟨by rw [E1.out.1, E1.out.2]; rfl, B1.trans (hb.mono B1.size)⟩
  · obtain ⟨⟨x0, x1⟩, _⟩ := tl.cons
    have xp : 0 < x := by simp only [Nrm] at tn; omega
    obtain ⟨b1, o1, rfl, hc⟩ := hs1.cells (by simp)
    have g1 := hc 0 (by simp)
    simp only [List.length_cons, List.length_nil] at *
    simp at g1
    have EE : Hid (tk g xs = sg gg x) := by show _ = _; rw [E.out]; simp [val]
    clear tl tn t0 t24 E hc hs1
    go_wp2
    refine wp_loop_rounds 2 ?_
    rw [rounds_succ]
    go_wp2
    rw [rounds_succ]
    go_wp2_with fail
    refine (HN.out _ h1).mono ?_
    rintro e w2 ⟨rfl, hb⟩
    have BB := B1.trans (hb.mono B1.size)
    clear hb h1 HN
    rcases gg with _ | _
    · have EF : tk g xs = x := EE
      by_cases hsz : x ≤ 9223372036854775807
      · obtain ⟨e1, e2⟩ := sm_in (z := tk g xs) (by rw [EF]; omega) (by rw [EF]; exact hsz)
        rw [EF] at e1
        have E1 : Hid (smZ (tk g xs) = x ∧ smB (tk g xs) = true) := ⟨by rw [EF]; exact e1, e2⟩
        clear e1 e2 EF EE
        go_wp2
        go_ret2
        exact ⟨ret_pair E1.out.1.symm E1.out.2.symm, BB⟩
      · exfalso; omega
    · have EF : tk g xs = -(x) := EE
      by_cases hsz : x ≤ 9223372036854775808
      · obtain ⟨e1, e2⟩ := sm_in (z := tk g xs) (by rw [EF]; omega) (by rw [EF]; omega)
        have E1 : Hid (smZ (tk g xs) = -((x) - 1) - 1 ∧ smB (tk g xs) = true) := ⟨by rw [e1, EF]; omega, e2⟩
        clear e1 e2 EF EE
        go_wp2
        go_ret2
        exact ⟨ret_pair E1.out.1.symm E1.out.2.symm, BB⟩
      · exfalso; omega
  · obtain ⟨⟨x0, x1⟩, tl2⟩ := tl.cons
    obtain ⟨⟨y0, y1⟩, _⟩ := tl2.cons
    have yp : 0 < y := by simp only [Nrm] at tn; omega
    obtain ⟨b1, o1, rfl, hc⟩ := hs1.cells (by simp)
    have g1 := hc 0 (by simp)
    have g2 := hc 1 (by simp)
    simp only [List.length_cons, List.length_nil] at *
    simp at g1 g2
    have EE : Hid (tk g xs = sg gg (y * 4294967296 + x)) := by show _ = _; rw [E.out]; simp only [val]; congr 1; omega
    clear tl tl2 tn t0 t24 E hc hs1
    go_wp2
    refine wp_loop_rounds 3 ?_
    rw [rounds_succ]
    go_wp2
    rw [rounds_succ]
    go_wp2
    rw [rounds_succ]
    go_wp2_with fail
    refine (HN.out _ h1).mono ?_
    rintro e w2 ⟨rfl, hb⟩
    have BB := B1.trans (hb.mono B1.size)
    clear hb h1 HN
    rcases gg with _ | _
    · have EF : tk g xs = y * 4294967296 + x := EE
      by_cases hsz : y * 4294967296 + x ≤ 9223372036854775807
      · obtain ⟨e1, e2⟩ := sm_in (z := tk g xs) (by rw [EF]; omega) (by rw [EF]; exact hsz)
        rw [EF] at e1
        have E1 : Hid (smZ (tk g xs) = y * 4294967296 + x ∧ smB (tk g xs) = true) := ⟨by rw [EF]; exact e1, e2⟩
        clear e1 e2 EF EE
        go_wp2
        go_ret2
        exact ⟨ret_pair E1.out.1.symm E1.out.2.symm, BB⟩
      · obtain ⟨e1, e2⟩ := sm_out (z := tk g xs) (by rw [EF]; omega)
        have E1 : Hid (smZ (tk g xs) = 0 ∧ smB (tk g xs) = false) := ⟨e1, e2⟩
        clear e1 e2 EF EE
        go_wp2
        go_ret2
        exact ⟨ret_pair E1.out.1.symm E1.out.2.symm, BB⟩
    · have EF : tk g xs = -(y * 4294967296 + x) := EE
      by_cases hsz : y * 4294967296 + x ≤ 9223372036854775808
      · obtain ⟨e1, e2⟩ := sm_in (z := tk g xs) (by rw [EF]; omega) (by rw [EF]; omega)
        have E1 : Hid (smZ (tk g xs) = -((y * 4294967296 + x) - 1) - 1 ∧ smB (tk g xs) = true) := ⟨by rw [e1, EF]; omega, e2⟩
        clear e1 e2 EF EE
        go_wp2
        go_ret2
        exact ⟨ret_pair E1.out.1.symm E1.out.2.symm, BB⟩
      · obtain ⟨e1, e2⟩ := sm_out (z := tk g xs) (by rw [EF]; omega)
        have E1 : Hid (smZ (tk g xs) = 0 ∧ smB (tk g xs) = false) := ⟨e1, e2⟩
        clear e1 e2 EF EE
        go_wp2
        go_ret2
        exact ⟨ret_pair E1.out.1.symm E1.out.2.symm, BB⟩
  · have hbig : 18446744073709551616 ≤ val (x :: y :: u :: r) := by
      have h1 := val_ge tl tn (by simp)
      have h2 := p_mono 2 r.length
      have h3 : (4294967296 : Int) ^ 2 = 18446744073709551616 := by decide
      simp only [List.length_cons, Nat.add_sub_cancel] at h1
      rw [Nat.add_comm 2, h3] at h2
      exact Int.le_trans h2 h1
    have E1 : Hid (smZ (tk g xs) = 0 ∧ smB (tk g xs) = false) := by
      have := sm_out (z := tk g xs) (by rw [E.out]; unfold sg; split <;> omega)
      exact this
    have hlen : (2 : Int) < ((x :: y :: u :: r).length : Int) := by simp; omega
    have hl24 : (x :: y :: u :: r).length ≤ 24 := t24
    clear tl tn t0 t24 E hbig hs1
    generalize (x :: y :: u :: r).length = n at *
    go_wp2
    go_ret2
    exact ⟨by rw [E1.out.1, E1.out.2]; rfl, B1⟩

end Go.Proofs.Ytnefdfgonolafaa
