/- A number as an int: impl.Small, spec.Small. -/
import Derived.Test.YtnefdfgonolafaaTaken
import Derived.Laws.BitsAllLaws
namespace Go.Proofs.Ytnefdfgonolafaa
open Go.RowKit

/-- Whether an int holds it; the int. -/
def smB (z : Int) : Bool := decide (-9223372036854775808 ≤ z ∧ z ≤ 9223372036854775807)
def smZ (z : Int) : Int := if smB z = true then z else 0

theorem or0 {x : Int} (h0 : 0 ≤ x) (h1 : x < 4294967296) : bits BinOp.or IntKind.u64 0 x = x := by
  rw [u64_or 0 x (by decide) (by decide) h0 (by omega)]
  simp
  omega
theorem or1 {x y : Int} (h0 : 0 ≤ x) (h1 : x < 4294967296) (k0 : 0 ≤ y) (k1 : y < 4294967296) : bits BinOp.or IntKind.u64 x (y * 4294967296) = x + y * 4294967296 := by
  rw [u64_or x (y * 4294967296) h0 (by omega) (by omega) (by omega), Nat.or_comm, nat_join 32 _ _ (by omega) (by omega)]
  omega

theorem sm_in {z : Int} (h1 : -9223372036854775808 ≤ z) (h2 : z ≤ 9223372036854775807) : smZ z = z ∧ smB z = true := by
  have : smB z = true := decide_eq_true ⟨h1, h2⟩
  exact ⟨by unfold smZ; rw [if_pos this], this⟩
theorem sm_out {z : Int} (h : ¬ (-9223372036854775808 ≤ z ∧ z ≤ 9223372036854775807)) : smZ z = 0 ∧ smB z = false := by
  have : smB z = false := decide_eq_false h
  exact ⟨by unfold smZ; rw [this]; simp, this⟩

theorem wrap_back {s : Int} (h0 : 0 < s) (h1 : s ≤ 9223372036854775808) : wrap64 (IntKind.u64.wrap (-s)) = -s := by
  have e : IntKind.u64.wrap (-s) = 18446744073709551616 - s := by
    simp only [IntKind.wrap, IntKind.bits, IntKind.signed]
    simp
    omega
  rw [e]
  unfold wrap64
  omega

theorem smallBelowC (s : Int) (w : World) (h0 : 0 < s) (h2 : s < 18446744073709551616) :
    Calls Try.prog 56 #[.int .u64 s] w fun e w' => e = .returned (.tuple #[.int .i64 (smZ (-s)), .bool (smB (-s))]) ∧ w' = w := by
  by_cases h1 : s ≤ 9223372036854775808
  · obtain ⟨e1, e2⟩ := sm_in (z := -s) (by omega) (by omega)
    rw [e1, e2]
    have hw := wrap_back h0 h1
    clear e1 e2
    go_enter Try.func56, Try.ntmps56
    go_wp2
    go_ret2
    exact ⟨by simp [hw], rfl⟩
  · obtain ⟨e1, e2⟩ := sm_out (z := -s) (by omega)
    rw [e1, e2]
    clear e1 e2
    go_enter Try.func56, Try.ntmps56
    go_wp2
    go_ret2
    exact ⟨rfl, rfl⟩

set_option maxHeartbeats 400000 in
theorem takenA (g : Bool) (a : Option Addr) (c : Nat) (xs : List Int) (w : World) (h : Sees w a c xs) :
    Calls Try.prog 47 #[.agg #[.bool g, .slice a xs.length c]] w fun e w' => ∃ a' c', e = .returned (.agg #[.bool (tkG g xs), .slice a' (tkL g xs).length c']) ∧ Hid (tkL g xs ≠ [] → a' = a ∧ c' = c) ∧ Below w.heap.size w w' := by
  by_cases hk : okB g xs = true
  · have e1 : tkG g xs = g := by unfold tkG; rw [hk]; simp
    have e2 : tkL g xs = xs := by unfold tkL; rw [if_pos hk]
    rw [e1, e2]
    clear e1 e2
    go_enter Try.func47, Try.ntmps47
    go_wp2_with fail
    refine (implOk g a c xs _ (h.below (below2 _ _ _))).mono ?_
    rintro e w1 ⟨rfl, hb⟩
    obtain ⟨q1, q2⟩ := at_block hb (b := w.heap.size) (by simp; omega)
    obtain ⟨q3, q4⟩ := at_block hb (b := w.heap.size + 1) (by simp)
    have hz : w.heap.size + 1 < w1.heap.size := by have := hb.size; simp at this; omega
    have hB := (below2 _ _ _).trans (hb.mono (by simp; omega))
    clear hb
    go_wp2
    have hF := (hB.setCell (p := ⟨w.heap.size + 1, 0, none⟩) (by dsimp only; omega) (.bool g)).setCell (p := ⟨w.heap.size + 1, 1, none⟩) (by dsimp only; omega) (.slice a xs.length c)
    exact bodyPost_ret (v := .agg #[.bool g, .slice a xs.length c]) (by simp [results, Try.results47, go_sem, q3]) rfl ⟨a, c, rfl, fun _ => ⟨rfl, rfl⟩, hF⟩
  · have hk' : okB g xs = false := by simpa using hk
    have e1 : tkG g xs = false := by unfold tkG; rw [hk']; simp
    have e2 : tkL g xs = [] := by unfold tkL; rw [if_neg hk]
    rw [e1, e2]
    clear e1 e2 hk
    go_enter Try.func47, Try.ntmps47
    go_wp2_with fail
    refine (implOk g a c xs _ (h.below (below2 _ _ _))).mono ?_
    rintro e w1 ⟨rfl, hb⟩
    obtain ⟨q3, q4⟩ := at_block hb (b := w.heap.size + 1) (by simp)
    have hz : w.heap.size + 1 < w1.heap.size := by have := hb.size; simp at this; omega
    have hB := (below2 _ _ _).trans (hb.mono (by simp; omega))
    clear hb
    go_wp2
    exact bodyPost_ret (v := .agg #[.bool false, .slice none 0 0]) (by simp [results, Try.results47, go_sem, q3]) rfl ⟨none, 0, rfl, fun h => absurd rfl h, (hB.setCell (by dsimp only; omega) _).setCell (by dsimp only; omega) _⟩

set_option maxHeartbeats 1000000 in
theorem implSmall (g : Bool) (a : Option Addr) (c : Nat) (xs : List Int) (w : World) (h : Sees w a c xs) :
    Calls Try.prog 48 #[.agg #[.bool g, .slice a xs.length c]] w fun e w' => e = .returned (.tuple #[.int .i64 (smZ (tk g xs)), .bool (smB (tk g xs))]) ∧ Below w.heap.size w w' := by
  obtain ⟨tl, tn, t24, t0⟩ := tk_facts g xs h.lim
  go_enter Try.func48, Try.ntmps48
  go_wp2_with fail
  refine (takenA g a c xs _ (h.below (below1 _ _))).mono ?_
  rintro e w1 ⟨a1, c1, rfl, hsame, hb⟩
  obtain ⟨q1, q2⟩ := at_block hb (b := w.heap.size) (by simp)
  have hz : w.heap.size < w1.heap.size := by have := hb.size; simp at this; omega
  have B1 := (below1 w _).trans (hb.mono (by simp))
  have hcell : ∀ i, i < (tkL g xs).length → ∃ b off, a1 = some ⟨b, off, none⟩ ∧ b < w.heap.size ∧ w1.cell? ⟨b, off + i, none⟩ = some (.int .u32 ((tkL g xs)[i]?.getD 0)) := by
    intro i hi
    have hne : tkL g xs ≠ [] := by intro e; simp [e] at hi
    obtain ⟨rfl, rfl⟩ := hsame.out hne
    have e3 : tkL g xs = xs := by
      unfold tkL at hne ⊢
      by_cases hk : okB g xs = true
      · rw [if_pos hk]
      · rw [if_neg hk] at hne; exact absurd rfl hne
    rw [e3] at hne hi ⊢
    obtain ⟨b, off, ha, hc⟩ := h.cells hne
    exact ⟨b, off, ha, h.lt ha hne, bat B1 (hc i hi)⟩
  have B2 := fun u0 u1 => below_put B1 u0 u1
  clear hb h hsame
  generalize hys : tkL g xs = ys at *
  generalize hgg : tkG g xs = gg at *
  have E : Hid (tk g xs = sg gg (val ys)) := by show _ = _; unfold tk; rw [hys, hgg]
  clear hys hgg
  rcases ys with _ | ⟨x, _ | ⟨y, _ | ⟨u, r⟩⟩⟩
  · have hg0 := t0 rfl
    subst hg0
    obtain ⟨e1, e2⟩ := sm_in (z := 0) (by decide) (by decide)
    have EE : tk g xs = 0 := by rw [E.out]; simp [sg, val]
    rw [← EE] at e1 e2
    have E1 : Hid (smZ (tk g xs) = 0 ∧ smB (tk g xs) = true) := ⟨by rw [e1, EE], e2⟩
    clear e1 e2 EE E tl tn t0 hcell t24
    simp only [List.length_nil] at *
    go_wp2
    refine wp_loop_rounds 1 ?_
    rw [rounds_succ]
    go_wp2
    go_ret2
    exact ⟨by rw [E1.out.1, E1.out.2]; rfl, B2 _ _⟩
  · obtain ⟨⟨x0, x1⟩, _⟩ := tl.cons
    have xp : 0 < x := by simp only [Nrm] at tn; omega
    obtain ⟨b1, o1, rfl, l1, g1⟩ := hcell 0 (by simp)
    simp only [List.length_cons, List.length_nil] at *
    simp at g1
    have k1 := or0 x0 x1
    have EE : Hid (tk g xs = sg gg x) := by show _ = _; rw [E.out]; simp [val]
    clear tl tn t0 hcell t24 E
    rcases gg with _ | _
    · replace EE : Hid (tk g xs = x) := EE
      by_cases hsz : x ≤ 9223372036854775807
      · obtain ⟨e1, e2⟩ := sm_in (z := x) (by omega) hsz
        rw [← EE.out] at e1 e2
        have E1 : Hid (smZ (tk g xs) = x ∧ smB (tk g xs) = true) := ⟨e1.trans EE.out, e2⟩
        clear e1 e2 EE
        go_wp2
        refine wp_loop_rounds 2 ?_
        rw [rounds_succ]
        go_wp2
        rw [rounds_succ]
        go_wp2
        go_ret2
        exact ⟨by rw [E1.out.1, E1.out.2]; rfl, B2 _ _⟩
      · exfalso; omega
    · replace EE : Hid (tk g xs = -(x)) := EE
      have E1 : Hid (smZ (tk g xs) = smZ (-(x)) ∧ smB (tk g xs) = smB (-(x))) := by rw [EE.out]; exact ⟨rfl, rfl⟩
      clear EE
      go_wp2
      refine wp_loop_rounds 2 ?_
      rw [rounds_succ]
      go_wp2_with fail
      rw [rounds_succ]
      go_wp2_with fail
      refine (smallBelowC (x) _ (by omega) (by omega)).mono ?_
      rintro e w2 ⟨rfl, rfl⟩
      go_wp2
      go_ret2
      exact ⟨by rw [E1.out.1, E1.out.2]; rfl, B2 _ _⟩
  · obtain ⟨⟨x0, x1⟩, tl2⟩ := tl.cons
    obtain ⟨⟨y0, y1⟩, _⟩ := tl2.cons
    have yp : 0 < y := by simp only [Nrm] at tn; omega
    obtain ⟨b1, o1, rfl, l1, g1⟩ := hcell 0 (by simp)
    obtain ⟨b2, o2, e2, _, g2⟩ := hcell 1 (by simp)
    simp only [Option.some.injEq, Addr.mk.injEq] at e2
    obtain ⟨rfl, rfl, _⟩ := e2
    simp only [List.length_cons, List.length_nil] at *
    simp at g1 g2
    have k1 := or0 x0 x1
    have k2 := or1 x0 x1 y0 y1
    have EE : Hid (tk g xs = sg gg (x + y * 4294967296)) := by show _ = _; rw [E.out]; simp only [val]; congr 1; omega
    clear tl tl2 tn t0 hcell t24 E
    rcases gg with _ | _
    · replace EE : Hid (tk g xs = x + y * 4294967296) := EE
      by_cases hsz : x + y * 4294967296 ≤ 9223372036854775807
      · obtain ⟨e1, e2⟩ := sm_in (z := x + y * 4294967296) (by omega) hsz
        rw [← EE.out] at e1 e2
        have E1 : Hid (smZ (tk g xs) = x + y * 4294967296 ∧ smB (tk g xs) = true) := ⟨e1.trans EE.out, e2⟩
        clear e1 e2 EE
        go_wp2
        refine wp_loop_rounds 3 ?_
        rw [rounds_succ]
        go_wp2
        rw [rounds_succ]
        go_wp2
        rw [rounds_succ]
        go_wp2
        go_ret2
        exact ⟨by rw [E1.out.1, E1.out.2]; rfl, B2 _ _⟩
      · obtain ⟨e1, e2⟩ := sm_out (z := x + y * 4294967296) (by omega)
        rw [← EE.out] at e1 e2
        have E1 : Hid (smZ (tk g xs) = 0 ∧ smB (tk g xs) = false) := ⟨e1, e2⟩
        clear e1 e2 EE
        go_wp2
        refine wp_loop_rounds 3 ?_
        rw [rounds_succ]
        go_wp2
        rw [rounds_succ]
        go_wp2
        rw [rounds_succ]
        go_wp2
        go_ret2
        exact ⟨by rw [E1.out.1, E1.out.2]; rfl, B2 _ _⟩
    · replace EE : Hid (tk g xs = -(x + y * 4294967296)) := EE
      have E1 : Hid (smZ (tk g xs) = smZ (-(x + y * 4294967296)) ∧ smB (tk g xs) = smB (-(x + y * 4294967296))) := by rw [EE.out]; exact ⟨rfl, rfl⟩
      clear EE
      go_wp2
      refine wp_loop_rounds 3 ?_
      rw [rounds_succ]
      go_wp2_with fail
      rw [rounds_succ]
      go_wp2_with fail
      rw [rounds_succ]
      go_wp2_with fail
      refine (smallBelowC (x + y * 4294967296) _ (by omega) (by omega)).mono ?_
      rintro e w2 ⟨rfl, rfl⟩
      go_wp2
      go_ret2
      exact ⟨by rw [E1.out.1, E1.out.2]; rfl, B2 _ _⟩
  · have hbig : 18446744073709551616 ≤ val (x :: y :: u :: r) := by
      have h1 := val_ge tl tn (by simp)
      have h2 := p_mono 2 r.length
      have h3 : (4294967296 : Int) ^ 2 = 18446744073709551616 := by decide
      simp only [List.length_cons, Nat.add_sub_cancel] at h1
      rw [Nat.add_comm 2, h3] at h2
      exact Int.le_trans h2 h1
    have E1 : Hid (smZ (tk g xs) = 0 ∧ smB (tk g xs) = false) := by
      have := sm_out (z := tk g xs) (by rw [E.out]; unfold sg; split <;> omega)
      exact this
    have hlen : (2 : Int) < ((x :: y :: u :: r).length : Int) := by simp; omega
    have hl24 : (x :: y :: u :: r).length ≤ 24 := t24
    clear tl tn t0 hcell t24 E hbig
    generalize (x :: y :: u :: r).length = n at *
    go_wp2
    go_ret2
    exact ⟨by rw [E1.out.1, E1.out.2]; rfl, B2 _ _⟩

end Go.Proofs.Ytnefdfgonolafaa
