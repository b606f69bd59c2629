/- What a number is taken as: impl.taken, spec.l1Mag. -/
import Derived.Test.YtnefdfgonolafaaOk
namespace Go.Proofs.Ytnefdfgonolafaa
open Go.RowKit

/-- The sign, and the limbs, that are taken. -/
def tkG (g : Bool) (xs : List Int) : Bool := okB g xs && g
def tkL (g : Bool) (xs : List Int) : List Int := if okB g xs = true then xs else []
/-- The number that is taken. -/
def tk (g : Bool) (xs : List Int) : Int := sg (tkG g xs) (val (tkL g xs))

theorem tk_facts (g : Bool) (xs : List Int) (hl : Lim xs) : Lim (tkL g xs) ∧ Nrm (tkL g xs) ∧ (tkL g xs).length ≤ 24 ∧ (tkL g xs = [] → tkG g xs = false) := by
  unfold tkL tkG
  by_cases hk : okB g xs = true
  · rw [if_pos hk, hk]
    unfold okB at hk
    by_cases h0 : xs.length = 0
    · rw [if_pos h0] at hk
      obtain rfl : xs = [] := List.eq_nil_of_length_eq_zero h0
      exact ⟨Lim.nil, trivial, by simp, fun _ => by simpa using hk⟩
    · rw [if_neg h0] at hk
      simp only [Bool.and_eq_true, decide_eq_true_eq, bne_iff_ne] at hk
      refine ⟨hl, ?_, hk.1, fun e => absurd (by simp [e]) h0⟩
      have := Nrm_take (xs := xs) (j := xs.length) (by omega) (Nat.le_refl _) hk.2
      rwa [List.take_length] at this
  · rw [if_neg hk]
    have : okB g xs = false := by simpa using hk
    rw [this]
    exact ⟨Lim.nil, trivial, by simp, fun _ => rfl⟩

set_option maxHeartbeats 400000 in
theorem takenC (g : Bool) (a : Option Addr) (c : Nat) (xs : List Int) (w : World) (h : Sees w a c xs) :
    Calls Try.prog 47 #[.agg #[.bool g, .slice a xs.length c]] w fun e w' => ∃ a' c', e = .returned (.agg #[.bool (tkG g xs), .slice a' (tkL g xs).length c']) ∧ Sees w' a' c' (tkL g xs) ∧ Below w.heap.size w w' := by
  by_cases hk : okB g xs = true
  · have e1 : tkG g xs = g := by unfold tkG; rw [hk]; simp
    have e2 : tkL g xs = xs := by unfold tkL; rw [if_pos hk]
    rw [e1, e2]
    clear e1 e2
    go_enter Try.func47, Try.ntmps47
    go_wp2_with fail
    refine (implOk g a c xs _ (h.below (below2 _ _ _))).mono ?_
    rintro e w1 ⟨rfl, hb⟩
    obtain ⟨q1, q2⟩ := at_block hb (b := w.heap.size) (by simp; omega)
    obtain ⟨q3, q4⟩ := at_block hb (b := w.heap.size + 1) (by simp)
    have hz : w.heap.size + 1 < w1.heap.size := by have := hb.size; simp at this; omega
    have hB := (below2 _ _ _).trans (hb.mono (by simp; omega))
    clear hb
    go_wp2
    have hF := (hB.setCell (p := ⟨w.heap.size + 1, 0, none⟩) (by dsimp only; omega) (.bool g)).setCell (p := ⟨w.heap.size + 1, 1, none⟩) (by dsimp only; omega) (.slice a xs.length c)
    exact bodyPost_ret (v := .agg #[.bool g, .slice a xs.length c]) (by simp [results, Try.results47, go_sem, q3]) rfl ⟨a, c, rfl, h.below hF, hF⟩
  · have hk' : okB g xs = false := by simpa using hk
    have e1 : tkG g xs = false := by unfold tkG; rw [hk']; simp
    have e2 : tkL g xs = [] := by unfold tkL; rw [if_neg hk]
    rw [e1, e2]
    clear e1 e2 hk
    go_enter Try.func47, Try.ntmps47
    go_wp2_with fail
    refine (implOk g a c xs _ (h.below (below2 _ _ _))).mono ?_
    rintro e w1 ⟨rfl, hb⟩
    obtain ⟨q3, q4⟩ := at_block hb (b := w.heap.size + 1) (by simp)
    have hz : w.heap.size + 1 < w1.heap.size := by have := hb.size; simp at this; omega
    have hB := (below2 _ _ _).trans (hb.mono (by simp; omega))
    clear hb
    go_wp2
    exact bodyPost_ret (v := .agg #[.bool false, .slice none 0 0]) (by simp [results, Try.results47, go_sem, q3]) rfl ⟨none, 0, rfl, (Own.nil 0 _).toSees, (hB.setCell (by dsimp only; omega) _).setCell (by dsimp only; omega) _⟩

set_option maxHeartbeats 400000 in
theorem l1MagC (g : Bool) (a : Option Addr) (c : Nat) (xs : List Int) (w : World) (h : Sees w a c xs) :
    Calls Try.prog 39 #[.agg #[.bool g, .slice a xs.length c]] w fun e w' => ∃ a' c', e = .returned (.slice a' (tkL g xs).length c') ∧ Sees w' a' c' (tkL g xs) ∧ Below w.heap.size w w' := by
  by_cases hk : okB g xs = true
  · have e2 : tkL g xs = xs := by unfold tkL; rw [if_pos hk]
    rw [e2]
    clear e2
    go_enter Try.func39, Try.ntmps39
    go_wp2_with fail
    refine (specOk g a c xs _ (h.below (below1 _ _))).mono ?_
    rintro e w1 ⟨rfl, hb⟩
    obtain ⟨q1, q2⟩ := at_block hb (b := w.heap.size) (by simp)
    have hB := (below1 _ _).trans (hb.mono (by simp))
    clear hb
    go_wp2
    go_ret
    exact ⟨a, c, rfl, h.below hB, hB⟩
  · have hk' : okB g xs = false := by simpa using hk
    have e2 : tkL g xs = [] := by unfold tkL; rw [if_neg hk]
    rw [e2]
    clear e2 hk
    go_enter Try.func39, Try.ntmps39
    go_wp2_with fail
    refine (specOk g a c xs _ (h.below (below1 _ _))).mono ?_
    rintro e w1 ⟨rfl, hb⟩
    have hB := (below1 _ _).trans (hb.mono (by simp))
    clear hb
    go_wp2
    go_ret
    exact ⟨_, 0, rfl, (Own.empty 0 _ _ _).toSees, hB.trans ((below1 _ _).mono hB.size)⟩
end Go.Proofs.Ytnefdfgonolafaa
