/- Which numbers are right: the program's NumOk and the specification's. -/
import Derived.Test.YtnefdfgonolafaaNums
namespace Go.Proofs.Ytnefdfgonolafaa
open Go.RowKit

/-- Right, by a number's sign and its limbs. -/
def okB (g : Bool) (xs : List Int) : Bool := if xs.length = 0 then !g else decide (xs.length ≤ 24) && (xs[xs.length - 1]?.getD 0 != 0)

theorem Sees.last {w : World} {a : Option Addr} {c : Nat} {xs : List Int} (h : Sees w a c xs) (hn : ¬ xs.length = 0) :
    ∃ b off, a = some ⟨b, off, none⟩ ∧ b < w.heap.size ∧ w.cell? ⟨b, off + (xs.length - 1), none⟩ = some (.int .u32 (xs[xs.length - 1]?.getD 0)) := by
  have hne : xs ≠ [] := by intro e; simp [e] at hn
  obtain ⟨b, off, ha, hc⟩ := h.cells hne
  exact ⟨b, off, ha, h.lt ha hne, hc _ (by omega)⟩

theorem implOk (g : Bool) (a : Option Addr) (c : Nat) (xs : List Int) (w : World) (h : Sees w a c xs) :
    Calls Try.prog 27 #[.agg #[.bool g, .slice a xs.length c]] w fun e w' => e = .returned (.bool (okB g xs)) ∧ Below w.heap.size w w' := by
  have hm := h.max
  have hf := h.fits
  unfold maxLen at hm
  unfold okB
  by_cases hn : xs.length = 0
  · rw [if_pos hn, hn]
    clear h hf hn
    go_enter Try.func27, Try.ntmps27
    go_wp2
    go_ret
    exact ⟨rfl, (Below.refl _ _).alloc (Nat.le_refl _) _⟩
  · rw [if_neg hn]
    obtain ⟨b, off, rfl, hlt, hc⟩ := h.last hn
    generalize xs[xs.length - 1]?.getD 0 = x at hc ⊢
    generalize xs.length = n at *
    have hn0 : ((n : Int) == 0) = false := by simpa using hn
    clear h
    by_cases hl : n ≤ 24
    · have hp : 0 < n := by omega
      rw [decide_eq_true hl, Bool.true_and]
      go_enter Try.func27, Try.ntmps27
      go_wp2
      go_ret
      exact ⟨rfl, (Below.refl _ _).alloc (Nat.le_refl _) _⟩
    · rw [decide_eq_false hl, Bool.false_and]
      have hd : decide ((n : Int) ≤ 24) = false := by simp; omega
      go_enter Try.func27, Try.ntmps27
      go_wp2
      go_ret
      exact ⟨rfl, (Below.refl _ _).alloc (Nat.le_refl _) _⟩

theorem specOk (g : Bool) (a : Option Addr) (c : Nat) (xs : List Int) (w : World) (h : Sees w a c xs) :
    Calls Try.prog 37 #[.agg #[.bool g, .slice a xs.length c]] w fun e w' => e = .returned (.bool (okB g xs)) ∧ Below w.heap.size w w' := by
  have hm := h.max
  have hf := h.fits
  unfold maxLen at hm
  unfold okB
  by_cases hn : xs.length = 0
  · rw [if_pos hn, hn]
    clear h hf hn
    cases g
    all_goals
      go_enter Try.func37, Try.ntmps37
      go_wp2
      go_ret
      exact ⟨rfl, (Below.refl _ _).alloc (Nat.le_refl _) _⟩
  · rw [if_neg hn]
    obtain ⟨b, off, rfl, hlt, hc⟩ := h.last hn
    generalize xs[xs.length - 1]?.getD 0 = x at hc ⊢
    generalize xs.length = n at *
    have hn0 : ((n : Int) == 0) = false := by simpa using hn
    clear h
    by_cases hl : n ≤ 24
    · have hp : 0 < n := by omega
      have hpi : (0 : Int) < n := by omega
      rw [decide_eq_true hl, Bool.true_and]
      go_enter Try.func37, Try.ntmps37
      go_wp2
      go_ret
      exact ⟨rfl, (Below.refl _ _).alloc (Nat.le_refl _) _⟩
    · rw [decide_eq_false hl, Bool.false_and]
      have hd : decide ((n : Int) ≤ 24) = false := by simp; omega
      go_enter Try.func37, Try.ntmps37
      go_wp2
      go_ret
      exact ⟨rfl, (Below.refl _ _).alloc (Nat.le_refl _) _⟩
end Go.Proofs.Ytnefdfgonolafaa
