/- The laws' helpers on slices of limbs: two that read the same are told to be equal; marking a slice and asking for the marks. -/
import Derived.Test.YtfddiojcahbkfajProg
import Derived.Test.YtfddiojcahbkfajBase
import Derived.WalkKit
import Derived.WalkSpells
import Derived.WalkLawsBesides
import Derived.BigQuiet
import Derived.Deep.QuietTactic
namespace Go.Proofs.Ytfddiojcahbkfaj
open Go.RowKit

set_option maxHeartbeats 400000 in
theorem eqU (a b : Option Addr) (c d : Nat) (xs : List Int) (w : World) (h : Sees w a c xs) (k : Sees w b d xs) :
    Calls Try.prog 33 #[.slice a xs.length c, .slice b xs.length d] w fun e w' => e = .returned (.bool true) ∧ ∃ n, w' = w.drewN n := by
  have hm := h.max
  have hf := h.fits
  unfold maxLen at hm
  have hne : ((xs.length : Int) != (xs.length : Int)) = false := by simp
  go_enter Try.func33, Try.ntmps33
  go_wp2
  go_loopw [5] (fun i wr => ∃ j n : Nat, j ≤ xs.length ∧ i = .int .i64 j ∧ wr = w.drewN n) (fun i _ => xs.length - (intOf i).toNat)
  case atStart => exact ⟨0, 0, Nat.zero_le _, rfl, rfl⟩
  case round =>
    obtain ⟨j, n, hj, rfl, rfl⟩ := hrel
    by_cases hlt : j < xs.length
    · obtain ⟨b1, o1, rfl, hc1⟩ := h.cells (by intro e; simp [e] at hlt)
      obtain ⟨b2, o2, rfl, hc2⟩ := k.cells (by intro e; simp [e] at hlt)
      have g1 := hc1 j hlt
      have g2 := hc2 j hlt
      clear hc1 hc2 h k
      go_wp2
      go_quiet (fail)
      go_wp2
      go_roundw
      case rel => exact ⟨j + 1, _, by omega, by go_num, rfl⟩
      case measure => simp [intOf]; omega
    · go_wp2
      go_ret
      exact ⟨rfl, n, rfl⟩
set_option maxHeartbeats 400000 in
theorem markU (base : Nat) (a : Option Addr) (c : Nat) (xs : List Int) (k : Int) (w : World) (h : Own base w a c xs) (hk : 0 ≤ k) (hs : k + xs.length < 4294967296) :
    Calls Try.prog 34 #[.slice a xs.length c, .int .i64 k] w fun e w' => e = .returned (.int .i64 (k + xs.length)) ∧ Own base w' a c (marks k xs.length) ∧ w.grownBy w' (rowOf a xs) := by
  have hm := h.max
  have hf := h.fits
  unfold maxLen at hm
  go_enter Try.func34, Try.ntmps34
  go_wp2
  go_loopw [1, 5] (fun q i wr => ∃ j : Nat, j ≤ xs.length ∧ i = .int .i64 j ∧ q = .int .i64 (k + j) ∧ Own base wr a c (marks k j ++ xs.drop j) ∧ w.grownBy wr (rowOf a xs)) (fun _ i _ => xs.length - (intOf i).toNat)
  case atStart => exact ⟨0, Nat.zero_le _, rfl, by simp, by simpa [marks] using h, grownBy_refl _ _⟩
  case round =>
    obtain ⟨j, hj, rfl, rfl, hown, hg⟩ := hrel
    by_cases hlt : j < xs.length
    · have hne : xs ≠ [] := by intro e; simp [e] at hlt
      obtain ⟨b1, o1, rfl, _⟩ := h.cells hne
      have hlen : (marks k j ++ xs.drop j).length = xs.length := by simp [marks_length]; omega
      have hst := hown.store (j := j) rfl (by omega) (v := k + j) ⟨by omega, by omega⟩
      have hne2 : marks k j ++ xs.drop j ≠ [] := by intro e; rw [e] at hlen; simp at hlen; omega
      obtain ⟨b2, o2, e2, hc⟩ := hown.cells hne2
      simp only [Option.some.injEq, Addr.mk.injEq] at e2
      obtain ⟨rfl, rfl, _⟩ := e2
      have g1 := hc j (by omega)
      have g2 := (hown.new b1 o1 rfl hne2).2 j (by omega)
      rw [marks_step k xs j hlt] at hst
      have HS := hst
      have hg' := grownBy_setCell hg (p := ⟨b1, o1 + j, none⟩) (by simp [rowOf, hne]) (.int .u32 (k + j))
      clear hc hown hne2 hlen h hst
      go_wp2
      go_roundw
      case rel => exact ⟨j + 1, by omega, by go_num, by go_num, HS, hg'⟩
      case measure => simp [intOf]; omega
    · have : j = xs.length := by omega
      subst this
      go_wp2
      go_ret
      exact ⟨rfl, by simpa using hown, hg⟩

set_option maxHeartbeats 400000 in
theorem heldU (a : Option Addr) (c : Nat) (n : Nat) (k : Int) (w : World) (h : Sees w a c (marks k n)) (hk : 0 ≤ k) (hs : k + n < 4294967296) :
    Calls Try.prog 35 #[.slice a n c, .int .i64 k] w fun e w' => e = .returned (.int .i64 (k + n)) ∧ ∃ m, w' = w.drewN m := by
  have hm := h.max
  have hf := h.fits
  rw [marks_length] at hf
  unfold maxLen at hm
  go_enter Try.func35, Try.ntmps35
  go_wp2
  go_loopw [1, 5] (fun q i wr => ∃ j m : Nat, j ≤ n ∧ i = .int .i64 j ∧ q = .int .i64 (k + j) ∧ wr = w.drewN m) (fun _ i _ => n - (intOf i).toNat)
  case atStart => exact ⟨0, 0, Nat.zero_le _, rfl, by simp, rfl⟩
  case round =>
    obtain ⟨j, m, hj, rfl, rfl, rfl⟩ := hrel
    by_cases hlt : j < n
    · have hne : marks k n ≠ [] := by intro e; have := marks_length k n; rw [e] at this; simp at this; omega
      obtain ⟨b1, o1, rfl, hc⟩ := h.cells hne
      have g1 := hc j (by rw [marks_length]; exact hlt)
      rw [marks_get k n j hlt] at g1
      clear hc hne h
      go_wp2
      go_roundw
      case rel => exact ⟨j + 1, m, by omega, by go_num, by go_num, rfl⟩
      case measure => simp [intOf]; omega
    · have : j = n := by omega
      subst this
      go_wp2
      go_ret
      exact ⟨rfl, m, rfl⟩
end Go.Proofs.Ytfddiojcahbkfaj
