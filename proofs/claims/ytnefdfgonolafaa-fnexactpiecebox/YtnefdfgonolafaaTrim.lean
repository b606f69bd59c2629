/- Noughts on top are cut off: impl.trimmed, impl.signed. -/
import Derived.Test.YtnefdfgonolafaaEq
namespace Go.Proofs.Ytnefdfgonolafaa
open Go.RowKit

set_option maxHeartbeats 400000 in
theorem trimmedC (base : Nat) (a : Option Addr) (c : Nat) (xs : List Int) (w : World) (h : Own base w a c xs) :
    Calls Try.prog 64 #[.slice a xs.length c] w fun e w' => w' = w ∧ ∃ a' j, e = .returned (.slice a' j j) ∧ j ≤ xs.length ∧ ((j = 0 ∧ a' = none) ∨ a' = a) ∧ Nrm (xs.take j) ∧ val (xs.take j) = val xs := by
  have hm := h.max
  have hf := h.fits
  unfold maxLen at hm
  go_enter Try.func64, Try.ntmps64
  go_wp2
  go_loop [3] (fun n => ∃ j : Nat, j ≤ xs.length ∧ n = .int .i64 j ∧ Hid (∀ i, j ≤ i → xs[i]?.getD 0 = 0)) (fun n => (intOf n).toNat)
  case atStart => exact ⟨xs.length, Nat.le_refl _, rfl, fun i hi => by rw [List.getElem?_eq_none hi]; rfl⟩
  case round =>
    obtain ⟨j, hj, rfl, hz⟩ := hrel
    by_cases h0 : j = 0
    · have H : Hid (val (xs.take j) = val xs) := (cut_facts hj hz.out (.inl h0)).2.1
      subst h0
      clear hz
      go_wp2
      go_ret
      exact ⟨rfl, none, 0, rfl, Nat.zero_le _, .inl ⟨rfl, rfl⟩, trivial, H.out⟩
    · have hne : xs ≠ [] := by intro e; simp [e] at hj; omega
      obtain ⟨b, off, rfl, hc⟩ := h.cells hne
      have g1 := hc (j - 1) (by omega)
      have hp : (0 : Int) < j := by omega
      clear hc
      by_cases hx : xs[j - 1]?.getD 0 = 0
      · rw [hx] at g1
        have hz' : Hid (∀ i, j - 1 ≤ i → xs[i]?.getD 0 = 0) := zeros_step hz.out hx
        clear hz hx h
        go_wp2
        go_round
        case rel => exact ⟨j - 1, by omega, by go_num, hz'⟩
        case measure => simp [intOf]; omega
      · have H := cut_facts hj hz.out (.inr hx)
        have hj0 : ((j : Int) == 0) = false := by simpa using h0
        have hx' : (xs[j - 1]?.getD 0 == 0) = false := by simpa using hx
        generalize xs[j - 1]?.getD 0 = x at g1 hx'
        have HH : Hid (Nrm (xs.take j) ∧ val (xs.take j) = val xs ∧ (xs.take j).length = j) := H
        clear hz hx h H
        go_wp2
        go_ret
        exact ⟨rfl, _, j, rfl, hj, .inr rfl, HH.out.1, HH.out.2.1⟩

set_option maxHeartbeats 400000 in
theorem signedC (base : Nat) (neg : Bool) (a : Option Addr) (c : Nat) (xs : List Int) (w : World) (h : Own base w a c xs) :
    Calls Try.prog 60 #[.bool neg, .slice a xs.length c] w fun e w' => ∃ v, e = .returned v ∧ IsNum base w' v (sg neg (val xs)) ∧ Below w.heap.size w w' := by
  go_enter Try.func60, Try.ntmps60
  go_wp2_with fail
  refine (trimmedC base a c xs _ (h.below (below1 _ _))).mono ?_
  rintro e w' ⟨rfl, a', j, rfl, hj, ha, hn, hv⟩
  have hl : (xs.take j).length = j := by simp; omega
  have hm := h.max
  have hf := h.fits
  unfold maxLen at hm
  have key : ∀ o, IsNum base (w.alloc o) (.agg #[.bool (neg && decide (0 < j)), .slice a' j j]) (sg neg (val xs)) := fun o => by
    have := IsNum.mk (neg := neg) (h.below (below1 w o) |>.cut hj ha) hn
    rw [hv, hl] at this
    exact this
  clear h hn hv hl ha
  have K : Hid (∀ o, IsNum base (w.alloc o) (.agg #[.bool (neg && decide (0 < j)), .slice a' j j]) (sg neg (val xs))) := key
  clear key
  cases neg
  · go_wp2
    exact bodyPost_ret (v := .agg #[.bool (false && decide (0 < j)), .slice a' j j]) (by simp [results, Try.results60, go_sem]) rfl ⟨_, rfl, K.out _, below1 _ _⟩
  · by_cases h0 : 0 < j
    · have hp : (0 : Int) < j := by omega
      go_wp2
      exact bodyPost_ret (v := .agg #[.bool (true && decide (0 < j)), .slice a' j j]) (by simp [results, Try.results60, go_sem, h0]) rfl ⟨_, rfl, K.out _, below1 _ _⟩
    · obtain rfl : j = 0 := by omega
      go_wp2
      exact bodyPost_ret (v := .agg #[.bool (true && decide (0 < 0)), .slice a' 0 0]) (by simp [results, Try.results60, go_sem]) rfl ⟨_, rfl, K.out _, below1 _ _⟩

end Go.Proofs.Ytnefdfgonolafaa
