import Derived.Test.YtbgpkajgnappiaaProg
import Derived.Test.YtbgpkajgnappiaaBase
import Derived.WalkKit
import Derived.WalkSpells
import Derived.WalkLawsBesides
import Derived.BigQuiet
import Derived.Deep.QuietTactic
/- The laws' helpers on slices of limbs: two that read the same are told to be equal; marking a slice and asking for the marks. -/
namespace Go.Proofs.Ytbgpkajgnappiaa
open Go.RowKit

end Go.Proofs.Ytbgpkajgnappiaa

/- Noughts on top are cut off: impl.trimmed, impl.signed. -/
namespace Go.Proofs.Ytbgpkajgnappiaa
open Go.RowKit

set_option maxHeartbeats 400000 in
theorem trimmedC (base : Nat) (a : Option Addr) (c : Nat) (xs : List Int) (w : World) (h : Own base w a c xs) :
    Calls Try.prog 47 #[.slice a xs.length c] w fun e w' => w' = w ∧ ∃ a' j, e = .returned (.slice a' j j) ∧ j ≤ xs.length ∧ ((j = 0 ∧ a' = none) ∨ a' = a) ∧ Nrm (xs.take j) ∧ val (xs.take j) = val xs := by
  have hm := h.max
  have hf := h.fits
  unfold maxLen at hm
  go_enter Try.func47, Try.ntmps47
  go_wp2
  go_loop [3] (fun n => ∃ j : Nat, j ≤ xs.length ∧ n = .int .i64 j ∧ Hid (∀ i, j ≤ i → xs[i]?.getD 0 = 0)) (fun n => (intOf n).toNat)
  case atStart => exact ⟨xs.length, Nat.le_refl _, rfl, fun i hi => by rw [List.getElem?_eq_none hi]; rfl⟩
  case round =>
    obtain ⟨j, hj, rfl, hz⟩ := hrel
    by_cases h0 : j = 0
    · have H : Hid (val (xs.take j) = val xs) := (cut_facts hj hz.out (.inl h0)).2.1
      subst h0
      clear hz
      go_wp2
      go_ret
      exact ⟨rfl, none, 0, rfl, Nat.zero_le _, .inl ⟨rfl, rfl⟩, trivial, H.out⟩
    · have hne : xs ≠ [] := by intro e; simp [e] at hj; omega
      obtain ⟨b, off, rfl, hc⟩ := h.cells hne
      have g1 := hc (j - 1) (by omega)
      have hp : (0 : Int) < j := by omega
      clear hc
      by_cases hx : xs[j - 1]?.getD 0 = 0
      · rw [hx] at g1
        have hz' : Hid (∀ i, j - 1 ≤ i → xs[i]?.getD 0 = 0) := zeros_step hz.out hx
        clear hz hx h
        go_wp2
        go_round
        case rel => exact ⟨j - 1, by omega, by go_num, hz'⟩
        case measure => simp [intOf]; omega
      · have H := cut_facts hj hz.out (.inr hx)
        have hj0 : ((j : Int) == 0) = false := by simpa using h0
        have hx' : (xs[j - 1]?.getD 0 == 0) = false := by simpa using hx
        generalize xs[j - 1]?.getD 0 = x at g1 hx'
        have HH : Hid (Nrm (xs.take j) ∧ val (xs.take j) = val xs ∧ (xs.take j).length = j) := H
        clear hz hx h H
        go_wp2
        go_ret
        exact ⟨rfl, _, j, rfl, hj, .inr rfl, HH.out.1, HH.out.2.1⟩

set_option maxHeartbeats 400000 in
theorem signedC (base : Nat) (neg : Bool) (a : Option Addr) (c : Nat) (xs : List Int) (w : World) (h : Own base w a c xs) :
    Calls Try.prog 40 #[.bool neg, .slice a xs.length c] w fun e w' => ∃ v, e = .returned v ∧ IsNum base w' v (sg neg (val xs)) ∧ Below w.heap.size w w' := by
  go_enter Try.func40, Try.ntmps40
  go_wp2_with fail
  refine (trimmedC base a c xs _ (h.below (below1 _ _))).mono ?_
  rintro e w' ⟨rfl, a', j, rfl, hj, ha, hn, hv⟩
  have hl : (xs.take j).length = j := by simp; omega
  have hm := h.max
  have hf := h.fits
  unfold maxLen at hm
  have key : ∀ o, IsNum base (w.alloc o) (.agg #[.bool (neg && decide (0 < j)), .slice a' j j]) (sg neg (val xs)) := fun o => by
    have := IsNum.mk (neg := neg) (h.below (below1 w o) |>.cut hj ha) hn
    rw [hv, hl] at this
    exact this
  clear h hn hv hl ha
  have K : Hid (∀ o, IsNum base (w.alloc o) (.agg #[.bool (neg && decide (0 < j)), .slice a' j j]) (sg neg (val xs))) := key
  clear key
  cases neg
  · go_wp2
    exact bodyPost_ret (v := .agg #[.bool (false && decide (0 < j)), .slice a' j j]) (by simp [results, Try.results40, go_sem]) rfl ⟨_, rfl, K.out _, below1 _ _⟩
  · by_cases h0 : 0 < j
    · have hp : (0 : Int) < j := by omega
      go_wp2
      exact bodyPost_ret (v := .agg #[.bool (true && decide (0 < j)), .slice a' j j]) (by simp [results, Try.results40, go_sem, h0]) rfl ⟨_, rfl, K.out _, below1 _ _⟩
    · obtain rfl : j = 0 := by omega
      go_wp2
      exact bodyPost_ret (v := .agg #[.bool (true && decide (0 < 0)), .slice a' 0 0]) (by simp [results, Try.results40, go_sem]) rfl ⟨_, rfl, K.out _, below1 _ _⟩

end Go.Proofs.Ytbgpkajgnappiaa

/- The laws' helpers on numbers: their copies, their sizes, whether two are equal, their marks. -/
namespace Go.Proofs.Ytbgpkajgnappiaa
open Go.RowKit

theorem infoU : (Try.prog.info? 54).map (fun i => (i.zero, i.size, i.bytes)) = some (some (.int .u32 0), 1, 4) := by kernel_rfl

end Go.Proofs.Ytbgpkajgnappiaa

/- Which numbers are right: the program's NumOk and the specification's. -/
namespace Go.Proofs.Ytbgpkajgnappiaa
open Go.RowKit

/-- Right, by a number's sign and its limbs. -/
def okB (g : Bool) (xs : List Int) : Bool := if xs.length = 0 then !g else decide (xs.length ≤ 24) && (xs[xs.length - 1]?.getD 0 != 0)

theorem Sees.last {w : World} {a : Option Addr} {c : Nat} {xs : List Int} (h : Sees w a c xs) (hn : ¬ xs.length = 0) :
    ∃ b off, a = some ⟨b, off, none⟩ ∧ b < w.heap.size ∧ w.cell? ⟨b, off + (xs.length - 1), none⟩ = some (.int .u32 (xs[xs.length - 1]?.getD 0)) := by
  have hne : xs ≠ [] := by intro e; simp [e] at hn
  obtain ⟨b, off, ha, hc⟩ := h.cells hne
  exact ⟨b, off, ha, h.lt ha hne, hc _ (by omega)⟩

theorem implOk (g : Bool) (a : Option Addr) (c : Nat) (xs : List Int) (w : World) (h : Sees w a c xs) :
    Calls Try.prog 50 #[.agg #[.bool g, .slice a xs.length c]] w fun e w' => e = .returned (.bool (okB g xs)) ∧ Below w.heap.size w w' := by
  have hm := h.max
  have hf := h.fits
  unfold maxLen at hm
  unfold okB
  by_cases hn : xs.length = 0
  · rw [if_pos hn, hn]
    clear h hf hn
    go_enter Try.func50, Try.ntmps50
    go_wp2
    go_ret
    exact ⟨rfl, (Below.refl _ _).alloc (Nat.le_refl _) _⟩
  · rw [if_neg hn]
    obtain ⟨b, off, rfl, hlt, hc⟩ := h.last hn
    generalize xs[xs.length - 1]?.getD 0 = x at hc ⊢
    generalize xs.length = n at *
    have hn0 : ((n : Int) == 0) = false := by simpa using hn
    clear h
    by_cases hl : n ≤ 24
    · have hp : 0 < n := by omega
      rw [decide_eq_true hl, Bool.true_and]
      go_enter Try.func50, Try.ntmps50
      go_wp2
      go_ret
      exact ⟨rfl, (Below.refl _ _).alloc (Nat.le_refl _) _⟩
    · rw [decide_eq_false hl, Bool.false_and]
      have hd : decide ((n : Int) ≤ 24) = false := by simp; omega
      go_enter Try.func50, Try.ntmps50
      go_wp2
      go_ret
      exact ⟨rfl, (Below.refl _ _).alloc (Nat.le_refl _) _⟩

end Go.Proofs.Ytbgpkajgnappiaa

/- What a number is taken as: impl.taken, spec.l1Mag. -/
namespace Go.Proofs.Ytbgpkajgnappiaa
open Go.RowKit

/-- The sign, and the limbs, that are taken. -/
def tkG (g : Bool) (xs : List Int) : Bool := okB g xs && g
def tkL (g : Bool) (xs : List Int) : List Int := if okB g xs = true then xs else []
/-- The number that is taken. -/
def tk (g : Bool) (xs : List Int) : Int := sg (tkG g xs) (val (tkL g xs))

theorem tk_facts (g : Bool) (xs : List Int) (hl : Lim xs) : Lim (tkL g xs) ∧ Nrm (tkL g xs) ∧ (tkL g xs).length ≤ 24 ∧ (tkL g xs = [] → tkG g xs = false) := by
  unfold tkL tkG
  by_cases hk : okB g xs = true
  · rw [if_pos hk, hk]
    unfold okB at hk
    by_cases h0 : xs.length = 0
    · rw [if_pos h0] at hk
      obtain rfl : xs = [] := List.eq_nil_of_length_eq_zero h0
      exact ⟨Lim.nil, trivial, by simp, fun _ => by simpa using hk⟩
    · rw [if_neg h0] at hk
      simp only [Bool.and_eq_true, decide_eq_true_eq, bne_iff_ne] at hk
      refine ⟨hl, ?_, hk.1, fun e => absurd (by simp [e]) h0⟩
      have := Nrm_take (xs := xs) (j := xs.length) (by omega) (Nat.le_refl _) hk.2
      rwa [List.take_length] at this
  · rw [if_neg hk]
    have : okB g xs = false := by simpa using hk
    rw [this]
    exact ⟨Lim.nil, trivial, by simp, fun _ => rfl⟩

set_option maxHeartbeats 400000 in
theorem takenC (g : Bool) (a : Option Addr) (c : Nat) (xs : List Int) (w : World) (h : Sees w a c xs) :
    Calls Try.prog 43 #[.agg #[.bool g, .slice a xs.length c]] w fun e w' => ∃ a' c', e = .returned (.agg #[.bool (tkG g xs), .slice a' (tkL g xs).length c']) ∧ Sees w' a' c' (tkL g xs) ∧ Below w.heap.size w w' := by
  by_cases hk : okB g xs = true
  · have e1 : tkG g xs = g := by unfold tkG; rw [hk]; simp
    have e2 : tkL g xs = xs := by unfold tkL; rw [if_pos hk]
    rw [e1, e2]
    clear e1 e2
    go_enter Try.func43, Try.ntmps43
    go_wp2_with fail
    refine (implOk g a c xs _ (h.below (below2 _ _ _))).mono ?_
    rintro e w1 ⟨rfl, hb⟩
    obtain ⟨q1, q2⟩ := at_block hb (b := w.heap.size) (by simp; omega)
    obtain ⟨q3, q4⟩ := at_block hb (b := w.heap.size + 1) (by simp)
    have hz : w.heap.size + 1 < w1.heap.size := by have := hb.size; simp at this; omega
    have hB := (below2 _ _ _).trans (hb.mono (by simp; omega))
    clear hb
    go_wp2
    have hF := (hB.setCell (p := ⟨w.heap.size + 1, 0, none⟩) (by dsimp only; omega) (.bool g)).setCell (p := ⟨w.heap.size + 1, 1, none⟩) (by dsimp only; omega) (.slice a xs.length c)
    exact bodyPost_ret (v := .agg #[.bool g, .slice a xs.length c]) (by simp [results, Try.results43, go_sem, q3]) rfl ⟨a, c, rfl, h.below hF, hF⟩
  · have hk' : okB g xs = false := by simpa using hk
    have e1 : tkG g xs = false := by unfold tkG; rw [hk']; simp
    have e2 : tkL g xs = [] := by unfold tkL; rw [if_neg hk]
    rw [e1, e2]
    clear e1 e2 hk
    go_enter Try.func43, Try.ntmps43
    go_wp2_with fail
    refine (implOk g a c xs _ (h.below (below2 _ _ _))).mono ?_
    rintro e w1 ⟨rfl, hb⟩
    obtain ⟨q3, q4⟩ := at_block hb (b := w.heap.size + 1) (by simp)
    have hz : w.heap.size + 1 < w1.heap.size := by have := hb.size; simp at this; omega
    have hB := (below2 _ _ _).trans (hb.mono (by simp; omega))
    clear hb
    go_wp2
    exact bodyPost_ret (v := .agg #[.bool false, .slice none 0 0]) (by simp [results, Try.results43, go_sem, q3]) rfl ⟨none, 0, rfl, (Own.nil 0 _).toSees, (hB.setCell (by dsimp only; omega) _).setCell (by dsimp only; omega) _⟩

end Go.Proofs.Ytbgpkajgnappiaa
