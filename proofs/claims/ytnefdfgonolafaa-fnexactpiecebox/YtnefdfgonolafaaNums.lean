/- The laws' helpers on numbers: their copies, their sizes, whether two are equal, their marks. -/
import Derived.Test.YtnefdfgonolafaaEq
namespace Go.Proofs.Ytnefdfgonolafaa
open Go.RowKit

theorem infoU : (Try.prog.info? 80).map (fun i => (i.zero, i.size, i.bytes)) = some (some (.int .u32 0), 1, 4) := by kernel_rfl

set_option maxHeartbeats 400000 in
theorem toU (a : Option Addr) (c : Nat) (xs : List Int) (w : World) (h : Came w a c xs) (hs : xs.length ≤ 1048576) :
    Calls Try.prog 45 #[.slice a xs.length c] w fun e w' => ∃ a' c', e = .returned (.slice a' xs.length c') ∧ Own w.heap.size w' a' c' xs ∧ Below w.heap.size w w' := by
  obtain ⟨i0, hi, hz0, hz1, hz2⟩ := info_parts infoU
  go_enter Try.func45, Try.ntmps45
  go_wp2_with (at_make; refine wpList_make_full _ rfl _ _ 22 rfl w.heap.size 80 i0 (.int .u32 0) 1 Try.underlying22 hi hz0 hz1 .i64 .i64 _ _ xs.length rfl rfl rfl rfl ?b2 ?b3 (Nat.le_refl _) ?_)
  case b2 => rw [hz2]; omega
  case b3 => unfold maxLen; omega
  intro w0 hown0 hgrow0
  have hown1 : w0.ownsRow w.heap.size 80 1 (.slice (some ⟨w.heap.size, 0, none⟩) xs.length xs.length) xs.length ((List.replicate xs.length 0).map (Value.int .u32)) := by
    have e : (madeCells #[.int .u32 0] xs.length).toList = (List.replicate xs.length 0).map (Value.int .u32) := by
      rw [toList_madeCells_one, List.map_replicate]
    rw [← e]; exact hown0
  have ho := (Own.of_row hown1 (Lim.zeros _)).1
  have hb0 : Below w.heap.size w w0 := (Below.refl _ _).grown hgrow0 (Nat.le_refl _) (fun k h => by cases h)
  have hm := h.max
  have hf := h.fits
  unfold maxLen at hm
  clear hown0 hown1 hgrow0 hi hz0 hz1 hz2 hs
  go_wp2
  go_loopw [4] (fun i wr => ∃ j : Nat, j ≤ xs.length ∧ i = .int .i64 j ∧ Own w.heap.size wr (some ⟨w.heap.size, 0, none⟩) xs.length (copied xs j) ∧ Below w.heap.size w wr) (fun i _ => xs.length - (intOf i).toNat)
  case atStart => exact ⟨0, Nat.zero_le _, rfl, by rw [copied_zero]; exact ho, hb0⟩
  case round =>
    obtain ⟨j, hj, rfl, hown, hbw⟩ := hrel
    clear ho hb0
    by_cases hlt : j < xs.length
    · have hne : xs ≠ [] := by intro e; simp [e] at hlt
      obtain ⟨b1, o1, rfl, hc1⟩ := (h.below hbw).cells hne
      have g0 := hc1 j hlt
      have hlen := copied_length xs j hj
      have hne2 : copied xs j ≠ [] := by intro e; rw [e] at hlen; simp at hlen; omega
      have hst := hown.store (j := j) rfl (by omega) (v := xs[j]?.getD 0) (h.lim.get j)
      rw [copied_step xs j hlt] at hst
      obtain ⟨b2, o2, e2, hc⟩ := hown.cells hne2
      simp only [Option.some.injEq, Addr.mk.injEq] at e2
      obtain ⟨rfl, rfl, _⟩ := e2
      have g1 := hc j (by omega)
      have g2 := (hown.new _ _ rfl hne2).2 j (by omega)
      simp only [Nat.zero_add] at g1 g2 hst
      have hb2 := hbw.setCell (p := ⟨w.heap.size, j, none⟩) (Nat.le_refl _) (.int .u32 (xs[j]?.getD 0))
      clear hc hc1 hown hne2 hlen h hbw hne
      generalize xs[j]?.getD 0 = x at g0 hst hb2
      go_wp2
      go_roundw
      case rel => exact ⟨j + 1, by omega, by go_num, hst, hb2⟩
      case measure => simp [intOf]; omega
    · have : j = xs.length := by omega
      subst this
      go_wp2
      go_ret
      exact ⟨_, _, rfl, by rw [copied_all] at hown; exact hown, hbw⟩
theorem szU (a : Option Addr) (c n : Nat) (left : Int) (w : World) (hl : 0 ≤ left ∧ left ≤ 1048576) (hn : n ≤ 9223372036854775807) :
    Calls Try.prog 36 #[.slice a n c, .int .i64 left] w fun e w' => e = .returned (.int .i64 (if left - n < 0 then -1 else left - n)) ∧ w' = w := by
  obtain ⟨h1, h2⟩ := hl
  by_cases hc : left - n < 0
  · rw [if_pos hc]
    go_enter Try.func36, Try.ntmps36
    go_wp2
    go_ret
    exact ⟨rfl, rfl⟩
  · rw [if_neg hc]
    go_enter Try.func36, Try.ntmps36
    go_wp2
    go_ret
    exact ⟨rfl, rfl⟩

theorem szN (g : Bool) (a : Option Addr) (c n : Nat) (left : Int) (w : World) (hl : 0 ≤ left ∧ left ≤ 1048576) (hn : n ≤ 9223372036854775807) :
    Calls Try.prog 21 #[.agg #[.bool g, .slice a n c], .int .i64 left] w fun e w' => e = .returned (.int .i64 (if left - n < 0 then -1 else left - n)) ∧ Below w.heap.size w w' := by
  have h1 := hl.1
  have h2 := hl.2
  by_cases hc : left - n < 0
  all_goals
    go_enter Try.func21, Try.ntmps21
    go_wp2_with (go_at_call 36; refine (szU a c n left _ hl hn).mono ?_; rintro e w' ⟨rfl, rfl⟩)
    go_ret
    exact ⟨by simp, (Below.refl _ _).alloc (Nat.le_refl _) _⟩

theorem eqN (g : Bool) (a b : Option Addr) (c d : Nat) (xs : List Int) (w : World) (h : Sees w a c xs) (k : Sees w b d xs) :
    Calls Try.prog 35 #[.agg #[.bool g, .slice a xs.length c], .agg #[.bool g, .slice b xs.length d]] w fun e w' => e = .returned (.bool true) ∧ Below w.heap.size w w' := by
  go_enter Try.func35, Try.ntmps35
  go_wp2_with (go_at_call 51; refine (eqU a b c d xs _ (h.below ?h1) (k.below ?h2)).mono ?_)
  case h1 => exact ((Below.refl _ _).alloc (Nat.le_refl _) _).alloc (by simp) _
  case h2 => exact ((Below.refl _ _).alloc (Nat.le_refl _) _).alloc (by simp) _
  rintro e w' ⟨rfl, n, rfl⟩
  go_wp2
  go_ret
  exact ⟨rfl, below_drewN (((Below.refl _ _).alloc (Nat.le_refl _) _).alloc (by simp) _) n⟩
set_option maxHeartbeats 400000 in
theorem toN (g : Bool) (a : Option Addr) (c : Nat) (xs : List Int) (w : World) (h : Came w a c xs) (hs : xs.length ≤ 1048576) :
    Calls Try.prog 26 #[.agg #[.bool g, .slice a xs.length c]] w fun e w' => ∃ a' c', e = .returned (.agg #[.bool g, .slice a' xs.length c']) ∧ Own w.heap.size w' a' c' xs ∧ Below w.heap.size w w' := by
  go_enter Try.func26, Try.ntmps26
  go_wp2_with (go_at_call 45; refine (toU a c xs _ (h.below ?h1) hs).mono ?_)
  case h1 => exact below3 _ _ _ _
  rintro e w' ⟨a', c', rfl, ho, hb⟩
  obtain ⟨hc, hf⟩ := bcell hb
  have hz : w.heap.size + 2 < w'.heap.size := by have := hb.size; simp at this; omega
  clear h hs
  simp only [World.size_alloc] at hc hf ho
  have hb' := (below3 _ _ _ _).trans (hb.mono (by simp; omega))
  clear hb
  go_wp2
  refine bodyPost_ret (v := .agg #[.bool g, .slice a' xs.length c']) (by simp [results, Try.results26, go_sem, hc]) rfl ⟨a', c', rfl, ?_, ?_⟩
  · exact (((ho.setCell (by dsimp only; omega) _).setCell (by dsimp only; omega) _).setCell (by dsimp only; omega) _).base_le (by omega)
  · exact ((hb'.setCell (by dsimp only; omega) _).setCell (by dsimp only; omega) _).setCell (by dsimp only; omega) _

end Go.Proofs.Ytnefdfgonolafaa
