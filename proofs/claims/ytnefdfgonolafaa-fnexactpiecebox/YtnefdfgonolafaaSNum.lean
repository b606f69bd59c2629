/- The specification's l1Num: noughts on top are cut off, what is left is copied. -/
import Derived.Test.YtnefdfgonolafaaNums
import Derived.Laws.AppendOwnNone
namespace Go.Proofs.Ytnefdfgonolafaa
open Go.RowKit

set_option maxHeartbeats 1000000 in
theorem l1NumC (neg : Bool) (a : Option Addr) (c : Nat) (xs : List Int) (w : World) (h : Sees w a c xs) (hs : xs.length ≤ 2097152) :
    Calls Try.prog 41 #[.bool neg, .slice a xs.length c] w fun e w' => ∃ v, e = .returned v ∧ IsNum w.heap.size w' v (sg neg (val xs)) ∧ Below w.heap.size w w' := by
  have hm := h.max
  have hf := h.fits
  unfold maxLen at hm
  have HS : Hid (xs.length ≤ 2097152) := hs
  clear hs
  go_enter Try.func41, Try.ntmps41
  go_wp2
  go_loop [5] (fun n => ∃ j : Nat, j ≤ xs.length ∧ n = .int .i64 j ∧ Hid (∀ i, j ≤ i → xs[i]?.getD 0 = 0)) (fun n => (intOf n).toNat)
  case atStart => exact ⟨xs.length, Nat.le_refl _, rfl, fun i hi => by rw [List.getElem?_eq_none hi]; rfl⟩
  case round =>
    obtain ⟨j, hj, rfl, hz⟩ := hrel
    by_cases h0 : j = 0
    · have H : Hid (val xs = 0) := by
        have := (cut_facts hj hz.out (.inl h0)).2.1
        subst h0; exact this.symm
      subst h0
      clear hz
      rcases h.shape with ⟨rfl, rfl⟩ | ⟨b, off, rfl⟩
      all_goals
        clear h
        cases neg
        all_goals
          go_wp2
          exact bodyPost_ret (v := .agg #[.bool false, .slice (some ⟨w.heap.size + 1, 0, none⟩) 0 0]) (by simp [results, Try.results41, go_sem]) rfl ⟨_, rfl, IsNum.zero _ _ _ _ _ H.out, below2 _ _ _⟩
    · have hne : xs ≠ [] := by intro e; simp [e] at hj; omega
      obtain ⟨b, off, rfl, hc⟩ := h.cells hne
      have g1 := hc (j - 1) (by omega)
      have hp : (0 : Int) < j := by omega
      have hlt := World.block_lt_of_cell? _ _ g1
      by_cases hx : xs[j - 1]?.getD 0 = 0
      · rw [hx] at g1
        have hz' : Hid (∀ i, j - 1 ≤ i → xs[i]?.getD 0 = 0) := zeros_step hz.out hx
        clear hz hx h hc
        go_wp2
        go_round
        case rel => exact ⟨j - 1, by omega, by go_num, hz'⟩
        case measure => simp [intOf]; omega
      · have H := cut_facts hj hz.out (.inr hx)
        have hx' : (xs[j - 1]?.getD 0 == 0) = false := by simpa using hx
        generalize xs[j - 1]?.getD 0 = x at g1 hx'
        have HH : Hid (Nrm (xs.take j) ∧ val (xs.take j) = val xs ∧ (xs.take j).length = j) := H
        have HC : Hid (Sees w (some ⟨b, off, none⟩) c xs) := h
        have HL : Lim (xs.take j) := h.lim.take j
        obtain ⟨i0, hi, hz0, hz1, hz2⟩ := info_parts infoU
        clear hz hx h H hc
        have HJ : Hid (j * 4 ≤ 140737488355328) := by have := HS.out; show _ ≤ _; omega
        have HK : ∀ o1 o2, Hid (∀ q u, ((xs.take j).map (Value.int .u32))[q]? = some u → ((w.alloc o1).alloc o2).cell? ((⟨b, off, none⟩ : Addr).add q) = some u) := fun o1 o2 => (HC.out.below (below2 _ _ _)).toCame.news hj
        clear HC HS
        have hj' : 0 < j := by omega
        rcases neg with _ | _
        all_goals
          go_wp2_with (at_builtin; refine wpList_append_own _ rfl (.tmp 25) (.tmp 28) 22 rfl (w.heap.size + 1) 80 i0 (.int .u32 0) 1 4 Try.underlying22 hi hz0 hz1 hz2 rfl (by decide) (.slice (some ⟨w.heap.size + 1, 0, none⟩) 0 0) 0 [] rfl (ownsRow_empty2 _ _ _) ⟨b, off, none⟩ j _ ((xs.take j).map (Value.int .u32)) rfl (by rw [List.length_map, HH.out.2.2, Nat.mul_one]) ((HK _ _).out) (ones _) (by unfold maxLen; omega) (by have := HJ.out; omega) (by simp) ?_; intro v' w' hown' hgrow' _; obtain ⟨q1, q2⟩ := grown_at hgrow' (b := w.heap.size) (by simp; omega) (by simp [Value.ownBlock]); obtain ⟨g, cap', hv, ho⟩ := Own.of_append hown' HL (by omega); rw [HH.out.2.2] at hv; rw [hv]; have hz : w.heap.size < w'.heap.size := (by have := hgrow'.size; simp at this; omega); have hB : Below w.heap.size w w' := ((below2 _ _ _).grown hgrow' (by simp; omega) (by intro k hk; simp [Value.ownBlock] at hk; omega)); clear hown' hgrow' hv)
        · have hI := IsNum.mk (neg := false) (((ho.setCell (p := ⟨w.heap.size, 0, none⟩) (by dsimp only; omega) (.bool false)).setCell (p := ⟨w.heap.size, 1, none⟩) (by dsimp only; omega) (.slice (some ⟨g, 0, none⟩) j cap')).base_le (Nat.le_succ _)) HH.out.1
          rw [HH.out.2.1, HH.out.2.2] at hI
          exact bodyPost_ret (v := .agg #[.bool (false && decide (0 < j)), .slice (some ⟨g, 0, none⟩) j cap']) (by simp [results, Try.results41, go_sem, q1]) rfl ⟨_, rfl, hI, (hB.setCell (by dsimp only; omega) _).setCell (by dsimp only; omega) _⟩
        · have hI := IsNum.mk (neg := true) (((ho.setCell (p := ⟨w.heap.size, 0, none⟩) (by dsimp only; omega) (.bool true)).setCell (p := ⟨w.heap.size, 1, none⟩) (by dsimp only; omega) (.slice (some ⟨g, 0, none⟩) j cap')).base_le (Nat.le_succ _)) HH.out.1
          rw [HH.out.2.1, HH.out.2.2] at hI
          exact bodyPost_ret (v := .agg #[.bool (true && decide (0 < j)), .slice (some ⟨g, 0, none⟩) j cap']) (by simp [results, Try.results41, go_sem, q1, hj']) rfl ⟨_, rfl, hI, (hB.setCell (by dsimp only; omega) _).setCell (by dsimp only; omega) _⟩

end Go.Proofs.Ytnefdfgonolafaa
