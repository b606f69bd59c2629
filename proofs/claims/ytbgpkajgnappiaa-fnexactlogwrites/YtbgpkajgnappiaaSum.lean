/- The program's sums of any number of parts: impl.sum. -/
import Derived.Test.YtbgpkajgnappiaaAddI
import Derived.Test.YtbgpkajgnappiaaCmp
import Derived.Test.YtbgpkajgnappiaaEq
namespace Go.Proofs.Ytbgpkajgnappiaa
open Go.RowKit

/-- The first k parts' sum. -/
def psum (pg : Nat → Bool) (px : Nat → List Int) : Nat → Int
  | 0 => 0
  | k + 1 => psum pg px k + sg (pg k) (val (px k))

/-- The parts as they lie: k numbers, each of at most L limbs. -/
structure Parts (w : World) (pb k L : Nat) (pg : Nat → Bool) (pa : Nat → Option Addr) (pc : Nat → Nat) (px : Nat → List Int) : Prop where
  at0 : ∀ j, j < k → w.cell? ⟨pb, j * 2, none⟩ = some (.bool (pg j))
  at1 : ∀ j, j < k → w.cell? ⟨pb, j * 2 + 1, none⟩ = some (.slice (pa j) (px j).length (pc j))
  sees : ∀ j, j < k → Sees w (pa j) (pc j) (px j)
  nrm : ∀ j, j < k → Nrm (px j)
  len : ∀ j, j < k → (px j).length ≤ L

theorem Parts.below {w w' : World} {pb k L : Nat} {pg : Nat → Bool} {pa : Nat → Option Addr} {pc : Nat → Nat} {px : Nat → List Int} (h : Parts w pb k L pg pa pc px) (hb : Below w.heap.size w w') : Parts w' pb k L pg pa pc px :=
  ⟨fun j hj => bat hb (h.at0 j hj), fun j hj => bat hb (h.at1 j hj), fun j hj => (h.sees j hj).below hb, h.nrm, h.len⟩

set_option maxHeartbeats 2000000 in
theorem sumC (pb k L : Nat) (pg : Nat → Bool) (pa : Nat → Option Addr) (pc : Nat → Nat) (px : Nat → List Int) (w : World) (h : Parts w pb k L pg pa pc px) (hL : L + k ≤ 1048576) :
    Calls Try.prog 32 #[.slice (some ⟨pb, 0, none⟩) k k] w fun e w' => ∃ v, e = .returned v ∧ IsNum w.heap.size w' v (psum pg px k) ∧ Below w.heap.size w w' := by
  have HL : Hid (L + k ≤ 1048576) := hL
  have hk : k ≤ 9223372036854775800 := by omega
  clear hL
  go_enter Try.func32, Try.ntmps32
  go_wp2
  go_loopw [3, 4, 9] (fun u d i wr => ∃ (j : Nat) (au ad : Option Addr) (cu cd : Nat) (us ds : List Int), j ≤ k ∧ i = .int .i64 j ∧ u = .slice au us.length cu ∧ d = .slice ad ds.length cd ∧
      Own (w.heap.size + 1) wr au cu us ∧ Own (w.heap.size + 1) wr ad cd ds ∧ Nrm us ∧ Nrm ds ∧ Hid (us.length ≤ L + j) ∧ Hid (ds.length ≤ L + j) ∧ Hid (val us - val ds = psum pg px j) ∧ Below (w.heap.size + 1) (w.alloc (.cells #[.bool false, .slice none 0 0] 60)) wr) (fun _ _ i _ => k - (intOf i).toNat)
  case atStart => exact ⟨0, none, none, 0, 0, [], [], Nat.zero_le _, rfl, rfl, rfl, Own.nil _ _, Own.nil _ _, trivial, trivial, Nat.zero_le _, Nat.zero_le _, rfl, Below.refl _ _⟩
  case round =>
    obtain ⟨j, au, ad, cu, cd, us, ds, hj, rfl, rfl, rfl, hu, hd, nu, nd, lu, ld, hv, hB⟩ := hrel
    by_cases hlt : j < k
    · have hw : Below w.heap.size w wr := (below1 _ _).trans (hB.mono (by omega))
      have hp := h.below hw
      have g0 := hp.at0 j hlt
      have g1 := hp.at1 j hlt
      have hlt2 := World.block_lt_of_cell? _ _ g0
      by_cases hg : pg j = true
      · have hlp := h.len j hlt
        go_wp2_with fail
        have b1 := below1 wr (.cells #[.bool true, .slice (pa j) (px j).length (pc j)] 60)
        refine (addMagC ad (pa j) cd (pc j) ds (px j) _ (hd.toSees.below b1) ((hp.sees j hlt).below b1) (Nat.le_trans ld.out (by have := HL.out; omega)) (Nat.le_trans hlp (by have := HL.out; omega))).mono ?_
        rintro e w2 ⟨a', c', zs, rfl, ho, hn, hv2, hlz, hb⟩
        have hbb := b1.trans (hb.mono b1.size)
        have hs1 := hB.size
        simp only [World.size_alloc] at hs1 ho
        replace ho := ho.base_le (show w.heap.size + 1 ≤ wr.heap.size + 1 by omega)
        have hu' : Own (w.heap.size + 1) w2 au cu us := hu.below hbb
        have HU : Hid (us.length ≤ L + (j + 1)) := Nat.le_trans lu.out (by omega)
        have HZ : Hid (zs.length ≤ L + (j + 1)) := by
          have h1 := ld.out
          show _ ≤ _
          rcases hlz with h2 | h2 <;> omega
        have HV : Hid (val us - val zs = psum pg px (j + 1)) := by
          have h1 := hv.out
          show _ = _
          simp only [psum, hg, sg]
          simp
          omega
        have hB' := hB.trans (hbb.mono hs1)
        clear hbb hb b1 hlz hv2 hv lu ld hlp hp g0 g1 hw hu hd hB
        go_wp2
        go_roundw
        case rel => exact ⟨j + 1, au, a', cu, c', us, zs, by omega, by go_num, rfl, rfl, hu', ho, nu, hn, HU, HZ, HV, hB'⟩
        case measure => simp [intOf]; omega
      · have hg : pg j = false := by simpa using hg
        have hlp := h.len j hlt
        go_wp2_with fail
        have b1 := below1 wr (.cells #[.bool false, .slice (pa j) (px j).length (pc j)] 60)
        refine (addMagC au (pa j) cu (pc j) us (px j) _ (hu.toSees.below b1) ((hp.sees j hlt).below b1) (Nat.le_trans lu.out (by have := HL.out; omega)) (Nat.le_trans hlp (by have := HL.out; omega))).mono ?_
        rintro e w2 ⟨a', c', zs, rfl, ho, hn, hv2, hlz, hb⟩
        have hbb := b1.trans (hb.mono b1.size)
        have hs1 := hB.size
        simp only [World.size_alloc] at hs1 ho
        replace ho := ho.base_le (show w.heap.size + 1 ≤ wr.heap.size + 1 by omega)
        have hd' : Own (w.heap.size + 1) w2 ad cd ds := hd.below hbb
        have HD : Hid (ds.length ≤ L + (j + 1)) := Nat.le_trans ld.out (by omega)
        have HZ : Hid (zs.length ≤ L + (j + 1)) := by
          have h1 := lu.out
          show _ ≤ _
          rcases hlz with h2 | h2 <;> omega
        have HV : Hid (val zs - val ds = psum pg px (j + 1)) := by
          have h1 := hv.out
          show _ = _
          simp only [psum, hg, sg]
          simp
          omega
        have hB' := hB.trans (hbb.mono hs1)
        clear hbb hb b1 hlz hv2 hv lu ld hlp hp g0 g1 hw hu hd hB
        go_wp2
        go_roundw
        case rel => exact ⟨j + 1, a', ad, c', cd, zs, ds, by omega, by go_num, rfl, rfl, ho, hd', hn, nd, HZ, HD, HV, hB'⟩
        case measure => simp [intOf]; omega
    · have hjk : k = j := by omega
      subst hjk
      by_cases hc : val us < val ds
      · have E : cmpZ (val us) (val ds) = -1 := by unfold cmpZ; rw [if_pos hc]
        have hll : us.length ≤ ds.length := by
          rcases Nat.lt_or_ge ds.length us.length with h1 | h1
          · exfalso; have := cmp_len hd.lim hu.lim nu h1; omega
          · exact h1
        have HC : Hid (val us < val ds) := hc
        clear hc
        go_wp2_with fail
        refine (cmpMagC au ad cu cd us ds _ hu.toSees hd.toSees nu nd).mono ?_
        rintro e w2 ⟨rfl, n, rfl⟩
        rw [E]
        go_wp2_with fail
        refine (subMagC ad au cd cu ds us _ (hd.toSees.below (below_drewN (Below.refl _ _) n)) (hu.toSees.below (below_drewN (Below.refl _ _) n)) (Nat.le_trans ld.out (by have := HL.out; omega)) hll (by have := HC.out; omega)).mono ?_
        rintro e w3 ⟨a3, c3, zs, rfl, ho, hn, hz, _, hb⟩
        have hZ : Hid (sg true (val zs) = psum pg px k) := by
          have h1 := hv.out
          show _ = _
          simp only [sg]
          simp
          omega
        have hs1 := hB.size
        simp only [World.size_alloc] at hs1
        have hB2 : Below (w.heap.size + 1) (w.alloc (.cells #[.bool false, .slice none 0 0] 60)) w3 := (below_drewN hB n).trans (hb.mono hs1)
        have hs3 := Nat.le_trans hs1 hb.size
        replace ho := ho.base_le (show w.heap.size + 1 ≤ _ from hs1)
        clear hb hB hz hu hd
        go_wp2_with fail
        refine (signedC (w.heap.size + 1) true a3 c3 zs _ ho).mono ?_
        rintro e w4 ⟨v, rfl, hI, hb⟩
        replace hI := hI.eq hZ.out
        obtain ⟨g, a4, l, c4, rfl⟩ := hI.shape
        have hB3 := hB2.trans (hb.mono hs3)
        obtain ⟨q1, q2⟩ := at_block (W := w.alloc (.cells #[.bool false, .slice none 0 0] 60)) (by simpa using hB3) (b := w.heap.size) (by simp)
        have hz : w.heap.size < w4.heap.size := by have := hB3.size; simp at this; omega
        have hF := (below1 w _).trans (hB3.mono (Nat.le_succ _))
        clear hb hB2 hB3 ho
        go_wp2
        exact bodyPost_ret (v := .agg #[.bool g, .slice a4 l c4]) (by simp [results, Try.results32, go_sem, q1]) rfl ⟨_, rfl, hI.put (Nat.lt_succ_self _), below_put hF _ _⟩
      · have E : 0 ≤ cmpZ (val us) (val ds) := by unfold cmpZ; rw [if_neg hc]; split <;> decide
        have hll : ds.length ≤ us.length := by
          rcases Nat.lt_or_ge us.length ds.length with h1 | h1
          · exfalso; have := cmp_len hu.lim hd.lim nd h1; omega
          · exact h1
        have HC : Hid (¬ val us < val ds) := hc
        clear hc
        go_wp2_with fail
        refine (cmpMagC au ad cu cd us ds _ hu.toSees hd.toSees nu nd).mono ?_
        rintro e w2 ⟨rfl, n, rfl⟩
        generalize cmpZ (val us) (val ds) = z at E ⊢
        go_wp2_with fail
        refine (subMagC au ad cu cd us ds _ (hu.toSees.below (below_drewN (Below.refl _ _) n)) (hd.toSees.below (below_drewN (Below.refl _ _) n)) (Nat.le_trans lu.out (by have := HL.out; omega)) hll (by have := HC.out; omega)).mono ?_
        rintro e w3 ⟨a3, c3, zs, rfl, ho, hn, hz, _, hb⟩
        have hZ : Hid (sg false (val zs) = psum pg px k) := by
          have h1 := hv.out
          show _ = _
          simp only [sg]
          simp
          omega
        have hs1 := hB.size
        simp only [World.size_alloc] at hs1
        have hB2 : Below (w.heap.size + 1) (w.alloc (.cells #[.bool false, .slice none 0 0] 60)) w3 := (below_drewN hB n).trans (hb.mono hs1)
        have hs3 := Nat.le_trans hs1 hb.size
        replace ho := ho.base_le (show w.heap.size + 1 ≤ _ from hs1)
        clear hb hB hz hu hd
        go_wp2_with fail
        refine (signedC (w.heap.size + 1) false a3 c3 zs _ ho).mono ?_
        rintro e w4 ⟨v, rfl, hI, hb⟩
        replace hI := hI.eq hZ.out
        obtain ⟨g, a4, l, c4, rfl⟩ := hI.shape
        have hB3 := hB2.trans (hb.mono hs3)
        obtain ⟨q1, q2⟩ := at_block (W := w.alloc (.cells #[.bool false, .slice none 0 0] 60)) (by simpa using hB3) (b := w.heap.size) (by simp)
        have hz : w.heap.size < w4.heap.size := by have := hB3.size; simp at this; omega
        have hF := (below1 w _).trans (hB3.mono (Nat.le_succ _))
        clear hb hB2 hB3 ho
        go_wp2
        exact bodyPost_ret (v := .agg #[.bool g, .slice a4 l c4]) (by simp [results, Try.results32, go_sem, q1]) rfl ⟨_, rfl, hI.put (Nat.lt_succ_self _), below_put hF _ _⟩
end Go.Proofs.Ytbgpkajgnappiaa
