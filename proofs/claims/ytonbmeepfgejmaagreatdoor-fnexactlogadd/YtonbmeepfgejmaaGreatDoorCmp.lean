import Derived.Test.YtonbmeepfgejmaaGreatDoorBoxP
import Derived.Test.YtonbmeepfgejmaaGreatDoorTrim
import Derived.Laws.BitsAllLaws
import Derived.Deep.RegionHeld3
/- The program's comparing of limbs: impl.cmpMag. -/
namespace Go.Proofs.YtonbmeepfgejmaaGreatDoor
open Go.RowKit

set_option maxHeartbeats 1000000 in
theorem cmpMagC (a b : Option Addr) (c d : Nat) (xs ys : List Int) (w : World) (h : Sees w a c xs) (k : Sees w b d ys) (nx : Nrm xs) (ny : Nrm ys) :
    Calls Tryz.prog 75 #[.slice a xs.length c, .slice b ys.length d] w fun e w' => e = .returned (.int .i64 (cmpZ (val xs) (val ys))) ∧ ∃ n, w' = w.drewN n := by
  have hm := h.max
  have hf := h.fits
  have hm2 := k.max
  have hf2 := k.fits
  unfold maxLen at hm hm2
  by_cases hl : xs.length = ys.length
  · have HL : Hid (xs.length = ys.length) := hl
    have HX : Hid (Lim xs ∧ Nrm xs) := ⟨h.lim, nx⟩
    have HY : Hid (Lim ys ∧ Nrm ys) := ⟨k.lim, ny⟩
    rw [← hl]
    rw [← hl] at hf2
    clear hl nx ny
    go_enter Tryz.func75, Tryz.ntmps75
    go_wp2
    go_loopw [5] (fun i wr => ∃ (j n : Nat), j ≤ xs.length ∧ i = .int .i64 ((j : Int) - 1) ∧ wr = w.drewN n ∧ Hid (xs.drop j = ys.drop j)) (fun i _ => (intOf i + 1).toNat)
    case atStart => exact ⟨xs.length, 0, Nat.le_refl _, rfl, rfl, by show _ = _; rw [List.drop_eq_nil_of_le (Nat.le_refl _), List.drop_eq_nil_of_le (by rw [HL.out]; exact Nat.le_refl _)]⟩
    case round =>
      obtain ⟨j, n, hj, rfl, rfl, he⟩ := hrel
      by_cases h0 : j = 0
      · subst h0
        have E : Hid (cmpZ (val xs) (val ys) = 0) := by
          have := he.out
          simp only [List.drop_zero] at this
          show _ = _
          rw [this]; simp [cmpZ]
        clear he
        go_wp2
        go_ret
        exact ⟨by rw [E.out]; rfl, n, rfl⟩
      · have hne : xs ≠ [] := by intro e; simp [e] at hj; omega
        have hne' : ys ≠ [] := by intro e; have := HL.out; rw [e] at this; simp at this; exact hne this
        obtain ⟨b1, o1, rfl, hc1⟩ := h.cells hne
        obtain ⟨b2, o2, rfl, hc2⟩ := k.cells hne'
        have g1 := hc1 (j - 1) (by omega)
        have g2 := hc2 (j - 1) (by have := HL.out; omega)
        have hp : 0 < j := by omega
        have hsub : j - 1 + 1 = j := by omega
        rcases Int.lt_trichotomy (xs[j - 1]?.getD 0) (ys[j - 1]?.getD 0) with hlt | heq | hgt
        · have E : Hid (cmpZ (val xs) (val ys) = -1) := by
            have := cmp_at (j := j - 1) HX.out.1 HY.out.1 HL.out (by omega) (by rw [hsub]; exact he.out) hlt
            show _ = _
            unfold cmpZ; rw [if_pos this]
          have hne3 : (xs[j - 1]?.getD 0 != ys[j - 1]?.getD 0) = true := by simp; omega
          clear hc1 hc2 h k he hsub
          generalize xs[j - 1]?.getD 0 = x at *
          generalize ys[j - 1]?.getD 0 = y at *
          go_wp2
          go_quiet (fail)
          go_wp2
          go_quiet (fail)
          go_wp2
          go_ret
          exact ⟨by rw [E.out]; rfl, _, by rw [World.drewN_drewN, World.drewN_drewN]⟩
        · have E : Hid (xs.drop (j - 1) = ys.drop (j - 1)) := drop_step HL.out (by rw [hsub]; exact he.out) heq
          rw [heq] at g1
          clear hc1 hc2 h k he hsub heq
          generalize ys[j - 1]?.getD 0 = y at *
          go_wp2
          go_quiet (fail)
          go_wp2
          go_roundw
          case rel => exact ⟨j - 1, _, by omega, by go_num, rfl, E⟩
          case measure => simp [intOf]; omega
        · have E : Hid (cmpZ (val xs) (val ys) = 1) := by
            have := cmp_at (j := j - 1) HY.out.1 HX.out.1 HL.out.symm (by have := HL.out; omega) (by rw [hsub]; exact he.out.symm) hgt
            show _ = _
            unfold cmpZ; rw [if_neg (by omega), if_neg (by omega)]
          have hne3 : (xs[j - 1]?.getD 0 != ys[j - 1]?.getD 0) = true := by simp; omega
          have hge : ¬ xs[j - 1]?.getD 0 < ys[j - 1]?.getD 0 := by omega
          have hdd : decide (xs[j - 1]?.getD 0 < ys[j - 1]?.getD 0) = false := by simp; omega
          clear hc1 hc2 h k he hsub
          generalize xs[j - 1]?.getD 0 = x at *
          generalize ys[j - 1]?.getD 0 = y at *
          go_wp2
          go_quiet (fail)
          go_wp2
          go_quiet (fail)
          go_wp2
          go_ret
          exact ⟨by rw [E.out]; rfl, _, by rw [World.drewN_drewN, World.drewN_drewN]⟩
  · have hne : ((xs.length : Int) != (ys.length : Int)) = true := by simp; omega
    by_cases hlt : xs.length < ys.length
    · have E : Hid (cmpZ (val xs) (val ys) = -1) := by
        have := cmp_len h.lim k.lim ny hlt
        show _ = _
        unfold cmpZ; rw [if_pos this]
      clear h k nx ny hl
      go_enter Tryz.func75, Tryz.ntmps75
      go_wp2
      go_ret
      exact ⟨by rw [E.out]; rfl, 0, rfl⟩
    · have E : Hid (cmpZ (val xs) (val ys) = 1) := by
        have := cmp_len k.lim h.lim nx (by omega)
        show _ = _
        unfold cmpZ; rw [if_neg (by omega), if_neg (by omega)]
      clear h k nx ny hl
      go_enter Tryz.func75, Tryz.ntmps75
      go_wp2
      go_ret
      exact ⟨by rw [E.out]; rfl, 0, rfl⟩
end Go.Proofs.YtonbmeepfgejmaaGreatDoor

/- The program's sums of any number of parts: impl.sum. -/
namespace Go.Proofs.YtonbmeepfgejmaaGreatDoor
open Go.RowKit

/-- The first k parts' sum. -/
def psum (pg : Nat → Bool) (px : Nat → List Int) : Nat → Int
  | 0 => 0
  | k + 1 => psum pg px k + sg (pg k) (val (px k))

/-- The parts as they lie: k numbers, each of at most L limbs. -/
structure Parts (w : World) (pb k L : Nat) (pg : Nat → Bool) (pa : Nat → Option Addr) (pc : Nat → Nat) (px : Nat → List Int) : Prop where
  at0 : ∀ j, j < k → w.cell? ⟨pb, j * 2, none⟩ = some (.bool (pg j))
  at1 : ∀ j, j < k → w.cell? ⟨pb, j * 2 + 1, none⟩ = some (.slice (pa j) (px j).length (pc j))
  sees : ∀ j, j < k → Sees w (pa j) (pc j) (px j)
  nrm : ∀ j, j < k → Nrm (px j)
  len : ∀ j, j < k → (px j).length ≤ L

theorem Parts.below {w w' : World} {pb k L : Nat} {pg : Nat → Bool} {pa : Nat → Option Addr} {pc : Nat → Nat} {px : Nat → List Int} (h : Parts w pb k L pg pa pc px) (hb : Below w.heap.size w w') : Parts w' pb k L pg pa pc px :=
  ⟨fun j hj => bat hb (h.at0 j hj), fun j hj => bat hb (h.at1 j hj), fun j hj => (h.sees j hj).below hb, h.nrm, h.len⟩

set_option maxHeartbeats 2000000 in
theorem sumC (pb k L : Nat) (pg : Nat → Bool) (pa : Nat → Option Addr) (pc : Nat → Nat) (px : Nat → List Int) (w : World) (h : Parts w pb k L pg pa pc px) (hL : L + k ≤ 1048576) :
    Calls Tryz.prog 65 #[.slice (some ⟨pb, 0, none⟩) k k] w fun e w' => ∃ v, e = .returned v ∧ IsNum w.heap.size w' v (psum pg px k) ∧ Below w.heap.size w w' := by
  have HL : Hid (L + k ≤ 1048576) := hL
  have hk : k ≤ 9223372036854775800 := by omega
  clear hL
  go_enter Tryz.func65, Tryz.ntmps65
  go_wp2
  go_loopw [3, 4, 9] (fun u d i wr => ∃ (j : Nat) (au ad : Option Addr) (cu cd : Nat) (us ds : List Int), j ≤ k ∧ i = .int .i64 j ∧ u = .slice au us.length cu ∧ d = .slice ad ds.length cd ∧
      Own (w.heap.size + 1) wr au cu us ∧ Own (w.heap.size + 1) wr ad cd ds ∧ Nrm us ∧ Nrm ds ∧ Hid (us.length ≤ L + j) ∧ Hid (ds.length ≤ L + j) ∧ Hid (val us - val ds = psum pg px j) ∧ Below (w.heap.size + 1) (w.alloc (.cells #[.bool false, .slice none 0 0] 94)) wr) (fun _ _ i _ => k - (intOf i).toNat)
  case atStart => exact ⟨0, none, none, 0, 0, [], [], Nat.zero_le _, rfl, rfl, rfl, Own.nil _ _, Own.nil _ _, trivial, trivial, Nat.zero_le _, Nat.zero_le _, rfl, Below.refl _ _⟩
  case round =>
    obtain ⟨j, au, ad, cu, cd, us, ds, hj, rfl, rfl, rfl, hu, hd, nu, nd, lu, ld, hv, hB⟩ := hrel
    by_cases hlt : j < k
    · have hw : Below w.heap.size w wr := (below1 _ _).trans (hB.mono (by omega))
      have hp := h.below hw
      have g0 := hp.at0 j hlt
      have g1 := hp.at1 j hlt
      have hlt2 := World.block_lt_of_cell? _ _ g0
      by_cases hg : pg j = true
      · have hlp := h.len j hlt
        go_wp2_with fail
        have b1 := below1 wr (.cells #[.bool true, .slice (pa j) (px j).length (pc j)] 94)
        refine (addMagC ad (pa j) cd (pc j) ds (px j) _ (hd.toSees.below b1) ((hp.sees j hlt).below b1) (Nat.le_trans ld.out (by have := HL.out; omega)) (Nat.le_trans hlp (by have := HL.out; omega))).mono ?_
        rintro e w2 ⟨a', c', zs, rfl, ho, hn, hv2, hlz, hb⟩
        have hbb := b1.trans (hb.mono b1.size)
        have hs1 := hB.size
        simp only [World.size_alloc] at hs1 ho
        replace ho := ho.base_le (show w.heap.size + 1 ≤ wr.heap.size + 1 by omega)
        have hu' : Own (w.heap.size + 1) w2 au cu us := hu.below hbb
        have HU : Hid (us.length ≤ L + (j + 1)) := Nat.le_trans lu.out (by omega)
        have HZ : Hid (zs.length ≤ L + (j + 1)) := by
          have h1 := ld.out
          show _ ≤ _
          rcases hlz with h2 | h2 <;> omega
        have HV : Hid (val us - val zs = psum pg px (j + 1)) := by
          have h1 := hv.out
          show _ = _
          simp only [psum, hg, sg]
          simp
          omega
        have hB' := hB.trans (hbb.mono hs1)
        clear hbb hb b1 hlz hv2 hv lu ld hlp hp g0 g1 hw hu hd hB
        go_wp2
        go_roundw
        case rel => exact ⟨j + 1, au, a', cu, c', us, zs, by omega, by go_num, rfl, rfl, hu', ho, nu, hn, HU, HZ, HV, hB'⟩
        case measure => simp [intOf]; omega
      · have hg : pg j = false := by simpa using hg
        have hlp := h.len j hlt
        go_wp2_with fail
        have b1 := below1 wr (.cells #[.bool false, .slice (pa j) (px j).length (pc j)] 94)
        refine (addMagC au (pa j) cu (pc j) us (px j) _ (hu.toSees.below b1) ((hp.sees j hlt).below b1) (Nat.le_trans lu.out (by have := HL.out; omega)) (Nat.le_trans hlp (by have := HL.out; omega))).mono ?_
        rintro e w2 ⟨a', c', zs, rfl, ho, hn, hv2, hlz, hb⟩
        have hbb := b1.trans (hb.mono b1.size)
        have hs1 := hB.size
        simp only [World.size_alloc] at hs1 ho
        replace ho := ho.base_le (show w.heap.size + 1 ≤ wr.heap.size + 1 by omega)
        have hd' : Own (w.heap.size + 1) w2 ad cd ds := hd.below hbb
        have HD : Hid (ds.length ≤ L + (j + 1)) := Nat.le_trans ld.out (by omega)
        have HZ : Hid (zs.length ≤ L + (j + 1)) := by
          have h1 := lu.out
          show _ ≤ _
          rcases hlz with h2 | h2 <;> omega
        have HV : Hid (val zs - val ds = psum pg px (j + 1)) := by
          have h1 := hv.out
          show _ = _
          simp only [psum, hg, sg]
          simp
          omega
        have hB' := hB.trans (hbb.mono hs1)
        clear hbb hb b1 hlz hv2 hv lu ld hlp hp g0 g1 hw hu hd hB
        go_wp2
        go_roundw
        case rel => exact ⟨j + 1, a', ad, c', cd, zs, ds, by omega, by go_num, rfl, rfl, ho, hd', hn, nd, HZ, HD, HV, hB'⟩
        case measure => simp [intOf]; omega
    · have hjk : k = j := by omega
      subst hjk
      by_cases hc : val us < val ds
      · have E : cmpZ (val us) (val ds) = -1 := by unfold cmpZ; rw [if_pos hc]
        have hll : us.length ≤ ds.length := by
          rcases Nat.lt_or_ge ds.length us.length with h1 | h1
          · exfalso; have := cmp_len hd.lim hu.lim nu h1; omega
          · exact h1
        have HC : Hid (val us < val ds) := hc
        clear hc
        go_wp2_with fail
        refine (cmpMagC au ad cu cd us ds _ hu.toSees hd.toSees nu nd).mono ?_
        rintro e w2 ⟨rfl, n, rfl⟩
        rw [E]
        go_wp2_with fail
        refine (subMagC ad au cd cu ds us _ (hd.toSees.below (below_drewN (Below.refl _ _) n)) (hu.toSees.below (below_drewN (Below.refl _ _) n)) (Nat.le_trans ld.out (by have := HL.out; omega)) hll (by have := HC.out; omega)).mono ?_
        rintro e w3 ⟨a3, c3, zs, rfl, ho, hn, hz, _, hb⟩
        have hZ : Hid (sg true (val zs) = psum pg px k) := by
          have h1 := hv.out
          show _ = _
          simp only [sg]
          simp
          omega
        have hs1 := hB.size
        simp only [World.size_alloc] at hs1
        have hB2 : Below (w.heap.size + 1) (w.alloc (.cells #[.bool false, .slice none 0 0] 94)) w3 := (below_drewN hB n).trans (hb.mono hs1)
        have hs3 := Nat.le_trans hs1 hb.size
        replace ho := ho.base_le (show w.heap.size + 1 ≤ _ from hs1)
        clear hb hB hz hu hd
        go_wp2_with fail
        refine (signedC (w.heap.size + 1) true a3 c3 zs _ ho).mono ?_
        rintro e w4 ⟨v, rfl, hI, hb⟩
        replace hI := hI.eq hZ.out
        obtain ⟨g, a4, l, c4, rfl⟩ := hI.shape
        have hB3 := hB2.trans (hb.mono hs3)
        obtain ⟨q1, q2⟩ := at_block (W := w.alloc (.cells #[.bool false, .slice none 0 0] 94)) (by simpa using hB3) (b := w.heap.size) (by simp)
        have hz : w.heap.size < w4.heap.size := by have := hB3.size; simp at this; omega
        have hF := (below1 w _).trans (hB3.mono (Nat.le_succ _))
        clear hb hB2 hB3 ho
        go_wp2
        exact bodyPost_ret (v := .agg #[.bool g, .slice a4 l c4]) (by simp [results, Tryz.results65, go_sem, q1]) rfl ⟨_, rfl, hI.put (Nat.lt_succ_self _), below_put hF _ _⟩
      · have E : 0 ≤ cmpZ (val us) (val ds) := by unfold cmpZ; rw [if_neg hc]; split <;> decide
        have hll : ds.length ≤ us.length := by
          rcases Nat.lt_or_ge us.length ds.length with h1 | h1
          · exfalso; have := cmp_len hu.lim hd.lim nd h1; omega
          · exact h1
        have HC : Hid (¬ val us < val ds) := hc
        clear hc
        go_wp2_with fail
        refine (cmpMagC au ad cu cd us ds _ hu.toSees hd.toSees nu nd).mono ?_
        rintro e w2 ⟨rfl, n, rfl⟩
        generalize cmpZ (val us) (val ds) = z at E ⊢
        go_wp2_with fail
        refine (subMagC au ad cu cd us ds _ (hu.toSees.below (below_drewN (Below.refl _ _) n)) (hd.toSees.below (below_drewN (Below.refl _ _) n)) (Nat.le_trans lu.out (by have := HL.out; omega)) hll (by have := HC.out; omega)).mono ?_
        rintro e w3 ⟨a3, c3, zs, rfl, ho, hn, hz, _, hb⟩
        have hZ : Hid (sg false (val zs) = psum pg px k) := by
          have h1 := hv.out
          show _ = _
          simp only [sg]
          simp
          omega
        have hs1 := hB.size
        simp only [World.size_alloc] at hs1
        have hB2 : Below (w.heap.size + 1) (w.alloc (.cells #[.bool false, .slice none 0 0] 94)) w3 := (below_drewN hB n).trans (hb.mono hs1)
        have hs3 := Nat.le_trans hs1 hb.size
        replace ho := ho.base_le (show w.heap.size + 1 ≤ _ from hs1)
        clear hb hB hz hu hd
        go_wp2_with fail
        refine (signedC (w.heap.size + 1) false a3 c3 zs _ ho).mono ?_
        rintro e w4 ⟨v, rfl, hI, hb⟩
        replace hI := hI.eq hZ.out
        obtain ⟨g, a4, l, c4, rfl⟩ := hI.shape
        have hB3 := hB2.trans (hb.mono hs3)
        obtain ⟨q1, q2⟩ := at_block (W := w.alloc (.cells #[.bool false, .slice none 0 0] 94)) (by simpa using hB3) (b := w.heap.size) (by simp)
        have hz : w.heap.size < w4.heap.size := by have := hB3.size; simp at this; omega
        have hF := (below1 w _).trans (hB3.mono (Nat.le_succ _))
        clear hb hB2 hB3 ho
        go_wp2
        exact bodyPost_ret (v := .agg #[.bool g, .slice a4 l c4]) (by simp [results, Tryz.results65, go_sem, q1]) rfl ⟨_, rfl, hI.put (Nat.lt_succ_self _), below_put hF _ _⟩
end Go.Proofs.YtonbmeepfgejmaaGreatDoor

/- Parts of sums as they lie; a result that is put into its variable. No function of the program is walked here. -/
namespace Go.Proofs.YtonbmeepfgejmaaGreatDoor
open Go.RowKit

theorem Parts.one {w : World} {pb c L : Nat} {g : Bool} {a : Option Addr} {xs : List Int} (h0 : w.cell? ⟨pb, 0, none⟩ = some (.bool g)) (h1 : w.cell? ⟨pb, 1, none⟩ = some (.slice a xs.length c)) (hs : Sees w a c xs) (hn : Nrm xs) (hl : xs.length ≤ L) :
    Parts w pb 1 L (fun _ => g) (fun _ => a) (fun _ => c) (fun _ => xs) := by
  refine ⟨fun j hj => ?_, fun j hj => ?_, fun _ _ => hs, fun _ _ => hn, fun _ _ => hl⟩
  · obtain rfl : j = 0 := by omega
    exact h0
  · obtain rfl : j = 0 := by omega
    exact h1
theorem Parts.two {w : World} {pb c c' L : Nat} {g g' : Bool} {a a' : Option Addr} {xs ys : List Int} (h0 : w.cell? ⟨pb, 0, none⟩ = some (.bool g)) (h1 : w.cell? ⟨pb, 1, none⟩ = some (.slice a xs.length c))
    (h2 : w.cell? ⟨pb, 2, none⟩ = some (.bool g')) (h3 : w.cell? ⟨pb, 3, none⟩ = some (.slice a' ys.length c')) (hs : Sees w a c xs) (ks : Sees w a' c' ys) (hn : Nrm xs) (kn : Nrm ys) (hl : xs.length ≤ L) (kl : ys.length ≤ L) :
    Parts w pb 2 L (fun j => if j = 0 then g else g') (fun j => if j = 0 then a else a') (fun j => if j = 0 then c else c') (fun j => if j = 0 then xs else ys) := by
  refine ⟨fun j hj => ?_, fun j hj => ?_, fun j hj => ?_, fun j hj => ?_, fun j hj => ?_⟩
  all_goals
    have : j = 0 ∨ j = 1 := by omega
    rcases this with rfl | rfl
  · exact h0
  · exact h2
  · exact h1
  · exact h3
  · exact hs
  · exact ks
  · exact hn
  · exact kn
  · exact hl
  · exact kl

theorem psum_one (g : Bool) (xs : List Int) : psum (fun _ => g) (fun _ => xs) 1 = sg g (val xs) := by simp [psum]
theorem psum_two (g g' : Bool) (xs ys : List Int) : psum (fun j => if j = 0 then g else g') (fun j => if j = 0 then xs else ys) 2 = sg g (val xs) + sg g' (val ys) := by simp [psum]

theorem neg_flag {g : Bool} {xs : List Int} (h : xs = [] → g = false) : sg (!g && decide (0 < xs.length)) (val xs) = - sg g (val xs) := by
  by_cases e : xs = []
  · subst e; rw [h rfl]; simp [sg, val]
  · have : 0 < xs.length := List.length_pos_iff.2 e
    rw [decide_eq_true this, Bool.and_true]
    cases g <;> simp [sg]
end Go.Proofs.YtonbmeepfgejmaaGreatDoor

/- A number as an int: impl.Small, spec.Small. -/
namespace Go.Proofs.YtonbmeepfgejmaaGreatDoor
open Go.RowKit

/-- Whether an int holds it; the int. -/
def smB (z : Int) : Bool := decide (-9223372036854775808 ≤ z ∧ z ≤ 9223372036854775807)
def smZ (z : Int) : Int := if smB z = true then z else 0

theorem or0 {x : Int} (h0 : 0 ≤ x) (h1 : x < 4294967296) : bits BinOp.or IntKind.u64 0 x = x := by
  rw [u64_or 0 x (by decide) (by decide) h0 (by omega)]
  simp
  omega
theorem or1 {x y : Int} (h0 : 0 ≤ x) (h1 : x < 4294967296) (k0 : 0 ≤ y) (k1 : y < 4294967296) : bits BinOp.or IntKind.u64 x (y * 4294967296) = x + y * 4294967296 := by
  rw [u64_or x (y * 4294967296) h0 (by omega) (by omega) (by omega), Nat.or_comm, nat_join 32 _ _ (by omega) (by omega)]
  omega

theorem sm_in {z : Int} (h1 : -9223372036854775808 ≤ z) (h2 : z ≤ 9223372036854775807) : smZ z = z ∧ smB z = true := by
  have : smB z = true := decide_eq_true ⟨h1, h2⟩
  exact ⟨by unfold smZ; rw [if_pos this], this⟩
theorem sm_out {z : Int} (h : ¬ (-9223372036854775808 ≤ z ∧ z ≤ 9223372036854775807)) : smZ z = 0 ∧ smB z = false := by
  have : smB z = false := decide_eq_false h
  exact ⟨by unfold smZ; rw [this]; simp, this⟩

theorem wrap_back {s : Int} (h0 : 0 < s) (h1 : s ≤ 9223372036854775808) : wrap64 (IntKind.u64.wrap (-s)) = -s := by
  have e : IntKind.u64.wrap (-s) = 18446744073709551616 - s := by
    simp only [IntKind.wrap, IntKind.bits, IntKind.signed]
    simp
    omega
  rw [e]
  unfold wrap64
  omega

theorem smallBelowC (s : Int) (w : World) (h0 : 0 < s) (h2 : s < 18446744073709551616) :
    Calls Tryz.prog 80 #[.int .u64 s] w fun e w' => e = .returned (.tuple #[.int .i64 (smZ (-s)), .bool (smB (-s))]) ∧ w' = w := by
  by_cases h1 : s ≤ 9223372036854775808
  · obtain ⟨e1, e2⟩ := sm_in (z := -s) (by omega) (by omega)
    rw [e1, e2]
    have hw := wrap_back h0 h1
    clear e1 e2
    go_enter Tryz.func80, Tryz.ntmps80
    go_wp2
    go_ret2
    exact ⟨by simp [hw], rfl⟩
  · obtain ⟨e1, e2⟩ := sm_out (z := -s) (by omega)
    rw [e1, e2]
    clear e1 e2
    go_enter Tryz.func80, Tryz.ntmps80
    go_wp2
    go_ret2
    exact ⟨rfl, rfl⟩

set_option maxHeartbeats 400000 in
theorem takenA (g : Bool) (a : Option Addr) (c : Nat) (xs : List Int) (w : World) (h : Sees w a c xs) :
    Calls Tryz.prog 79 #[.agg #[.bool g, .slice a xs.length c]] w fun e w' => ∃ a' c', e = .returned (.agg #[.bool (tkG g xs), .slice a' (tkL g xs).length c']) ∧ Hid (tkL g xs ≠ [] → a' = a ∧ c' = c) ∧ Below w.heap.size w w' := by
  by_cases hk : okB g xs = true
  · have e1 : tkG g xs = g := by unfold tkG; rw [hk]; simp
    have e2 : tkL g xs = xs := by unfold tkL; rw [if_pos hk]
    rw [e1, e2]
    clear e1 e2
    go_enter Tryz.func79, Tryz.ntmps79
    go_wp2_with fail
    refine (implOk g a c xs _ (h.below (below2 _ _ _))).mono ?_
    rintro e w1 ⟨rfl, hb⟩
    obtain ⟨q1, q2⟩ := at_block hb (b := w.heap.size) (by simp; omega)
    obtain ⟨q3, q4⟩ := at_block hb (b := w.heap.size + 1) (by simp)
    have hz : w.heap.size + 1 < w1.heap.size := by have := hb.size; simp at this; omega
    have hB := (below2 _ _ _).trans (hb.mono (by simp; omega))
    clear hb
    go_wp2
    have hF := (hB.setCell (p := ⟨w.heap.size + 1, 0, none⟩) (by dsimp only; omega) (.bool g)).setCell (p := ⟨w.heap.size + 1, 1, none⟩) (by dsimp only; omega) (.slice a xs.length c)
    exact bodyPost_ret (v := .agg #[.bool g, .slice a xs.length c]) (by simp [results, Tryz.results79, go_sem, q3]) rfl ⟨a, c, rfl, fun _ => ⟨rfl, rfl⟩, hF⟩
  · have hk' : okB g xs = false := by simpa using hk
    have e1 : tkG g xs = false := by unfold tkG; rw [hk']; simp
    have e2 : tkL g xs = [] := by unfold tkL; rw [if_neg hk]
    rw [e1, e2]
    clear e1 e2 hk
    go_enter Tryz.func79, Tryz.ntmps79
    go_wp2_with fail
    refine (implOk g a c xs _ (h.below (below2 _ _ _))).mono ?_
    rintro e w1 ⟨rfl, hb⟩
    obtain ⟨q3, q4⟩ := at_block hb (b := w.heap.size + 1) (by simp)
    have hz : w.heap.size + 1 < w1.heap.size := by have := hb.size; simp at this; omega
    have hB := (below2 _ _ _).trans (hb.mono (by simp; omega))
    clear hb
    go_wp2
    exact bodyPost_ret (v := .agg #[.bool false, .slice none 0 0]) (by simp [results, Tryz.results79, go_sem, q3]) rfl ⟨none, 0, rfl, fun h => absurd rfl h, (hB.setCell (by dsimp only; omega) _).setCell (by dsimp only; omega) _⟩

set_option maxHeartbeats 1000000 in
theorem implSmall (g : Bool) (a : Option Addr) (c : Nat) (xs : List Int) (w : World) (h : Sees w a c xs) :
    Calls Tryz.prog 69 #[.agg #[.bool g, .slice a xs.length c]] w fun e w' => e = .returned (.tuple #[.int .i64 (smZ (tk g xs)), .bool (smB (tk g xs))]) ∧ Below w.heap.size w w' := by
  obtain ⟨tl, tn, t24, t0⟩ := tk_facts g xs h.lim
  go_enter Tryz.func69, Tryz.ntmps69
  go_wp2_with fail
  refine (takenA g a c xs _ (h.below (below1 _ _))).mono ?_
  rintro e w1 ⟨a1, c1, rfl, hsame, hb⟩
  obtain ⟨q1, q2⟩ := at_block hb (b := w.heap.size) (by simp)
  have hz : w.heap.size < w1.heap.size := by have := hb.size; simp at this; omega
  have B1 := (below1 w _).trans (hb.mono (by simp))
  have hcell : ∀ i, i < (tkL g xs).length → ∃ b off, a1 = some ⟨b, off, none⟩ ∧ b < w.heap.size ∧ w1.cell? ⟨b, off + i, none⟩ = some (.int .u32 ((tkL g xs)[i]?.getD 0)) := by
    intro i hi
    have hne : tkL g xs ≠ [] := by intro e; simp [e] at hi
    obtain ⟨rfl, rfl⟩ := hsame.out hne
    have e3 : tkL g xs = xs := by
      unfold tkL at hne ⊢
      by_cases hk : okB g xs = true
      · rw [if_pos hk]
      · rw [if_neg hk] at hne; exact absurd rfl hne
    rw [e3] at hne hi ⊢
    obtain ⟨b, off, ha, hc⟩ := h.cells hne
    exact ⟨b, off, ha, h.lt ha hne, bat B1 (hc i hi)⟩
  have B2 := fun u0 u1 => below_put B1 u0 u1
  clear hb h hsame
  generalize hys : tkL g xs = ys at *
  generalize hgg : tkG g xs = gg at *
  have E : Hid (tk g xs = sg gg (val ys)) := by show _ = _; unfold tk; rw [hys, hgg]
  clear hys hgg
  rcases ys with _ | ⟨x, _ | ⟨y, _ | ⟨u, r⟩⟩⟩
  · have hg0 := t0 rfl
    subst hg0
    obtain ⟨e1, e2⟩ := sm_in (z := 0) (by decide) (by decide)
    have EE : tk g xs = 0 := by rw [E.out]; simp [sg, val]
    rw [← EE] at e1 e2
    have E1 : Hid (smZ (tk g xs) = 0 ∧ smB (tk g xs) = true) := ⟨by rw [e1, EE], e2⟩
    clear e1 e2 EE E tl tn t0 hcell t24
    simp only [List.length_nil] at *
    go_wp2
    refine wp_loop_rounds 1 ?_
    rw [rounds_succ]
    go_wp2
    go_ret2
    exact ⟨by rw [E1.out.1, E1.out.2]; rfl, B2 _ _⟩
  · obtain ⟨⟨x0, x1⟩, _⟩ := tl.cons
    have xp : 0 < x := by simp only [Nrm] at tn; omega
    obtain ⟨b1, o1, rfl, l1, g1⟩ := hcell 0 (by simp)
    simp only [List.length_cons, List.length_nil] at *
    simp at g1
    have k1 := or0 x0 x1
    have EE : Hid (tk g xs = sg gg x) := by show _ = _; rw [E.out]; simp [val]
    clear tl tn t0 hcell t24 E
    rcases gg with _ | _
    · replace EE : Hid (tk g xs = x) := EE
      by_cases hsz : x ≤ 9223372036854775807
      · obtain ⟨e1, e2⟩ := sm_in (z := x) (by omega) hsz
        rw [← EE.out] at e1 e2
        have E1 : Hid (smZ (tk g xs) = x ∧ smB (tk g xs) = true) := ⟨e1.trans EE.out, e2⟩
        clear e1 e2 EE
        go_wp2
        refine wp_loop_rounds 2 ?_
        rw [rounds_succ]
        go_wp2
        rw [rounds_succ]
        go_wp2
        go_ret2
        exact ⟨by rw [E1.out.1, E1.out.2]; rfl, B2 _ _⟩
      · exfalso; omega
    · replace EE : Hid (tk g xs = -(x)) := EE
      have E1 : Hid (smZ (tk g xs) = smZ (-(x)) ∧ smB (tk g xs) = smB (-(x))) := by rw [EE.out]; exact ⟨rfl, rfl⟩
      clear EE
      go_wp2
      refine wp_loop_rounds 2 ?_
      rw [rounds_succ]
      go_wp2_with fail
      rw [rounds_succ]
      go_wp2_with fail
      refine (smallBelowC (x) _ (by omega) (by omega)).mono ?_
      rintro e w2 ⟨rfl, rfl⟩
      go_wp2
      go_ret2
      exact ⟨by rw [E1.out.1, E1.out.2]; rfl, B2 _ _⟩
  · obtain ⟨⟨x0, x1⟩, tl2⟩ := tl.cons
    obtain ⟨⟨y0, y1⟩, _⟩ := tl2.cons
    have yp : 0 < y := by simp only [Nrm] at tn; omega
    obtain ⟨b1, o1, rfl, l1, g1⟩ := hcell 0 (by simp)
    obtain ⟨b2, o2, e2, _, g2⟩ := hcell 1 (by simp)
    simp only [Option.some.injEq, Addr.mk.injEq] at e2
    obtain ⟨rfl, rfl, _⟩ := e2
    simp only [List.length_cons, List.length_nil] at *
    simp at g1 g2
    have k1 := or0 x0 x1
    have k2 := or1 x0 x1 y0 y1
    have EE : Hid (tk g xs = sg gg (x + y * 4294967296)) := by show _ = _; rw [E.out]; simp only [val]; congr 1; omega
    clear tl tl2 tn t0 hcell t24 E
    rcases gg with _ | _
    · replace EE : Hid (tk g xs = x + y * 4294967296) := EE
      by_cases hsz : x + y * 4294967296 ≤ 9223372036854775807
      · obtain ⟨e1, e2⟩ := sm_in (z := x + y * 4294967296) (by omega) hsz
        rw [← EE.out] at e1 e2
        have E1 : Hid (smZ (tk g xs) = x + y * 4294967296 ∧ smB (tk g xs) = true) := ⟨e1.trans EE.out, e2⟩
        clear e1 e2 EE
        go_wp2
        refine wp_loop_rounds 3 ?_
        rw [rounds_succ]
        go_wp2
        rw [rounds_succ]
        go_wp2
        rw [rounds_succ]
        go_wp2
        go_ret2
        exact ⟨by rw [E1.out.1, E1.out.2]; rfl, B2 _ _⟩
      · obtain ⟨e1, e2⟩ := sm_out (z := x + y * 4294967296) (by omega)
        rw [← EE.out] at e1 e2
        have E1 : Hid (smZ (tk g xs) = 0 ∧ smB (tk g xs) = false) := ⟨e1, e2⟩
        clear e1 e2 EE
        go_wp2
        refine wp_loop_rounds 3 ?_
        rw [rounds_succ]
        go_wp2
        rw [rounds_succ]
        go_wp2
        rw [rounds_succ]
        go_wp2
        go_ret2
        exact ⟨by rw [E1.out.1, E1.out.2]; rfl, B2 _ _⟩
    · replace EE : Hid (tk g xs = -(x + y * 4294967296)) := EE
      have E1 : Hid (smZ (tk g xs) = smZ (-(x + y * 4294967296)) ∧ smB (tk g xs) = smB (-(x + y * 4294967296))) := by rw [EE.out]; exact ⟨rfl, rfl⟩
      clear EE
      go_wp2
      refine wp_loop_rounds 3 ?_
      rw [rounds_succ]
      go_wp2_with fail
      rw [rounds_succ]
      go_wp2_with fail
      rw [rounds_succ]
      go_wp2_with fail
      refine (smallBelowC (x + y * 4294967296) _ (by omega) (by omega)).mono ?_
      rintro e w2 ⟨rfl, rfl⟩
      go_wp2
      go_ret2
      exact ⟨by rw [E1.out.1, E1.out.2]; rfl, B2 _ _⟩
  · have hbig : 18446744073709551616 ≤ val (x :: y :: u :: r) := by
      have h1 := val_ge tl tn (by simp)
      have h2 := p_mono 2 r.length
      have h3 : (4294967296 : Int) ^ 2 = 18446744073709551616 := by decide
      simp only [List.length_cons, Nat.add_sub_cancel] at h1
      rw [Nat.add_comm 2, h3] at h2
      exact Int.le_trans h2 h1
    have E1 : Hid (smZ (tk g xs) = 0 ∧ smB (tk g xs) = false) := by
      have := sm_out (z := tk g xs) (by rw [E.out]; unfold sg; split <;> omega)
      exact this
    have hlen : (2 : Int) < ((x :: y :: u :: r).length : Int) := by simp; omega
    have hl24 : (x :: y :: u :: r).length ≤ 24 := t24
    clear tl tn t0 hcell t24 E hbig
    generalize (x :: y :: u :: r).length = n at *
    go_wp2
    go_ret2
    exact ⟨by rw [E1.out.1, E1.out.2]; rfl, B2 _ _⟩

end Go.Proofs.YtonbmeepfgejmaaGreatDoor

/- What is negated: impl.negated. -/
namespace Go.Proofs.YtonbmeepfgejmaaGreatDoor
open Go.RowKit

theorem negatedC (g : Bool) (a : Option Addr) (c n : Nat) (w : World) (hn : n ≤ 9223372036854775807) :
    Calls Tryz.prog 67 #[.agg #[.bool g, .slice a n c]] w fun e w' => e = .returned (.agg #[.bool (!g && decide (0 < n)), .slice a n c]) ∧ Below w.heap.size w w' := by
  by_cases h0 : 0 < n
  · rw [decide_eq_true h0, Bool.and_true]
    have hp : (0 : Int) < n := by omega
    rcases g with _ | _
    · go_enter Tryz.func67, Tryz.ntmps67
      go_wp2
      exact bodyPost_ret (v := .agg #[.bool (!false), .slice a n c]) (by simp [results, Tryz.results67, go_sem]) rfl ⟨rfl, below2 _ _ _⟩
    · go_enter Tryz.func67, Tryz.ntmps67
      go_wp2
      exact bodyPost_ret (v := .agg #[.bool (!true), .slice a n c]) (by simp [results, Tryz.results67, go_sem]) rfl ⟨rfl, below2 _ _ _⟩
  · obtain rfl : n = 0 := by omega
    rcases g with _ | _
    · go_enter Tryz.func67, Tryz.ntmps67
      go_wp2
      exact bodyPost_ret (v := .agg #[.bool (!false && decide (0 < 0)), .slice a 0 c]) (by simp [results, Tryz.results67, go_sem]) rfl ⟨rfl, below2 _ _ _⟩
    · go_enter Tryz.func67, Tryz.ntmps67
      go_wp2
      exact bodyPost_ret (v := .agg #[.bool (!true && decide (0 < 0)), .slice a 0 c]) (by simp [results, Tryz.results67, go_sem]) rfl ⟨rfl, below2 _ _ _⟩
end Go.Proofs.YtonbmeepfgejmaaGreatDoor

/- The program's comparing of numbers: impl.compared, impl.Cmp, impl.Sign; the specification's Sign. -/
namespace Go.Proofs.YtonbmeepfgejmaaGreatDoor
open Go.RowKit

theorem cmpZ_neg (x y : Int) : cmpZ (-x) (-y) = cmpZ y x := by
  unfold cmpZ
  by_cases h1 : y < x
  · rw [if_pos (by omega), if_pos h1]
  · rw [if_neg (by omega), if_neg h1]
    by_cases h2 : y = x
    · rw [if_pos (by omega), if_pos h2]
    · rw [if_neg (by omega), if_neg h2]

set_option maxHeartbeats 1000000 in
theorem comparedC (g g' : Bool) (a b : Option Addr) (c d : Nat) (xs ys : List Int) (w : World) (h : Sees w a c xs) (k : Sees w b d ys) (nx : Nrm xs) (ny : Nrm ys) (hg : xs = [] → g = false) (kg : ys = [] → g' = false) :
    Calls Tryz.prog 78 #[.agg #[.bool g, .slice a xs.length c], .agg #[.bool g', .slice b ys.length d]] w fun e w' => e = .returned (.int .i64 (cmpZ (sg g (val xs)) (sg g' (val ys)))) ∧ Below w.heap.size w w' := by
  have px : g = true → 0 < val xs := fun e => val_pos h.lim nx (fun e2 => by rw [hg e2] at e; cases e)
  have py : g' = true → 0 < val ys := fun e => val_pos k.lim ny (fun e2 => by rw [kg e2] at e; cases e)
  have x0 := val_nonneg h.lim
  have y0 := val_nonneg k.lim
  clear hg kg
  rcases g with _ | _ <;> rcases g' with _ | _
  · have E : Hid (cmpZ (sg false (val xs)) (sg false (val ys)) = cmpZ (val xs) (val ys)) := by show _ = _; simp [sg]
    clear px py x0 y0
    go_enter Tryz.func78, Tryz.ntmps78
    go_wp2_with fail
    refine (cmpMagC a b c d xs ys _ (h.below (below2 _ _ _)) (k.below (below2 _ _ _)) nx ny).mono ?_
    rintro e w2 ⟨rfl, n, rfl⟩
    go_wp2
    go_ret
    exact ⟨by rw [E.out]; rfl, below_drewN (below2 _ _ _) n⟩
  · have E : Hid (cmpZ (sg false (val xs)) (sg true (val ys)) = 1) := by
      have := py rfl
      show _ = _
      simp only [sg]; simp; unfold cmpZ; rw [if_neg (by omega), if_neg (by omega)]
    clear px py x0 y0 h k
    go_enter Tryz.func78, Tryz.ntmps78
    go_wp2
    go_ret
    exact ⟨by rw [E.out]; rfl, below2 _ _ _⟩
  · have E : Hid (cmpZ (sg true (val xs)) (sg false (val ys)) = -1) := by
      have := px rfl
      show _ = _
      simp only [sg]; simp; unfold cmpZ; rw [if_pos (by omega)]
    clear px py x0 y0 h k
    go_enter Tryz.func78, Tryz.ntmps78
    go_wp2
    go_ret
    exact ⟨by rw [E.out]; rfl, below2 _ _ _⟩
  · have E : Hid (cmpZ (sg true (val xs)) (sg true (val ys)) = cmpZ (val ys) (val xs)) := by show _ = _; simp only [sg]; simp; exact cmpZ_neg _ _
    clear px py x0 y0
    go_enter Tryz.func78, Tryz.ntmps78
    go_wp2_with fail
    refine (cmpMagC b a d c ys xs _ (k.below (below2 _ _ _)) (h.below (below2 _ _ _)) ny nx).mono ?_
    rintro e w2 ⟨rfl, n, rfl⟩
    go_wp2
    go_ret
    exact ⟨by rw [E.out]; rfl, below_drewN (below2 _ _ _) n⟩

set_option maxHeartbeats 1000000 in
theorem implSign (g : Bool) (a : Option Addr) (c : Nat) (xs : List Int) (w : World) (h : Sees w a c xs) :
    Calls Tryz.prog 68 #[.agg #[.bool g, .slice a xs.length c]] w fun e w' => e = .returned (.int .i64 (cmpZ (tk g xs) 0)) ∧ Below w.heap.size w w' := by
  obtain ⟨tl, tn, t24, t0⟩ := tk_facts g xs h.lim
  have HT : Hid (Nrm (tkL g xs) ∧ (tkL g xs = [] → tkG g xs = false)) := ⟨tn, t0⟩
  clear tl tn t24 t0
  go_enter Tryz.func68, Tryz.ntmps68
  go_wp2_with fail
  refine (takenC g a c xs _ (h.below (below1 _ _))).mono ?_
  rintro e w1 ⟨a1, c1, rfl, hs1, hb⟩
  have B1 := (below1 w _).trans (hb.mono (by simp))
  clear hb h
  go_wp2_with fail
  refine (comparedC (tkG g xs) false a1 none c1 0 (tkL g xs) [] _ hs1 (Own.nil 0 _).toSees HT.out.1 trivial HT.out.2 (fun _ => rfl)).mono ?_
  rintro e w2 ⟨rfl, hb⟩
  have B2 := B1.trans (hb.mono B1.size)
  clear hb B1
  go_wp2
  go_ret
  exact ⟨rfl, B2⟩

theorem tk_zero {g : Bool} {xs : List Int} (h : tkL g xs = []) : tk g xs = 0 := by
  unfold tk; rw [h]; unfold sg; split <;> simp [val]
theorem tk_sign {g : Bool} {xs : List Int} (hl : Lim xs) (h : ¬ tkL g xs = []) : tkG g xs = g ∧ 0 < val (tkL g xs) := by
  obtain ⟨tl, tn, _, _⟩ := tk_facts g xs hl
  refine ⟨?_, val_pos tl tn h⟩
  unfold tkL at h
  unfold tkG
  by_cases hk : okB g xs = true
  · rw [hk]; simp
  · rw [if_neg hk] at h; exact absurd rfl h

end Go.Proofs.YtonbmeepfgejmaaGreatDoor

/- A right number at a value, with what it is. -/
namespace Go.Proofs.YtonbmeepfgejmaaGreatDoor
open Go.RowKit

theorem tk_val {us : List Int} {n : Int} (hl : Lim us) (hn : Nrm us) (l : us.length ≤ 24) (hv : val us = mg n) : okB (decide (n < 0)) us = true ∧ tk (decide (n < 0)) us = n := by
  have ok : okB (decide (n < 0)) us = true := by
    unfold okB
    by_cases h0 : us.length = 0
    · rw [if_pos h0]
      obtain rfl : us = [] := List.eq_nil_of_length_eq_zero h0
      have : ¬ n < 0 := by
        intro h
        unfold mg at hv
        rw [if_pos h] at hv
        simp [val] at hv
        omega
      simp [this]
    · rw [if_neg h0]
      simp only [Bool.and_eq_true, decide_eq_true_eq, bne_iff_ne]
      refine ⟨l, ?_⟩
      have hlt : us.length - 1 < us.length := by omega
      rw [List.getElem?_eq_getElem hlt]
      exact last_of_Nrm hn _ (by rw [List.getLast?_eq_getElem?, List.getElem?_eq_getElem hlt]; rfl)
  refine ⟨ok, ?_⟩
  unfold tk tkG tkL
  rw [if_pos ok, ok, hv]
  unfold mg sg
  by_cases h : n < 0 <;> simp [h] <;> omega

/-- A number of at most 24 limbs. -/
structure NumV (w : World) (v : Value) (z : Int) : Prop where
  is' : ∃ a c us, v = .agg #[.bool (decide (z < 0)), .slice a us.length c] ∧ Sees w a c us ∧ Nrm us ∧ us.length ≤ 24 ∧ val us = mg z
theorem NumV.below {w w' : World} {v : Value} {z : Int} (h : NumV w v z) (hb : Below w.heap.size w w') : NumV w' v z := by
  obtain ⟨a, c, us, e, s, r⟩ := h.is'
  exact ⟨a, c, us, e, s.below hb, r⟩
theorem IsNum.numV {base : Nat} {w : World} {v : Value} {z : Int} (h : IsNum base w v z) (h1 : -(4294967296 ^ 24) < z) (h2 : z < 4294967296 ^ 24) : NumV w v z := by
  obtain ⟨a, c, us, e, o, n, hv⟩ := h
  refine ⟨a, c, us, e, o.toSees, n, len_le o.lim n ?_, hv⟩
  rw [hv]
  unfold mg
  split <;> omega
theorem ok_facts {g : Bool} {xs : List Int} (hl : Lim xs) (h : okB g xs = true) : g = decide (tk g xs < 0) ∧ Nrm xs ∧ xs.length ≤ 24 ∧ val xs = mg (tk g xs) := by
  have el : tkL g xs = xs := by unfold tkL; rw [if_pos h]
  have eg : tkG g xs = g := by unfold tkG; rw [h]; simp
  obtain ⟨_, n, l, z⟩ := tk_facts g xs hl
  rw [el] at n l z
  rw [eg] at z
  have hv : tk g xs = sg g (val xs) := by unfold tk; rw [eg, el]
  refine ⟨?_, n, l, by rw [hv, mg_sg (val_nonneg hl)]⟩
  rw [hv]
  by_cases e : xs = []
  · rw [z e, e]; rfl
  · have := val_pos hl n e
    unfold sg
    cases g
    · simp; omega
    · simp; omega
theorem tk_ne {g : Bool} {xs : List Int} (hl : Lim xs) : decide (tk g xs ≠ 0) = (okB g xs && decide (0 < xs.length)) := by
  cases h : okB g xs
  · have el : tkL g xs = [] := by unfold tkL; rw [if_neg (by rw [h]; decide)]
    have : tk g xs = 0 := by unfold tk; rw [el]; cases tkG g xs <;> rfl
    rw [this]; rfl
  · obtain ⟨_, n, _, hv⟩ := ok_facts hl h
    by_cases e : xs = []
    · rw [e] at hv ⊢
      have : tk g [] = 0 := by
        have h0 : mg (tk g []) = 0 := hv.symm
        unfold mg at h0
        split at h0 <;> omega
      rw [this]; rfl
    · have hp := val_pos hl n e
      have hlen := List.length_pos_iff.2 e
      have : tk g xs ≠ 0 := by
        intro z
        rw [z] at hv
        simp [mg] at hv
        omega
      simp [this, hlen]
theorem abs_lt {g : Bool} {xs : List Int} (hl : Lim xs) (h : okB g xs = true) : mg (tk g xs) < 4294967296 ^ xs.length := by
  rw [← (ok_facts hl h).2.2.2]; exact val_lt hl
theorem mg_nat (x : Int) : mg x = (x.natAbs : Int) := by unfold mg; split <;> omega
end Go.Proofs.YtonbmeepfgejmaaGreatDoor
