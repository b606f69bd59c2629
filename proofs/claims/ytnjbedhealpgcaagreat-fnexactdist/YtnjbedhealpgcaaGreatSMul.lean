import Derived.Test.YtnjbedhealpgcaaGreatFTake
import Derived.Test.YtnjbedhealpgcaaGreatBase
import Derived.Test.YtnjbedhealpgcaaGreatGapM
import Derived.Test.YtnjbedhealpgcaaGreatDivI
import Derived.Deep.RegionHeld3
import Derived.Test.YtnjbedhealpgcaaGreatWindow
import Derived.Deep.LoopGhost
/- The specification's products of limbs: l1MulMag. -/
namespace Go.Proofs.YtnjbedhealpgcaaGreat
open Go.RowKit

set_option maxHeartbeats 2000000 in
theorem l1MulMagC (a b : Option Addr) (c d : Nat) (xs ys : List Int) (w : World) (h : Sees w a c xs) (k : Sees w b d ys) (hx : xs.length + ys.length ≤ 1048576) :
  Calls Tryz.prog 98 #[.slice a xs.length c, .slice b ys.length d] w fun e w' => ∃ a' c' zs, e = .returned (.slice a' zs.length c') ∧ Own w.heap.size w' a' c' zs ∧ val zs = val xs * val ys ∧ zs.length = xs.length + ys.length ∧ Below w.heap.size w w' := by
 obtain ⟨i0, hi, hz0, hz1, hz2⟩ := info_parts infoU
 have HX : Hid (xs.length + ys.length ≤ 1048576) := hx
 have mx : xs.length ≤ 4611686018427387900 := by omega
 have my : ys.length ≤ 4611686018427387900 := by omega
 clear hx
 go_enter Tryz.func98, Tryz.ntmps98
 go_wp2_with (at_make; refine wpList_make_full _ rfl _ _ 28 rfl w.heap.size 100 i0 (.int .u32 0) 1 Tryz.underlying28 hi hz0 hz1 .i64 .i64 _ _ (xs.length + ys.length) rfl rfl ?m1 ?m2 ?b2 ?b3 (Nat.le_refl _) ?_; (case m1 => omega); (case m2 => omega); (case b2 => rw [hz2]; have := HX.out; omega); (case b3 => have := HX.out; unfold maxLen; omega); intro w0 hown0 hgrow0; rw [made_list] at hown0; have ho := (Own.of_row (xs := List.replicate (xs.length + ys.length) 0) (by rw [List.map_replicate]; exact hown0) (Lim.zeros _)).1; have hb0 : Below w.heap.size w w0 := ((Below.refl _ _).grown hgrow0 (Nat.le_refl _) (fun k h => by cases h)); clear hown0 hgrow0)
 have HN : Hid (xs.length + ys.length ≤ maxLen) := by have := HX.out; show _ ≤ _; unfold maxLen; omega
 have LX : Hid (Lim xs) := h.lim
 have LY : Hid (Lim ys) := k.lim
 clear hi hz0 hz1 hz2
 go_loopw [6] (fun s wr => ∃ (i : Nat) (zs : List Int), i ≤ xs.length ∧ s = .int .i64 i ∧ Own w.heap.size wr (some ⟨w.heap.size, 0, none⟩) (xs.length + ys.length) zs ∧ Hid (MulAt xs ys i zs) ∧ Below w.heap.size w wr) (fun s _ => xs.length - (intOf s).toNat)
 case atStart => exact ⟨0, _, Nat.zero_le _, rfl, ho, MulAt.start xs ys, hb0⟩
 case round =>
  obtain ⟨i, zs, hil, rfl, hown, hat, hB⟩ := hrel
  clear ho hb0
  by_cases hlt : i < xs.length
  ·have hxs := h.below hB
   obtain ⟨b1, o1, rfl, hc1⟩ := hxs.cells (by intro e; simp [e] at hlt)
   have g1 := hc1 i hlt
   have hxb := LX.out.get i
   have HIN : Hid (MulIn xs ys i 0 0 zs) := hat.out.into
   clear hc1 hxs hat
   obtain ⟨x, hxe⟩ : ∃ x, Hid (xs[i]?.getD 0 = x) := ⟨_, rfl⟩
   rw [hxe.out] at g1 hxb
   obtain ⟨x0, x1⟩ := hxb
   go_wp2
   go_loopw [7, 8] (fun q s wi => ∃ (j : Nat) (cr : Int) (zs' : List Int), j ≤ ys.length ∧ s = .int .i64 j ∧ q = .int .u64 cr ∧ 0 ≤ cr ∧ cr < 4294967296 ∧ Own w.heap.size wi (some ⟨w.heap.size, 0, none⟩) (xs.length + ys.length) zs' ∧ Hid (MulIn xs ys i j cr zs') ∧ Below w.heap.size w wi) (fun _ s _ => ys.length - (intOf s).toNat)
   case atStart => exact ⟨0, 0, zs, Nat.zero_le _, rfl, rfl, by decide, by decide, hown, HIN, hB⟩
   case round =>
    obtain ⟨j, cr, zs', hjl, rfl, rfl, c0, c1, hown', hin, hB'⟩ := hrel
    clear hown HIN hB g1
    have hne : zs' ≠ [] := by intro e; have := hin.out.1; rw [e] at this; simp at this; omega
    obtain ⟨b2, o2, e2, hc⟩ := hown'.cells hne
    simp only [Option.some.injEq, Addr.mk.injEq] at e2
    obtain ⟨rfl, rfl, _⟩ := e2
    have hlen : Hid (zs'.length = xs.length + ys.length) := hin.out.1
    by_cases hjt : j < ys.length
    ·have hys := k.below hB'
     obtain ⟨b3, o3, rfl, hc3⟩ := hys.cells (by intro e; simp [e] at hjt)
     have g3 := hc3 j hjt
     have g4 := hc (i + j) (by rw [hlen.out]; omega)
     have g5 := (hown'.new _ _ rfl hne).2 (i + j) (by rw [hlen.out]; omega)
     simp only [Nat.zero_add] at g4 g5
     have g6 : wr.cell? ⟨b1, o1 + i, none⟩ = some (.int .u32 x) := by
      obtain ⟨bb, oo, ee, hcc⟩ := (h.below hB').cells (by intro e; simp [e] at hlt)
      simp only [Option.some.injEq, Addr.mk.injEq] at ee
      obtain ⟨rfl, rfl, _⟩ := ee
      have := hcc i hlt
      rw [hxe.out] at this
      exact this
     have hyb := LY.out.get j
     have hzb := hown'.lim.get (i + j)
     have HST := fun s hs => hin.out.step (s := s) hlt hjt hs
     rw [hxe.out] at HST
     have hst := fun v hv => hown'.store (j := i + j) rfl (by rw [hlen.out]; omega) (v := v) hv
     simp only [Nat.zero_add] at hst
     have hbs := fun u => hB'.setCell (p := ⟨w.heap.size, i + j, none⟩) (Nat.le_refl _) u
     have LM := mul_limb ⟨x0, x1⟩ hyb hzb ⟨c0, c1⟩
     clear hc hc3 hys hin hown' hB' hne h k hlen
     generalize ys[j]?.getD 0 = y at *
     generalize zs'[i + j]?.getD 0 = z at *
     obtain ⟨y0, y1⟩ := hyb
     obtain ⟨z0, z1⟩ := hzb
     obtain ⟨l0, l1, l2, l3⟩ := LM
     have M1 : Hid (MulIn xs ys i (j + 1) ((x * y + z + cr) / 4294967296) (zs'.set (i + j) ((x * y + z + cr) % 4294967296))) := HST _ rfl
     have O1 := hst ((x * y + z + cr) % 4294967296) (by omega)
     have B1 := hbs (.int .u32 ((x * y + z + cr) % 4294967296))
     clear HST hst hbs
     go_wp2
     go_quiet (fail)
     go_wp2
     go_roundw
     case rel => exact ⟨j + 1, _, _, by omega, by go_num, rfl, l2, l3, O1.below (below_drewN (Below.refl _ _) nq), M1, below_drewN B1 nq⟩
     case measure => simp [intOf]; omega
    ·obtain rfl : j = ys.length := by omega
     have g4 := hc (i + ys.length) (by rw [hlen.out]; omega)
     have g5 := (hown'.new _ _ rfl hne).2 (i + ys.length) (by rw [hlen.out]; omega)
     simp only [Nat.zero_add] at g4 g5
     have O1 := hown'.store (j := i + ys.length) rfl (by rw [hlen.out]; omega) (v := cr) ⟨c0, c1⟩
     simp only [Nat.zero_add] at O1
     have B1 := hB'.setCell (p := ⟨w.heap.size, i + ys.length, none⟩) (Nat.le_refl _) (.int .u32 cr)
     have M1 : Hid (MulAt xs ys (i + 1) (zs'.set (i + ys.length) cr)) := hin.out.out hlt
     clear hc hin hown' hB' hne h k hlen
     generalize zs'[i + ys.length]?.getD 0 = z at *
     go_wp2
     go_roundw
     case rel => exact ⟨i + 1, _, by omega, by go_num, O1, M1, B1⟩
     case measure => simp [intOf]; omega
  ·obtain rfl : i = xs.length := by omega
   have HL : Hid (zs.length = xs.length + ys.length) := hat.out.1
   go_wp2
   go_ret
   refine ⟨_, _, zs, by rw [HL.out]; rfl, hown, ?_, HL.out, hB⟩
   rw [hat.out.2.1, List.take_length]
open Go.RowKit

set_option maxHeartbeats 1000000 in
theorem l1CmpMagC (a b : Option Addr) (c d : Nat) (xs ys : List Int) (w : World) (h : Sees w a c xs) (k : Sees w b d ys) (nx : Nrm xs) (ny : Nrm ys) :
  Calls Tryz.prog 101 #[.slice a xs.length c, .slice b ys.length d] w fun e w' => e = .returned (.int .i64 (cmpZ (val xs) (val ys))) ∧ ∃ n, w' = w.drewN n := by
 have hm := h.max
 have hf := h.fits
 have hm2 := k.max
 have hf2 := k.fits
 unfold maxLen at hm hm2
 by_cases hl : xs.length = ys.length
 ·have HL : Hid (xs.length = ys.length) := hl
  have HX : Hid (Lim xs ∧ Nrm xs) := ⟨h.lim, nx⟩
  have HY : Hid (Lim ys ∧ Nrm ys) := ⟨k.lim, ny⟩
  rw [← hl]
  rw [← hl] at hf2
  clear hl nx ny
  go_enter Tryz.func101, Tryz.ntmps101
  go_wp2
  go_loopw [5] (fun i wr => ∃ (j n : Nat), j ≤ xs.length ∧ i = .int .i64 ((j : Int) - 1) ∧ wr = w.drewN n ∧ Hid (xs.drop j = ys.drop j)) (fun i _ => (intOf i + 1).toNat)
  case atStart => exact ⟨xs.length, 0, Nat.le_refl _, rfl, rfl, by show _ = _; rw [List.drop_eq_nil_of_le (Nat.le_refl _), List.drop_eq_nil_of_le (by rw [HL.out]; exact Nat.le_refl _)]⟩
  case round =>
   obtain ⟨j, n, hj, rfl, rfl, he⟩ := hrel
   by_cases h0 : j = 0
   ·subst h0
    have E : Hid (cmpZ (val xs) (val ys) = 0) := by
     have := he.out
     simp only [List.drop_zero] at this
     show _ = _
     rw [this]; simp [cmpZ]
    clear he
    go_wp2
    go_ret
    exact ⟨by rw [E.out]; rfl, n, rfl⟩
   ·have hne : xs ≠ [] := by intro e; simp [e] at hj; omega
    have hne' : ys ≠ [] := by intro e; have := HL.out; rw [e] at this; simp at this; exact hne this
    obtain ⟨b1, o1, rfl, hc1⟩ := h.cells hne
    obtain ⟨b2, o2, rfl, hc2⟩ := k.cells hne'
    have g1 := hc1 (j - 1) (by omega)
    have g2 := hc2 (j - 1) (by have := HL.out; omega)
    have hp : 0 < j := by omega
    have hsub : j - 1 + 1 = j := by omega
    rcases Int.lt_trichotomy (xs[j - 1]?.getD 0) (ys[j - 1]?.getD 0) with hlt | heq | hgt
    ·have E : Hid (cmpZ (val xs) (val ys) = -1) := by
      have := cmp_at (j := j - 1) HX.out.1 HY.out.1 HL.out (by omega) (by rw [hsub]; exact he.out) hlt
      show _ = _
      unfold cmpZ; rw [if_pos this]
     clear hc1 hc2 h k he hsub
     generalize xs[j - 1]?.getD 0 = x at *
     generalize ys[j - 1]?.getD 0 = y at *
     go_wp2
     go_quiet (fail)
     go_wp2
     go_ret
     exact ⟨by rw [E.out]; rfl, _, by rw [World.drewN_drewN]⟩
    ·have E : Hid (xs.drop (j - 1) = ys.drop (j - 1)) := drop_step HL.out (by rw [hsub]; exact he.out) heq
     rw [heq] at g1
     clear hc1 hc2 h k he hsub heq
     generalize ys[j - 1]?.getD 0 = y at *
     have hd1 : decide (y < y) = false := by simp
     go_wp2
     go_quiet (fail)
     go_wp2
     go_quiet (fail)
     go_wp2
     go_roundw
     case rel => exact ⟨j - 1, _, by omega, by go_num, rfl, E⟩
     case measure => simp [intOf]; omega
    ·have E : Hid (cmpZ (val xs) (val ys) = 1) := by
      have := cmp_at (j := j - 1) HY.out.1 HX.out.1 HL.out.symm (by have := HL.out; omega) (by rw [hsub]; exact he.out.symm) hgt
      show _ = _
      unfold cmpZ; rw [if_neg (by omega), if_neg (by omega)]
     have hge : ¬ xs[j - 1]?.getD 0 < ys[j - 1]?.getD 0 := by omega
     have hdd : decide (xs[j - 1]?.getD 0 < ys[j - 1]?.getD 0) = false := by simp; omega
     clear hc1 hc2 h k he hsub
     generalize xs[j - 1]?.getD 0 = x at *
     generalize ys[j - 1]?.getD 0 = y at *
     go_wp2
     go_quiet (fail)
     go_wp2
     go_quiet (fail)
     go_wp2
     go_ret
     exact ⟨by rw [E.out]; rfl, _, by rw [World.drewN_drewN, World.drewN_drewN]⟩
 ·have hne : ((xs.length : Int) != (ys.length : Int)) = true := by simp; omega
  by_cases hlt : xs.length < ys.length
  ·have E : Hid (cmpZ (val xs) (val ys) = -1) := by
    have := cmp_len h.lim k.lim ny hlt
    show _ = _
    unfold cmpZ; rw [if_pos this]
   clear h k nx ny hl
   go_enter Tryz.func101, Tryz.ntmps101
   go_wp2
   go_ret
   exact ⟨by rw [E.out]; rfl, 0, rfl⟩
  ·have E : Hid (cmpZ (val xs) (val ys) = 1) := by
    have := cmp_len k.lim h.lim nx (by omega)
    show _ = _
    unfold cmpZ; rw [if_neg (by omega), if_neg (by omega)]
   clear h k nx ny hl
   go_enter Tryz.func101, Tryz.ntmps101
   go_wp2
   go_ret
   exact ⟨by rw [E.out]; rfl, 0, rfl⟩
open Go.RowKit

set_option maxHeartbeats 1000000 in
theorem l1Add_same (n : Bool) (a b : Option Addr) (c d : Nat) (xs ys : List Int) (w : World) (h : Sees w a c xs) (k : Sees w b d ys) (hx : xs.length ≤ 1048576) (hy : ys.length ≤ 1048576) :
  Calls Tryz.prog 70 #[.bool n, .slice a xs.length c, .bool n, .slice b ys.length d] w fun e w' => ∃ v, e = .returned v ∧ IsNum w.heap.size w' v (sg n (val xs) + sg n (val ys)) ∧ Below w.heap.size w w' := by
 have HX : Hid (xs.length ≤ 1048576) := hx
 have HY : Hid (ys.length ≤ 1048576) := hy
 clear hx hy
 rcases n with _ | _
 ·go_enter Tryz.func70, Tryz.ntmps70
  go_wp2_with fail
  refine (l1AddMagC a b c d xs ys _ (h.below (below1 _ _)) (k.below (below1 _ _)) HX.out HY.out).mono ?_
  rintro e w2 ⟨a2, c2, zs, rfl, ho, hv, hl, hb⟩
  obtain ⟨q3, q4⟩ := at_block hb (b := w.heap.size) (by simp)
  have hs2 := hb.size
  simp only [World.size_alloc] at hs2
  have B2 := (below1 w _).trans (hb.mono (by simp))
  have E : Hid (sg false (val zs) = sg false (val xs) + sg false (val ys)) := by show _ = _; rw [hv]; simp only [sg]; simp <;> omega
  have HZ : Hid (zs.length ≤ 2097152) := by have := HX.out; have := HY.out; show _ ≤ _; omega
  clear hb hv hl
  go_wp2_with fail
  refine (l1NumC false a2 c2 zs _ ho.toSees HZ.out).mono ?_
  rintro e w3 ⟨v, rfl, hI, hb⟩
  replace hI := hI.eq E.out
  obtain ⟨g5, a5, l5, c5, rfl⟩ := hI.shape
  have hs3 := hb.size
  replace hI := hI.base_le (show w.heap.size + 1 ≤ _ from hs2)
  have B3 := B2.trans (hb.mono (Nat.le_trans (Nat.le_succ _) hs2))
  have q5 := fun o => (hb.cell (p := ⟨w.heap.size, o, none⟩) (by show w.heap.size < _; omega)).trans (q3 o)
  have q6 := fun o => (hb.frozen (p := ⟨w.heap.size, o, none⟩) (by show w.heap.size < _; omega)).trans (q4 o)
  have z3 : w.heap.size < w3.heap.size := by omega
  clear hb q3 q4 E B2
  go_wp2
  exact bodyPost_ret (v := .agg #[.bool g5, .slice a5 l5 c5]) (by simp [results, Tryz.results70, go_sem, q5]) rfl ⟨_, rfl, hI.put (by omega), below_put B3 _ _⟩
 ·go_enter Tryz.func70, Tryz.ntmps70
  go_wp2_with fail
  refine (l1AddMagC a b c d xs ys _ (h.below (below1 _ _)) (k.below (below1 _ _)) HX.out HY.out).mono ?_
  rintro e w2 ⟨a2, c2, zs, rfl, ho, hv, hl, hb⟩
  obtain ⟨q3, q4⟩ := at_block hb (b := w.heap.size) (by simp)
  have hs2 := hb.size
  simp only [World.size_alloc] at hs2
  have B2 := (below1 w _).trans (hb.mono (by simp))
  have E : Hid (sg true (val zs) = sg true (val xs) + sg true (val ys)) := by show _ = _; rw [hv]; simp only [sg]; simp <;> omega
  have HZ : Hid (zs.length ≤ 2097152) := by have := HX.out; have := HY.out; show _ ≤ _; omega
  clear hb hv hl
  go_wp2_with fail
  refine (l1NumC true a2 c2 zs _ ho.toSees HZ.out).mono ?_
  rintro e w3 ⟨v, rfl, hI, hb⟩
  replace hI := hI.eq E.out
  obtain ⟨g5, a5, l5, c5, rfl⟩ := hI.shape
  have hs3 := hb.size
  replace hI := hI.base_le (show w.heap.size + 1 ≤ _ from hs2)
  have B3 := B2.trans (hb.mono (Nat.le_trans (Nat.le_succ _) hs2))
  have q5 := fun o => (hb.cell (p := ⟨w.heap.size, o, none⟩) (by show w.heap.size < _; omega)).trans (q3 o)
  have q6 := fun o => (hb.frozen (p := ⟨w.heap.size, o, none⟩) (by show w.heap.size < _; omega)).trans (q4 o)
  have z3 : w.heap.size < w3.heap.size := by omega
  clear hb q3 q4 E B2
  go_wp2
  exact bodyPost_ret (v := .agg #[.bool g5, .slice a5 l5 c5]) (by simp [results, Tryz.results70, go_sem, q5]) rfl ⟨_, rfl, hI.put (by omega), below_put B3 _ _⟩

set_option maxHeartbeats 1000000 in
theorem l1Add_false (a b : Option Addr) (c d : Nat) (xs ys : List Int) (w : World) (h : Sees w a c xs) (k : Sees w b d ys) (nx : Nrm xs) (ny : Nrm ys) (hx : xs.length ≤ 1048576) (hy : ys.length ≤ 1048576) :
  Calls Tryz.prog 70 #[.bool false, .slice a xs.length c, .bool true, .slice b ys.length d] w fun e w' => ∃ v, e = .returned v ∧ IsNum w.heap.size w' v (sg false (val xs) + sg true (val ys)) ∧ Below w.heap.size w w' := by
 have HX : Hid (xs.length ≤ 1048576) := hx
 have HY : Hid (ys.length ≤ 1048576) := hy
 clear hx hy
 by_cases hc : val xs < val ys
 ·have E1 : cmpZ (val xs) (val ys) = -1 := by unfold cmpZ; rw [if_pos hc]
  have hll : xs.length ≤ ys.length := by
   rcases Nat.lt_or_ge ys.length xs.length with h1 | h1
   ·exfalso; have := cmp_len k.lim h.lim nx h1; omega
   ·exact h1
  have HC : Hid (val xs < val ys) := hc
  clear hc
  go_enter Tryz.func70, Tryz.ntmps70
  go_wp2_with fail
  refine (l1CmpMagC a b c d xs ys _ (h.below (below1 _ _)) (k.below (below1 _ _)) nx ny).mono ?_
  rintro e w1 ⟨rfl, n, rfl⟩
  rw [E1]
  go_wp2_with fail
  have b1 := below_drewN (below1 w (.cells #[.bool false, .slice none 0 0] 30)) n
  refine (l1SubMagC b a d c ys xs _ (k.below b1) (h.below b1) (Nat.le_trans HY.out (by decide)) hll (by have := HC.out; omega)).mono ?_
  rintro e w2 ⟨a2, c2, zs, rfl, ho, hv, hl, hb⟩
  obtain ⟨q3, q4⟩ := at_block hb (b := w.heap.size) (by simp)
  have hs2 := hb.size
  simp only [World.size_alloc, World.heap_drewN] at hs2
  have B2 := b1.trans (hb.mono b1.size)
  have E : Hid (sg true (val zs) = sg false (val xs) + sg true (val ys)) := by show _ = _; rw [hv]; simp only [sg]; simp <;> omega
  have HZ : Hid (zs.length ≤ 2097152) := by have := HY.out; show _ ≤ _; omega
  clear hb hv hl b1
  go_wp2_with fail
  refine (l1NumC true a2 c2 zs _ ho.toSees HZ.out).mono ?_
  rintro e w3 ⟨v, rfl, hI, hb⟩
  replace hI := hI.eq E.out
  obtain ⟨g5, a5, l5, c5, rfl⟩ := hI.shape
  have hs3 := hb.size
  replace hI := hI.base_le (show w.heap.size + 1 ≤ _ from hs2)
  have B3 := B2.trans (hb.mono (Nat.le_trans (Nat.le_succ _) hs2))
  have q5 := fun o => (hb.cell (p := ⟨w.heap.size, o, none⟩) (by show w.heap.size < _; omega)).trans (q3 o)
  have q6 := fun o => (hb.frozen (p := ⟨w.heap.size, o, none⟩) (by show w.heap.size < _; omega)).trans (q4 o)
  have z3 : w.heap.size < w3.heap.size := by omega
  clear hb q3 q4 E B2
  go_wp2
  exact bodyPost_ret (v := .agg #[.bool g5, .slice a5 l5 c5]) (by simp [results, Tryz.results70, go_sem, q5]) rfl ⟨_, rfl, hI.put (by omega), below_put B3 _ _⟩
 ·have E1 : 0 ≤ cmpZ (val xs) (val ys) := by unfold cmpZ; rw [if_neg hc]; split <;> decide
  have hll : ys.length ≤ xs.length := by
   rcases Nat.lt_or_ge xs.length ys.length with h1 | h1
   ·exfalso; have := cmp_len h.lim k.lim ny h1; omega
   ·exact h1
  have HC : Hid (¬ val xs < val ys) := hc
  clear hc
  go_enter Tryz.func70, Tryz.ntmps70
  go_wp2_with fail
  refine (l1CmpMagC a b c d xs ys _ (h.below (below1 _ _)) (k.below (below1 _ _)) nx ny).mono ?_
  rintro e w1 ⟨rfl, n, rfl⟩
  generalize cmpZ (val xs) (val ys) = z at E1 ⊢
  go_wp2_with fail
  have b1 := below_drewN (below1 w (.cells #[.bool false, .slice none 0 0] 30)) n
  refine (l1SubMagC a b c d xs ys _ (h.below b1) (k.below b1) (Nat.le_trans HX.out (by decide)) hll (by have := HC.out; omega)).mono ?_
  rintro e w2 ⟨a2, c2, zs, rfl, ho, hv, hl, hb⟩
  obtain ⟨q3, q4⟩ := at_block hb (b := w.heap.size) (by simp)
  have hs2 := hb.size
  simp only [World.size_alloc, World.heap_drewN] at hs2
  have B2 := b1.trans (hb.mono b1.size)
  have E : Hid (sg false (val zs) = sg false (val xs) + sg true (val ys)) := by show _ = _; rw [hv]; simp only [sg]; simp <;> omega
  have HZ : Hid (zs.length ≤ 2097152) := by have := HX.out; show _ ≤ _; omega
  clear hb hv hl b1
  go_wp2_with fail
  refine (l1NumC false a2 c2 zs _ ho.toSees HZ.out).mono ?_
  rintro e w3 ⟨v, rfl, hI, hb⟩
  replace hI := hI.eq E.out
  obtain ⟨g5, a5, l5, c5, rfl⟩ := hI.shape
  have hs3 := hb.size
  replace hI := hI.base_le (show w.heap.size + 1 ≤ _ from hs2)
  have B3 := B2.trans (hb.mono (Nat.le_trans (Nat.le_succ _) hs2))
  have q5 := fun o => (hb.cell (p := ⟨w.heap.size, o, none⟩) (by show w.heap.size < _; omega)).trans (q3 o)
  have q6 := fun o => (hb.frozen (p := ⟨w.heap.size, o, none⟩) (by show w.heap.size < _; omega)).trans (q4 o)
  have z3 : w.heap.size < w3.heap.size := by omega
  clear hb q3 q4 E B2
  go_wp2
  exact bodyPost_ret (v := .agg #[.bool g5, .slice a5 l5 c5]) (by simp [results, Tryz.results70, go_sem, q5]) rfl ⟨_, rfl, hI.put (by omega), below_put B3 _ _⟩

set_option maxHeartbeats 1000000 in
theorem l1Add_true (a b : Option Addr) (c d : Nat) (xs ys : List Int) (w : World) (h : Sees w a c xs) (k : Sees w b d ys) (nx : Nrm xs) (ny : Nrm ys) (hx : xs.length ≤ 1048576) (hy : ys.length ≤ 1048576) :
  Calls Tryz.prog 70 #[.bool true, .slice a xs.length c, .bool false, .slice b ys.length d] w fun e w' => ∃ v, e = .returned v ∧ IsNum w.heap.size w' v (sg true (val xs) + sg false (val ys)) ∧ Below w.heap.size w w' := by
 have HX : Hid (xs.length ≤ 1048576) := hx
 have HY : Hid (ys.length ≤ 1048576) := hy
 clear hx hy
 by_cases hc : val xs < val ys
 ·have E1 : cmpZ (val xs) (val ys) = -1 := by unfold cmpZ; rw [if_pos hc]
  have hll : xs.length ≤ ys.length := by
   rcases Nat.lt_or_ge ys.length xs.length with h1 | h1
   ·exfalso; have := cmp_len k.lim h.lim nx h1; omega
   ·exact h1
  have HC : Hid (val xs < val ys) := hc
  clear hc
  go_enter Tryz.func70, Tryz.ntmps70
  go_wp2_with fail
  refine (l1CmpMagC a b c d xs ys _ (h.below (below1 _ _)) (k.below (below1 _ _)) nx ny).mono ?_
  rintro e w1 ⟨rfl, n, rfl⟩
  rw [E1]
  go_wp2_with fail
  have b1 := below_drewN (below1 w (.cells #[.bool false, .slice none 0 0] 30)) n
  refine (l1SubMagC b a d c ys xs _ (k.below b1) (h.below b1) (Nat.le_trans HY.out (by decide)) hll (by have := HC.out; omega)).mono ?_
  rintro e w2 ⟨a2, c2, zs, rfl, ho, hv, hl, hb⟩
  obtain ⟨q3, q4⟩ := at_block hb (b := w.heap.size) (by simp)
  have hs2 := hb.size
  simp only [World.size_alloc, World.heap_drewN] at hs2
  have B2 := b1.trans (hb.mono b1.size)
  have E : Hid (sg false (val zs) = sg true (val xs) + sg false (val ys)) := by show _ = _; rw [hv]; simp only [sg]; simp <;> omega
  have HZ : Hid (zs.length ≤ 2097152) := by have := HY.out; show _ ≤ _; omega
  clear hb hv hl b1
  go_wp2_with fail
  refine (l1NumC false a2 c2 zs _ ho.toSees HZ.out).mono ?_
  rintro e w3 ⟨v, rfl, hI, hb⟩
  replace hI := hI.eq E.out
  obtain ⟨g5, a5, l5, c5, rfl⟩ := hI.shape
  have hs3 := hb.size
  replace hI := hI.base_le (show w.heap.size + 1 ≤ _ from hs2)
  have B3 := B2.trans (hb.mono (Nat.le_trans (Nat.le_succ _) hs2))
  have q5 := fun o => (hb.cell (p := ⟨w.heap.size, o, none⟩) (by show w.heap.size < _; omega)).trans (q3 o)
  have q6 := fun o => (hb.frozen (p := ⟨w.heap.size, o, none⟩) (by show w.heap.size < _; omega)).trans (q4 o)
  have z3 : w.heap.size < w3.heap.size := by omega
  clear hb q3 q4 E B2
  go_wp2
  exact bodyPost_ret (v := .agg #[.bool g5, .slice a5 l5 c5]) (by simp [results, Tryz.results70, go_sem, q5]) rfl ⟨_, rfl, hI.put (by omega), below_put B3 _ _⟩
 ·have E1 : 0 ≤ cmpZ (val xs) (val ys) := by unfold cmpZ; rw [if_neg hc]; split <;> decide
  have hll : ys.length ≤ xs.length := by
   rcases Nat.lt_or_ge xs.length ys.length with h1 | h1
   ·exfalso; have := cmp_len h.lim k.lim ny h1; omega
   ·exact h1
  have HC : Hid (¬ val xs < val ys) := hc
  clear hc
  go_enter Tryz.func70, Tryz.ntmps70
  go_wp2_with fail
  refine (l1CmpMagC a b c d xs ys _ (h.below (below1 _ _)) (k.below (below1 _ _)) nx ny).mono ?_
  rintro e w1 ⟨rfl, n, rfl⟩
  generalize cmpZ (val xs) (val ys) = z at E1 ⊢
  go_wp2_with fail
  have b1 := below_drewN (below1 w (.cells #[.bool false, .slice none 0 0] 30)) n
  refine (l1SubMagC a b c d xs ys _ (h.below b1) (k.below b1) (Nat.le_trans HX.out (by decide)) hll (by have := HC.out; omega)).mono ?_
  rintro e w2 ⟨a2, c2, zs, rfl, ho, hv, hl, hb⟩
  obtain ⟨q3, q4⟩ := at_block hb (b := w.heap.size) (by simp)
  have hs2 := hb.size
  simp only [World.size_alloc, World.heap_drewN] at hs2
  have B2 := b1.trans (hb.mono b1.size)
  have E : Hid (sg true (val zs) = sg true (val xs) + sg false (val ys)) := by show _ = _; rw [hv]; simp only [sg]; simp <;> omega
  have HZ : Hid (zs.length ≤ 2097152) := by have := HX.out; show _ ≤ _; omega
  clear hb hv hl b1
  go_wp2_with fail
  refine (l1NumC true a2 c2 zs _ ho.toSees HZ.out).mono ?_
  rintro e w3 ⟨v, rfl, hI, hb⟩
  replace hI := hI.eq E.out
  obtain ⟨g5, a5, l5, c5, rfl⟩ := hI.shape
  have hs3 := hb.size
  replace hI := hI.base_le (show w.heap.size + 1 ≤ _ from hs2)
  have B3 := B2.trans (hb.mono (Nat.le_trans (Nat.le_succ _) hs2))
  have q5 := fun o => (hb.cell (p := ⟨w.heap.size, o, none⟩) (by show w.heap.size < _; omega)).trans (q3 o)
  have q6 := fun o => (hb.frozen (p := ⟨w.heap.size, o, none⟩) (by show w.heap.size < _; omega)).trans (q4 o)
  have z3 : w.heap.size < w3.heap.size := by omega
  clear hb q3 q4 E B2
  go_wp2
  exact bodyPost_ret (v := .agg #[.bool g5, .slice a5 l5 c5]) (by simp [results, Tryz.results70, go_sem, q5]) rfl ⟨_, rfl, hI.put (by omega), below_put B3 _ _⟩

theorem l1AddC (an bn : Bool) (a b : Option Addr) (c d : Nat) (xs ys : List Int) (w : World) (h : Sees w a c xs) (k : Sees w b d ys) (nx : Nrm xs) (ny : Nrm ys) (hx : xs.length ≤ 1048576) (hy : ys.length ≤ 1048576) :
  Calls Tryz.prog 70 #[.bool an, .slice a xs.length c, .bool bn, .slice b ys.length d] w fun e w' => ∃ v, e = .returned v ∧ IsNum w.heap.size w' v (sg an (val xs) + sg bn (val ys)) ∧ Below w.heap.size w w' := by
 rcases an with _ | _ <;> rcases bn with _ | _
 ·exact l1Add_same false a b c d xs ys w h k hx hy
 ·exact l1Add_false a b c d xs ys w h k nx ny hx hy
 ·exact l1Add_true a b c d xs ys w h k nx ny hx hy
 ·exact l1Add_same true a b c d xs ys w h k hx hy
open Go.RowKit

set_option maxRecDepth 20000 in
set_option maxHeartbeats 4000000 in
theorem l2MulC (g g' : Bool) (a b : Option Addr) (c d : Nat) (xs ys : List Int) (w : World) (h : Sees w a c xs) (k : Sees w b d ys) (hs : xs.length + ys.length ≤ 1048576) :
  Calls Tryz.prog 68 #[.agg #[.bool g, .slice a xs.length c], .agg #[.bool g', .slice b ys.length d]] w fun e w' => ∃ v, e = .returned v ∧ IsNum w.heap.size w' v (sg (g != g') (val xs * val ys)) ∧ Below w.heap.size w w' := by
 have HS : Hid (xs.length + ys.length ≤ 1048576) := hs
 clear hs
 go_enter Tryz.func68, Tryz.ntmps68
 go_wp2_with fail
 go_region_held3 (fun w' => w'.cell? ⟨w.heap.size, 0, none⟩ = some (.bool g) ∧ w'.cell? ⟨w.heap.size, 1, none⟩ = some (.slice a xs.length c) ∧ w'.cell? ⟨w.heap.size + 1, 0, none⟩ = some (.bool g') ∧ w'.cell? ⟨w.heap.size + 1, 1, none⟩ = some (.slice b ys.length d))
  (first | exact k1 | exact k2 | exact ⟨(cell_put (by omega)).trans k2.1, (cell_put (by omega)).trans k2.2.1, (cell_put (by omega)).trans k2.2.2.1, (cell_put (by omega)).trans k2.2.2.2⟩ | (simp [go_sem, World.cell?_alloc_past]))
  (first
  | (go_at_call 98; refine (l1MulMagC a b c d xs ys _ ?_ ?_ HS.out).mono ?_; exact h.below (below3 _ _ _ _).drew; exact k.below (below3 _ _ _ _).drew; rintro e w1 ⟨a1, c1, zs, rfl, ho1, hv1, hl1, hb1⟩; have B1 := (below3 w _ _ _).drew.trans (hb1.mono (by simp <;> omega)); obtain ⟨q1, _⟩ := at_block hb1 (b := w.heap.size) (by simp <;> omega); obtain ⟨q2, _⟩ := at_block hb1 (b := w.heap.size + 1) (by simp <;> omega); obtain ⟨q3, q4⟩ := at_block hb1 (b := w.heap.size + 2) (by simp); have z1 : w.heap.size + 2 < w1.heap.size := (by have := hb1.size; simp at this; omega); have k1 : w1.cell? ⟨w.heap.size, 0, none⟩ = some (.bool g) ∧ w1.cell? ⟨w.heap.size, 1, none⟩ = some (.slice a xs.length c) ∧ w1.cell? ⟨w.heap.size + 1, 0, none⟩ = some (.bool g') ∧ w1.cell? ⟨w.heap.size + 1, 1, none⟩ = some (.slice b ys.length d) := (by simp [q1, q2, go_sem, World.cell?_alloc_past]); have E : Hid (sg (g != g') (val zs) = sg (g != g') (val xs * val ys)) := (by rw [hv1]; exact rfl); have HL6 : Hid (zs.length ≤ 2097152) := (by show _ ≤ _; have := HS.out; omega); clear hb1 q1 q2 hv1 hl1)
  | (go_at_call 62; refine (l1NumC (g != g') a1 c1 zs _ ho1.toSees HL6.out).mono ?_; rintro e w2 ⟨v, rfl, hI, hb2⟩; have B2 := B1.trans (hb2.mono B1.size); have k2 : w2.cell? ⟨w.heap.size, 0, none⟩ = some (.bool g) ∧ w2.cell? ⟨w.heap.size, 1, none⟩ = some (.slice a xs.length c) ∧ w2.cell? ⟨w.heap.size + 1, 0, none⟩ = some (.bool g') ∧ w2.cell? ⟨w.heap.size + 1, 1, none⟩ = some (.slice b ys.length d) := ⟨bat hb2 k1.1, bat hb2 k1.2.1, bat hb2 k1.2.2.1, bat hb2 k1.2.2.2⟩; have qa2 := (fun o => (hb2.cell (p := ⟨w.heap.size + 2, o, none⟩) z1).trans (q3 o)); have qb2 := (fun o => (hb2.frozen (p := ⟨w.heap.size + 2, o, none⟩) z1).trans (q4 o)); have z2 : w.heap.size + 2 < w2.heap.size := (by have := hb2.size; omega); have hJ := (hI.eq E.out).base_le (show w.heap.size + 3 ≤ w1.heap.size from z1); obtain ⟨g5, a5, l5, c5, rfl⟩ := hI.shape; clear hb2 q3 q4))
 all_goals
  go_wp2
  exact bodyPost_ret (v := .agg #[.bool g5, .slice a5 l5 c5]) (by simp [results, Tryz.results68, go_sem, qa2]) rfl ⟨_, rfl, hJ.put' (by omega) (by omega), below_put' B2 (by omega) _ _⟩
open Go.RowKit

theorem val_top {rs : List Int} {n : Nat} (h : rs.length = n + 1) : val rs = val (rs.take n) + 4294967296 ^ n * (rs[n]?.getD 0) := by
 have := val_take_succ rs n
 rw [← h, List.take_length] at this
 exact this

set_option maxHeartbeats 1000000 in
theorem l1ReachesC (a b : Option Addr) (c d : Nat) (rs ys : List Int) (w : World) (h : Sees w a c rs) (k : Sees w b d ys) (hl : rs.length = ys.length + 1) :
  Calls Tryz.prog 126 #[.slice a (ys.length + 1) c, .slice b ys.length d] w fun e w' => e = .returned (.bool (decide (val ys ≤ val rs))) ∧ ∃ n, w' = w.drewN n := by
 have hm2 := k.max
 have hf2 := k.fits
 have hm := h.max
 have hf := h.fits
 rw [hl] at hf
 unfold maxLen at hm hm2
 have hne : rs ≠ [] := by intro e; simp [e] at hl
 obtain ⟨b1, o1, rfl, hc1⟩ := h.cells hne
 have g0 := hc1 ys.length (by omega)
 have hv := val_top hl
 have ht := h.lim.get ys.length
 have hLR : Lim (rs.take ys.length) := h.lim.take _
 have hlen : (rs.take ys.length).length = ys.length := by simp; omega
 have y1 := val_lt k.lim
 have r0 := val_nonneg hLR
 by_cases h0 : 0 < rs[ys.length]?.getD 0
 ·have E : Hid (decide (val ys ≤ val rs) = true) := by
   show _ = _
   have hp := p_pos ys.length
   have : 4294967296 ^ ys.length * 1 ≤ 4294967296 ^ ys.length * (rs[ys.length]?.getD 0) := Int.mul_le_mul_of_nonneg_left (by omega) (by omega)
   simp only [decide_eq_true_eq]
   omega
  clear hc1 hv hLR hlen y1 r0 h k hne hl
  generalize rs[ys.length]?.getD 0 = t at *
  go_enter Tryz.func126, Tryz.ntmps126
  go_wp2
  go_ret
  exact ⟨by rw [E.out]; rfl, 0, rfl⟩
 ·have ht0 : rs[ys.length]?.getD 0 = 0 := by omega
  have HV : Hid (val rs = val (rs.take ys.length)) := by show _ = _; rw [hv, ht0]; simp
  rw [ht0] at g0
  have HL : Hid ((rs.take ys.length).length = ys.length) := hlen
  have HLR : Hid (Lim (rs.take ys.length) ∧ Lim ys) := ⟨hLR, k.lim⟩
  have hget : ∀ i, i < ys.length → (rs.take ys.length)[i]?.getD 0 = rs[i]?.getD 0 := fun i hi => by rw [List.getElem?_take, if_pos hi]
  have HG : Hid (∀ i, i < ys.length → (rs.take ys.length)[i]?.getD 0 = rs[i]?.getD 0) := hget
  have HR : Hid (rs.length = ys.length + 1) := hl
  clear hv hLR hlen y1 r0 h0 ht ht0 hget hl
  go_enter Tryz.func126, Tryz.ntmps126
  go_wp2
  go_loopw [6] (fun i wr => ∃ (j n : Nat), j ≤ ys.length ∧ i = .int .i64 ((j : Int) - 1) ∧ wr = w.drewN n ∧ Hid ((rs.take ys.length).drop j = ys.drop j)) (fun i _ => (intOf i + 1).toNat)
  case atStart => exact ⟨ys.length, 0, Nat.le_refl _, rfl, rfl, by show _ = _; rw [List.drop_eq_nil_of_le (Nat.le_of_eq HL.out), List.drop_eq_nil_of_le (Nat.le_refl _)]⟩
  case round =>
   obtain ⟨j, n, hj, rfl, rfl, he⟩ := hrel
   by_cases h0 : j = 0
   ·subst h0
    have E : Hid (decide (val ys ≤ val rs) = true) := by
     have := he.out
     simp only [List.drop_zero] at this
     show _ = _
     rw [HV.out, this]; simp
    clear he hc1
    go_wp2
    go_ret
    exact ⟨by rw [E.out]; rfl, n, rfl⟩
   ·obtain ⟨b2, o2, rfl, hc2⟩ := k.cells (by intro e; simp [e] at hj; omega)
    have g1 := hc1 (j - 1) (by rw [HR.out]; omega)
    have g2 := hc2 (j - 1) (by omega)
    have hp : 0 < j := by omega
    have hsub : j - 1 + 1 = j := by omega
    have hgg := HG.out (j - 1) (by omega)
    rcases Int.lt_trichotomy (rs[j - 1]?.getD 0) (ys[j - 1]?.getD 0) with hlt | heq | hgt
    ·have E : Hid (decide (val ys ≤ val rs) = false) := by
      have := cmp_at (j := j - 1) HLR.out.1 HLR.out.2 HL.out (by rw [HL.out]; omega) (by rw [hsub]; exact he.out) (by rw [hgg]; exact hlt)
      show _ = _
      rw [HV.out]
      simp only [decide_eq_false_iff_not]
      omega
     have hne3 : (rs[j - 1]?.getD 0 != ys[j - 1]?.getD 0) = true := by simp; omega
     have hdd : decide (ys[j - 1]?.getD 0 < rs[j - 1]?.getD 0) = false := by simp; omega
     clear hc1 hc2 h k he hsub hgg
     generalize rs[j - 1]?.getD 0 = x at *
     generalize ys[j - 1]?.getD 0 = y at *
     go_wp2
     go_quiet (fail)
     go_wp2
     go_quiet (fail)
     go_wp2
     go_ret
     exact ⟨by rw [E.out]; rfl, _, by rw [World.drewN_drewN, World.drewN_drewN]⟩
    ·have E : Hid ((rs.take ys.length).drop (j - 1) = ys.drop (j - 1)) := drop_step HL.out (by rw [hsub]; exact he.out) (by rw [hgg]; exact heq)
     rw [heq] at g1
     clear hc2 h k he hsub heq hgg
     clear hc1
     generalize ys[j - 1]?.getD 0 = y at *
     go_wp2
     go_quiet (fail)
     go_wp2
     go_roundw
     case rel => exact ⟨j - 1, _, by omega, by go_num, rfl, E⟩
     case measure => simp [intOf]; omega
    ·have E : Hid (decide (val ys ≤ val rs) = true) := by
      have := cmp_at (j := j - 1) HLR.out.2 HLR.out.1 HL.out.symm (by omega) (by rw [hsub]; exact he.out.symm) (by rw [hgg]; exact hgt)
      show _ = _
      rw [HV.out]
      simp only [decide_eq_true_eq]
      omega
     have hne3 : (rs[j - 1]?.getD 0 != ys[j - 1]?.getD 0) = true := by simp; omega
     clear hc1 hc2 h k he hsub hgg
     generalize rs[j - 1]?.getD 0 = x at *
     generalize ys[j - 1]?.getD 0 = y at *
     go_wp2
     go_quiet (fail)
     go_wp2
     go_quiet (fail)
     go_wp2
     go_ret
     exact ⟨by rw [E.out]; rfl, _, by rw [World.drewN_drewN, World.drewN_drewN]⟩
open Go.RowKit

set_option maxHeartbeats 4000000 in
set_option maxRecDepth 20000 in
theorem l1DivMagC (a b : Option Addr) (c d : Nat) (xs ys : List Int) (w : World) (h : Sees w a c xs) (k : Sees w b d ys) (hx : xs.length ≤ 1048576) (hy : ys.length ≤ 1048576) (hb : 0 < val ys) :
  Calls Tryz.prog 97 #[.slice a xs.length c, .slice b ys.length d] w fun e w' => ∃ rb qs rs, e = .returned (.tuple #[.slice (some ⟨w.heap.size, 0, none⟩) xs.length xs.length, .slice (some ⟨rb, 0, none⟩) (ys.length + 1) (ys.length + 1)]) ∧
   Divs w.heap.size w' w.heap.size rb qs rs xs.length (ys.length + 1) ∧ val qs = val xs / val ys ∧ val rs = val xs % val ys ∧ Below w.heap.size w w' := by
 obtain ⟨i0, hi, hz0, hz1, hz2⟩ := info_parts infoU
 have HX : Hid (xs.length ≤ 1048576) := hx
 have HY : Hid (ys.length ≤ 1048576) := hy
 have mx : xs.length ≤ 144115188075855870 := by omega
 have my : ys.length ≤ 144115188075855870 := by omega
 clear hx hy
 go_enter Tryz.func97, Tryz.ntmps97
 go_wp2_with (first
  | (at_make; refine wpList_make_full _ rfl (.tmp 16) (.tmp 16) 28 rfl w.heap.size 100 i0 (.int .u32 0) 1 Tryz.underlying28 hi hz0 hz1 .i64 .i64 _ _ xs.length rfl rfl rfl rfl ?b2 ?b3 (Nat.le_refl _) ?_; (case b2 => rw [hz2]; have := HX.out; omega); (case b3 => have := HX.out; unfold maxLen; omega); intro w0 hown0 hgrow0; rw [made_list] at hown0; have hoq := (Own.of_row (xs := List.replicate xs.length 0) (by rw [List.map_replicate]; exact hown0) (Lim.zeros _)).1; have hb0 : Below w.heap.size w w0 := ((Below.refl _ _).grown hgrow0 (Nat.le_refl _) (fun k h => by cases h)); have hlt0 := (hown0.lt _ rfl).2; clear hown0 hgrow0)
  | (at_make; refine wpList_make_full _ rfl (.tmp 20) (.tmp 20) 28 rfl w.heap.size 100 i0 (.int .u32 0) 1 Tryz.underlying28 hi hz0 hz1 .i64 .i64 _ _ (ys.length + 1) rfl rfl ?m1 ?m2 ?d2 ?d3 hb0.size ?_; (case m1 => omega); (case m2 => omega); (case d2 => rw [hz2]; have := HY.out; omega); (case d3 => have := HY.out; unfold maxLen; omega); intro w1 hown1 hgrow1; rw [made_list] at hown1; have hor := (Own.of_row (xs := List.replicate (ys.length + 1) 0) (by rw [List.map_replicate]; exact hown1) (Lim.zeros _)).1; have hlt1 := (hown1.lt _ rfl).2; have hb1 : Below w0.heap.size w0 w1 := ((Below.refl _ _).grown hgrow1 (Nat.le_refl _) (fun k h => by cases h)); clear hown1 hgrow1))
 have D0 : Divs w.heap.size w1 w.heap.size w0.heap.size (List.replicate xs.length 0) (List.replicate (ys.length + 1) 0) xs.length (ys.length + 1) := ⟨hoq.below hb1, hor, by simp, by simp, by omega⟩
 have B0 : Below w.heap.size w w1 := hb0.trans (hb1.mono hb0.size)
 have LX : Hid (Lim xs) := h.lim
 have LY : Hid (Lim ys) := k.lim
 have S0 : Hid (DivAt (val xs) (val ys) (32 * xs.length) (val (List.replicate xs.length 0)) (val (List.replicate (ys.length + 1) 0))) := by
  rw [val_zeros, val_zeros]
  refine DivAt.start (val_nonneg h.lim) ?_
  have := val_lt h.lim
  rw [← p2_32, ← Int.pow_mul] at this
  exact this
 have HB : Hid (0 < val ys) := hb
 clear hoq hor hb0 hb1 hi hz0 hz1 hz2 hb
 generalize w0.heap.size = rb at *
 go_loopw [8] (fun s wr => ∃ (t : Nat) (qs rs : List Int), t ≤ 32 * xs.length ∧ s = .int .i64 ((t : Int) - 1) ∧ Divs w.heap.size wr w.heap.size rb qs rs xs.length (ys.length + 1) ∧ Hid (DivAt (val xs) (val ys) t (val qs) (val rs)) ∧ Below w.heap.size w wr) (fun s _ => (intOf s + 1).toNat)
 case atStart => exact ⟨32 * xs.length, _, _, Nat.le_refl _, by go_num, D0, S0, B0⟩
 case round =>
  obtain ⟨t, qs, rs, ht, rfl, hD, hat, hB⟩ := hrel
  clear D0 S0 B0
  by_cases h0 : t = 0
  ·subst h0
   have E : Hid (val qs = val xs / val ys ∧ val rs = val xs % val ys) := hat.out.done
   clear hat h k
   go_wp2
   go_ret2
   exact ⟨rb, qs, rs, rfl, hD, E.out.1, E.out.2, hB⟩
  ·obtain ⟨i, rfl⟩ : ∃ i, t = i + 1 := ⟨t - 1, by omega⟩
   have hxs := h.below hB
   have hq32 : i / 32 < xs.length := by omega
   obtain ⟨b1, o1, rfl, hc1⟩ := hxs.cells (by intro e; simp [e] at hq32)
   have g1 := hc1 (i / 32) hq32
   have hX := LX.out.get (i / 32)
   have hbit := bit_at xs i LX.out
   clear hc1 hxs
   generalize xs[i / 32]?.getD 0 = X at *
   obtain ⟨bit, hbe⟩ : ∃ bit, X / 2 ^ (i % 32) % 2 = bit := ⟨_, rfl⟩
   have hb01 : 0 ≤ bit ∧ bit ≤ 1 := by omega
   obtain ⟨bt0, bt1⟩ := hb01
   have hand : bits BinOp.and IntKind.u32 (X / 2 ^ (i % 32)) 1 = bit := by
    have hp := p2_pos (i % 32)
    have h1 : 0 ≤ X / 2 ^ (i % 32) := Int.ediv_nonneg hX.1 (by omega)
    have h2 : X / 2 ^ (i % 32) ≤ X := Int.ediv_le_self _ hX.1
    rw [and_one32 ⟨h1, by omega⟩, hbe]
   have HBIT : Hid (val xs / 2 ^ i % 2 = bit) := by show _ = _; rw [hbit, hbe]
   have HR : Hid (0 ≤ val rs ∧ val rs < val ys) := hat.out.bound HB.out
   clear hbe hbit hX
   go_wp2
   go_loopw [9, 10] (fun sb s wi => ∃ (j : Nat) (bb : Int) (ws : List Int), j ≤ ys.length + 1 ∧ s = .int .i64 j ∧ sb = .int .u32 bb ∧ 0 ≤ bb ∧ bb ≤ 1 ∧ Hid (ws.length = j) ∧ Divs w.heap.size wi w.heap.size rb qs (ws ++ rs.drop j) xs.length (ys.length + 1) ∧ Hid (val ws + 4294967296 ^ j * bb = 2 * val (rs.take j) + bit) ∧ Below w.heap.size w wi) (fun _ s _ => (ys.length + 1) - (intOf s).toNat)
   case atStart => exact ⟨0, bit, [], Nat.zero_le _, rfl, rfl, bt0, bt1, rfl, by simpa using hD, by simp [Hid, val], hB⟩
   case round =>
    obtain ⟨j, bb, ws, hj, rfl, rfl, bb0, bb1, hw, hD1, he, hB1⟩ := hrel
    clear g1 hand
    have hrl := hD.rl
    by_cases hjt : j < ys.length + 1
    ·obtain ⟨g2, g3⟩ := hD1.cellR hjt
     rw [row_get hw.out (by rw [hrl]; exact hjt)] at g2
     have hx := hD.r.lim.get j
     obtain ⟨s1, s2, s3⟩ := shl_limb (rs[j]?.getD 0) bb hx ⟨bb0, bb1⟩
     have hr := shl_round hw.out he.out s3
     have hor := or_low32 (x := rs[j]?.getD 0 * 2 % 4294967296) (b := bb) (by omega) (by omega) ⟨bb0, bb1⟩
     have D2 := hD1.setR hjt ⟨s2, s1⟩
     rw [row_step hw.out (by rw [hrl]; exact hjt)] at D2
     have B2 := hB1.setCell (p := ⟨rb, j, none⟩) (by dsimp only; omega) (.int .u32 (rs[j]?.getD 0 * 2 % 4294967296 + bb))
     have HW2 : Hid ((ws ++ [rs[j]?.getD 0 * 2 % 4294967296 + bb]).length = j + 1) := by show _ = _; simp [hw.out]
     have HE2 : Hid (val (ws ++ [rs[j]?.getD 0 * 2 % 4294967296 + bb]) + 4294967296 ^ (j + 1) * (rs[j]?.getD 0 / 2147483648) = 2 * val (rs.take (j + 1)) + bit) := hr
     clear hr he hw hD1 hB1 hrl s1 s2 s3
     generalize rs[j]?.getD 0 = x at *
     obtain ⟨hx0, hx1⟩ := hx
     go_wp2
     go_roundw
     case rel => exact ⟨j + 1, _, _, by omega, by go_num, rfl, by omega, by omega, HW2, D2, HE2, B2⟩
     case measure => simp [intOf]; omega
    ·obtain rfl : j = ys.length + 1 := by omega
     have e1 : rs.drop (ys.length + 1) = [] := List.drop_eq_nil_of_le (by rw [hrl]; exact Nat.le_refl _)
     rw [e1, List.append_nil] at hD1
     have hV : Hid (val ws = 2 * val rs + bit) := by
      have h1 := he.out
      rw [List.take_of_length_le (by rw [hrl]; exact Nat.le_refl _)] at h1
      have h2 := val_lt LY.out
      have h3 := val_nonneg hD1.r.lim
      have h4 := HR.out
      have h5 := p_pos ys.length
      rw [Int.pow_succ] at h1
      show _ = _
      by_cases hc : bb = 0
      ·subst hc; simp at h1; omega
      ·obtain rfl : bb = 1 := by omega
       omega
     have HW : Hid (ws.length = ys.length + 1) := hw
     clear he hw e1 hrl
     go_wp2_with fail
     refine (l1ReachesC (some ⟨rb, 0, none⟩) b (ys.length + 1) d ws ys _ hD1.r.toSees (k.below hB1) HW.out).mono ?_
     rintro e w2 ⟨rfl, n, rfl⟩
     by_cases hre : val ys ≤ val ws
     ·rw [decide_eq_true hre]
      have NX : Hid (DivAt (val xs) (val ys) i (val qs + 2 ^ i) (val ws - val ys)) := by
       have := hat.out.yes HB.out (by rw [HBIT.out, ← hV.out]; exact hre)
       rw [HBIT.out, ← hV.out] at this
       exact this
      have HRE : Hid (val ys ≤ val ws) := hre
      have HFREE : Hid (qs[i / 32]?.getD 0 / 2 ^ (i % 32) % 2 = 0) := by
       have h1 := hat.out.free
       rw [bit_at qs i hD1.q.lim] at h1
       exact h1
      clear hre
      go_wp2
      go_loopw [12, 13] (fun sb s wi => ∃ (j : Nat) (cr : Int) (us : List Int), j ≤ ys.length + 1 ∧ s = .int .i64 j ∧ sb = .int .u64 cr ∧ 0 ≤ cr ∧ cr ≤ 1 ∧ Hid (us.length = j) ∧ Divs w.heap.size wi w.heap.size rb qs (us ++ ws.drop j) xs.length (ys.length + 1) ∧ Hid (val us - 4294967296 ^ j * cr = val (ws.take j) - 1 * val (ys.take j)) ∧ Below w.heap.size w wi) (fun _ s _ => (ys.length + 1) - (intOf s).toNat)
      case atStart => exact ⟨0, 0, [], Nat.zero_le _, rfl, rfl, by decide, by decide, rfl, by simpa using hD1.drewN n, by simp [Hid, val], below_drewN hB1 n⟩
      case round =>
       obtain ⟨j, cr, us, hj2, rfl, rfl, c0, c1, hw, hD2, he, hB2⟩ := hrel
       by_cases hjt2 : j < ys.length + 1
       ·obtain ⟨g2, g3⟩ := hD2.cellR hjt2
        rw [row_get hw.out (by rw [HW.out]; exact hjt2)] at g2
        have hx := hD1.r.lim.get j
        have hy := LY.out.get j
        have hr := fun x q hxq => sub_round (x := x) (q := q) hw.out he.out hxq
        have hst := fun v hv => hD2.setR (v := v) hjt2 hv
        simp only [row_step hw.out (show j < ws.length by rw [HW.out]; exact hjt2)] at hst
        have hbs := fun u => hB2.setCell (p := ⟨rb, j, none⟩) (by dsimp only; omega) u
        have hwl : ∀ x : Int, Hid ((us ++ [x]).length = j + 1) := fun x => by show _ = _; simp [hw.out]
        by_cases hjy : j < ys.length
        ·obtain ⟨b3, o3, rfl, hc3⟩ := (k.below hB2).cells (by intro e; simp [e] at hjy)
         have g4 := hc3 j hjy
         have H1 : Hid (val (us ++ [(ws[j]?.getD 0 + 4294967296 - cr - ys[j]?.getD 0) % 4294967296]) - 4294967296 ^ (j + 1) * (1 - (ws[j]?.getD 0 + 4294967296 - cr - ys[j]?.getD 0) / 4294967296) = val (ws.take (j + 1)) - 1 * val (ys.take (j + 1))) := hr _ _ (by omega)
         have D3 := hst ((ws[j]?.getD 0 + 4294967296 - cr - ys[j]?.getD 0) % 4294967296) (by omega)
         have B3 := hbs (.int .u32 ((ws[j]?.getD 0 + 4294967296 - cr - ys[j]?.getD 0) % 4294967296))
         have W3 := hwl ((ws[j]?.getD 0 + 4294967296 - cr - ys[j]?.getD 0) % 4294967296)
         clear hr hst hbs hc3 hw hD2 he hB2 hwl
         generalize ws[j]?.getD 0 = x at *
         generalize ys[j]?.getD 0 = y at *
         obtain ⟨x0, x1⟩ := hx
         obtain ⟨y0, y1⟩ := hy
         go_wp2
         go_roundw
         case rel => exact ⟨j + 1, _, _, by omega, by go_num, rfl, by omega, by omega, W3, D3, H1, B3⟩
         case measure => simp [intOf]; omega
        ·have ey : ys[j]?.getD 0 = 0 := by rw [List.getElem?_eq_none (by omega)]; rfl
         have H1 : Hid (val (us ++ [(ws[j]?.getD 0 + 4294967296 - cr) % 4294967296]) - 4294967296 ^ (j + 1) * (1 - (ws[j]?.getD 0 + 4294967296 - cr) / 4294967296) = val (ws.take (j + 1)) - 1 * val (ys.take (j + 1))) := hr _ _ (by omega)
         have D3 := hst ((ws[j]?.getD 0 + 4294967296 - cr) % 4294967296) (by omega)
         have B3 := hbs (.int .u32 ((ws[j]?.getD 0 + 4294967296 - cr) % 4294967296))
         have W3 := hwl ((ws[j]?.getD 0 + 4294967296 - cr) % 4294967296)
         clear hr hst hbs hw hD2 he hB2 hwl ey hy
         generalize ws[j]?.getD 0 = x at *
         obtain ⟨x0, x1⟩ := hx
         go_wp2
         go_roundw
         case rel => exact ⟨j + 1, _, _, by omega, by go_num, rfl, by omega, by omega, W3, D3, H1, B3⟩
         case measure => simp [intOf]; omega
       ·obtain rfl : j = ys.length + 1 := by omega
        have e2 : ws.drop (ys.length + 1) = [] := List.drop_eq_nil_of_le (Nat.le_of_eq HW.out)
        rw [e2, List.append_nil] at hD2
        have hV2 : Hid (val us = val ws - val ys) := by
         have h1 := he.out
         rw [List.take_of_length_le (Nat.le_of_eq HW.out), List.take_of_length_le (Nat.le_succ _), Int.one_mul] at h1
         have h2 := HRE.out
         have h3 := val_lt hD2.r.lim
         have h4 := val_nonneg hD2.r.lim
         have h6 := val_nonneg LY.out
         have h7 := val_lt hD1.r.lim
         rw [hw.out] at h3
         rw [HW.out] at h7
         have h5 := p_pos (ys.length + 1)
         show _ = _
         by_cases hc : cr = 0
         ·subst hc; simp at h1; omega
         ·obtain rfl : cr = 1 := by omega
          omega
        obtain ⟨g5, g6⟩ := hD2.cellQ hq32
        have hor := or_bit_walk (hD2.q.lim.get (i / 32)) (Nat.mod_lt i (by decide)) HFREE.out
        have D4 := hD2.setQ hq32 (or_bit_lt (hD2.q.lim.get (i / 32)) (Nat.mod_lt i (by decide)) HFREE.out)
        have B4 := hB2.setCell (p := ⟨w.heap.size, i / 32, none⟩) (Nat.le_refl _) (.int .u32 (qs[i / 32]?.getD 0 + 2 ^ (i % 32)))
        have NX2 : Hid (DivAt (val xs) (val ys) i (val (qs.set (i / 32) (qs[i / 32]?.getD 0 + 2 ^ (i % 32)))) (val us)) := by
         rw [set_bit (by rw [hD2.ql]; exact hq32), hV2.out]
         exact NX.out
        clear he hw e2 hD2 hB2 NX HRE HFREE hV2 hV hat
        generalize qs[i / 32]?.getD 0 = Y at *
        go_wp2
        go_roundw
        case rel => exact ⟨i, _, us, by omega, by go_num, D4, NX2, B4⟩
        case measure => simp [intOf]
     ·rw [decide_eq_false hre]
      have NX : Hid (DivAt (val xs) (val ys) i (val qs) (val ws)) := by
       have := hat.out.no HB.out (by rw [HBIT.out, ← hV.out]; exact hre)
       rw [HBIT.out, ← hV.out] at this
       exact this
      clear hre
      go_wp2
      go_roundw
      case rel => exact ⟨i, qs, ws, by omega, by go_num, hD1.drewN n, NX, below_drewN hB1 n⟩
      case measure => simp [intOf]
open Go.RowKit

theorem field_mags (w : World) (g : Bool) (a : Option Addr) (n c : Nat) : Sem.run Tryz.prog (Instr.field 30 (Value.agg #[Value.bool g, Value.slice a n c]) 1) w = .ok (.slice a n c) w := by kernel_rfl
theorem low_sg (g : Bool) (x y : Int) : sg g (x / (Int.gcd x y : Int)) = sg g x / (Int.gcd x y : Int) := by
 cases g
 ·rfl
 ·have hd : (Int.gcd x y : Int) ∣ x := Int.gcd_dvd_left _ _
  simp only [sg, if_true]
  exact (Int.neg_ediv_of_dvd hd).symm

set_option maxRecDepth 20000 in
set_option maxHeartbeats 4000000 in
theorem l2LowestC (g h : Bool) (a b : Option Addr) (c d : Nat) (ns ds : List Int) (w : World) (h1 : Sees w a c ns) (h2 : Sees w b d ds) (e1 : Nrm ns) (e2 : Nrm ds) (hne : ds ≠ []) (l1 : ns.length ≤ 1048575) (l2 : ds.length ≤ 1048575) :
  Calls Tryz.prog 67 #[.agg #[.bool g, .slice a ns.length c], .agg #[.bool h, .slice b ds.length d]] w fun e w' => ∃ v, e = .returned v ∧ IsFrac w.heap.size w' v (sg g (val ns) / Int.gcd (val ns) (val ds)) (val ds / Int.gcd (val ns) (val ds)) ∧ Below w.heap.size w w' := by
 have B0 := below3 w (.cells #[.bool g, .slice a ns.length c] 30) (.cells #[.bool h, .slice b ds.length d] 30) (.cells #[.bool false, .slice none 0 0, .bool false, .slice none 0 0] 32)
 have W0 : ∀ W, W = ((w.alloc (.cells #[.bool g, .slice a ns.length c] 30)).alloc (.cells #[.bool h, .slice b ds.length d] 30)).alloc (.cells #[.bool false, .slice none 0 0, .bool false, .slice none 0 0] 32) →
   (W.cell? ⟨w.heap.size, 0, none⟩ = some (.bool g) ∧ W.cell? ⟨w.heap.size, 1, none⟩ = some (.slice a ns.length c) ∧ W.cell? ⟨w.heap.size + 1, 1, none⟩ = some (.slice b ds.length d)) ∧
   (W.cell? ⟨w.heap.size + 2, 0, none⟩ = some (.bool false) ∧ W.cell? ⟨w.heap.size + 2, 1, none⟩ = some (.slice none 0 0) ∧ W.cell? ⟨w.heap.size + 2, 2, none⟩ = some (.bool false) ∧ W.cell? ⟨w.heap.size + 2, 3, none⟩ = some (.slice none 0 0)) ∧
   (∀ o, W.frozen? ⟨w.heap.size + 2, o, none⟩ = false) ∧ W.heap.size = w.heap.size + 3 := by
  rintro W rfl
  exact ⟨⟨by simp [go_sem], by simp [go_sem], by simp [go_sem]⟩, ⟨by simp [go_sem], by simp [go_sem], by simp [go_sem], by simp [go_sem]⟩, fun o => by simp [go_sem], by simp⟩
 obtain ⟨⟨b0, b1, b2⟩, ⟨y0, y1, y2, y3⟩, fy, szW⟩ := W0 _ rfl
 have k1 := h1.below B0
 have k2 := h2.below B0
 have vd := val_pos h2.lim e2 hne
 obtain ⟨G, hG⟩ : ∃ G, Hid (Int.gcd (val ns) (val ds) = G) := ⟨_, rfl⟩
 have hGp : 0 < G := by rw [← hG.out]; exact Int.gcd_pos_of_ne_zero_right _ (by omega)
 have LS : Hid (sg g (val ns / (G : Int)) = sg g (val ns) / (G : Int)) := by show _ = _; rw [← hG.out]; exact low_sg g _ _
 rw [hG.out]
 clear h1 h2 W0 vd
 go_enter Tryz.func67, Tryz.ntmps67
 go_wp2_with fail
 generalize ((w.alloc (.cells #[.bool g, .slice a ns.length c] 30)).alloc (.cells #[.bool h, .slice b ds.length d] 30)).alloc (.cells #[.bool false, .slice none 0 0, .bool false, .slice none 0 0] 32) = W at *
 go_loopg [5, 6] (val ns).toNat (fun kk s5 s6 wr => ∃ a5 c5 a6 c6 us vs, s5 = .slice a5 us.length c5 ∧ s6 = .slice a6 vs.length c6 ∧ Sees wr a5 c5 us ∧ Sees wr a6 c6 vs ∧ Hid (Nrm us ∧ Nrm vs ∧ us.length ≤ 1048575 ∧ vs.length ≤ 1048575 ∧ kk = (val vs).toNat ∧ Int.gcd (val us) (val vs) = G) ∧ Below W.heap.size W wr)
 case atStart => exact ⟨b, d, a, c, ds, ns, rfl, rfl, k2, k1, ⟨e2, e1, l2, l1, rfl, by rw [Int.gcd_comm]; exact hG.out⟩, Below.refl _ _⟩
 case round =>
  obtain ⟨a5, c5, a6, c6, us, vs, rfl, rfl, su, sv, hI, hB⟩ := hrel
  have mu : us.length ≤ 4611686018427387900 := by have := hI.out.2.2.1; omega
  have mv : vs.length ≤ 4611686018427387900 := by have := hI.out.2.2.2.1; omega
  by_cases h0 : vs = []
  ·subst h0
   have EV : Hid (val us = (G : Int)) := by
    have e := hI.out.2.2.2.2.2
    show val us = (G : Int)
    rw [← e]
    show _ = ((Int.gcd (val us) 0 : Nat) : Int)
    rw [Int.gcd_zero_right]
    exact (Int.natAbs_of_nonneg (val_nonneg su.lim)).symm
   have VP : Hid (0 < val us) := by show _ < _; rw [EV.out]; omega
   have hz : (([] : List Int).length : Int) = 0 := rfl
   have s1 := k1.below hB
   have s2 := k2.below hB
   have B1 := B0.trans (hB.mono B0.size)
   replace b0 := bat hB b0
   replace b1 := bat hB b1
   replace b2 := bat hB b2
   replace y0 := bat hB y0
   replace y1 := bat hB y1
   replace y2 := bat hB y2
   replace y3 := bat hB y3
   have fy1 : ∀ o, wr.frozen? ⟨w.heap.size + 2, o, none⟩ = false := fun o => (hB.frozen (p := ⟨w.heap.size + 2, o, none⟩) (by dsimp only; omega)).trans (fy o)
   have sz1 : w.heap.size + 3 ≤ wr.heap.size := by have := hB.size; omega
   clear hB k1 k2 sv fy
   go_wp2_with fail
   refine (l1DivMagC a a5 c c5 ns us _ s1 su (by omega) (by have := hI.out.2.2.1; omega) VP.out).mono ?_
   rintro e w2 ⟨rb, qs, rs, rfl, hD, vq, vr, hb2⟩
   have VQ : Hid (val qs = val ns / (G : Int)) := by show _ = _; rw [vq, EV.out]
   have LQ : Hid (qs.length = ns.length) := hD.ql
   have oq := hD.q
   replace b0 := bat hb2 b0
   replace b2 := bat hb2 b2
   replace y0 := bat hb2 y0
   replace y1 := bat hb2 y1
   replace y2 := bat hb2 y2
   replace y3 := bat hb2 y3
   have fy2 : ∀ o, w2.frozen? ⟨w.heap.size + 2, o, none⟩ = false := fun o => (hb2.frozen (p := ⟨w.heap.size + 2, o, none⟩) (by dsimp only; omega)).trans (fy1 o)
   have sz2 : w.heap.size + 3 ≤ w2.heap.size := Nat.le_trans sz1 hb2.size
   have s3 := s2.below hb2
   have s4 := su.below hb2
   have B2 := B1.trans (hb2.mono B1.size)
   clear vq vr hD hb2 s1 s2 su fy1 b1 B1
   go_wp2_with fail
   refine (l1DivMagC b a5 d c5 ds us _ s3 s4 (by omega) (by have := hI.out.2.2.1; omega) VP.out).mono ?_
   rintro e w3 ⟨rb2, qs2, rs2, rfl, hD, vq, vr, hb3⟩
   have VQ2 : Hid (val qs2 = val ds / (G : Int)) := by show _ = _; rw [vq, EV.out]
   have LQ2 : Hid (qs2.length = ds.length) := hD.ql
   have oq2 := hD.q
   have oq' := oq.below hb3
   replace b0 := bat hb3 b0
   replace y0 := bat hb3 y0
   replace y1 := bat hb3 y1
   replace y2 := bat hb3 y2
   replace y3 := bat hb3 y3
   have fy3 : ∀ o, w3.frozen? ⟨w.heap.size + 2, o, none⟩ = false := fun o => (hb3.frozen (p := ⟨w.heap.size + 2, o, none⟩) (by dsimp only; omega)).trans (fy2 o)
   have sz3 : w.heap.size + 3 ≤ w3.heap.size := Nat.le_trans sz2 hb3.size
   have B3 := B2.trans (hb3.mono B2.size)
   clear vq vr hD hb3 s3 s4 fy2 b2 oq B2
   go_wp2_with fail
   have hq := l1NumC g (some ⟨wr.heap.size, 0, none⟩) ns.length qs w3 oq'.toSees (by rw [LQ.out]; omega)
   rw [LQ.out, VQ.out, LS.out] at hq
   refine hq.mono ?_
   clear hq
   rintro e w4 ⟨v, rfl, hI4, hb4⟩
   obtain ⟨a7, c7, ps, rfl, o7, n7, v7⟩ := hI4
   obtain ⟨f7, hf7⟩ : ∃ f, Hid (decide (sg g (val ns) / (G : Int) < 0) = f) := ⟨_, rfl⟩
   rw [hf7.out]
   replace y0 := bat hb4 y0
   replace y1 := bat hb4 y1
   replace y2 := bat hb4 y2
   replace y3 := bat hb4 y3
   have fy4 : ∀ o, w4.frozen? ⟨w.heap.size + 2, o, none⟩ = false := fun o => (hb4.frozen (p := ⟨w.heap.size + 2, o, none⟩) (by dsimp only; omega)).trans (fy3 o)
   have sz4 : w.heap.size + 3 ≤ w4.heap.size := Nat.le_trans sz3 hb4.size
   have oq2' := oq2.below hb4
   have B4 := B3.trans (hb4.mono B3.size)
   have H7 : Hid (Nrm ps ∧ val ps = mg (sg g (val ns) / (G : Int))) := ⟨n7, v7⟩
   clear hb4 oq' fy3 b0 n7 v7 oq2 B3
   go_wp2_with fail
   have hq := l1NumC false (some ⟨w2.heap.size, 0, none⟩) ds.length qs2 w4 oq2'.toSees (by rw [LQ2.out]; omega)
   rw [LQ2.out, VQ2.out] at hq
   refine hq.mono ?_
   clear hq
   rintro e w5 ⟨v, rfl, hI5, hb5⟩
   obtain ⟨a8, c8, ts, rfl, o8, n8, v8⟩ := hI5
   have ef : sg false (val ds / (G : Int)) = val ds / (G : Int) := rfl
   rw [ef] at v8
   rw [ef]
   obtain ⟨f8, hf8⟩ : ∃ f, Hid (decide (val ds / (G : Int) < 0) = f) := ⟨_, rfl⟩
   rw [hf8.out]
   replace y0 := bat hb5 y0
   replace y1 := bat hb5 y1
   replace y2 := bat hb5 y2
   replace y3 := bat hb5 y3
   have fy5 : ∀ o, w5.frozen? ⟨w.heap.size + 2, o, none⟩ = false := fun o => (hb5.frozen (p := ⟨w.heap.size + 2, o, none⟩) (by dsimp only; omega)).trans (fy4 o)
   have B5 := B4.trans (hb5.mono B4.size)
   have IF : IsFrac (w.heap.size + 3) w5 (.agg #[.bool f7, .slice a7 ps.length c7, .bool f8, .slice a8 ts.length c8]) (sg g (val ns) / (G : Int)) (val ds / (G : Int)) :=
    ⟨a7, c7, ps, a8, c8, ts, by rw [hf7.out, hf8.out], (o7.below hb5).base_le sz3, o8.base_le sz4, H7.out.1, n8, H7.out.2, v8, fun q off q1 q2 q3 => row_ne_low o8 (o7.lt q1 q2) q3.symm⟩
   have JP := IF.put (b := w.heap.size + 2) (b0 := w.heap.size) (by omega) (by omega) (.bool f7) (.slice a7 ps.length c7) (.bool f8) (.slice a8 ts.length c8)
   have BP := below_put4 (b := w.heap.size + 2) B5 (by omega) (.bool f7) (.slice a7 ps.length c7) (.bool f8) (.slice a8 ts.length c8)
   clear hb5 oq2' fy4 n8 v8 o7 o8 IF H7 B4 B5 hI EV VP
   go_wp2
   exact bodyPost_ret (v := .agg #[.bool f7, .slice a7 ps.length c7, .bool f8, .slice a8 ts.length c8]) (by simp [results, Tryz.results67, go_sem, y0, y1, y2, y3]) rfl ⟨_, rfl, JP, BP⟩
  ·have hp : (0 : Int) < vs.length := by have := List.length_pos_iff.2 h0; omega
   have VP : Hid (0 < val vs) := val_pos sv.lim hI.out.2.1 h0
   clear k1 k2 b0 b1 b2 y0 y1 y2 y3 fy LS
   go_wp2_with fail
   refine (l1DivMagC a5 a6 c5 c6 us vs _ su sv (by have := hI.out.2.2.1; omega) (by have := hI.out.2.2.2.1; omega) VP.out).mono ?_
   rintro e w3 ⟨rb, qs, rs, rfl, hD, vq, vr, hb3⟩
   have VR : Hid (val rs = val us % val vs) := vr
   have RL : Hid (rs.length = vs.length + 1) := hD.rl
   clear vq vr
   go_wp2_with fail
   have hq := l1NumC false (some ⟨rb, 0, none⟩) (vs.length + 1) rs w3 hD.r.toSees (by rw [RL.out]; have := hI.out.2.2.2.1; omega)
   rw [RL.out] at hq
   refine hq.mono ?_
   clear hq
   rintro e w4 ⟨v, rfl, hI4, hb4⟩
   obtain ⟨a7, c7, rs2, rfl, ho, hn, hv⟩ := hI4
   have hv2 : val rs2 = val us % val vs := by
    rw [hv, mg_sg (val_nonneg hD.r.lim), VR.out]
   have hlt := Int.emod_lt_of_pos (val us) VP.out
   have hge := val_nonneg ho.lim
   have hl := len_le_of_val sv.lim ho.lim hn (by omega)
   have NI : Hid (Nrm vs ∧ Nrm rs2 ∧ vs.length ≤ 1048575 ∧ rs2.length ≤ 1048575 ∧ Int.gcd (val vs) (val rs2) = G) := ⟨hI.out.2.1, hn, hI.out.2.2.2.1, by have := hI.out.2.2.2.1; omega, by rw [hv2, gcd_step (val_nonneg su.lim)]; exact hI.out.2.2.2.2.2⟩
   have hm : (val rs2).toNat < gk := by rw [hI.out.2.2.2.2.1]; omega
   have B4 := (hB.trans (hb3.mono hB.size)).trans (hb4.mono (Nat.le_trans hB.size hb3.size))
   have sv2 := (sv.below hb3).below hb4
   have sr2 := ho.toSees
   generalize decide (sg false (val rs) < 0) = gg at *
   clear hb3 hb4 hB su sv ho hI hn hv hv2 hl hge hlt hD VR RL
   have hfd := fun w => field_mags w gg a7 rs2.length c7
   go_wp2
   go_roundg (val rs2).toNat
   case measure => exact hm
   case rel => exact ⟨a6, c6, a7, c7, vs, rs2, rfl, rfl, sv2, sr2, ⟨NI.out.1, NI.out.2.1, NI.out.2.2.1, NI.out.2.2.2.1, rfl, NI.out.2.2.2.2⟩, B4⟩
end Go.Proofs.YtnjbedhealpgcaaGreat
