import Derived.Test.YthafgldgidmnlaaGreatMulA
import Derived.Test.YthafgldgidmnlaaGreatEq
/- The specification's products of limbs: l1MulMag. -/
namespace Go.Proofs.YthafgldgidmnlaaGreat
open Go.RowKit

set_option maxHeartbeats 2000000 in
theorem l1MulMagC (a b : Option Addr) (c d : Nat) (xs ys : List Int) (w : World) (h : Sees w a c xs) (k : Sees w b d ys) (hx : xs.length + ys.length ≤ 1048576) :
    Calls Tryz.prog 75 #[.slice a xs.length c, .slice b ys.length d] w fun e w' => ∃ a' c' zs, e = .returned (.slice a' zs.length c') ∧ Own w.heap.size w' a' c' zs ∧ val zs = val xs * val ys ∧ zs.length = xs.length + ys.length ∧ Below w.heap.size w w' := by
  obtain ⟨i0, hi, hz0, hz1, hz2⟩ := info_parts infoU
  have HX : Hid (xs.length + ys.length ≤ 1048576) := hx
  have mx : xs.length ≤ 4611686018427387900 := by omega
  have my : ys.length ≤ 4611686018427387900 := by omega
  clear hx
  go_enter Tryz.func75, Tryz.ntmps75
  go_wp2_with (at_make; refine wpList_make_full _ rfl _ _ 25 rfl w.heap.size 81 i0 (.int .u32 0) 1 Tryz.underlying25 hi hz0 hz1 .i64 .i64 _ _ (xs.length + ys.length) rfl rfl ?m1 ?m2 ?b2 ?b3 (Nat.le_refl _) ?_; (case m1 => omega); (case m2 => omega); (case b2 => rw [hz2]; have := HX.out; omega); (case b3 => have := HX.out; unfold maxLen; omega); intro w0 hown0 hgrow0; rw [made_list] at hown0; have ho := (Own.of_row (xs := List.replicate (xs.length + ys.length) 0) (by rw [List.map_replicate]; exact hown0) (Lim.zeros _)).1; have hb0 : Below w.heap.size w w0 := ((Below.refl _ _).grown hgrow0 (Nat.le_refl _) (fun k h => by cases h)); clear hown0 hgrow0)
  have HN : Hid (xs.length + ys.length ≤ maxLen) := by have := HX.out; show _ ≤ _; unfold maxLen; omega
  have LX : Hid (Lim xs) := h.lim
  have LY : Hid (Lim ys) := k.lim
  clear hi hz0 hz1 hz2
  go_loopw [6] (fun s wr => ∃ (i : Nat) (zs : List Int), i ≤ xs.length ∧ s = .int .i64 i ∧ Own w.heap.size wr (some ⟨w.heap.size, 0, none⟩) (xs.length + ys.length) zs ∧ Hid (MulAt xs ys i zs) ∧ Below w.heap.size w wr) (fun s _ => xs.length - (intOf s).toNat)
  case atStart => exact ⟨0, _, Nat.zero_le _, rfl, ho, MulAt.start xs ys, hb0⟩
  case round =>
    obtain ⟨i, zs, hil, rfl, hown, hat, hB⟩ := hrel
    clear ho hb0
    by_cases hlt : i < xs.length
    · have hxs := h.below hB
      obtain ⟨b1, o1, rfl, hc1⟩ := hxs.cells (by intro e; simp [e] at hlt)
      have g1 := hc1 i hlt
      have hxb := LX.out.get i
      have HIN : Hid (MulIn xs ys i 0 0 zs) := hat.out.into
      clear hc1 hxs hat
      obtain ⟨x, hxe⟩ : ∃ x, Hid (xs[i]?.getD 0 = x) := ⟨_, rfl⟩
      rw [hxe.out] at g1 hxb
      obtain ⟨x0, x1⟩ := hxb
      go_wp2
      go_loopw [7, 8] (fun q s wi => ∃ (j : Nat) (cr : Int) (zs' : List Int), j ≤ ys.length ∧ s = .int .i64 j ∧ q = .int .u64 cr ∧ 0 ≤ cr ∧ cr < 4294967296 ∧ Own w.heap.size wi (some ⟨w.heap.size, 0, none⟩) (xs.length + ys.length) zs' ∧ Hid (MulIn xs ys i j cr zs') ∧ Below w.heap.size w wi) (fun _ s _ => ys.length - (intOf s).toNat)
      case atStart => exact ⟨0, 0, zs, Nat.zero_le _, rfl, rfl, by decide, by decide, hown, HIN, hB⟩
      case round =>
        obtain ⟨j, cr, zs', hjl, rfl, rfl, c0, c1, hown', hin, hB'⟩ := hrel
        clear hown HIN hB g1
        have hne : zs' ≠ [] := by intro e; have := hin.out.1; rw [e] at this; simp at this; omega
        obtain ⟨b2, o2, e2, hc⟩ := hown'.cells hne
        simp only [Option.some.injEq, Addr.mk.injEq] at e2
        obtain ⟨rfl, rfl, _⟩ := e2
        have hlen : Hid (zs'.length = xs.length + ys.length) := hin.out.1
        by_cases hjt : j < ys.length
        · have hys := k.below hB'
          obtain ⟨b3, o3, rfl, hc3⟩ := hys.cells (by intro e; simp [e] at hjt)
          have g3 := hc3 j hjt
          have g4 := hc (i + j) (by rw [hlen.out]; omega)
          have g5 := (hown'.new _ _ rfl hne).2 (i + j) (by rw [hlen.out]; omega)
          simp only [Nat.zero_add] at g4 g5
          have g6 : wr.cell? ⟨b1, o1 + i, none⟩ = some (.int .u32 x) := by
            obtain ⟨bb, oo, ee, hcc⟩ := (h.below hB').cells (by intro e; simp [e] at hlt)
            simp only [Option.some.injEq, Addr.mk.injEq] at ee
            obtain ⟨rfl, rfl, _⟩ := ee
            have := hcc i hlt
            rw [hxe.out] at this
            exact this
          have hyb := LY.out.get j
          have hzb := hown'.lim.get (i + j)
          have HST := fun s hs => hin.out.step (s := s) hlt hjt hs
          rw [hxe.out] at HST
          have hst := fun v hv => hown'.store (j := i + j) rfl (by rw [hlen.out]; omega) (v := v) hv
          simp only [Nat.zero_add] at hst
          have hbs := fun u => hB'.setCell (p := ⟨w.heap.size, i + j, none⟩) (Nat.le_refl _) u
          have LM := mul_limb ⟨x0, x1⟩ hyb hzb ⟨c0, c1⟩
          clear hc hc3 hys hin hown' hB' hne h k hlen
          generalize ys[j]?.getD 0 = y at *
          generalize zs'[i + j]?.getD 0 = z at *
          obtain ⟨y0, y1⟩ := hyb
          obtain ⟨z0, z1⟩ := hzb
          obtain ⟨l0, l1, l2, l3⟩ := LM
          have M1 : Hid (MulIn xs ys i (j + 1) ((x * y + z + cr) / 4294967296) (zs'.set (i + j) ((x * y + z + cr) % 4294967296))) := HST _ rfl
          have O1 := hst ((x * y + z + cr) % 4294967296) (by omega)
          have B1 := hbs (.int .u32 ((x * y + z + cr) % 4294967296))
          clear HST hst hbs
          go_wp2
          go_quiet (fail)
          go_wp2
          go_roundw
          case rel => exact ⟨j + 1, _, _, by omega, by go_num, rfl, l2, l3, O1.below (below_drewN (Below.refl _ _) nq), M1, below_drewN B1 nq⟩
          case measure => simp [intOf]; omega
        · obtain rfl : j = ys.length := by omega
          have g4 := hc (i + ys.length) (by rw [hlen.out]; omega)
          have g5 := (hown'.new _ _ rfl hne).2 (i + ys.length) (by rw [hlen.out]; omega)
          simp only [Nat.zero_add] at g4 g5
          have O1 := hown'.store (j := i + ys.length) rfl (by rw [hlen.out]; omega) (v := cr) ⟨c0, c1⟩
          simp only [Nat.zero_add] at O1
          have B1 := hB'.setCell (p := ⟨w.heap.size, i + ys.length, none⟩) (Nat.le_refl _) (.int .u32 cr)
          have M1 : Hid (MulAt xs ys (i + 1) (zs'.set (i + ys.length) cr)) := hin.out.out hlt
          clear hc hin hown' hB' hne h k hlen
          generalize zs'[i + ys.length]?.getD 0 = z at *
          go_wp2
          go_roundw
          case rel => exact ⟨i + 1, _, by omega, by go_num, O1, M1, B1⟩
          case measure => simp [intOf]; omega
    · obtain rfl : i = xs.length := by omega
      have HL : Hid (zs.length = xs.length + ys.length) := hat.out.1
      go_wp2
      go_ret
      refine ⟨_, _, zs, by rw [HL.out]; rfl, hown, ?_, HL.out, hB⟩
      rw [hat.out.2.1, List.take_length]
end Go.Proofs.YthafgldgidmnlaaGreat

/- The specification's comparing of limbs: spec.l1CmpMag. -/
namespace Go.Proofs.YthafgldgidmnlaaGreat
open Go.RowKit

set_option maxHeartbeats 1000000 in
theorem l1CmpMagC (a b : Option Addr) (c d : Nat) (xs ys : List Int) (w : World) (h : Sees w a c xs) (k : Sees w b d ys) (nx : Nrm xs) (ny : Nrm ys) :
    Calls Tryz.prog 77 #[.slice a xs.length c, .slice b ys.length d] w fun e w' => e = .returned (.int .i64 (cmpZ (val xs) (val ys))) ∧ ∃ n, w' = w.drewN n := by
  have hm := h.max
  have hf := h.fits
  have hm2 := k.max
  have hf2 := k.fits
  unfold maxLen at hm hm2
  by_cases hl : xs.length = ys.length
  · have HL : Hid (xs.length = ys.length) := hl
    have HX : Hid (Lim xs ∧ Nrm xs) := ⟨h.lim, nx⟩
    have HY : Hid (Lim ys ∧ Nrm ys) := ⟨k.lim, ny⟩
    rw [← hl]
    rw [← hl] at hf2
    clear hl nx ny
    go_enter Tryz.func77, Tryz.ntmps77
    go_wp2
    go_loopw [5] (fun i wr => ∃ (j n : Nat), j ≤ xs.length ∧ i = .int .i64 ((j : Int) - 1) ∧ wr = w.drewN n ∧ Hid (xs.drop j = ys.drop j)) (fun i _ => (intOf i + 1).toNat)
    case atStart => exact ⟨xs.length, 0, Nat.le_refl _, rfl, rfl, by show _ = _; rw [List.drop_eq_nil_of_le (Nat.le_refl _), List.drop_eq_nil_of_le (by rw [HL.out]; exact Nat.le_refl _)]⟩
    case round =>
      obtain ⟨j, n, hj, rfl, rfl, he⟩ := hrel
      by_cases h0 : j = 0
      · subst h0
        have E : Hid (cmpZ (val xs) (val ys) = 0) := by
          have := he.out
          simp only [List.drop_zero] at this
          show _ = _
          rw [this]; simp [cmpZ]
        clear he
        go_wp2
        go_ret
        exact ⟨by rw [E.out]; rfl, n, rfl⟩
      · have hne : xs ≠ [] := by intro e; simp [e] at hj; omega
        have hne' : ys ≠ [] := by intro e; have := HL.out; rw [e] at this; simp at this; exact hne this
        obtain ⟨b1, o1, rfl, hc1⟩ := h.cells hne
        obtain ⟨b2, o2, rfl, hc2⟩ := k.cells hne'
        have g1 := hc1 (j - 1) (by omega)
        have g2 := hc2 (j - 1) (by have := HL.out; omega)
        have hp : 0 < j := by omega
        have hsub : j - 1 + 1 = j := by omega
        rcases Int.lt_trichotomy (xs[j - 1]?.getD 0) (ys[j - 1]?.getD 0) with hlt | heq | hgt
        · have E : Hid (cmpZ (val xs) (val ys) = -1) := by
            have := cmp_at (j := j - 1) HX.out.1 HY.out.1 HL.out (by omega) (by rw [hsub]; exact he.out) hlt
            show _ = _
            unfold cmpZ; rw [if_pos this]
          clear hc1 hc2 h k he hsub
          generalize xs[j - 1]?.getD 0 = x at *
          generalize ys[j - 1]?.getD 0 = y at *
          go_wp2
          go_quiet (fail)
          go_wp2
          go_ret
          exact ⟨by rw [E.out]; rfl, _, by rw [World.drewN_drewN]⟩
        · have E : Hid (xs.drop (j - 1) = ys.drop (j - 1)) := drop_step HL.out (by rw [hsub]; exact he.out) heq
          rw [heq] at g1
          clear hc1 hc2 h k he hsub heq
          generalize ys[j - 1]?.getD 0 = y at *
          have hd1 : decide (y < y) = false := by simp
          go_wp2
          go_quiet (fail)
          go_wp2
          go_quiet (fail)
          go_wp2
          go_roundw
          case rel => exact ⟨j - 1, _, by omega, by go_num, rfl, E⟩
          case measure => simp [intOf]; omega
        · have E : Hid (cmpZ (val xs) (val ys) = 1) := by
            have := cmp_at (j := j - 1) HY.out.1 HX.out.1 HL.out.symm (by have := HL.out; omega) (by rw [hsub]; exact he.out.symm) hgt
            show _ = _
            unfold cmpZ; rw [if_neg (by omega), if_neg (by omega)]
          have hge : ¬ xs[j - 1]?.getD 0 < ys[j - 1]?.getD 0 := by omega
          have hdd : decide (xs[j - 1]?.getD 0 < ys[j - 1]?.getD 0) = false := by simp; omega
          clear hc1 hc2 h k he hsub
          generalize xs[j - 1]?.getD 0 = x at *
          generalize ys[j - 1]?.getD 0 = y at *
          go_wp2
          go_quiet (fail)
          go_wp2
          go_quiet (fail)
          go_wp2
          go_ret
          exact ⟨by rw [E.out]; rfl, _, by rw [World.drewN_drewN, World.drewN_drewN]⟩
  · have hne : ((xs.length : Int) != (ys.length : Int)) = true := by simp; omega
    by_cases hlt : xs.length < ys.length
    · have E : Hid (cmpZ (val xs) (val ys) = -1) := by
        have := cmp_len h.lim k.lim ny hlt
        show _ = _
        unfold cmpZ; rw [if_pos this]
      clear h k nx ny hl
      go_enter Tryz.func77, Tryz.ntmps77
      go_wp2
      go_ret
      exact ⟨by rw [E.out]; rfl, 0, rfl⟩
    · have E : Hid (cmpZ (val xs) (val ys) = 1) := by
        have := cmp_len k.lim h.lim nx (by omega)
        show _ = _
        unfold cmpZ; rw [if_neg (by omega), if_neg (by omega)]
      clear h k nx ny hl
      go_enter Tryz.func77, Tryz.ntmps77
      go_wp2
      go_ret
      exact ⟨by rw [E.out]; rfl, 0, rfl⟩
end Go.Proofs.YthafgldgidmnlaaGreat

/- The specification's sums of numbers: l1Add. -/
namespace Go.Proofs.YthafgldgidmnlaaGreat
open Go.RowKit

set_option maxHeartbeats 1000000 in
theorem l1Add_same (n : Bool) (a b : Option Addr) (c d : Nat) (xs ys : List Int) (w : World) (h : Sees w a c xs) (k : Sees w b d ys) (hx : xs.length ≤ 1048576) (hy : ys.length ≤ 1048576) :
    Calls Tryz.prog 61 #[.bool n, .slice a xs.length c, .bool n, .slice b ys.length d] w fun e w' => ∃ v, e = .returned v ∧ IsNum w.heap.size w' v (sg n (val xs) + sg n (val ys)) ∧ Below w.heap.size w w' := by
  have HX : Hid (xs.length ≤ 1048576) := hx
  have HY : Hid (ys.length ≤ 1048576) := hy
  clear hx hy
  rcases n with _ | _
  · go_enter Tryz.func61, Tryz.ntmps61
    go_wp2_with fail
    refine (l1AddMagC a b c d xs ys _ (h.below (below1 _ _)) (k.below (below1 _ _)) HX.out HY.out).mono ?_
    rintro e w2 ⟨a2, c2, zs, rfl, ho, hv, hl, hb⟩
    obtain ⟨q3, q4⟩ := at_block hb (b := w.heap.size) (by simp)
    have hs2 := hb.size
    simp only [World.size_alloc] at hs2
    have B2 := (below1 w _).trans (hb.mono (by simp))
    have E : Hid (sg false (val zs) = sg false (val xs) + sg false (val ys)) := by show _ = _; rw [hv]; simp only [sg]; simp <;> omega
    have HZ : Hid (zs.length ≤ 2097152) := by have := HX.out; have := HY.out; show _ ≤ _; omega
    clear hb hv hl
    go_wp2_with fail
    refine (l1NumC false a2 c2 zs _ ho.toSees HZ.out).mono ?_
    rintro e w3 ⟨v, rfl, hI, hb⟩
    replace hI := hI.eq E.out
    obtain ⟨g5, a5, l5, c5, rfl⟩ := hI.shape
    have hs3 := hb.size
    replace hI := hI.base_le (show w.heap.size + 1 ≤ _ from hs2)
    have B3 := B2.trans (hb.mono (Nat.le_trans (Nat.le_succ _) hs2))
    have q5 := fun o => (hb.cell (p := ⟨w.heap.size, o, none⟩) (by show w.heap.size < _; omega)).trans (q3 o)
    have q6 := fun o => (hb.frozen (p := ⟨w.heap.size, o, none⟩) (by show w.heap.size < _; omega)).trans (q4 o)
    have z3 : w.heap.size < w3.heap.size := by omega
    clear hb q3 q4 E B2
    go_wp2
    exact bodyPost_ret (v := .agg #[.bool g5, .slice a5 l5 c5]) (by simp [results, Tryz.results61, go_sem, q5]) rfl ⟨_, rfl, hI.put (by omega), below_put B3 _ _⟩
  · go_enter Tryz.func61, Tryz.ntmps61
    go_wp2_with fail
    refine (l1AddMagC a b c d xs ys _ (h.below (below1 _ _)) (k.below (below1 _ _)) HX.out HY.out).mono ?_
    rintro e w2 ⟨a2, c2, zs, rfl, ho, hv, hl, hb⟩
    obtain ⟨q3, q4⟩ := at_block hb (b := w.heap.size) (by simp)
    have hs2 := hb.size
    simp only [World.size_alloc] at hs2
    have B2 := (below1 w _).trans (hb.mono (by simp))
    have E : Hid (sg true (val zs) = sg true (val xs) + sg true (val ys)) := by show _ = _; rw [hv]; simp only [sg]; simp <;> omega
    have HZ : Hid (zs.length ≤ 2097152) := by have := HX.out; have := HY.out; show _ ≤ _; omega
    clear hb hv hl
    go_wp2_with fail
    refine (l1NumC true a2 c2 zs _ ho.toSees HZ.out).mono ?_
    rintro e w3 ⟨v, rfl, hI, hb⟩
    replace hI := hI.eq E.out
    obtain ⟨g5, a5, l5, c5, rfl⟩ := hI.shape
    have hs3 := hb.size
    replace hI := hI.base_le (show w.heap.size + 1 ≤ _ from hs2)
    have B3 := B2.trans (hb.mono (Nat.le_trans (Nat.le_succ _) hs2))
    have q5 := fun o => (hb.cell (p := ⟨w.heap.size, o, none⟩) (by show w.heap.size < _; omega)).trans (q3 o)
    have q6 := fun o => (hb.frozen (p := ⟨w.heap.size, o, none⟩) (by show w.heap.size < _; omega)).trans (q4 o)
    have z3 : w.heap.size < w3.heap.size := by omega
    clear hb q3 q4 E B2
    go_wp2
    exact bodyPost_ret (v := .agg #[.bool g5, .slice a5 l5 c5]) (by simp [results, Tryz.results61, go_sem, q5]) rfl ⟨_, rfl, hI.put (by omega), below_put B3 _ _⟩

set_option maxHeartbeats 1000000 in
theorem l1Add_false (a b : Option Addr) (c d : Nat) (xs ys : List Int) (w : World) (h : Sees w a c xs) (k : Sees w b d ys) (nx : Nrm xs) (ny : Nrm ys) (hx : xs.length ≤ 1048576) (hy : ys.length ≤ 1048576) :
    Calls Tryz.prog 61 #[.bool false, .slice a xs.length c, .bool true, .slice b ys.length d] w fun e w' => ∃ v, e = .returned v ∧ IsNum w.heap.size w' v (sg false (val xs) + sg true (val ys)) ∧ Below w.heap.size w w' := by
  have HX : Hid (xs.length ≤ 1048576) := hx
  have HY : Hid (ys.length ≤ 1048576) := hy
  clear hx hy
  by_cases hc : val xs < val ys
  · have E1 : cmpZ (val xs) (val ys) = -1 := by unfold cmpZ; rw [if_pos hc]
    have hll : xs.length ≤ ys.length := by
      rcases Nat.lt_or_ge ys.length xs.length with h1 | h1
      · exfalso; have := cmp_len k.lim h.lim nx h1; omega
      · exact h1
    have HC : Hid (val xs < val ys) := hc
    clear hc
    go_enter Tryz.func61, Tryz.ntmps61
    go_wp2_with fail
    refine (l1CmpMagC a b c d xs ys _ (h.below (below1 _ _)) (k.below (below1 _ _)) nx ny).mono ?_
    rintro e w1 ⟨rfl, n, rfl⟩
    rw [E1]
    go_wp2_with fail
    have b1 := below_drewN (below1 w (.cells #[.bool false, .slice none 0 0] 37)) n
    refine (l1SubMagC b a d c ys xs _ (k.below b1) (h.below b1) (Nat.le_trans HY.out (by decide)) hll (by have := HC.out; omega)).mono ?_
    rintro e w2 ⟨a2, c2, zs, rfl, ho, hv, hl, hb⟩
    obtain ⟨q3, q4⟩ := at_block hb (b := w.heap.size) (by simp)
    have hs2 := hb.size
    simp only [World.size_alloc, World.heap_drewN] at hs2
    have B2 := b1.trans (hb.mono b1.size)
    have E : Hid (sg true (val zs) = sg false (val xs) + sg true (val ys)) := by show _ = _; rw [hv]; simp only [sg]; simp <;> omega
    have HZ : Hid (zs.length ≤ 2097152) := by have := HY.out; show _ ≤ _; omega
    clear hb hv hl b1
    go_wp2_with fail
    refine (l1NumC true a2 c2 zs _ ho.toSees HZ.out).mono ?_
    rintro e w3 ⟨v, rfl, hI, hb⟩
    replace hI := hI.eq E.out
    obtain ⟨g5, a5, l5, c5, rfl⟩ := hI.shape
    have hs3 := hb.size
    replace hI := hI.base_le (show w.heap.size + 1 ≤ _ from hs2)
    have B3 := B2.trans (hb.mono (Nat.le_trans (Nat.le_succ _) hs2))
    have q5 := fun o => (hb.cell (p := ⟨w.heap.size, o, none⟩) (by show w.heap.size < _; omega)).trans (q3 o)
    have q6 := fun o => (hb.frozen (p := ⟨w.heap.size, o, none⟩) (by show w.heap.size < _; omega)).trans (q4 o)
    have z3 : w.heap.size < w3.heap.size := by omega
    clear hb q3 q4 E B2
    go_wp2
    exact bodyPost_ret (v := .agg #[.bool g5, .slice a5 l5 c5]) (by simp [results, Tryz.results61, go_sem, q5]) rfl ⟨_, rfl, hI.put (by omega), below_put B3 _ _⟩
  · have E1 : 0 ≤ cmpZ (val xs) (val ys) := by unfold cmpZ; rw [if_neg hc]; split <;> decide
    have hll : ys.length ≤ xs.length := by
      rcases Nat.lt_or_ge xs.length ys.length with h1 | h1
      · exfalso; have := cmp_len h.lim k.lim ny h1; omega
      · exact h1
    have HC : Hid (¬ val xs < val ys) := hc
    clear hc
    go_enter Tryz.func61, Tryz.ntmps61
    go_wp2_with fail
    refine (l1CmpMagC a b c d xs ys _ (h.below (below1 _ _)) (k.below (below1 _ _)) nx ny).mono ?_
    rintro e w1 ⟨rfl, n, rfl⟩
    generalize cmpZ (val xs) (val ys) = z at E1 ⊢
    go_wp2_with fail
    have b1 := below_drewN (below1 w (.cells #[.bool false, .slice none 0 0] 37)) n
    refine (l1SubMagC a b c d xs ys _ (h.below b1) (k.below b1) (Nat.le_trans HX.out (by decide)) hll (by have := HC.out; omega)).mono ?_
    rintro e w2 ⟨a2, c2, zs, rfl, ho, hv, hl, hb⟩
    obtain ⟨q3, q4⟩ := at_block hb (b := w.heap.size) (by simp)
    have hs2 := hb.size
    simp only [World.size_alloc, World.heap_drewN] at hs2
    have B2 := b1.trans (hb.mono b1.size)
    have E : Hid (sg false (val zs) = sg false (val xs) + sg true (val ys)) := by show _ = _; rw [hv]; simp only [sg]; simp <;> omega
    have HZ : Hid (zs.length ≤ 2097152) := by have := HX.out; show _ ≤ _; omega
    clear hb hv hl b1
    go_wp2_with fail
    refine (l1NumC false a2 c2 zs _ ho.toSees HZ.out).mono ?_
    rintro e w3 ⟨v, rfl, hI, hb⟩
    replace hI := hI.eq E.out
    obtain ⟨g5, a5, l5, c5, rfl⟩ := hI.shape
    have hs3 := hb.size
    replace hI := hI.base_le (show w.heap.size + 1 ≤ _ from hs2)
    have B3 := B2.trans (hb.mono (Nat.le_trans (Nat.le_succ _) hs2))
    have q5 := fun o => (hb.cell (p := ⟨w.heap.size, o, none⟩) (by show w.heap.size < _; omega)).trans (q3 o)
    have q6 := fun o => (hb.frozen (p := ⟨w.heap.size, o, none⟩) (by show w.heap.size < _; omega)).trans (q4 o)
    have z3 : w.heap.size < w3.heap.size := by omega
    clear hb q3 q4 E B2
    go_wp2
    exact bodyPost_ret (v := .agg #[.bool g5, .slice a5 l5 c5]) (by simp [results, Tryz.results61, go_sem, q5]) rfl ⟨_, rfl, hI.put (by omega), below_put B3 _ _⟩

set_option maxHeartbeats 1000000 in
theorem l1Add_true (a b : Option Addr) (c d : Nat) (xs ys : List Int) (w : World) (h : Sees w a c xs) (k : Sees w b d ys) (nx : Nrm xs) (ny : Nrm ys) (hx : xs.length ≤ 1048576) (hy : ys.length ≤ 1048576) :
    Calls Tryz.prog 61 #[.bool true, .slice a xs.length c, .bool false, .slice b ys.length d] w fun e w' => ∃ v, e = .returned v ∧ IsNum w.heap.size w' v (sg true (val xs) + sg false (val ys)) ∧ Below w.heap.size w w' := by
  have HX : Hid (xs.length ≤ 1048576) := hx
  have HY : Hid (ys.length ≤ 1048576) := hy
  clear hx hy
  by_cases hc : val xs < val ys
  · have E1 : cmpZ (val xs) (val ys) = -1 := by unfold cmpZ; rw [if_pos hc]
    have hll : xs.length ≤ ys.length := by
      rcases Nat.lt_or_ge ys.length xs.length with h1 | h1
      · exfalso; have := cmp_len k.lim h.lim nx h1; omega
      · exact h1
    have HC : Hid (val xs < val ys) := hc
    clear hc
    go_enter Tryz.func61, Tryz.ntmps61
    go_wp2_with fail
    refine (l1CmpMagC a b c d xs ys _ (h.below (below1 _ _)) (k.below (below1 _ _)) nx ny).mono ?_
    rintro e w1 ⟨rfl, n, rfl⟩
    rw [E1]
    go_wp2_with fail
    have b1 := below_drewN (below1 w (.cells #[.bool false, .slice none 0 0] 37)) n
    refine (l1SubMagC b a d c ys xs _ (k.below b1) (h.below b1) (Nat.le_trans HY.out (by decide)) hll (by have := HC.out; omega)).mono ?_
    rintro e w2 ⟨a2, c2, zs, rfl, ho, hv, hl, hb⟩
    obtain ⟨q3, q4⟩ := at_block hb (b := w.heap.size) (by simp)
    have hs2 := hb.size
    simp only [World.size_alloc, World.heap_drewN] at hs2
    have B2 := b1.trans (hb.mono b1.size)
    have E : Hid (sg false (val zs) = sg true (val xs) + sg false (val ys)) := by show _ = _; rw [hv]; simp only [sg]; simp <;> omega
    have HZ : Hid (zs.length ≤ 2097152) := by have := HY.out; show _ ≤ _; omega
    clear hb hv hl b1
    go_wp2_with fail
    refine (l1NumC false a2 c2 zs _ ho.toSees HZ.out).mono ?_
    rintro e w3 ⟨v, rfl, hI, hb⟩
    replace hI := hI.eq E.out
    obtain ⟨g5, a5, l5, c5, rfl⟩ := hI.shape
    have hs3 := hb.size
    replace hI := hI.base_le (show w.heap.size + 1 ≤ _ from hs2)
    have B3 := B2.trans (hb.mono (Nat.le_trans (Nat.le_succ _) hs2))
    have q5 := fun o => (hb.cell (p := ⟨w.heap.size, o, none⟩) (by show w.heap.size < _; omega)).trans (q3 o)
    have q6 := fun o => (hb.frozen (p := ⟨w.heap.size, o, none⟩) (by show w.heap.size < _; omega)).trans (q4 o)
    have z3 : w.heap.size < w3.heap.size := by omega
    clear hb q3 q4 E B2
    go_wp2
    exact bodyPost_ret (v := .agg #[.bool g5, .slice a5 l5 c5]) (by simp [results, Tryz.results61, go_sem, q5]) rfl ⟨_, rfl, hI.put (by omega), below_put B3 _ _⟩
  · have E1 : 0 ≤ cmpZ (val xs) (val ys) := by unfold cmpZ; rw [if_neg hc]; split <;> decide
    have hll : ys.length ≤ xs.length := by
      rcases Nat.lt_or_ge xs.length ys.length with h1 | h1
      · exfalso; have := cmp_len h.lim k.lim ny h1; omega
      · exact h1
    have HC : Hid (¬ val xs < val ys) := hc
    clear hc
    go_enter Tryz.func61, Tryz.ntmps61
    go_wp2_with fail
    refine (l1CmpMagC a b c d xs ys _ (h.below (below1 _ _)) (k.below (below1 _ _)) nx ny).mono ?_
    rintro e w1 ⟨rfl, n, rfl⟩
    generalize cmpZ (val xs) (val ys) = z at E1 ⊢
    go_wp2_with fail
    have b1 := below_drewN (below1 w (.cells #[.bool false, .slice none 0 0] 37)) n
    refine (l1SubMagC a b c d xs ys _ (h.below b1) (k.below b1) (Nat.le_trans HX.out (by decide)) hll (by have := HC.out; omega)).mono ?_
    rintro e w2 ⟨a2, c2, zs, rfl, ho, hv, hl, hb⟩
    obtain ⟨q3, q4⟩ := at_block hb (b := w.heap.size) (by simp)
    have hs2 := hb.size
    simp only [World.size_alloc, World.heap_drewN] at hs2
    have B2 := b1.trans (hb.mono b1.size)
    have E : Hid (sg true (val zs) = sg true (val xs) + sg false (val ys)) := by show _ = _; rw [hv]; simp only [sg]; simp <;> omega
    have HZ : Hid (zs.length ≤ 2097152) := by have := HX.out; show _ ≤ _; omega
    clear hb hv hl b1
    go_wp2_with fail
    refine (l1NumC true a2 c2 zs _ ho.toSees HZ.out).mono ?_
    rintro e w3 ⟨v, rfl, hI, hb⟩
    replace hI := hI.eq E.out
    obtain ⟨g5, a5, l5, c5, rfl⟩ := hI.shape
    have hs3 := hb.size
    replace hI := hI.base_le (show w.heap.size + 1 ≤ _ from hs2)
    have B3 := B2.trans (hb.mono (Nat.le_trans (Nat.le_succ _) hs2))
    have q5 := fun o => (hb.cell (p := ⟨w.heap.size, o, none⟩) (by show w.heap.size < _; omega)).trans (q3 o)
    have q6 := fun o => (hb.frozen (p := ⟨w.heap.size, o, none⟩) (by show w.heap.size < _; omega)).trans (q4 o)
    have z3 : w.heap.size < w3.heap.size := by omega
    clear hb q3 q4 E B2
    go_wp2
    exact bodyPost_ret (v := .agg #[.bool g5, .slice a5 l5 c5]) (by simp [results, Tryz.results61, go_sem, q5]) rfl ⟨_, rfl, hI.put (by omega), below_put B3 _ _⟩

theorem l1AddC (an bn : Bool) (a b : Option Addr) (c d : Nat) (xs ys : List Int) (w : World) (h : Sees w a c xs) (k : Sees w b d ys) (nx : Nrm xs) (ny : Nrm ys) (hx : xs.length ≤ 1048576) (hy : ys.length ≤ 1048576) :
    Calls Tryz.prog 61 #[.bool an, .slice a xs.length c, .bool bn, .slice b ys.length d] w fun e w' => ∃ v, e = .returned v ∧ IsNum w.heap.size w' v (sg an (val xs) + sg bn (val ys)) ∧ Below w.heap.size w w' := by
  rcases an with _ | _ <;> rcases bn with _ | _
  · exact l1Add_same false a b c d xs ys w h k hx hy
  · exact l1Add_false a b c d xs ys w h k nx ny hx hy
  · exact l1Add_true a b c d xs ys w h k nx ny hx hy
  · exact l1Add_same true a b c d xs ys w h k hx hy
end Go.Proofs.YthafgldgidmnlaaGreat
