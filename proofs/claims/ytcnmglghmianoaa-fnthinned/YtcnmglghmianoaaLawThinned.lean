/- The law FnThinned: a drawn row that is thinned keeps its ends, and each point of it is no farther from what is left than was told. -/
import Derived.Test.YtcnmglghmianoaaThnS
import Derived.Test.YtcnmglghmianoaaThinN
import Derived.Test.YtcnmglghmianoaaDrThin
import Derived.Test.YtcnmglghmianoaaGapI
import Derived.Test.YtcnmglghmianoaaBig
import Derived.Test.YtcnmglghmianoaaHeld
namespace Go.Proofs.Ytcnmglghmianoaa
open Go.RowKit

theorem cmpFrI (p p' : Nat) (a1 a2 a3 a4 : Option Addr) (c1 c2 c3 c4 : Nat) (qs rs ts us : List Int) (n d n' d' : Int) (w : World) (h : Fr w p a1 c1 qs a2 c2 rs n d) (k : Fr w p' a3 c3 ts a4 c4 us n' d') (p1 : 0 ≤ n ∧ 0 < d) (p2 : 0 ≤ n' ∧ 0 < d') :
    Calls Try.prog 10 #[.agg #[.bool false, .slice a1 qs.length c1, .bool false, .slice a2 rs.length c2], .agg #[.bool false, .slice a3 ts.length c3, .bool false, .slice a4 us.length c4]] w fun e w' => e = .returned (.int .i64 (cmpZ (n * d') (n' * d))) ∧ Below w.heap.size w w' := by
  have m : ∀ z : Int, 0 ≤ z → mg z = z := fun z hz => by unfold mg; rw [if_neg (by omega)]
  have f : ∀ z : Int, 0 ≤ z → decide (z < 0) = false := fun z hz => decide_eq_false (by omega)
  have := cmpFrac_is n d n' d' a1 a2 a3 a4 c1 c2 c3 c4 qs rs ts us w h.s1 h.s2 k.s1 k.s2 ⟨h.v1.1, h.v1.2.out.1, by rw [m n p1.1]; exact h.v1.2.out.2⟩ ⟨h.v2.1, h.v2.2.out.1, by rw [m d (by omega)]; exact h.v2.2.out.2⟩ ⟨k.v1.1, k.v1.2.out.1, by rw [m n' p2.1]; exact k.v1.2.out.2⟩ ⟨k.v2.1, k.v2.2.out.1, by rw [m d' (by omega)]; exact k.v2.2.out.2⟩ p1.2 p2.2
  rw [f n p1.1, f d (by omega), f n' p2.1, f d' (by omega)] at this
  exact this
theorem thn_mem (sq : Int) : ∀ k (ls : List (Int × Int)), 2 ≤ ls.length → ∀ q ∈ thn sq k ls, q ∈ ls := by
  have at0 : ∀ (ls : List (Int × Int)) (i : Nat), i < ls.length → ptA ls i ∈ ls := fun ls i h => by
    unfold ptA
    rw [List.getElem?_eq_getElem h]
    exact List.getElem_mem h
  intro k
  induction k with
  | zero =>
    intro ls h q hq
    simp only [thn, List.mem_cons, List.not_mem_nil, or_false] at hq
    rcases hq with rfl | rfl
    · exact at0 ls _ (by omega)
    · exact at0 ls _ (by omega)
  | succ k ih =>
    intro ls h q hq
    simp only [thn] at hq
    split at hq
    · simp only [List.mem_cons, List.not_mem_nil, or_false] at hq
      rcases hq with rfl | rfl
      · exact at0 ls _ (by omega)
      · exact at0 ls _ (by omega)
    · rename_i n3
      have hb := bstL_in (gL ls 0 (ls.length - 1)) sq (ls.length - 2)
      generalize (bstL (gL ls 0 (ls.length - 1)) sq (ls.length - 2)).1 = B at *
      have hb' : 1 ≤ B ∧ B ≤ ((ls.length - 2 : Nat) : Int) := by
        rcases hb with hb | hb
        · omega
        · exact hb
      rcases List.mem_append.1 hq with hq | hq
      · exact List.mem_of_mem_take (ih (ls.take (B.toNat + 1)) (by simp; omega) q ((List.dropLast_sublist _).subset hq))
      · exact List.mem_of_mem_drop (ih (ls.drop B.toNat) (by simp; omega) q hq)
theorem thV_ok {ps : List (Int × Int)} {sq : Int} (h : okL ps = true) : okL (thV ps sq) = true := by
  unfold thV
  cases e : thOk ps sq
  · exact h
  · simp only [if_true]
    unfold thOk at e
    simp only [Bool.and_eq_true, decide_eq_true_eq] at e
    unfold okL at *
    rw [List.all_eq_true] at *
    exact fun q hq => h q (thn_mem sq 500 ps e.1.1.1 q hq)
theorem okL_pt {ps : List (Int × Int)} (h : okL ps = true) {i : Nat} (hi : i < ps.length) : ptOk (ptA ps i).1 (ptA ps i).2 = true := by
  cases e : ptOk (ptA ps i).1 (ptA ps i).2
  · rw [okL_bad hi e] at h; cases h
  · rfl
theorem gapT (p a b : Int × Int) (w : World) (hp : ptOk p.1 p.2 = true) (ha : ptOk a.1 a.2 = true) (hb : ptOk b.1 b.2 = true) :
    Calls Try.prog 11 #[.agg #[.int .i64 p.1, .int .i64 p.2], .agg #[.int .i64 a.1, .int .i64 a.2], .agg #[.int .i64 b.1, .int .i64 b.2]] w fun e w' => ∃ v, e = .returned v ∧ IsFrac w.heap.size w' v (gN (b.1 - a.1) (b.2 - a.2) (p.1 - a.1) (p.2 - a.2)) (gD (b.1 - a.1) (b.2 - a.2) (p.1 - a.1) (p.2 - a.2)) ∧ Below w.heap.size w w' := by
  have := implGap p.1 p.2 a.1 a.2 b.1 b.2 w
  unfold tX tY at this
  rw [hp, ha, hb] at this
  exact this
theorem gapT_bd (p a b : Int × Int) (hp : ptOk p.1 p.2 = true) (ha : ptOk a.1 a.2 = true) (hb : ptOk b.1 b.2 = true) : (0 ≤ gN (b.1 - a.1) (b.2 - a.2) (p.1 - a.1) (p.2 - a.2) ∧ 0 < gD (b.1 - a.1) (b.2 - a.2) (p.1 - a.1) (p.2 - a.2)) ∧ (gN (b.1 - a.1) (b.2 - a.2) (p.1 - a.1) (p.2 - a.2) < 4294967296 ^ 4 ∧ gD (b.1 - a.1) (b.2 - a.2) (p.1 - a.1) (p.2 - a.2) < 4294967296 ^ 4) := by
  have ok : okL [a, b, p] = true := by simp [okL, hp, ha, hb]
  exact ⟨gL_pos [a, b, p] 0 1 2, gL_bound (CrdL.of ok) 0 1 2⟩

theorem near_step {z y X1 Y1 X2 Y2 X3 Y3 : Int} {ts : List (Int × Int)} {m j : Nat} (hm : m = j + 1) (h2 : ptA ts j = (X2, Y2)) (h3 : ptA ts m = (X3, Y3)) (hn : ∀ q, q + 1 < m → nearP z (X1, Y1) (ptA ts q) (ptA ts (q + 1)) → false = true) (hy : cmpZ (gN (X3 - X2) (Y3 - Y2) (X1 - X2) (Y1 - Y2) * 1) (z * gD (X3 - X2) (Y3 - Y2) (X1 - X2) (Y1 - Y2)) = y) : ∀ q, q + 1 < m + 1 → nearP z (X1, Y1) (ptA ts q) (ptA ts (q + 1)) → decide (y ≤ 0) = true := by
  intro q hq h
  by_cases e : q + 1 < m
  · exact absurd (hn q e h) (by decide)
  · obtain rfl : q = j := by omega
    rw [← hm, h2, h3] at h
    unfold nearP at h
    dsimp only at h
    rw [← hy]
    refine decide_eq_true ?_
    unfold cmpZ
    split <;> (try split) <;> omega

set_option maxRecDepth 20000 in
set_option maxHeartbeats 1000000 in
theorem sameP (a b : Option Addr) (c d : Nat) (ps : List (Int × Int)) (w : World) (h : SeesP w a c ps) (k : SeesP w b d ps) :
    Calls Try.prog 7 #[.slice a ps.length c, .slice b ps.length d] w fun e w' => e = .returned (.bool true) ∧ Below w.heap.size w w' := by
  have hm := h.max
  have hf := h.fits
  unfold maxLen at hm
  have hne : ((ps.length : Int) != (ps.length : Int)) = false := by simp
  go_enter Try.func7, Try.ntmps7
  go_wp2
  go_loopw [5] (fun i wr => ∃ j : Nat, j ≤ ps.length ∧ i = .int .i64 j ∧ Hid (Below w.heap.size w wr)) (fun i _ => ps.length - (intOf i).toNat)
  case atStart => exact ⟨0, Nat.zero_le _, rfl, Below.refl _ _⟩
  case round =>
    obtain ⟨j, hj, rfl, B⟩ := hrel
    rename World => wr
    by_cases hlt : j < ps.length
    · obtain ⟨b1, o1, rfl, hc⟩ := (h.below B.out).cells (by intro e; simp [e] at hlt)
      obtain ⟨b2, o2, rfl, hd⟩ := (k.below B.out).cells (by intro e; simp [e] at hlt)
      obtain ⟨g1, g2⟩ := hc j hlt
      obtain ⟨g3, g4⟩ := hd j hlt
      generalize (ps[j]?.getD (0, 0)).1 = x at *
      generalize (ps[j]?.getD (0, 0)).2 = y at *
      have B2 : Hid (Below w.heap.size w wr.drew) := B.out.drew
      clear hc hd
      go_wp2_with fail
      go_region
      go_wp2
      go_roundw
      case rel => exact ⟨j + 1, by omega, by go_num, B2⟩
      case measure => simp [intOf]; omega
    · go_wp2
      go_ret
      exact ⟨rfl, B.out⟩

set_option maxRecDepth 20000 in
set_option maxHeartbeats 4000000 in
theorem lawThinned (a : Option Addr) (n cap : Nat) (w : World) (hB : Byt w a n) :
    Calls Try.prog 3 #[.slice a n cap] w fun e w' => e = .returned (.bool true) ∧ Below w.heap.size w w' := by
  by_cases hs : n ≤ 1048576
  · have HM : Hid (n ≤ 1048576) := hs
    have hd : decide (1048576 < (n : Int)) = false := decide_eq_false (by omega)
    clear hs
    go_enter Try.func3, Try.ntmps3
    go_wp2_with fail
    refine (bigB_any a n cap _).mono ?_
    rintro e w0 ⟨rfl, rfl⟩
    rw [hd]
    go_wp2_with fail
    refine (drawThin_any a n cap _ hB HM.out).mono ?_
    rintro e w1 ⟨ad, c, ps, z, rfl, S1, l1, zm, B⟩
    have L1 : ps.length ≤ 1048576 := by omega
    obtain ⟨ts, HT⟩ : ∃ u, Hid (thV ps z = u) := ⟨_, rfl⟩
    go_wp2_with fail
    refine (implThin ad c ps z _ S1 L1 zm).mono ?_
    rintro e w2 ⟨v2, rfl, R2, hb⟩
    rw [HT.out] at R2
    obtain ⟨e2, f2, ee, _, _⟩ := R2.shape
    subst ee
    have T2 := R2.seesP
    replace S1 := S1.below hb
    replace B := B.trans (hb.mono B.size)
    clear hb R2
    go_wp2_with fail
    refine (specThin ad c ps z _ S1 L1 zm).mono ?_
    rintro e w3 ⟨v3, rfl, R3, hb⟩
    rw [HT.out] at R3
    obtain ⟨e3, f3, ee, _, _⟩ := R3.shape
    subst ee
    have T3 := R3.seesP
    replace S1 := S1.below hb
    replace T2 := T2.below hb
    replace B := B.trans (hb.mono B.size)
    clear hb R3
    go_wp2_with fail
    refine (sameP e2 e3 f2 f3 ts _ T2 T3).mono ?_
    rintro e w4 ⟨rfl, hb⟩
    replace S1 := S1.below hb
    replace T2 := T2.below hb
    replace B := B.trans (hb.mono B.size)
    clear hb T3
    have pm := S1.max
    have pf := S1.fits
    unfold maxLen at pm
    have HN : Hid (thOk ps z = false → ts = ps) := fun e => by rw [← HT.out]; unfold thV; rw [e]; rfl
    go_wp2
    go_loopw [6] (fun i wr => ∃ j : Nat, j ≤ ps.length ∧ i = .int .i64 j ∧ Hid (okL (ps.take j) = true) ∧ Hid (Below w4.heap.size w4 wr)) (fun i _ => ps.length - (intOf i).toNat)
    case atStart => exact ⟨0, Nat.zero_le _, rfl, by simp [Hid, okL], Below.refl _ _⟩
    case round =>
      obtain ⟨j, hj, rfl, hk, BW⟩ := hrel
      rename World => wr
      by_cases hlt : j < ps.length
      · obtain ⟨b1, o1, ea, hc⟩ := (S1.below BW.out).cells (by intro e; simp [e] at hlt)
        injection ea with ea
        subst ea
        obtain ⟨g1, g2⟩ := hc j hlt
        have ST := okL_step hlt hk.out
        clear hc
        cases ok : ptOk (ps[j]?.getD (0, 0)).1 (ps[j]?.getD (0, 0)).2
        · have E : Hid (ts = ps) := HN.out (by unfold thOk; rw [okL_bad hlt ok, Bool.and_false])
          have S2 := S1.below BW.out
          have U2 := T2.below BW.out
          rw [E.out] at U2
          have et : ts.length = ps.length := by rw [E.out]
          clear ST
          generalize (ps[j]?.getD (0, 0)).1 = x at *
          generalize (ps[j]?.getD (0, 0)).2 = y at *
          rw [et]
          clear et
          go_wp2_with fail
          refine (specPtOk x y _).mono ?_
          rintro e w5 ⟨rfl, hb⟩
          rw [ok]
          replace S2 := S2.below hb
          replace U2 := U2.below hb
          have B5 := (B.trans (BW.out.mono B.size)).trans (hb.mono (Nat.le_trans B.size BW.out.size))
          clear hb ok
          go_wp2_with fail
          refine (sameP e2 _ f2 c ps _ U2 S2).mono ?_
          rintro e w6 ⟨rfl, hb⟩
          have B6 := B5.trans (hb.mono B5.size)
          go_wp2
          go_ret
          exact ⟨rfl, B6⟩
        · rw [ok] at ST
          have ST2 : Hid (okL (ps.take (j + 1)) = true) := ST
          clear ST
          generalize (ps[j]?.getD (0, 0)).1 = x at *
          generalize (ps[j]?.getD (0, 0)).2 = y at *
          go_wp2_with fail
          refine (specPtOk x y _).mono ?_
          rintro e w5 ⟨rfl, hb⟩
          rw [ok]
          have B5 : Hid (Below w4.heap.size w4 w5) := BW.out.trans (hb.mono BW.out.size)
          clear hb ok BW
          go_wp2
          go_roundw
          case rel => exact ⟨j + 1, by omega, by go_num, ST2, B5⟩
          case measure => simp [intOf]; omega
      · obtain rfl : j = ps.length := by omega
        have OK : Hid (okL ps = true) := by have := hk.out; rw [List.take_length] at this; exact this
        clear hk
        have S2 := S1.below BW.out
        have U2 := T2.below BW.out
        have B5 := B.trans (BW.out.mono B.size)
        clear S1 T2 B BW
        by_cases h2 : ps.length < 2
        · have E : Hid (ts = ps) := HN.out (by unfold thOk; rw [decide_eq_false (by omega)]; rfl)
          have d1 : decide ((ps.length : Int) < 2) = true := decide_eq_true (by omega)
          rw [E.out] at U2
          have et : ts.length = ps.length := by rw [E.out]
          rw [et]
          clear et
          go_wp2_with fail
          refine (sameP e2 _ f2 c ps _ (U2.below (Below.refl _ _)) (S2.below (Below.refl _ _))).mono ?_
          rintro e w6 ⟨rfl, hb⟩
          have B6 := B5.trans (hb.mono B5.size)
          go_wp2
          go_ret
          exact ⟨rfl, B6⟩
        by_cases h3 : z < 0
        · have E : Hid (ts = ps) := HN.out (by unfold thOk; rw [decide_eq_false (show ¬ 0 ≤ z by omega)]; simp)
          have d1 : decide ((ps.length : Int) < 2) = false := decide_eq_false (by omega)
          have d2 : decide (z < 0) = true := decide_eq_true h3
          rw [E.out] at U2
          have et : ts.length = ps.length := by rw [E.out]
          rw [et]
          clear et
          go_wp2_with fail
          refine (sameP e2 _ f2 c ps _ (U2.below (Below.refl _ _)) (S2.below (Below.refl _ _))).mono ?_
          rintro e w6 ⟨rfl, hb⟩
          have B6 := B5.trans (hb.mono B5.size)
          go_wp2
          go_ret
          exact ⟨rfl, B6⟩
        have hz0 : 0 ≤ z := by omega
        have h20 : 2 ≤ ps.length := by omega
        have TK : Hid (thOk ps z = true) := by show _ = _; unfold thOk; rw [OK.out, decide_eq_true h20, decide_eq_true (show ps.length ≤ 500 by omega), decide_eq_true hz0]; rfl
        have OV : Hid ((ptA ps 0 :: mid ps z 500 0 (ps.length - 1)) ++ [ptA ps (ps.length - 1)] = ts) := by show _ = _; rw [← thV_mid TK.out]; exact HT.out
        have tl : 2 ≤ ts.length := by rw [← OV.out]; simp
        have OT : Hid (okL ts = true) := by show _ = _; rw [← HT.out]; exact thV_ok OK.out
        have NR : Hid (∀ i, i < ps.length → ∃ j, j + 1 < ts.length ∧ nearP z (ptA ps i) (ptA ts j) (ptA ts (j + 1))) := fun i hi => by
          have := mid_near ps hz0 500 0 (ps.length - 1) (by omega) (by omega) i (by omega) (by omega)
          rw [← List.cons_append, OV.out] at this
          exact this
        obtain ⟨n1, hn0⟩ : ∃ n : Nat, Hid (ps.length = n + 1) := ⟨ps.length - 1, by show _ = _; omega⟩
        obtain ⟨m1, hm0⟩ : ∃ n : Nat, Hid (ts.length = n + 1) := ⟨ts.length - 1, by show _ = _; omega⟩
        have E0 : Hid (ptA ts 0 = ptA ps 0) := by show _ = _; rw [← OV.out]; rfl
        have E1 : Hid (ptA ts m1 = ptA ps n1) := by
          show _ = _
          have l0 : (ptA ps 0 :: mid ps z 500 0 (ps.length - 1)).length = m1 := by
            have := hm0.out
            rw [← OV.out, List.length_append] at this
            simp only [List.length_cons, List.length_nil] at this ⊢
            omega
          have := ptA_right (L := ptA ps 0 :: mid ps z 500 0 (ps.length - 1)) (M := [ptA ps (ps.length - 1)]) (j := 0)
          rw [l0, OV.out, Nat.add_zero] at this
          rw [this, show n1 = ps.length - 1 by have := hn0.out; omega]
          rfl
        have hn1 : ((ps.length : Int) - 1) = (n1 : Int) := by have := hn0.out; omega
        have hm1 : ((ts.length : Int) - 1) = (m1 : Int) := by have := hm0.out; omega
        have hn2 : n1 < ps.length := by have := hn0.out; omega
        have hm2 : m1 < ts.length := by have := hm0.out; omega
        have tm := U2.max
        have tf := U2.fits
        unfold maxLen at tm
        have lp0 : 0 < ps.length := by omega
        have lt0 : 0 < ts.length := by omega
        obtain ⟨b1, o1, ea, hc⟩ := S2.cells (by intro e; simp [e] at h20)
        injection ea with ea
        subst ea
        obtain ⟨b2, o2, rfl, hd⟩ := U2.cells (by intro e; simp [e] at tl)
        obtain ⟨o0, o1'⟩ := hd 0 (by omega)
        obtain ⟨o2', o3⟩ := hd m1 hm2
        obtain ⟨i0, i1⟩ := hc 0 (by omega)
        obtain ⟨i2, i3⟩ := hc n1 hn2
        clear hc hd
        obtain ⟨X0, hX0⟩ : ∃ X : Int, Hid ((ptA ps 0).1 = X) := ⟨_, rfl⟩
        obtain ⟨Y0, hY0⟩ : ∃ X : Int, Hid ((ptA ps 0).2 = X) := ⟨_, rfl⟩
        obtain ⟨X9, hX9⟩ : ∃ X : Int, Hid ((ptA ps n1).1 = X) := ⟨_, rfl⟩
        obtain ⟨Y9, hY9⟩ : ∃ X : Int, Hid ((ptA ps n1).2 = X) := ⟨_, rfl⟩
        rw [show ts[0]?.getD (0, 0) = ptA ps 0 from E0.out, hX0.out] at o0
        rw [show ts[0]?.getD (0, 0) = ptA ps 0 from E0.out, hY0.out] at o1'
        rw [show ts[m1]?.getD (0, 0) = ptA ps n1 from E1.out, hX9.out] at o2'
        rw [show ts[m1]?.getD (0, 0) = ptA ps n1 from E1.out, hY9.out] at o3
        rw [show ps[0]?.getD (0, 0) = ptA ps 0 from rfl, hX0.out] at i0
        rw [show ps[0]?.getD (0, 0) = ptA ps 0 from rfl, hY0.out] at i1
        rw [show ps[n1]?.getD (0, 0) = ptA ps n1 from rfl, hX9.out] at i2
        rw [show ps[n1]?.getD (0, 0) = ptA ps n1 from rfl, hY9.out] at i3
        simp only [Nat.zero_mul, Nat.add_zero] at o0 o1' i0 i1
        have d1 : decide ((ps.length : Int) < 2) = false := decide_eq_false (by omega)
        have d2 : decide (z < 0) = false := decide_eq_false h3
        have d3 : decide ((500 : Int) < (ps.length : Int)) = false := decide_eq_false (by omega)
        have wn1 : IntKind.i64.wrap (n1 : Int) = (n1 : Int) := by rw [IntKind.wrap_i64]; omega
        have wm1 : IntKind.i64.wrap (m1 : Int) = (m1 : Int) := by rw [IntKind.wrap_i64]; omega
        clear hn0 hm0 E0 E1 hX0 hY0 hX9 hY9 h2 h3
        go_upto_region 14 with fail
        refine wp_region_held_drew (S := Below wr.heap.size wr) (by kernel_rfl) ((Below.refl _ _).drew) (fun hHeld => ?_)
        have N : Below wr.heap.size wr wr.drew := hHeld
        revert hHeld N
        generalize wr.drew = wa0
        intro hHeld N
        refine takeQ (i := 0) (gt rfl) (by kernel_rfl) (fun _ _ _ h => h) (by rfl) (by intro wq _; go_simp <;> with_reducible rfl) (by assumption) ?_
        try simp only [Act.put, sA, sB, sC]
        refine takeQ (i := 1) (gt rfl) (by kernel_rfl) (fun _ _ _ h => h) (by rfl) (by intro wq _; go_simp <;> with_reducible rfl) (by assumption) ?_
        try simp only [Act.put, sA, sB, sC]
        refine takeQ (i := 2) (gt rfl) (by kernel_rfl) (fun _ _ _ h => h) (by rfl) (by intro wq hSw; have q0 := bat hSw o0; have q1 := bat hSw o1'; have q2 := bat hSw i0; have q3 := bat hSw i1; have q4 := bat hSw o2'; have q5 := bat hSw o3; have q6 := bat hSw i2; have q7 := bat hSw i3; go_simp <;> with_reducible rfl) (by assumption) ?_
        try simp only [Act.put, sA, sB, sC]
        refine takeQ (i := 3) (gt rfl) (by kernel_rfl) (fun _ _ _ h => h) (by rfl) (by intro wq _; go_simp <;> with_reducible rfl) (by assumption) ?_
        try simp only [Act.put, sA, sB, sC]
        refine takeQ (i := 4) (gt rfl) (by kernel_rfl) (fun _ _ _ h => h) (by rfl) (by intro wq _; go_simp <;> with_reducible rfl) (by assumption) ?_
        try simp only [Act.put, sA, sB, sC]
        refine takeQ (i := 5) (gt rfl) (by kernel_rfl) (fun _ _ _ h => h) (by rfl) (by intro wq hSw; have q0 := bat hSw o0; have q1 := bat hSw o1'; have q2 := bat hSw i0; have q3 := bat hSw i1; have q4 := bat hSw o2'; have q5 := bat hSw o3; have q6 := bat hSw i2; have q7 := bat hSw i3; go_simp <;> with_reducible rfl) (by assumption) ?_
        try simp only [Act.put, sA, sB, sC]
        refine takeQ (i := 6) (gt rfl) (by kernel_rfl) (fun _ _ _ h => h) (by rfl) (by intro wq _; go_simp <;> with_reducible rfl) (by assumption) ?_
        try simp only [Act.put, sA, sB, sC]
        refine takeQ (i := 7) (gt rfl) (by kernel_rfl) (fun _ _ _ h => h) (by rfl) (by intro wq _; go_simp <;> with_reducible rfl) (by assumption) ?_
        try simp only [Act.put, sA, sB, sC]
        refine takeQ (i := 8) (gt rfl) (by kernel_rfl) (fun _ _ _ h => h) (by rfl) (by intro wq _; go_simp <;> with_reducible rfl) (by assumption) ?_
        try simp only [Act.put, sA, sB, sC]
        refine takeQ (i := 9) (gt rfl) (by kernel_rfl) (fun _ _ _ h => h) (by rfl) (by intro wq _; go_simp <;> with_reducible rfl) (by assumption) ?_
        try simp only [Act.put, sA, sB, sC]
        refine takeQ (i := 10) (gt rfl) (by kernel_rfl) (fun _ _ _ h => h) (by rfl) (by intro wq _; go_simp <;> with_reducible rfl) (by assumption) ?_
        try simp only [Act.put, sA, sB, sC]
        refine takeQ (i := 11) (gt rfl) (by kernel_rfl) (fun _ _ _ h => h) (by rfl) (by intro wq _; go_simp <;> with_reducible rfl) (by assumption) ?_
        try simp only [Act.put, sA, sB, sC]
        refine takeQ (i := 12) (gt rfl) (by kernel_rfl) (fun _ _ _ h => h) (by rfl) (by intro wq _; go_simp <;> with_reducible rfl) (by assumption) ?_
        try simp only [Act.put, sA, sB, sC]
        refine takeQ (i := 13) (gt rfl) (by kernel_rfl) (fun _ _ _ h => h) (by rfl) (by intro wq hSw; have q0 := bat hSw o0; have q1 := bat hSw o1'; have q2 := bat hSw i0; have q3 := bat hSw i1; have q4 := bat hSw o2'; have q5 := bat hSw o3; have q6 := bat hSw i2; have q7 := bat hSw i3; go_simp <;> with_reducible rfl) (by assumption) ?_
        try simp only [Act.put, sA, sB, sC]
        refine takeQ (i := 14) (gt rfl) (by kernel_rfl) (fun _ _ _ h => h) (by rfl) (by intro wq _; go_simp <;> with_reducible rfl) (by assumption) ?_
        try simp only [Act.put, sA, sB, sC]
        refine takeQ (i := 15) (gt rfl) (by kernel_rfl) (fun _ _ _ h => h) (by rfl) (by intro wq _; go_simp <;> with_reducible rfl) (by assumption) ?_
        try simp only [Act.put, sA, sB, sC]
        refine takeQ (i := 16) (gt rfl) (by kernel_rfl) (fun _ _ _ h => h) (by rfl) (by intro wq _; go_simp <;> with_reducible rfl) (by assumption) ?_
        try simp only [Act.put, sA, sB, sC]
        refine takeQ (i := 17) (gt rfl) (by kernel_rfl) (fun _ _ _ h => h) (by rfl) (by intro wq _; go_simp <;> with_reducible rfl) (by assumption) ?_
        try simp only [Act.put, sA, sB, sC]
        refine takeQ (i := 18) (gt rfl) (by kernel_rfl) (fun _ _ _ h => h) (by rfl) (by intro wq _; go_simp <;> with_reducible rfl) (by assumption) ?_
        try simp only [Act.put, sA, sB, sC]
        refine takeQ (i := 19) (gt rfl) (by kernel_rfl) (fun _ _ _ h => h) (by rfl) (by intro wq hSw; have q0 := bat hSw o0; have q1 := bat hSw o1'; have q2 := bat hSw i0; have q3 := bat hSw i1; have q4 := bat hSw o2'; have q5 := bat hSw o3; have q6 := bat hSw i2; have q7 := bat hSw i3; go_simp <;> with_reducible rfl) (by assumption) ?_
        try simp only [Act.put, sA, sB, sC]
        refine takeQ (i := 20) (gt rfl) (by kernel_rfl) (fun _ _ _ h => h) (by rfl) (by intro wq _; go_simp <;> with_reducible rfl) (by assumption) ?_
        try simp only [Act.put, sA, sB, sC]
        refine takeQ (i := 21) (gt rfl) (by kernel_rfl) (fun _ _ _ h => h) (by rfl) (by intro wq _; go_simp <;> with_reducible rfl) (by assumption) ?_
        try simp only [Act.put, sA, sB, sC]
        refine wpAnyH_done (by kernel_rfl) ?_ _
        skip
        have B9 := B5.trans (N.mono B5.size)
        have S9 := S2.below N
        have U9 := U2.below N
        clear o0 o1' i0 i1 o2' o3 i2 i3 hHeld N S2 U2 B5 d1 d2 d3 hn1 hm1 hn2 hm2 wn1 wm1
        go_wp2
        go_loopw [7] (fun i wo => ∃ j : Nat, j ≤ ps.length ∧ i = .int .i64 j ∧ Hid (Below wa0.heap.size wa0 wo)) (fun i _ => ps.length - (intOf i).toNat)
        case atStart => exact ⟨0, Nat.zero_le _, rfl, Below.refl _ _⟩
        case round =>
          obtain ⟨j, hj, rfl, BO⟩ := hrel
          rename World => wo
          by_cases hlt : j < ps.length
          · obtain ⟨X1, hX1⟩ : ∃ X : Int, Hid ((ptA ps j).1 = X) := ⟨_, rfl⟩
            obtain ⟨Y1, hY1⟩ : ∃ X : Int, Hid ((ptA ps j).2 = X) := ⟨_, rfl⟩
            have P1 : Hid (ptA ps j = (X1, Y1)) := Prod.ext hX1.out hY1.out
            have hp1 : Hid (ptOk (X1, Y1).1 (X1, Y1).2 = true) := by show _ = _; rw [← P1.out]; exact okL_pt OK.out hlt
            go_wp2
            go_loopw [8, 9] (fun nb k wk => ∃ (b : Bool) (m : Nat), nb = .bool b ∧ k = .int .i64 m ∧ 1 ≤ m ∧ m ≤ ts.length ∧ Hid (∀ q, q + 1 < m → nearP z (X1, Y1) (ptA ts q) (ptA ts (q + 1)) → b = true) ∧ Hid (Below wo.heap.size wo wk)) (fun _ k _ => ts.length - (intOf k).toNat)
            case atStart => exact ⟨false, 1, rfl, rfl, by omega, by omega, fun q hq => absurd hq (by omega), Below.refl _ _⟩
            case round =>
              obtain ⟨b, m, rfl, rfl, hm0, hm9, hnb, BK⟩ := hrel
              rename World => wk
              by_cases hmt : m < ts.length
              · obtain ⟨j1, hm1⟩ : ∃ n : Nat, Hid (m = n + 1) := ⟨m - 1, by show _ = _; omega⟩
                have hmj : ((m : Int) - 1) = (j1 : Int) := by have := hm1.out; omega
                have hj1 : j1 < ts.length := by have := hm1.out; omega
                have wj1 : IntKind.i64.wrap (j1 : Int) = (j1 : Int) := by rw [IntKind.wrap_i64]; omega
                cases b
                · obtain ⟨b3, o3, e3, hc⟩ := ((S9.below BO.out).below BK.out).cells (by intro e; simp [e] at h20)
                  injection e3 with e3
                  injection e3 with e3 e4
                  subst e3
                  subst e4
                  obtain ⟨b4, o4, e3, hd⟩ := ((U9.below BO.out).below BK.out).cells (by intro e; simp [e] at tl)
                  injection e3 with e3
                  injection e3 with e3 e4
                  subst e3
                  subst e4
                  obtain ⟨p0, p1⟩ := hc j hlt
                  obtain ⟨a0, a1'⟩ := hd j1 hj1
                  obtain ⟨b0, b1'⟩ := hd m hmt
                  clear hc hd
                  obtain ⟨X2, hX2⟩ : ∃ X : Int, Hid ((ptA ts j1).1 = X) := ⟨_, rfl⟩
                  obtain ⟨Y2, hY2⟩ : ∃ X : Int, Hid ((ptA ts j1).2 = X) := ⟨_, rfl⟩
                  obtain ⟨X3, hX3⟩ : ∃ X : Int, Hid ((ptA ts m).1 = X) := ⟨_, rfl⟩
                  obtain ⟨Y3, hY3⟩ : ∃ X : Int, Hid ((ptA ts m).2 = X) := ⟨_, rfl⟩
                  have P2 : Hid (ptA ts j1 = (X2, Y2)) := Prod.ext hX2.out hY2.out
                  have P3 : Hid (ptA ts m = (X3, Y3)) := Prod.ext hX3.out hY3.out
                  have hp2 : Hid (ptOk (X2, Y2).1 (X2, Y2).2 = true) := by show _ = _; rw [← P2.out]; exact okL_pt OT.out hj1
                  have hp3 : Hid (ptOk (X3, Y3).1 (X3, Y3).2 = true) := by show _ = _; rw [← P3.out]; exact okL_pt OT.out hmt
                  have BD : Hid _ := gapT_bd (X1, Y1) (X2, Y2) (X3, Y3) hp1.out hp2.out hp3.out
                  rw [show ps[j]?.getD (0, 0) = ptA ps j from rfl, hX1.out] at p0
                  rw [show ps[j]?.getD (0, 0) = ptA ps j from rfl, hY1.out] at p1
                  rw [show ts[j1]?.getD (0, 0) = ptA ts j1 from rfl, hX2.out] at a0
                  rw [show ts[j1]?.getD (0, 0) = ptA ts j1 from rfl, hY2.out] at a1'
                  rw [show ts[m]?.getD (0, 0) = ptA ts m from rfl, hX3.out] at b0
                  rw [show ts[m]?.getD (0, 0) = ptA ts m from rfl, hY3.out] at b1'
                  clear hX2 hY2 hX3 hY3
                  go_upto_region 23 with fail
                  refine wp_region_held_drew (S := Below wk.heap.size wk) (by kernel_rfl) ((Below.refl _ _).drew) (fun hHeld => ?_)
                  have N : Below wk.heap.size wk wk.drew := hHeld
                  revert hHeld N
                  generalize wk.drew = wc0
                  intro hHeld N
                  refine takeQ (i := 0) (gt rfl) (by kernel_rfl) (fun _ _ _ h => h) (by rfl) (by intro wq _; go_simp <;> with_reducible rfl) (by assumption) ?_
                  try simp only [Act.put, sA, sB, sC]
                  refine takeQ (i := 1) (gt rfl) (by kernel_rfl) (fun _ _ _ h => h) (by rfl) (by intro wq _; go_simp <;> with_reducible rfl) (by assumption) ?_
                  try simp only [Act.put, sA, sB, sC]
                  refine takeQ (i := 2) (gt rfl) (by kernel_rfl) (fun _ _ _ h => h) (by rfl) (by intro wq _; go_simp <;> with_reducible rfl) (by assumption) ?_
                  try simp only [Act.put, sA, sB, sC]
                  refine takeQ (i := 3) (gt rfl) (by kernel_rfl) (fun _ _ _ h => h) (by rfl) (by intro wq _; go_simp <;> with_reducible rfl) (by assumption) ?_
                  try simp only [Act.put, sA, sB, sC]
                  refine takeQ (i := 4) (gt rfl) (by kernel_rfl) (fun _ _ _ h => h) (by rfl) (by intro wq _; go_simp <;> with_reducible rfl) (by assumption) ?_
                  try simp only [Act.put, sA, sB, sC]
                  refine takeQ (i := 5) (gt rfl) (by kernel_rfl) (fun _ _ _ h => h) (by rfl) (by intro wq hSw; have q0 := bat hSw p0; have q1 := bat hSw p1; have q2 := bat hSw a0; have q3 := bat hSw a1'; have q4 := bat hSw b0; have q5 := bat hSw b1'; go_simp <;> with_reducible rfl) (by assumption) ?_
                  try simp only [Act.put, sA, sB, sC]
                  refine takeQ (i := 6) (gt rfl) (by kernel_rfl) (fun _ _ _ h => h) (by rfl) (by intro wq _; go_simp <;> with_reducible rfl) (by assumption) ?_
                  try simp only [Act.put, sA, sB, sC]
                  refine takeQ (i := 7) (gt rfl) (by kernel_rfl) (fun _ _ _ h => h) (by rfl) (by intro wq _; go_simp <;> with_reducible rfl) (by assumption) ?_
                  try simp only [Act.put, sA, sB, sC]
                  refine takeQ (i := 8) (gt rfl) (by kernel_rfl) (fun _ _ _ h => h) (by rfl) (by intro wq _; go_simp <;> with_reducible rfl) (by assumption) ?_
                  try simp only [Act.put, sA, sB, sC]
                  refine takeQ (i := 9) (gt rfl) (by kernel_rfl) (fun _ _ _ h => h) (by rfl) (by intro wq _; go_simp <;> with_reducible rfl) (by assumption) ?_
                  try simp only [Act.put, sA, sB, sC]
                  refine takeQ (i := 10) (gt rfl) (by kernel_rfl) (fun _ _ _ h => h) (by rfl) (by intro wq hSw; have q0 := bat hSw p0; have q1 := bat hSw p1; have q2 := bat hSw a0; have q3 := bat hSw a1'; have q4 := bat hSw b0; have q5 := bat hSw b1'; go_simp <;> with_reducible rfl) (by assumption) ?_
                  try simp only [Act.put, sA, sB, sC]
                  refine takeQ (i := 11) (gt rfl) (by kernel_rfl) (fun _ _ _ h => h) (by rfl) (by intro wq _; go_simp <;> with_reducible rfl) (by assumption) ?_
                  try simp only [Act.put, sA, sB, sC]
                  refine takeQ (i := 12) (gt rfl) (by kernel_rfl) (fun _ _ _ h => h) (by rfl) (by intro wq _; go_simp <;> with_reducible rfl) (by assumption) ?_
                  try simp only [Act.put, sA, sB, sC]
                  refine takeQ (i := 13) (gt rfl) (by kernel_rfl) (fun _ _ _ h => h) (by rfl) (by intro wq _; go_simp <;> with_reducible rfl) (by assumption) ?_
                  try simp only [Act.put, sA, sB, sC]
                  refine takeQ (i := 14) (gt rfl) (by kernel_rfl) (fun _ _ _ h => h) (by rfl) (by intro wq hSw; have q0 := bat hSw p0; have q1 := bat hSw p1; have q2 := bat hSw a0; have q3 := bat hSw a1'; have q4 := bat hSw b0; have q5 := bat hSw b1'; go_simp <;> with_reducible rfl) (by assumption) ?_
                  try simp only [Act.put, sA, sB, sC]
                  refine takeQ (i := 16) (gt rfl) (by kernel_rfl) (fun _ _ _ h => h) (by rfl) (by intro wq _; go_simp <;> with_reducible rfl) (by assumption) ?_
                  try simp only [Act.put, sA, sB, sC]
                  refine wpAnyH_ready (rs := [15]) (by kernel_rfl) (by simp) (AllReadyH.cons (gt rfl) (fun K hK => ?_) AllReadyH.nil)
                  go_simp
                  refine (gapT (X1, Y1) (X2, Y2) (X3, Y3) _ hp1.out hp2.out hp3.out).mono ?_
                  rintro e1 wc1 ⟨v9, rfl, IF, hb⟩
                  obtain ⟨a1, c1, qs, a2, c2, rs, e9, F9⟩ := IF.fr' BD.out.1 BD.out.2
                  subst e9
                  replace F9 := F9 wc1.heap.size (.inr (Nat.le_refl _))
                  clear IF
                  replace N := N.trans (hb.mono N.size)
                  clear hb
                  refine hK.out _ _ N (fun hHeld => ?_)
                  clear hK K
                  try simp only [Act.put, sA, sB, sC]
                  refine wpAnyH_ready (rs := [17]) (by kernel_rfl) (by simp) (AllReadyH.cons (gt rfl) (fun K hK => ?_) AllReadyH.nil)
                  go_simp
                  refine (lawWhole z _ (by omega) zm).mono ?_
                  rintro e1 wc2 ⟨v9, rfl, IF, hb⟩
                  obtain ⟨a3, c3, us, a4, c4, vs, e9, F8⟩ := IF.fr' ⟨hz0, by decide⟩ (sq_bound zm)
                  subst e9
                  replace F8 := F8 wc2.heap.size (.inr (Nat.le_refl _))
                  clear IF
                  replace F9 := F9.below hb
                  replace N := N.trans (hb.mono N.size)
                  clear hb
                  refine hK.out _ _ N (fun hHeld => ?_)
                  clear hK K
                  try simp only [Act.put, sA, sB, sC]
                  refine wpAnyH_ready (rs := [18]) (by kernel_rfl) (by simp) (AllReadyH.cons (gt rfl) (fun K hK => ?_) AllReadyH.nil)
                  go_simp
                  refine (cmpFrI _ _ a1 a2 a3 a4 c1 c2 c3 c4 qs rs us vs _ _ z 1 _ F9 F8 BD.out.1 ⟨hz0, by decide⟩).mono ?_
                  rintro e1 wc3 ⟨rfl, hb⟩
                  obtain ⟨y, hy⟩ : ∃ y, Hid (cmpZ (gN (X3 - X2) (Y3 - Y2) (X1 - X2) (Y1 - Y2) * 1) (z * gD (X3 - X2) (Y3 - Y2) (X1 - X2) (Y1 - Y2)) = y) := ⟨_, rfl⟩
                  rw [hy.out]
                  replace F9 := F9.below hb
                  replace F8 := F8.below hb
                  replace N := N.trans (hb.mono N.size)
                  clear hb
                  clear F9 F8
                  refine hK.out _ _ N (fun hHeld => ?_)
                  clear hK K
                  try simp only [Act.put, sA, sB, sC]
                  refine takeQ (i := 19) (gt rfl) (by kernel_rfl) (fun _ _ _ h => h) (by rfl) (by intro wq _; go_simp <;> with_reducible rfl) (by assumption) ?_
                  try simp only [Act.put, sA, sB, sC]
                  refine takeQ (i := 20) (gt rfl) (by kernel_rfl) (fun _ _ _ h => h) (by rfl) (by intro wq _; go_simp <;> with_reducible rfl) (by assumption) ?_
                  try simp only [Act.put, sA, sB, sC]
                  refine takeQ (i := 21) (gt rfl) (by kernel_rfl) (fun _ _ _ h => h) (by rfl) (by intro wq _; go_simp <;> with_reducible rfl) (by assumption) ?_
                  try simp only [Act.put, sA, sB, sC]
                  refine wpAnyH_done (by kernel_rfl) ?_ _
                  have NK : Hid (Below wo.heap.size wo wc3) := BK.out.trans (N.mono BK.out.size)
                  clear N BK
                  go_wp2
                  go_roundw
                  case rel => exact ⟨decide (y ≤ 0), m + 1, rfl, by go_num, by omega, by omega, near_step hm1.out P2.out P3.out hnb.out hy.out, NK⟩
                  case measure => simp [intOf]; omega
                · go_upto_region 23 with fail
                  refine wp_region_held_drew (S := Below wk.heap.size wk) (by kernel_rfl) ((Below.refl _ _).drew) (fun hHeld => ?_)
                  have N : Below wk.heap.size wk wk.drew := hHeld
                  revert hHeld N
                  generalize wk.drew = wb0
                  intro hHeld N
                  refine takeQ (i := 0) (gt rfl) (by kernel_rfl) (fun _ _ _ h => h) (by rfl) (by intro wq _; go_simp <;> with_reducible rfl) (by assumption) ?_
                  try simp only [Act.put, sA, sB, sC]
                  refine takeQ (i := 1) (gt rfl) (by kernel_rfl) (fun _ _ _ h => h) (by rfl) (by intro wq _; go_simp <;> with_reducible rfl) (by assumption) ?_
                  try simp only [Act.put, sA, sB, sC]
                  refine takeN (i := 2) (gt rfl) (by kernel_rfl) (by kernel_rfl) (by kernel_rfl) (by exact fun _ _ _ h => h) (by rfl) (by assumption) ?_
                  try simp only [Act.put, sA, sB, sC]
                  refine takeN (i := 3) (gt rfl) (by kernel_rfl) (by kernel_rfl) (by kernel_rfl) (by exact fun _ _ _ h => h) (by rfl) (by assumption) ?_
                  try simp only [Act.put, sA, sB, sC]
                  refine takeN (i := 4) (gt rfl) (by kernel_rfl) (by kernel_rfl) (by kernel_rfl) (by exact fun _ _ _ h => h) (by rfl) (by assumption) ?_
                  try simp only [Act.put, sA, sB, sC]
                  refine takeN (i := 5) (gt rfl) (by kernel_rfl) (by kernel_rfl) (by kernel_rfl) (by exact fun _ _ _ h => h) (by rfl) (by assumption) ?_
                  try simp only [Act.put, sA, sB, sC]
                  refine takeN (i := 6) (gt rfl) (by kernel_rfl) (by kernel_rfl) (by kernel_rfl) (by exact fun _ _ _ h => h) (by rfl) (by assumption) ?_
                  try simp only [Act.put, sA, sB, sC]
                  refine takeN (i := 7) (gt rfl) (by kernel_rfl) (by kernel_rfl) (by kernel_rfl) (by exact fun _ _ _ h => h) (by rfl) (by assumption) ?_
                  try simp only [Act.put, sA, sB, sC]
                  refine takeN (i := 8) (gt rfl) (by kernel_rfl) (by kernel_rfl) (by kernel_rfl) (by exact fun _ _ _ h => h) (by rfl) (by assumption) ?_
                  try simp only [Act.put, sA, sB, sC]
                  refine takeN (i := 9) (gt rfl) (by kernel_rfl) (by kernel_rfl) (by kernel_rfl) (by exact fun _ _ _ h => h) (by rfl) (by assumption) ?_
                  try simp only [Act.put, sA, sB, sC]
                  refine takeN (i := 10) (gt rfl) (by kernel_rfl) (by kernel_rfl) (by kernel_rfl) (by exact fun _ _ _ h => h) (by rfl) (by assumption) ?_
                  try simp only [Act.put, sA, sB, sC]
                  refine takeN (i := 11) (gt rfl) (by kernel_rfl) (by kernel_rfl) (by kernel_rfl) (by exact fun _ _ _ h => h) (by rfl) (by assumption) ?_
                  try simp only [Act.put, sA, sB, sC]
                  refine takeN (i := 12) (gt rfl) (by kernel_rfl) (by kernel_rfl) (by kernel_rfl) (by exact fun _ _ _ h => h) (by rfl) (by assumption) ?_
                  try simp only [Act.put, sA, sB, sC]
                  refine takeN (i := 13) (gt rfl) (by kernel_rfl) (by kernel_rfl) (by kernel_rfl) (by exact fun _ _ _ h => h) (by rfl) (by assumption) ?_
                  try simp only [Act.put, sA, sB, sC]
                  refine takeN (i := 14) (gt rfl) (by kernel_rfl) (by kernel_rfl) (by kernel_rfl) (by exact fun _ _ _ h => h) (by rfl) (by assumption) ?_
                  try simp only [Act.put, sA, sB, sC]
                  refine takeN (i := 15) (gt rfl) (by kernel_rfl) (by kernel_rfl) (by kernel_rfl) (by exact fun _ _ _ h => h) (by rfl) (by assumption) ?_
                  try simp only [Act.put, sA, sB, sC]
                  refine takeN (i := 16) (gt rfl) (by kernel_rfl) (by kernel_rfl) (by kernel_rfl) (by exact fun _ _ _ h => h) (by rfl) (by assumption) ?_
                  try simp only [Act.put, sA, sB, sC]
                  refine takeN (i := 17) (gt rfl) (by kernel_rfl) (by kernel_rfl) (by kernel_rfl) (by exact fun _ _ _ h => h) (by rfl) (by assumption) ?_
                  try simp only [Act.put, sA, sB, sC]
                  refine takeN (i := 18) (gt rfl) (by kernel_rfl) (by kernel_rfl) (by kernel_rfl) (by exact fun _ _ _ h => h) (by rfl) (by assumption) ?_
                  try simp only [Act.put, sA, sB, sC]
                  refine takeN (i := 19) (gt rfl) (by kernel_rfl) (by kernel_rfl) (by kernel_rfl) (by exact fun _ _ _ h => h) (by rfl) (by assumption) ?_
                  try simp only [Act.put, sA, sB, sC]
                  refine takeQ (i := 20) (gt rfl) (by kernel_rfl) (fun _ _ _ h => h) (by rfl) (by intro wq _; go_simp <;> with_reducible rfl) (by assumption) ?_
                  try simp only [Act.put, sA, sB, sC]
                  refine takeQ (i := 21) (gt rfl) (by kernel_rfl) (fun _ _ _ h => h) (by rfl) (by intro wq _; go_simp <;> with_reducible rfl) (by assumption) ?_
                  try simp only [Act.put, sA, sB, sC]
                  refine wpAnyH_done (by kernel_rfl) ?_ _
                  have NK : Hid (Below wo.heap.size wo wb0) := BK.out.trans (N.mono BK.out.size)
                  clear N BK
                  go_wp2
                  go_roundw
                  case rel => exact ⟨true, m + 1, rfl, by go_num, by omega, by omega, fun _ _ _ => rfl, NK⟩
                  case measure => simp [intOf]; omega
              · obtain rfl : m = ts.length := by omega
                obtain rfl : b = true := by
                  obtain ⟨q, q1, q2⟩ := NR.out j hlt
                  rw [P1.out] at q2
                  exact hnb.out q q1 q2
                have BO2 : Hid (Below wa0.heap.size wa0 wk) := BO.out.trans (BK.out.mono BO.out.size)
                clear BO BK hnb
                go_wp2
                go_roundw
                case rel => exact ⟨j + 1, by omega, by go_num, BO2⟩
                case measure => simp [intOf]; omega
          · have BE := B9.trans (BO.out.mono B9.size)
            go_wp2
            go_ret
            exact ⟨rfl, BE⟩
  · have hd : decide (1048576 < (n : Int)) = true := decide_eq_true (by omega)
    clear hs
    go_enter Try.func3, Try.ntmps3
    go_wp2_with fail
    refine (bigB_any a n cap _).mono ?_
    rintro e w0 ⟨rfl, rfl⟩
    rw [hd]
    go_wp2
    go_ret
    exact ⟨rfl, Below.refl _ _⟩
end Go.Proofs.Ytcnmglghmianoaa
