/- The specification's Thin: l9Right, l9Thin. -/
import Derived.Test.YtcnmglghmianoaaThnJ
import Derived.Test.YtcnmglghmianoaaGapS
import Derived.Test.YtcnmglghmianoaaSFCmp
import Derived.Test.YtcnmglghmianoaaFCmp
namespace Go.Proofs.Ytcnmglghmianoaa
open Go.RowKit

theorem cmpFrS (p p' : Nat) (a1 a2 a3 a4 : Option Addr) (c1 c2 c3 c4 : Nat) (qs rs ts us : List Int) (n d n' d' : Int) (w : World) (h : Fr w p a1 c1 qs a2 c2 rs n d) (k : Fr w p' a3 c3 ts a4 c4 us n' d') (p1 : 0 ≤ n ∧ 0 < d) (p2 : 0 ≤ n' ∧ 0 < d') :
    Calls Try.prog 44 #[.agg #[.bool false, .slice a1 qs.length c1, .bool false, .slice a2 rs.length c2], .agg #[.bool false, .slice a3 ts.length c3, .bool false, .slice a4 us.length c4]] w fun e w' => e = .returned (.int .i64 (cmpZ (n * d') (n' * d))) ∧ Below w.heap.size w w' := by
  have m : ∀ z : Int, 0 ≤ z → mg z = z := fun z hz => by unfold mg; rw [if_neg (by omega)]
  have f : ∀ z : Int, 0 ≤ z → decide (z < 0) = false := fun z hz => decide_eq_false (by omega)
  obtain ⟨q1, q2⟩ := fND_is (n := n) (d := d) h.s1.lim h.v1.1 h.v1.2.out.1 (by rw [m n p1.1]; exact h.v1.2.out.2) h.s2.lim h.v2.1 h.v2.2.out.1 (by rw [m d (by omega)]; exact h.v2.2.out.2) p1.2
  obtain ⟨q3, q4⟩ := fND_is (n := n') (d := d') k.s1.lim k.v1.1 k.v1.2.out.1 (by rw [m n' p2.1]; exact k.v1.2.out.2) k.s2.lim k.v2.1 k.v2.2.out.1 (by rw [m d' (by omega)]; exact k.v2.2.out.2) p2.2
  rw [f n p1.1, f d (by omega)] at q1 q2
  rw [f n' p2.1, f d' (by omega)] at q3 q4
  have := specCmpFrac false false false false a1 a2 a3 a4 c1 c2 c3 c4 qs rs ts us w h.s1 h.s2 k.s1 k.s2
  rw [q1, q2, q3, q4] at this
  exact this

set_option maxHeartbeats 1000000 in
theorem l9Right_any (a : Option Addr) (c : Nat) (ps : List (Int × Int)) (w : World) (h : SeesP w a c ps) (hl : ps.length ≤ 1048576) :
    Calls Try.prog 24 #[.slice a ps.length c, .int .i64 500] w fun e w' => e = .returned (.bool (okL ps && decide (ps.length ≤ 500))) ∧ Below w.heap.size w w' := by
  have hm := h.max
  have hf := h.fits
  unfold maxLen at hm
  go_enter Try.func24, Try.ntmps24
  go_wp2
  go_loopw [5] (fun s5 wr => ∃ j : Nat, j ≤ ps.length ∧ s5 = .int .i64 j ∧ Hid (okL (ps.take j) = true) ∧ Hid (Below w.heap.size w wr)) (fun s5 _ => ps.length - (intOf s5).toNat)
  case atStart => exact ⟨0, Nat.zero_le _, rfl, by simp [Hid, okL], Below.refl _ _⟩
  case round =>
    obtain ⟨j, hj, rfl, hk, B⟩ := hrel
    rename World => wr
    by_cases hlt : j < ps.length
    · obtain ⟨b1, o1, rfl, hc⟩ := (h.below B.out).cells (by intro e; simp [e] at hlt)
      obtain ⟨g1, g2⟩ := hc j hlt
      have ST := okL_step hlt hk.out
      clear hc
      cases ok : ptOk (ps[j]?.getD (0, 0)).1 (ps[j]?.getD (0, 0)).2
      · have E : Hid (okL ps = false) := okL_bad hlt ok
        clear ST
        generalize (ps[j]?.getD (0, 0)).1 = x at *
        generalize (ps[j]?.getD (0, 0)).2 = y at *
        go_wp2_with fail
        refine (specPtOk x y _).mono ?_
        rintro e w2 ⟨rfl, hb⟩
        rw [ok]
        have B2 := B.out.trans (hb.mono B.out.size)
        clear hb B ok
        go_wp2
        go_ret
        exact ⟨by rw [E.out]; rfl, B2⟩
      · rw [ok] at ST
        have ST2 : Hid (okL (ps.take (j + 1)) = true) := ST
        clear ST
        generalize (ps[j]?.getD (0, 0)).1 = x at *
        generalize (ps[j]?.getD (0, 0)).2 = y at *
        go_wp2_with fail
        refine (specPtOk x y _).mono ?_
        rintro e w2 ⟨rfl, hb⟩
        rw [ok]
        have B2 : Hid (Below w.heap.size w w2) := B.out.trans (hb.mono B.out.size)
        clear hb B ok
        go_wp2
        go_roundw
        case rel => exact ⟨j + 1, by omega, by go_num, ST2, B2⟩
        case measure => simp [intOf]; omega
    · obtain rfl : j = ps.length := by omega
      have OK : Hid (okL ps = true) := by have := hk.out; rw [List.take_length] at this; exact this
      clear hk
      go_wp2
      go_ret
      exact ⟨by rw [OK.out, Bool.true_and, show decide (ps.length ≤ 500) = decide ((ps.length : Int) ≤ 500) from decide_eq_decide.2 (by omega)]; rfl, B.out⟩

theorem bstL_in (H : Nat → Int × Int) (sq : Int) : ∀ j, (bstL H sq j).1 = -1 ∨ (1 ≤ (bstL H sq j).1 ∧ (bstL H sq j).1 ≤ j)
  | 0 => .inl rfl
  | j + 1 => by
    simp only [bstL]
    split
    · exact .inr ⟨by dsimp only; omega, by dsimp only; omega⟩
    · rcases bstL_in H sq j with h | h
      · exact .inl h
      · exact .inr ⟨h.1, by omega⟩
theorem bstL_nn {H : Nat → Int × Int} (hH : ∀ i, 0 ≤ (H i).1 ∧ 0 < (H i).2) {sq : Int} (hs : 0 ≤ sq) : ∀ j, 0 ≤ (bstL H sq j).2.1 ∧ 0 < (bstL H sq j).2.2
  | 0 => ⟨hs, by simp [bstL]⟩
  | j + 1 => by
    simp only [bstL]
    split
    · exact hH _
    · exact bstL_nn hH hs j
theorem thn_eq {sq : Int} {k : Nat} {ls : List (Int × Int)} (h : ls.length ≤ k + 2) (h2 : 2 ≤ ls.length) : thn sq k ls = if (bstL (gL ls 0 (ls.length - 1)) sq (ls.length - 2)).1 < 0 then [ptA ls 0, ptA ls (ls.length - 1)] else (thn sq (k - 1) (ls.take ((bstL (gL ls 0 (ls.length - 1)) sq (ls.length - 2)).1.toNat + 1))).dropLast ++ thn sq (k - 1) (ls.drop (bstL (gL ls 0 (ls.length - 1)) sq (ls.length - 2)).1.toNat) := by
  cases k with
  | zero =>
    have e : ls.length - 2 = 0 := by omega
    rw [e]
    simp [thn, bstL]
  | succ k => rfl
theorem gL_pos (ps : List (Int × Int)) (f t i : Nat) : 0 ≤ (gL ps f t i).1 ∧ 0 < (gL ps f t i).2 := by
  obtain ⟨e, p⟩ := gL_same ps f t i
  obtain ⟨q1, q2⟩ := gR_pos ps f t i
  refine ⟨?_, p⟩
  rcases Int.lt_or_le (gL ps f t i).1 0 with h | h
  · exfalso
    have h1 := Int.mul_neg_of_neg_of_pos h q2
    have h2 := Int.mul_nonneg q1 (Int.le_of_lt p)
    omega
  · exact h
theorem gq_le2 {n d : Int} (hn : 0 ≤ n) (hd : 0 < d) : gqN n d ≤ n ∧ gqD n d ≤ d := by
  have g1 : 0 ≤ (Int.gcd n d : Int) := by omega
  unfold gqN gqD
  exact ⟨Int.ediv_le_self _ hn, Int.ediv_le_self _ (by omega)⟩
theorem gL_bound {ps : List (Int × Int)} (ok : CrdL ps) (f t i : Nat) : (gL ps f t i).1 < 4294967296 ^ 4 ∧ (gL ps f t i).2 < 4294967296 ^ 4 := by
  have b := gR_bound ok f t i
  have p := gR_pos ps f t i
  have q := gq_le2 p.1 p.2
  have e := r_low ((ptA ps t).1 - (ptA ps f).1) ((ptA ps t).2 - (ptA ps f).2) ((ptA ps i).1 - (ptA ps f).1) ((ptA ps i).2 - (ptA ps f).2)
  have e1 : (gL ps f t i).1 = gqN (gR ps f t i).1 (gR ps f t i).2 := e.1.symm
  have e2 : (gL ps f t i).2 = gqD (gR ps f t i).1 (gR ps f t i).2 := e.2.symm
  rw [e1, e2]
  exact ⟨Int.lt_of_le_of_lt q.1 b.1, Int.lt_of_le_of_lt q.2 b.2⟩
theorem CrdL.take {ps : List (Int × Int)} (h : CrdL ps) (m : Nat) : CrdL (ps.take m) := fun i => by
  by_cases hi : i < m
  · have := h i
    unfold ptA at *
    rwa [List.getElem?_take_of_lt hi]
  · unfold ptA
    rw [List.getElem?_eq_none (by simp; omega)]
    exact ⟨⟨by decide, by decide⟩, ⟨by decide, by decide⟩⟩
theorem CrdL.drop {ps : List (Int × Int)} (h : CrdL ps) (m : Nat) : CrdL (ps.drop m) := fun i => by
  have := h (m + i)
  unfold ptA at *
  rwa [List.getElem?_drop]
theorem SeesP.take {w : World} {b off c : Nat} {ps : List (Int × Int)} (h : SeesP w (some ⟨b, off, none⟩) c ps) (m : Nat) : SeesP w (some ⟨b, off, none⟩) c (ps.take m) :=
  ⟨by have := h.fits; simp; omega, h.max, fun hn => by
    have hn' : ps ≠ [] := fun e => hn (by rw [e]; simp)
    obtain ⟨b', off', e, hc⟩ := h.cells hn'
    refine ⟨b', off', e, fun i hi => ?_⟩
    rw [List.length_take] at hi
    rw [List.getElem?_take_of_lt (by omega)]
    exact hc i (by omega)⟩
theorem SeesP.drop {w : World} {b off c : Nat} {ps : List (Int × Int)} (h : SeesP w (some ⟨b, off, none⟩) c ps) {m : Nat} (hm : m ≤ ps.length) : SeesP w (some ⟨b, off + m * 2, none⟩) (c - m) (ps.drop m) :=
  ⟨by have := h.fits; simp; omega, by have := h.max; omega, fun hn => by
    have hn' : ps ≠ [] := fun e => hn (by rw [e]; simp)
    obtain ⟨b', off', e, hc⟩ := h.cells hn'
    injection e with e
    injection e with e1 e2
    subst e1 e2
    refine ⟨b, off + m * 2, rfl, fun i hi => ?_⟩
    rw [List.length_drop] at hi
    rw [List.getElem?_drop]
    have := hc (m + i) (by omega)
    rw [show off + m * 2 + i * 2 = off + (m + i) * 2 by omega]
    exact this⟩
theorem RowPt.cut {lo : Nat} {w : World} {a : Option Addr} {c : Nat} {ps : List (Int × Int)} (h : RowPt lo w (.slice a ps.length c) ps) (h0 : 0 < ps.length) : RowPt lo w (.slice a (ps.length - 1) c) ps.dropLast := by
  have hd : ps.dropLast = ps.take (ps.length - 1) := List.dropLast_eq_take ..
  have hl : ps.dropLast.length = ps.length - 1 := List.length_dropLast ..
  have ht : ptC (ps.take (ps.length - 1)) = (ptC ps).take ((ps.length - 1) * 2) := by
    have e : ps = ps.take (ps.length - 1) ++ ps.drop (ps.length - 1) := (List.take_append_drop ..).symm
    have e2 : ptC ps = ptC (ps.take (ps.length - 1)) ++ ptC (ps.drop (ps.length - 1)) := by rw [← ptC_append, ← e]
    have l : (ptC (ps.take (ps.length - 1))).length = (ps.length - 1) * 2 := by rw [ptC_len, List.length_take]; omega
    rw [e2, ← l, List.take_left]
  refine ⟨by rw [ptC_len], ?_⟩
  rcases h.2 with ⟨_, e0⟩ | ⟨g, cap, cur, hv, hb, hh, hf, hm, hs, hc⟩
  · omega
  · injection hv with v1 v2 v3
    subst v1 v3
    refine .inr ⟨g, c, cur, by rw [hl], hb, hh, by rw [hl]; omega, hm, hs, ?_⟩
    rw [hl, hd, ht, ← hc, List.take_take]
    congr 1
    omega
theorem thn_len (sq : Int) : ∀ k (ls : List (Int × Int)), 2 ≤ (thn sq k ls).length
  | 0, _ => by simp [thn]
  | k + 1, ls => by
    simp only [thn]
    split
    · simp
    · have h1 := thn_len sq k (ls.take ((bstL (gL ls 0 (ls.length - 1)) sq (ls.length - 2)).1.toNat + 1))
      have h2 := thn_len sq k (ls.drop (bstL (gL ls 0 (ls.length - 1)) sq (ls.length - 2)).1.toNat)
      rw [List.length_append, List.length_dropLast]
      omega
theorem thn_le (sq : Int) : ∀ k (ls : List (Int × Int)), 2 ≤ ls.length → (thn sq k ls).length ≤ ls.length
  | 0, ls, h => by simpa [thn] using h
  | k + 1, ls, h => by
    simp only [thn]
    split
    · simpa using h
    · rename_i n3
      have hb := bstL_in (gL ls 0 (ls.length - 1)) sq (ls.length - 2)
      generalize (bstL (gL ls 0 (ls.length - 1)) sq (ls.length - 2)).1 = B at *
      have hb' : 1 ≤ B ∧ B ≤ ((ls.length - 2 : Nat) : Int) := by
        rcases hb with hb | hb
        · omega
        · exact hb
      have h1 := thn_le sq k (ls.take (B.toNat + 1)) (by simp; omega)
      have h2 := thn_le sq k (ls.drop B.toNat) (by simp; omega)
      rw [List.length_take] at h1
      rw [List.length_drop] at h2
      rw [List.length_append, List.length_dropLast]
      omega
theorem RowPt.two (w : World) (X Y U V : Int) : RowPt w.heap.size (w.alloc (.cells #[.int .i64 X, .int .i64 Y, .int .i64 U, .int .i64 V] 31)) (.slice (some ⟨w.heap.size, 0, none⟩) 2 2) [(X, Y), (U, V)] :=
  ⟨rfl, .inr ⟨w.heap.size, 2, #[.int .i64 X, .int .i64 Y, .int .i64 U, .int .i64 V], rfl, Nat.le_refl _, heap_alloc_new _ _, Nat.le_refl _, by simp [maxLen], rfl, rfl⟩⟩

set_option maxRecDepth 20000 in
set_option maxHeartbeats 2000000 in
theorem l9Thin_step (sq : Int) (hs : 0 ≤ sq) (hq : sq ≤ 9223372036854775807) (k : Nat)
    (IH : ∀ (b off c : Nat) (ls : List (Int × Int)) (w : World), SeesP w (some ⟨b, off, none⟩) c ls → CrdL ls → 2 ≤ ls.length → ls.length ≤ k + 1 → ls.length ≤ 500 →
      Calls Try.prog 25 #[.slice (some ⟨b, off, none⟩) ls.length c, .int .i64 sq] w fun e w' => ∃ v, e = .returned v ∧ RowPt w.heap.size w' v (thn sq (k - 1) ls) ∧ Below w.heap.size w w')
    (b off c : Nat) (ls : List (Int × Int)) (w : World) (h : SeesP w (some ⟨b, off, none⟩) c ls) (ok : CrdL ls) (h2 : 2 ≤ ls.length) (hk : ls.length ≤ k + 2) (hl : ls.length ≤ 500) :
    Calls Try.prog 25 #[.slice (some ⟨b, off, none⟩) ls.length c, .int .i64 sq] w fun e w' => ∃ v, e = .returned v ∧ RowPt w.heap.size w' v (thn sq k ls) ∧ Below w.heap.size w w' := by
  have hm := h.max
  have hf := h.fits
  unfold maxLen at hm
  have HH : Hid (SeesP w (some ⟨b, off, none⟩) c ls) := h
  have OK : Hid (CrdL ls) := ok
  have HI : Hid (∀ (b off c : Nat) (ls : List (Int × Int)) (w : World), SeesP w (some ⟨b, off, none⟩) c ls → CrdL ls → 2 ≤ ls.length → ls.length ≤ k + 1 → ls.length ≤ 500 →
      Calls Try.prog 25 #[.slice (some ⟨b, off, none⟩) ls.length c, .int .i64 sq] w fun e w' => ∃ v, e = .returned v ∧ RowPt w.heap.size w' v (thn sq (k - 1) ls) ∧ Below w.heap.size w w') := IH
  obtain ⟨n, hn0⟩ : ∃ n : Nat, Hid (ls.length = n + 1) := ⟨ls.length - 1, by show _ = _; omega⟩
  have hn1 : ((ls.length : Int) - 1) = (n : Int) := by have := hn0.out; omega
  have hn2 : 1 ≤ n := by have := hn0.out; omega
  have hn3 : n < ls.length := by have := hn0.out; omega
  have TE : Hid (thn sq k ls = if (bstL (gL ls 0 n) sq (n - 1)).1 < 0 then [ptA ls 0, ptA ls n] else (thn sq (k - 1) (ls.take ((bstL (gL ls 0 n) sq (n - 1)).1.toNat + 1))).dropLast ++ thn sq (k - 1) (ls.drop (bstL (gL ls 0 n) sq (n - 1)).1.toNat)) := by
    have e1 : ls.length - 1 = n := by have := hn0.out; omega
    have e2 : ls.length - 2 = n - 1 := by have := hn0.out; omega
    show _ = _
    rw [thn_eq hk h2, e1, e2]
  obtain ⟨ts, ht⟩ : ∃ t, Hid (thn sq k ls = t) := ⟨_, rfl⟩
  rw [ht.out] at TE ⊢
  clear h ok IH
  go_enter Try.func25, Try.ntmps25
  go_wp2_with fail
  refine (specWhole sq _ (by omega) hq).mono ?_
  rintro e w1 ⟨v, rfl, hI, hb⟩
  obtain ⟨a1, c1, qs, a2, c2, rs, e1, F1⟩ := hI.fr' ⟨hs, by decide⟩ (sq_bound hq)
  subst e1
  have F0 := (F1 w1.heap.size (.inr (Nat.le_refl _)))
  have bn := below1 w1 (.cells #[.bool false, .slice a1 qs.length c1, .bool false, .slice a2 rs.length c2] 37)
  have V9 := Box4.new w1 (lo := 0) (Nat.zero_le _) (.bool false) (.slice a1 qs.length c1) (.bool false) (.slice a2 rs.length c2) 37
  have z1 : w.heap.size ≤ w1.heap.size := hb.size
  have B0 := hb.trans (bn.mono hb.size)
  replace F0 := F0.below bn
  clear hb bn F1 hI
  go_wp2
  generalize w1.alloc (.cells #[.bool false, .slice a1 qs.length c1, .bool false, .slice a2 rs.length c2] 37) = W1 at *
  generalize w1.heap.size = p7 at *
  have FA : Hid (GapAt 0 p7 W1 sq 1) := ⟨a1, c1, qs, a2, c2, rs, V9, F0, fun q hq => absurd hq (by omega)⟩
  clear V9 F0
  go_loopw [6, 8] (fun s6 s8 wr => ∃ (j m : Nat), j ≤ n - 1 ∧ Hid (m = 1 + j) ∧ m ≤ n ∧ 1 ≤ m ∧ s6 = .int .i64 (bstL (gL ls 0 n) sq j).1 ∧ s8 = .int .i64 m ∧ Hid (GapAt 0 p7 wr (bstL (gL ls 0 n) sq j).2.1 (bstL (gL ls 0 n) sq j).2.2) ∧ Hid (Below w.heap.size w wr)) (fun _ s8 _ => n - (intOf s8).toNat)
  case atStart => exact ⟨0, 1, Nat.zero_le _, rfl, hn2, Nat.le_refl _, rfl, rfl, FA, B0⟩
  case round =>
    clear FA B0
    obtain ⟨j, m, hj, hmj, hmt, hm1, rfl, rfl, FA, B⟩ := hrel
    rename World => wr
    have hp5 : p7 < wr.heap.size := by obtain ⟨_, _, _, _, _, _, q, _⟩ := FA.out.ex; exact q.lt
    by_cases hlt : m < n
    · have STEP : Hid (bstL (gL ls 0 n) sq (j + 1) = if (bstL (gL ls 0 n) sq j).2.1 * (gL ls 0 n m).2 < (gL ls 0 n m).1 * (bstL (gL ls 0 n) sq j).2.2 then ((m : Int), gL ls 0 n m) else bstL (gL ls 0 n) sq j) := by rw [hmj.out]; rfl
      have POS0 := gL_pos ls 0 n m
      have BP0 := bstL_nn (gL_pos ls 0 n) hs j
      obtain ⟨gn, hgn⟩ : ∃ z, Hid ((gL ls 0 n m).1 = z) := ⟨_, rfl⟩
      obtain ⟨gd, hgd⟩ : ∃ z, Hid ((gL ls 0 n m).2 = z) := ⟨_, rfl⟩
      have BND0 := gL_bound OK.out 0 n m
      rw [hgn.out, hgd.out] at POS0 BND0
      have POS : Hid (0 ≤ gn ∧ 0 < gd) := POS0
      have BND : Hid (gn < 4294967296 ^ 4 ∧ gd < 4294967296 ^ 4) := BND0
      rw [hgn.out, hgd.out] at STEP
      obtain ⟨_, _, ea, hc⟩ := (HH.out.below B.out).cells (by intro e; simp [e] at h2)
      simp only [Option.some.injEq, Addr.mk.injEq] at ea
      obtain ⟨rfl, rfl, _⟩ := ea
      obtain ⟨i0, i1⟩ := hc m (by omega)
      obtain ⟨f0, f1⟩ := hc 0 (by omega)
      obtain ⟨t0, t1⟩ := hc n hn3
      obtain ⟨ci, di⟩ := OK.out m
      obtain ⟨cf, df⟩ := OK.out 0
      obtain ⟨ct, dt⟩ := OK.out n
      have GN : Hid (gN ((ptA ls n).1 - (ptA ls 0).1) ((ptA ls n).2 - (ptA ls 0).2) ((ptA ls m).1 - (ptA ls 0).1) ((ptA ls m).2 - (ptA ls 0).2) = gn ∧ gD ((ptA ls n).1 - (ptA ls 0).1) ((ptA ls n).2 - (ptA ls 0).2) ((ptA ls m).1 - (ptA ls 0).1) ((ptA ls m).2 - (ptA ls 0).2) = gd) := by
        rw [← hgn.out, ← hgd.out]
        exact ⟨rfl, rfl⟩
      have GX : Hid ((gn, gd) = gL ls 0 n m) := by show _ = _; rw [← hgn.out, ← hgd.out]
      clear hgn hgd POS0 BND0
      have ei : ls[m]?.getD (0, 0) = ptA ls m := rfl
      have ef : ls[0]?.getD (0, 0) = ptA ls 0 := rfl
      have et : ls[n]?.getD (0, 0) = ptA ls n := rfl
      rw [ei] at i0 i1
      rw [ef] at f0 f1
      rw [et] at t0 t1
      simp only [Nat.zero_mul, Nat.add_zero] at f0 f1
      clear hc ei ef et
      generalize (ptA ls m).1 = X1 at *
      generalize (ptA ls m).2 = Y1 at *
      generalize (ptA ls 0).1 = X2 at *
      generalize (ptA ls 0).2 = Y2 at *
      generalize (ptA ls n).1 = X3 at *
      generalize (ptA ls n).2 = Y3 at *
      generalize hF : bstL (gL ls 0 n) sq j = F at *
      obtain ⟨fp, fn, fd⟩ := F
      dsimp only at *
      have BP : Hid (0 ≤ fn ∧ 0 < fd) := BP0
      clear BP0
      have lm : m < ls.length := by omega
      have l0 : 0 < ls.length := by omega
      go_wp2_with fail
      go_cut [9] (fun s11 W => ∃ p, s11 = .pointer (some ⟨p, 0, none⟩) ∧ Hid (GapAt wr.heap.size p W gn gd) ∧ wr.heap.size ≤ p ∧ Hid (Below wr.heap.size wr W))
      case first =>
        as_aux_lemma =>
          refine wp_region_held_drew (S := Below wr.heap.size wr) (by kernel_rfl) ((Below.refl _ _).drew) (fun hHeld => ?_)
          have N : Below wr.heap.size wr wr.drew := hHeld
          revert hHeld N
          generalize wr.drew = ww0
          intro hHeld N
          clear hHeld
          refine takeQ (i := 0) (gt rfl) (by kernel_rfl) (fun _ _ _ h => h) (by rfl) (by intro wq _; go_simp <;> with_reducible rfl) (by assumption) ?_
          try simp only [Act.put, sA, sB, sC]
          refine takeQ (i := 1) (gt rfl) (by kernel_rfl) (fun _ _ _ h => h) (by rfl) (by intro wq _; go_simp <;> with_reducible rfl) (by assumption) ?_
          try simp only [Act.put, sA, sB, sC]
          refine takeQ (i := 2) (gt rfl) (by kernel_rfl) (fun _ _ _ h => h) (by rfl) (by intro wq _; go_simp <;> with_reducible rfl) (by assumption) ?_
          try simp only [Act.put, sA, sB, sC]
          refine takeQ (i := 3) (gt rfl) (by kernel_rfl) (fun _ _ _ h => h) (by rfl) (by intro wq hSw; have q0 := bat hSw i0; have q1 := bat hSw i1; have q2 := bat hSw f0; have q3 := bat hSw f1; have q4 := bat hSw t0; have q5 := bat hSw t1; go_simp <;> with_reducible rfl) (by assumption) ?_
          try simp only [Act.put, sA, sB, sC]
          refine takeQ (i := 4) (gt rfl) (by kernel_rfl) (fun _ _ _ h => h) (by rfl) (by intro wq _; go_simp <;> with_reducible rfl) (by assumption) ?_
          try simp only [Act.put, sA, sB, sC]
          refine takeQ (i := 5) (gt rfl) (by kernel_rfl) (fun _ _ _ h => h) (by rfl) (by intro wq _; go_simp <;> with_reducible rfl) (by assumption) ?_
          try simp only [Act.put, sA, sB, sC]
          refine takeQ (i := 6) (gt rfl) (by kernel_rfl) (fun _ _ _ h => h) (by rfl) (by intro wq hSw; have q0 := bat hSw i0; have q1 := bat hSw i1; have q2 := bat hSw f0; have q3 := bat hSw f1; have q4 := bat hSw t0; have q5 := bat hSw t1; go_simp <;> with_reducible rfl) (by assumption) ?_
          try simp only [Act.put, sA, sB, sC]
          refine takeQ (i := 7) (gt rfl) (by kernel_rfl) (fun _ _ _ h => h) (by rfl) (by intro wq _; go_simp <;> with_reducible rfl) (by assumption) ?_
          try simp only [Act.put, sA, sB, sC]
          refine takeQ (i := 8) (gt rfl) (by kernel_rfl) (fun _ _ _ h => h) (by rfl) (by intro wq _; go_simp <;> with_reducible rfl) (by assumption) ?_
          try simp only [Act.put, sA, sB, sC]
          refine takeQ (i := 9) (gt rfl) (by kernel_rfl) (fun _ _ _ h => h) (by rfl) (by intro wq _; go_simp <;> with_reducible rfl) (by assumption) ?_
          try simp only [Act.put, sA, sB, sC]
          refine takeQ (i := 10) (gt rfl) (by kernel_rfl) (fun _ _ _ h => h) (by rfl) (by intro wq hSw; have q0 := bat hSw i0; have q1 := bat hSw i1; have q2 := bat hSw f0; have q3 := bat hSw f1; have q4 := bat hSw t0; have q5 := bat hSw t1; go_simp <;> with_reducible rfl) (by assumption) ?_
          try simp only [Act.put, sA, sB, sC]
          refine wpAnyH_ready (rs := [11, 12]) (by kernel_rfl) (by simp) (AllReadyH.cons (gt rfl) (fun K hK => ?_) (AllReadyH.cons (gt rfl) (fun K hK => ?_) AllReadyH.nil))
          · skip
            go_simp
            refine (l3GapC X1 Y1 X2 Y2 X3 Y3 _ ci di cf df ct dt).mono ?_
            rintro e ww1 ⟨v9, rfl, IF9, hb⟩
            rw [GN.out.1, GN.out.2] at IF9
            obtain ⟨a9, c9, qs, a8, c8, rs, e9, F9⟩ := IF9.fr' POS.out BND.out
            subst e9
            have LQ : wr.heap.size ≤ ww0.heap.size := N.size
            have R9 : Hid (∀ q, q < wr.heap.size → some q ≠ rowOf a9 qs ∧ some q ≠ rowOf a8 rs) := fun q hq => ⟨(F9 q (.inl (by omega))).r1, (F9 q (.inl (by omega))).r2⟩
            replace N := N.trans (hb.mono N.size)
            clear hb IF9
            refine hK.out _ _ N (fun hHeld => ?_)
            clear hK K hHeld
            try simp only [Act.put, sA, sB, sC]
            refine wpAnyH_ready (rs := [12]) (by kernel_rfl) (by simp) (AllReadyH.cons (gt rfl) (fun K hK => ?_) AllReadyH.nil)
            go_simp
            have BX := Box4.new ww1 (lo := 0) (Nat.zero_le _) (.bool false) (.slice none 0 0) (.bool false) (.slice none 0 0) 37
            have hb := below1 ww1 (.cells #[.bool false, .slice none 0 0, .bool false, .slice none 0 0] 37)
            have PL : wr.heap.size ≤ ww1.heap.size := N.size
            replace F9 := (F9 ww1.heap.size (.inr (Nat.le_refl _))).below hb
            replace N := N.trans (hb.mono N.size)
            clear hb
            generalize ww1.alloc (.cells #[.bool false, .slice none 0 0, .bool false, .slice none 0 0] 37) = ww2 at *
            generalize ww1.heap.size = pB at *
            refine hK.out _ _ N (fun hHeld => ?_)
            clear hK K hHeld
            try simp only [Act.put, sA, sB, sC]
            refine wpAnyH_ready (rs := [13]) (by kernel_rfl) (by simp) (AllReadyH.cons (gt rfl) (fun K hK => ?_) AllReadyH.nil)
            have z0 := BX.c0
            have z1 := BX.c1
            have z2 := BX.c2
            have z3 := BX.c3
            have zf := BX.fr
            go_simp
            clear z0 z1 z2 z3 zf
            replace N := below_put4 (b := pB) N PL (.bool false) (.slice a9 qs.length c9) (.bool false) (.slice a8 rs.length c8)
            replace F9 := F9.put (.bool false) (.slice a9 qs.length c9) (.bool false) (.slice a8 rs.length c8)
            replace BX := BX.put (.bool false) (.slice a9 qs.length c9) (.bool false) (.slice a8 rs.length c8)
            refine hK.out _ _ N (fun hHeld => ?_)
            clear hK K hHeld
            try simp only [Act.put, sA, sB, sC]
            refine wpAnyH_done (by kernel_rfl) ?_ _
            go_wp2
            go_meet
            case rel => exact ⟨_, rfl, ⟨a9, c9, qs, a8, c8, rs, BX, F9, R9.out⟩, PL, N⟩
          · skip
            go_simp
            have BX := Box4.new ww0 (lo := 0) (Nat.zero_le _) (.bool false) (.slice none 0 0) (.bool false) (.slice none 0 0) 37
            have hb := below1 ww0 (.cells #[.bool false, .slice none 0 0, .bool false, .slice none 0 0] 37)
            have PL : wr.heap.size ≤ ww0.heap.size := N.size
            replace N := N.trans (hb.mono N.size)
            clear hb
            generalize ww0.alloc (.cells #[.bool false, .slice none 0 0, .bool false, .slice none 0 0] 37) = ww3 at *
            generalize ww0.heap.size = pB at *
            refine hK.out _ _ N (fun hHeld => ?_)
            clear hK K hHeld
            try simp only [Act.put, sA, sB, sC]
            refine wpAnyH_ready (rs := [11]) (by kernel_rfl) (by simp) (AllReadyH.cons (gt rfl) (fun K hK => ?_) AllReadyH.nil)
            go_simp
            refine (l3GapC X1 Y1 X2 Y2 X3 Y3 _ ci di cf df ct dt).mono ?_
            rintro e ww4 ⟨v9, rfl, IF9, hb⟩
            rw [GN.out.1, GN.out.2] at IF9
            obtain ⟨a9, c9, qs, a8, c8, rs, e9, F9⟩ := IF9.fr' POS.out BND.out
            subst e9
            have LQ : wr.heap.size ≤ ww3.heap.size := N.size
            have R9 : Hid (∀ q, q < wr.heap.size → some q ≠ rowOf a9 qs ∧ some q ≠ rowOf a8 rs) := fun q hq => ⟨(F9 q (.inl (by omega))).r1, (F9 q (.inl (by omega))).r2⟩
            replace F9 := F9 pB (.inl BX.lt)
            replace BX := BX.below hb
            replace N := N.trans (hb.mono N.size)
            clear hb IF9
            refine hK.out _ _ N (fun hHeld => ?_)
            clear hK K hHeld
            try simp only [Act.put, sA, sB, sC]
            refine wpAnyH_ready (rs := [13]) (by kernel_rfl) (by simp) (AllReadyH.cons (gt rfl) (fun K hK => ?_) AllReadyH.nil)
            have z0 := BX.c0
            have z1 := BX.c1
            have z2 := BX.c2
            have z3 := BX.c3
            have zf := BX.fr
            go_simp
            clear z0 z1 z2 z3 zf
            replace N := below_put4 (b := pB) N PL (.bool false) (.slice a9 qs.length c9) (.bool false) (.slice a8 rs.length c8)
            replace F9 := F9.put (.bool false) (.slice a9 qs.length c9) (.bool false) (.slice a8 rs.length c8)
            replace BX := BX.put (.bool false) (.slice a9 qs.length c9) (.bool false) (.slice a8 rs.length c8)
            refine hK.out _ _ N (fun hHeld => ?_)
            clear hK K hHeld
            try simp only [Act.put, sA, sB, sC]
            refine wpAnyH_done (by kernel_rfl) ?_ _
            go_wp2
            go_meet
            case rel => exact ⟨_, rfl, ⟨a9, c9, qs, a8, c8, rs, BX, F9, R9.out⟩, PL, N⟩
      rename World => W5
      obtain ⟨p11, rfl, GA, PL11, N5⟩ := hcut
      obtain ⟨a3, c3, ts', a4, c4, us, BG, FG, RG0⟩ := GA.out.ex
      have RG : Hid (∀ q, q < wr.heap.size → some q ≠ rowOf a3 ts' ∧ some q ≠ rowOf a4 us) := RG0
      have lw := B.out.size
      have B' := B.out.trans (N5.out.mono lw)
      have l5 := N5.out.size
      obtain ⟨a5, c5, vs, a6, c6, ys, B90, F90, _⟩ := FA.out.ex
      have B9 := B90.below N5.out
      have F9 := F90.below N5.out
      clear GA RG0 FA B i0 i1 f0 f1 t0 t1 N5 B90 F90
      obtain ⟨g0, g1, g2, g3, _, _⟩ := id BG
      obtain ⟨k0, k1, k2, k3, _, _⟩ := id B9
      go_wp2_with fail
      refine (cmpFrS p11 p7 a3 a4 a5 a6 c3 c4 c5 c6 ts' us vs ys gn gd fn fd _ FG F9 POS.out BP.out).mono ?_
      rintro e w6 ⟨rfl, hb⟩
      replace BG := BG.below hb
      replace B9 := B9.below hb
      replace FG := FG.below hb
      replace F9 := F9.below hb
      replace B' := B'.trans (hb.mono B'.size)
      clear hb g0 g1 g2 g3 k0 k1 k2 k3
      by_cases hc : fn * gd < gn * fd
      · rw [cmpZ_gt hc]
        have ST : Hid (bstL (gL ls 0 n) sq (j + 1) = ((m : Int), (gn, gd))) := by show _ = _; rw [STEP.out, if_pos hc, ← GX.out]
        obtain ⟨g0, g1, g2, g3, _, _⟩ := id BG
        obtain ⟨k0, k1, k2, k3, kf, _⟩ := id B9
        have FN := (FG.other (RG.out p7 hp5).1 (RG.out p7 hp5).2).put (.bool false) (.slice a3 ts'.length c3) (.bool false) (.slice a4 us.length c4)
        have BN := B9.put (.bool false) (.slice a3 ts'.length c3) (.bool false) (.slice a4 us.length c4)
        have BB : Hid (Below w.heap.size w _) := below_put4 (b := p7) B' (by omega) (.bool false) (.slice a3 ts'.length c3) (.bool false) (.slice a4 us.length c4)
        have FA2 : Hid (GapAt 0 p7 _ gn gd) := ⟨a3, c3, ts', a4, c4, us, BN, FN, fun q hq => absurd hq (by omega)⟩
        clear STEP hc FG F9 B' FN BN BG B9
        go_wp2
        go_roundw
        case rel => exact ⟨j + 1, m + 1, (by have := hmj.out; omega), (by rw [hmj.out]; show _ = _; omega), by omega, by omega, (by rw [ST.out]), by go_num, (by rw [ST.out]; exact FA2), BB⟩
        case measure => simp [intOf]; omega
      · obtain ⟨z, hz⟩ : ∃ z, Hid (cmpZ (gn * fd) (fn * gd) = z) := ⟨_, rfl⟩
        have z0 : z ≤ 0 := by rw [← hz.out]; exact cmpZ_le hc
        rw [hz.out]
        have ST : Hid (bstL (gL ls 0 n) sq (j + 1) = (fp, (fn, fd))) := by show _ = _; rw [STEP.out, if_neg hc]
        have FA2 : Hid (GapAt 0 p7 w6 fn fd) := ⟨a5, c5, vs, a6, c6, ys, B9, F9, fun q hq => absurd hq (by omega)⟩
        clear STEP hc FG F9 BG B9 hz
        go_wp2
        go_roundw
        case rel => exact ⟨j + 1, m + 1, (by have := hmj.out; omega), (by rw [hmj.out]; show _ = _; omega), by omega, by omega, (by rw [ST.out]), by go_num, (by rw [ST.out]; exact FA2), B'⟩
        case measure => simp [intOf]; omega
    · obtain rfl : m = n := by omega
      obtain rfl : j = m - 1 := by have := hmj.out; omega
      have BI := bstL_in (gL ls 0 m) sq (m - 1)
      have lw := B.out.size
      by_cases hB : (bstL (gL ls 0 m) sq (m - 1)).1 < 0
      · have TV : Hid (ts = [ptA ls 0, ptA ls m]) := by show _ = _; rw [TE.out, if_pos hB]
        obtain ⟨_, _, ea, hc⟩ := (HH.out.below B.out).cells (by intro e; simp [e] at h2)
        simp only [Option.some.injEq, Addr.mk.injEq] at ea
        obtain ⟨rfl, rfl, _⟩ := ea
        obtain ⟨f0, f1⟩ := hc 0 (by omega)
        obtain ⟨t0, t1⟩ := hc m hn3
        have ef : ls[0]?.getD (0, 0) = ptA ls 0 := rfl
        have et : ls[m]?.getD (0, 0) = ptA ls m := rfl
        rw [ef] at f0 f1
        rw [et] at t0 t1
        simp only [Nat.zero_mul, Nat.add_zero] at f0 f1
        obtain ⟨p0, hp0⟩ : ∃ p, Hid (ptA ls 0 = p) := ⟨_, rfl⟩
        obtain ⟨pm, hpm⟩ : ∃ p, Hid (ptA ls m = p) := ⟨_, rfl⟩
        rw [hp0.out] at f0 f1 TV
        rw [hpm.out] at t0 t1 TV
        obtain ⟨X2, Y2⟩ := p0
        obtain ⟨X3, Y3⟩ := pm
        dsimp only at f0 f1 t0 t1
        have l0 : 0 < ls.length := by omega
        have RT := RowPt.two wr X2 Y2 X3 Y3
        have bn := below1 wr (.cells #[.int .i64 X2, .int .i64 Y2, .int .i64 X3, .int .i64 Y3] 31)
        have RF : Hid (RowPt w.heap.size (wr.alloc (.cells #[.int .i64 X2, .int .i64 Y2, .int .i64 X3, .int .i64 Y3] 31)) (.slice (some ⟨wr.heap.size, 0, none⟩) 2 2) ts) := by rw [TV.out]; exact row_base RT lw
        have BF := (B.out.trans (bn.mono lw)).drew
        clear hc ef et RT bn FA TE
        go_wp2_with fail
        go_region
        go_wp2
        go_ret
        exact ⟨_, rfl, RowPt.below RF.out (Below.refl _ _).drew, BF⟩
      · obtain ⟨bN, hbN⟩ : ∃ bN : Nat, (bstL (gL ls 0 m) sq (m - 1)).1 = (bN : Int) := ⟨(bstL (gL ls 0 m) sq (m - 1)).1.toNat, by omega⟩
        have hb1 : 1 ≤ bN ∧ bN + 1 ≤ m := by
          rcases BI with BI | BI
          · omega
          · omega
        obtain ⟨hb1, hb2⟩ := hb1
        have e1 : (ls.take (bN + 1)).length = bN + 1 := by rw [List.length_take]; omega
        have e2 : (ls.drop bN).length = ls.length - bN := List.length_drop ..
        have OV0 : ts = (thn sq (k - 1) (ls.take (bN + 1))).dropLast ++ thn sq (k - 1) (ls.drop bN) := by rw [TE.out, if_neg hB, hbN]; rfl
        have LL1a := thn_len sq (k - 1) (ls.take (bN + 1))
        have LL1b := thn_le sq (k - 1) (ls.take (bN + 1)) (by omega)
        have LL2a := thn_len sq (k - 1) (ls.drop bN)
        have LL2b := thn_le sq (k - 1) (ls.drop bN) (by omega)
        have hlen := hn0.out
        have IH1 := HI.out b off c (ls.take (bN + 1)) wr ((HH.out.below B.out).take _) (OK.out.take _) (by omega) (by omega) (by omega)
        have IH2' : Hid (∀ W, Below w.heap.size w W → Calls Try.prog 25 #[.slice (some ⟨b, off + bN * 2, none⟩) (ls.drop bN).length (c - bN), .int .i64 sq] W fun e w' => ∃ v, e = .returned v ∧ RowPt W.heap.size w' v (thn sq (k - 1) (ls.drop bN)) ∧ Below W.heap.size W w') := fun W hW => HI.out b (off + bN * 2) (c - bN) (ls.drop bN) W ((HH.out.below hW).drop (by omega)) (OK.out.drop _) (by omega) (by omega) (by omega)
        rw [e1] at IH1 LL1b
        rw [e2] at IH2' LL2b
        obtain ⟨L1, hL1⟩ : ∃ L, Hid (thn sq (k - 1) (ls.take (bN + 1)) = L) := ⟨_, rfl⟩
        obtain ⟨L2, hL2⟩ : ∃ L, Hid (thn sq (k - 1) (ls.drop bN) = L) := ⟨_, rfl⟩
        rw [hL1.out] at LL1a LL1b OV0 IH1
        rw [hL2.out] at LL2a LL2b OV0 IH2'
        have OV : Hid (L1.dropLast ++ L2 = ts) := OV0.symm
        obtain ⟨q, hq0⟩ : ∃ q : Nat, Hid (L1.length = q + 1) := ⟨L1.length - 1, by show _ = _; omega⟩
        have hq2 : ((L1.length : Int) - 1) = (q : Int) := by have := hq0.out; omega
        have hq1 : Hid (L1.dropLast.length = q) := by show _ = _; rw [List.length_dropLast]; have := hq0.out; omega
        have hq3 : q ≤ 500 := by have := hq0.out; omega
        rw [hbN]
        obtain ⟨iP, hiP, hP0, hP1, hP2⟩ := info_parts infoPt
        have LL2 : 2 ≤ L2.length ∧ L2.length ≤ 500 := by omega
        clear FA TE BI hB hbN OV0 e1 e2 hL1 hL2 HI OK hlen
        go_wp2_with fail
        refine IH1.mono ?_
        rintro e w3 ⟨v3, rfl, R3, B3⟩
        obtain ⟨va, vc, e3, vf, vm⟩ := R3.shape
        subst e3
        unfold maxLen at vm
        have RC : w3.ownsRow wr.heap.size 31 2 (.slice va q vc) q (ptC L1.dropLast) := by
          have := R3.cut (by omega)
          unfold RowPt at this
          rw [hq1.out, show L1.length - 1 = q by have := hq0.out; omega] at this
          exact this
        have lw3 : wr.heap.size ≤ w3.heap.size := B3.size
        have vq : q ≤ vc := by have := hq0.out; omega
        have hwq : IntKind.i64.wrap ((q : Nat) : Int) = (q : Int) := by rw [IntKind.wrap_i64]; omega
        have lb : bN ≤ ls.length := by omega
        have lb2 : ls.length ≤ c := hf
        have lb3 : c ≠ bN := by omega
        clear IH1 R3
        go_wp2_with fail
        refine wp_region_held_drew (S := fun _ => True) (by kernel_rfl) trivial (fun hHeld => ?_)
        clear hHeld
        have N : Below w3.heap.size w3 w3.drew := (Below.refl _ _).drew
        have IH2 := IH2'.out w3.drew ((B.out.trans (B3.mono lw)).drew)
        have RCd : w3.drew.ownsRow wr.heap.size 31 2 (.slice va q vc) q (ptC L1.dropLast) := RC
        clear RC IH2'
        have RC := RCd
        clear RCd
        revert N IH2 RC
        generalize w3.drew = ww0
        intro N IH2 RC
        refine takeQ (i := 0) (gt rfl) (by kernel_rfl) (fun _ _ _ h => h) (by rfl) (by intro wq _; go_simp <;> with_reducible rfl) trivial ?_
        try simp only [Act.put, sA, sB, sC]
        refine takeQ (i := 1) (gt rfl) (by kernel_rfl) (fun _ _ _ h => h) (by rfl) (by intro wq _; go_simp <;> with_reducible rfl) trivial ?_
        try simp only [Act.put, sA, sB, sC]
        refine takeQ (i := 2) (gt rfl) (by kernel_rfl) (fun _ _ _ h => h) (by rfl) (by intro wq _; go_simp <;> with_reducible rfl) trivial ?_
        try simp only [Act.put, sA, sB, sC]
        refine takeQ (i := 3) (gt rfl) (by kernel_rfl) (fun _ _ _ h => h) (by rfl) (by intro wq _; go_simp <;> with_reducible rfl) trivial ?_
        try simp only [Act.put, sA, sB, sC]
        refine takeQ (i := 4) (gt rfl) (by kernel_rfl) (fun _ _ _ h => h) (by rfl) (by intro wq _; go_simp <;> with_reducible rfl) trivial ?_
        try simp only [Act.put, sA, sB, sC]
        refine takeQ (i := 5) (gt rfl) (by kernel_rfl) (fun _ _ _ h => h) (by rfl) (by intro wq _; go_simp <;> with_reducible rfl) trivial ?_
        try simp only [Act.put, sA, sB, sC]
        refine takeQ (i := 6) (gt rfl) (by kernel_rfl) (fun _ _ _ h => h) (by rfl) (by intro wq _; go_simp <;> with_reducible rfl) trivial ?_
        try simp only [Act.put, sA, sB, sC]
        refine takeQ (i := 7) (gt rfl) (by kernel_rfl) (fun _ _ _ h => h) (by rfl) (by intro wq _; go_simp <;> with_reducible rfl) trivial ?_
        try simp only [Act.put, sA, sB, sC]
        refine takeQ (i := 8) (gt rfl) (by kernel_rfl) (fun _ _ _ h => h) (by rfl) (by intro wq _; go_simp <;> with_reducible rfl) trivial ?_
        try simp only [Act.put, sA, sB, sC]
        refine wpAnyH_ready (rs := [9]) (by kernel_rfl) (by simp) (AllReadyH.cons (gt rfl) (fun K hK => ?_) AllReadyH.nil)
        go_simp
        refine IH2.mono ?_
        rintro e ww1 ⟨v9, rfl, R9, hb⟩
        obtain ⟨a9, c9, e9, _, _⟩ := R9.shape
        subst e9
        have L9 := LL2
        obtain ⟨ad9, e9⟩ : ∃ ad, a9 = some ad := by
          rcases R9.2 with ⟨_, h0⟩ | ⟨g9, _, _, hv, _⟩
          · omega
          · injection hv with hv
            exact ⟨_, hv⟩
        subst e9
        have NW := R9.seesP.newsA
        replace N := N.trans (hb.mono N.size)
        have RC9 := owns_below RC hb
        have hsz := hb.size
        clear hb R9
        refine hK.out _ _ trivial (fun hHeld => ?_)
        clear hK K hHeld
        try simp only [Act.put, sA, sB, sC]
        refine wpAnyH_ready (rs := [10]) (by kernel_rfl) (by simp) (AllReadyH.cons (gt rfl) (fun K hK => ?_) AllReadyH.nil)
        have lw4 := N.size
        refine wp_append_at (.tmp 59) (.tmp 64) 24 rfl wr.heap.size 31 iP (.agg #[.int .i64 0, .int .i64 0]) 2 16 Try.underlying24 hiP hP0 hP1 hP2 rfl (by decide) (.slice va q vc) q (ptC L1.dropLast) rfl RC9 ad9 L2.length _ (ptC L2) rfl (ptC_len _) NW (ptC_ones _) (by unfold maxLen; omega) (by omega) (by omega) ?_
        intro v7 w7 R7 G7 A7
        have RF : Hid (RowPt w.heap.size w7 v7 ts) := by
          rw [← OV.out]
          refine row_base ?_ lw
          rw [ptC_append, List.length_append, hq1.out]
          exact R7
        have N7 : Below w3.heap.size w3 w7 ∨ True := .inr trivial
        have BF : Hid (Below w.heap.size w w7) := (B.out.trans (B3.mono lw)).trans ((N.mono (Nat.le_trans lw lw3)).grown G7 (by omega) (fun k hk => by have := (World.ownsRow.lt RC9 k hk).1; omega))
        clear R7 G7 A7 N7 NW RC9
        refine hK.out _ _ trivial (fun hHeld => ?_)
        clear hK K hHeld
        try simp only [Act.put, sA, sB, sC]
        refine takeQ (i := 11) (gt rfl) (by kernel_rfl) (fun _ _ _ h => h) (by rfl) (by intro wq _; go_simp <;> with_reducible rfl) trivial ?_
        try simp only [Act.put, sA, sB, sC]
        refine wpAnyH_done (by kernel_rfl) ?_ _
        go_wp2
        go_ret
        exact ⟨_, rfl, RF.out, BF.out⟩

theorem l9Thin_any (sq : Int) (hs : 0 ≤ sq) (hq : sq ≤ 9223372036854775807) : ∀ (k b off c : Nat) (ls : List (Int × Int)) (w : World), SeesP w (some ⟨b, off, none⟩) c ls → CrdL ls → 2 ≤ ls.length → ls.length ≤ k + 2 → ls.length ≤ 500 →
    Calls Try.prog 25 #[.slice (some ⟨b, off, none⟩) ls.length c, .int .i64 sq] w fun e w' => ∃ v, e = .returned v ∧ RowPt w.heap.size w' v (thn sq k ls) ∧ Below w.heap.size w w'
  | 0, b, off, c, ls, w, h, ok, h2, hk, hl => l9Thin_step sq hs hq 0 (fun _ _ _ _ _ _ _ q1 q2 _ => absurd q1 (by omega)) b off c ls w h ok h2 hk hl
  | k + 1, b, off, c, ls, w, h, ok, h2, hk, hl => l9Thin_step sq hs hq (k + 1) (fun b off c ls w h ok q1 q2 q3 => l9Thin_any sq hs hq k b off c ls w h ok q1 q2 q3) b off c ls w h ok h2 hk hl

set_option maxRecDepth 20000 in
set_option maxHeartbeats 1000000 in
theorem specThin (ad : Addr) (c : Nat) (ps : List (Int × Int)) (sq : Int) (w : World) (h : SeesP w (some ad) c ps) (hl : ps.length ≤ 1048576) (hq : sq ≤ 9223372036854775807) :
    Calls Try.prog 8 #[.slice (some ad) ps.length c, .int .i64 sq] w fun e w' => ∃ v, e = .returned v ∧ RowPt w.heap.size w' v (thV ps sq) ∧ Below w.heap.size w w' := by
  obtain ⟨iP, hiP, hP0, hP1, hP2⟩ := info_parts infoPt
  have hm := h.max
  have hf := h.fits
  unfold maxLen at hm
  obtain ⟨g, hg⟩ : ∃ g, Hid (okL ps = g) := ⟨_, rfl⟩
  obtain ⟨ts, ht⟩ : ∃ t, Hid (thV ps sq = t) := ⟨_, rfl⟩
  have HN : Hid (thOk ps sq = false → ps = ts) := fun e => by rw [← ht.out]; unfold thV; rw [e]; rfl
  rw [ht.out]
  obtain ⟨z, hz⟩ : ∃ z, Hid ((okL ps && decide (ps.length ≤ 500)) = z) := ⟨_, rfl⟩
  go_enter Try.func8, Try.ntmps8
  go_wp2_with fail
  refine (l9Right_any (some ad) c ps _ h hl).mono ?_
  rintro e w1 ⟨rfl, hb⟩
  rw [hz.out]
  have S := h.below hb
  have bn := below1 w1 (.cells #[] 31)
  have RE := RowPt.empty w1 (base := w.heap.size) hb.size
  have NW := (S.below bn).newsA
  have HB : w.heap.size ≤ (w1.alloc (.cells #[] 31)).heap.size := Nat.le_trans hb.size bn.size
  have B1 := hb.trans (bn.mono hb.size)
  by_cases hb' : z = true ∧ 2 ≤ ps.length ∧ 0 ≤ sq
  · obtain ⟨rfl, h2, h3⟩ := hb'
    have hz' := hz.out
    rw [Bool.and_eq_true, decide_eq_true_eq] at hz'
    have TK : thOk ps sq = true := by unfold thOk; rw [hz'.1, decide_eq_true h2, decide_eq_true hz'.2, decide_eq_true h3]; rfl
    have OV : Hid (thn sq 500 ps = ts) := by show _ = _; rw [← ht.out]; unfold thV; rw [TK, if_pos rfl]
    obtain ⟨b, off, ea, _⟩ := S.cells (by intro e; simp [e] at h2)
    injection ea with ea
    subst ea
    have C := l9Thin_any sq h3 hq 500 b off c ps w1 S (CrdL.of hz'.1) h2 (by omega) hz'.2
    rw [OV.out] at C
    have l2 : ¬ ((ps.length : Int) < 2) := by omega
    have l3 : ¬ (sq < 0) := by omega
    clear bn RE NW HB B1 hz' TK HN
    go_wp2_with fail
    refine C.mono ?_
    rintro e w2 ⟨v, rfl, R2, hb2⟩
    have RF : Hid (RowPt w.heap.size w2 v ts) := row_base R2 hb.size
    have BF := hb.trans (hb2.mono hb.size)
    clear R2 hb2 C
    go_wp2
    go_ret
    exact ⟨_, rfl, RF.out, BF⟩
  · have OV : Hid (ps = ts) := HN.out (by
      have hz' := hz.out
      cases e : thOk ps sq
      · rfl
      · exfalso
        apply hb'
        unfold thOk at e
        simp only [Bool.and_eq_true, decide_eq_true_eq] at e
        rw [← hz', e.2, decide_eq_true e.1.1.2]
        exact ⟨rfl, e.1.1.1, e.1.2⟩)
    have hz1 : w.heap.size ≤ w1.heap.size := hb.size
    clear hb HN S bn
    cases z
    · clear hb'
      go_wp2_with (at_builtin; refine wpList_append_own_at _ rfl (.tmp 17) (.tmp 18) 24 rfl w.heap.size 31 iP (.agg #[.int .i64 0, .int .i64 0]) 2 16 Try.underlying24 hiP hP0 hP1 hP2 rfl (by decide) (.slice (some ⟨w1.heap.size, 0, none⟩) 0 0) 0 [] rfl RE ad ps.length _ (ptC ps) rfl (ptC_len _) NW (ptC_ones _) (by unfold maxLen; omega) (by omega) HB ?_; intro v7 w7 R7 G7 _ _; rw [Nat.zero_add, List.nil_append] at R7)
      go_ret
      exact ⟨_, rfl, (by rw [← OV.out]; exact R7), B1.grown G7 HB (fun k hk => by simp only [Value.ownBlock, Option.some.injEq] at hk; omega)⟩
    · by_cases h2 : ps.length < 2
      · clear hb'
        have l2 : (ps.length : Int) < 2 := by omega
        go_wp2_with (at_builtin; refine wpList_append_own_at _ rfl (.tmp 17) (.tmp 18) 24 rfl w.heap.size 31 iP (.agg #[.int .i64 0, .int .i64 0]) 2 16 Try.underlying24 hiP hP0 hP1 hP2 rfl (by decide) (.slice (some ⟨w1.heap.size, 0, none⟩) 0 0) 0 [] rfl RE ad ps.length _ (ptC ps) rfl (ptC_len _) NW (ptC_ones _) (by unfold maxLen; omega) (by omega) HB ?_; intro v7 w7 R7 G7 _ _; rw [Nat.zero_add, List.nil_append] at R7)
        go_ret
        exact ⟨_, rfl, (by rw [← OV.out]; exact R7), B1.grown G7 HB (fun k hk => by simp only [Value.ownBlock, Option.some.injEq] at hk; omega)⟩
      · have l3 : sq < 0 := by
          rcases Int.lt_or_le sq 0 with q | q
          · exact q
          · exact absurd ⟨rfl, by omega, q⟩ hb'
        have l2 : ¬ ((ps.length : Int) < 2) := by omega
        clear hb'
        go_wp2_with (at_builtin; refine wpList_append_own_at _ rfl (.tmp 17) (.tmp 18) 24 rfl w.heap.size 31 iP (.agg #[.int .i64 0, .int .i64 0]) 2 16 Try.underlying24 hiP hP0 hP1 hP2 rfl (by decide) (.slice (some ⟨w1.heap.size, 0, none⟩) 0 0) 0 [] rfl RE ad ps.length _ (ptC ps) rfl (ptC_len _) NW (ptC_ones _) (by unfold maxLen; omega) (by omega) HB ?_; intro v7 w7 R7 G7 _ _; rw [Nat.zero_add, List.nil_append] at R7)
        go_ret
        exact ⟨_, rfl, (by rw [← OV.out]; exact R7), B1.grown G7 HB (fun k hk => by simp only [Value.ownBlock, Option.some.injEq] at hk; omega)⟩
end Go.Proofs.Ytcnmglghmianoaa
