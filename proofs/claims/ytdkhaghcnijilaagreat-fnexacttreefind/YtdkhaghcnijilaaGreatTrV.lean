/- All numbers of a tree at work, of the program: levels, leaves, all. -/
import Derived.Test.YtdkhaghcnijilaaGreatTrO
import Derived.Test.YtdkhaghcnijilaaGreatIntsL
namespace Go.Proofs.YtdkhaghcnijilaaGreat
open Go.RowKit

theorem lv_one {t : Nd} {m : Nat} (h : lvGood t m) : ¬ lvBad t ∧ ∀ m', lvGood t m' → m' = m := by
  obtain ⟨hf, he⟩ := h
  obtain ⟨_, pos⟩ := sz_lvl t m hf
  constructor
  · rintro ⟨k, kf, kb⟩
    rcases Nat.lt_trichotomy k m with c | c | c
    · obtain ⟨q1, q2⟩ := hf k c
      rcases kb with ⟨b1, _⟩ | b2
      · omega
      · omega
    · subst c
      rcases kb with ⟨_, b1⟩ | b2
      · omega
      · have := lfN_all (lvl t k) _ he
        simp only [lvl] at b2
        rw [this] at b2
        simp at b2
    · have := (kf m c).1
      omega
  · intro m' h'
    obtain ⟨hf', he'⟩ := h'
    obtain ⟨_, pos'⟩ := sz_lvl t m' hf'
    rcases Nat.lt_trichotomy m m' with c | c | c
    · have := (hf' m c).1
      omega
    · exact c.symm
    · have := (hf m' c).1
      omega
/-- The numbers of the first trees. -/
def idN (ts : List Nd) : Nat → List Int
  | 0 => []
  | j + 1 => idN ts j ++ (ndA ts j).is
theorem sz_is (t : Nd) : t.is.length ≤ ndSz t := by
  obtain ⟨b, bs, is, ks⟩ := t
  simp only [ndSz, Nd.is]
  omega
theorem idN_le (ts : List Nd) : ∀ j, j ≤ ts.length → (idN ts j).length ≤ ndSz.ndsSz (ts.take j)
  | 0, _ => by simp [idN]
  | j + 1, h => by
    have h1 := idN_le ts j (by omega)
    have h2 := sz_is (ndA ts j)
    rw [ndsSz_at (by omega)]
    simp only [idN, List.length_append]
    omega

theorem leaves_any (T m : Nat) (t : Nd) (w : World) (WT : WkAt w T t) (hs : ndSz t ≤ 1048576) (hg : lvGood t m) :
    Calls Tryz.prog 88 #[.pointer (some ⟨T, 0, none⟩)] w fun e w' => ∃ g c qs, e = .returned (.slice (some ⟨g, 0, none⟩) qs.length c) ∧ SeesTp w' (some ⟨g, 0, none⟩) c qs ∧ WkL w qs (lvl t m) ∧ Below w.heap.size w w' := by
  have C := levelsOfW_any T t w WT hs
  have L : Calls Tryz.prog 104 #[.pointer (some ⟨T, 0, none⟩)] w fun e w' => ∃ v, e = .returned v ∧ LvWOut w.heap.size w w' T t v ∧ Below w.heap.size w w' := by
    go_enter Tryz.func104, Tryz.ntmps104
    go_wp2_with fail
    refine C.mono ?_
    rintro e w1 ⟨v, rfl, O, hb⟩
    have HO : Hid (LvWOut w.heap.size w w1 T t v) := O
    clear O
    go_wp2
    go_ret
    exact ⟨v, rfl, HO.out, hb⟩
  clear C
  go_enter Tryz.func88, Tryz.ntmps88
  go_wp2_with fail
  refine L.mono ?_
  rintro e w1 ⟨v, rfl, O, hb⟩
  obtain ⟨nb, un⟩ := lv_one hg
  rcases O with ⟨_, bad⟩ | ⟨m', vs, qss, LR, QL, G, _, PT⟩
  · exact absurd bad nb
  obtain rfl := un m' G
  obtain ⟨g0, c0, e5, hg0, hf0, hm0, hc⟩ := LvW.at2 LR (by omega)
  rw [QL] at e5 hf0 hc
  subst e5
  unfold maxLen at hm0
  obtain ⟨g, c', g1, SR⟩ := hc m' (by omega)
  have F : Hid (SeesTp w1 (some ⟨g, 0, none⟩) c' (rowTp qss m') ∧ WkL w (rowTp qss m') (lvl t m')) := ⟨SR, PT m' (Nat.le_refl _)⟩
  clear L hc SR PT LR QL un nb G
  go_wp2
  go_ret
  exact ⟨g, c', rowTp qss m', rfl, F.out.1, F.out.2, hb⟩

set_option maxRecDepth 20000 in
set_option maxHeartbeats 4000000 in
theorem all_any (T m : Nat) (t : Nd) (w : World) (WT : WkAt w T t) (hs : ndSz t ≤ 1048576) (hg : lvGood t m) :
    Calls Tryz.prog 54 #[.pointer (some ⟨T, 0, none⟩)] w fun e w' => ∃ v, e = .returned v ∧ RowI w.heap.size w' v (idN (lvl t m) (lvl t m).length) ∧ Below w.heap.size w w' := by
  have C := leaves_any T m t w WT hs hg
  obtain ⟨iX, hiX, hx0, hx1, hx2⟩ := info_parts infoI
  have HSZ : Hid (∀ j, j ≤ (lvl t m).length → (idN (lvl t m) j).length ≤ 1048577) := fun j hj => by
    have h1 := idN_le (lvl t m) j hj
    have h2 := (sz_lvl t m hg.1).1
    have h3 : ndSz.ndsSz ((lvl t m).take j) ≤ ndSz.ndsSz (lvl t m) := by
      have := sz_app ((lvl t m).take j) ((lvl t m).drop j)
      rw [List.take_append_drop] at this
      omega
    omega
  clear WT hs hg
  generalize lvl t m = ts at C HSZ ⊢
  go_enter Tryz.func54, Tryz.ntmps54
  go_wp2_with fail
  refine C.mono ?_
  rintro e w1 ⟨g, c, qs, rfl, SQ, WL, B1⟩
  have hm1 := SQ.max
  have hf1 := SQ.fits
  unfold maxLen at hm1
  have HQ : Hid (qs.length = ts.length) := WL.1
  have HW : Hid (WkL w qs ts) := WL
  obtain ⟨a, ha⟩ : ∃ a : Option Addr, some ⟨g, 0, none⟩ = a := ⟨_, rfl⟩
  rw [ha] at SQ ⊢
  clear ha C WL
  have HSQ : Hid (SeesTp w1 a c qs) := SQ
  clear SQ
  have wl1 := B1.size
  go_wp2
  go_loopw [3, 5, 11] (fun s3 _ s11 wr => ∃ (j : Nat), j ≤ qs.length ∧ s11 = .int .i64 j ∧ Hid (RowI w1.heap.size wr s3 (idN ts j)) ∧ Below w1.heap.size w1 wr) (fun _ _ s11 _ => qs.length - (intOf s11).toNat)
  case atStart => exact ⟨0, Nat.zero_le _, rfl, RowI.nil _ _, Below.refl _ _⟩
  case round =>
    obtain ⟨j, hj, rfl, RR, B⟩ := hrel
    rename World => wr
    by_cases hlt : j < qs.length
    · have hlt' : j < ts.length := by have := HQ.out; omega
      obtain ⟨b1, o1, ea, hc⟩ := (HSQ.out.below B).cells (by intro e; simp [e] at hlt)
      have g1 := hc j hlt
      obtain ⟨e20, WK⟩ := HW.out.2 j hlt'
      obtain ⟨a1, c1, a2, c2, qk, K6, SI, _⟩ := WK.open
      have g4 := (K6.below (B1.trans (B.mono B1.size))).c4
      have ID : Hid (idN ts (j + 1) = idN ts j ++ (ndA ts j).is) := (rfl : idN ts (j + 1) = _)
      have HL := HSZ.out (j + 1) (by omega)
      rw [ID.out, List.length_append] at HL
      unfold ptV at g1
      rw [e20] at g1
      have LI := SI.len
      have hf2 := SI.fits
      have hm2 := SI.max
      unfold maxLen at hm2
      have HSI : Hid (SeesIt w a1 c1 (ndA ts j).bs (ndA ts j).is) := SI
      clear hc K6 WK e20 SI
      generalize (ndA ts j).bs = bs at *
      generalize (ndA ts j).is = is at *
      generalize idN ts j = ds at *
      subst ea
      go_wp2
      go_loopw [3, 7, 20] (fun s3 _ s20 wi => ∃ (i : Nat), i ≤ bs.length ∧ s20 = .int .i64 i ∧ Hid (RowI w1.heap.size wi s3 (ds ++ is.take i)) ∧ Below w1.heap.size w1 wi) (fun _ _ s20 _ => bs.length - (intOf s20).toNat)
      case atStart => exact ⟨0, Nat.zero_le _, rfl, by show RowI _ _ _ _; rw [List.take_zero, List.append_nil]; exact RR.out, B⟩
      case round =>
        clear RR B g1 g4
        obtain ⟨i, hi, rfl, RI, B⟩ := hrel
        rename World => wi
        by_cases hli : i < bs.length
        · obtain ⟨b2, o2, ea2, hc2⟩ := (HSI.out.below (B1.trans (B.mono B1.size))).cells (by intro e; simp [e] at hli)
          obtain ⟨⟨g1, g2, g3, g4⟩, g5⟩ := hc2 i hli
          subst ea2
          obtain ⟨⟨x1, x2, x3, x4⟩, ux⟩ : ∃ x, Hid (bxAt bs i = x) := ⟨_, rfl⟩
          rw [ux.out] at g1 g2 g3 g4
          dsimp only at g1 g2 g3 g4
          have TK : Hid (ds ++ is.take (i + 1) = ds ++ is.take i ++ [is[i]?.getD 0]) := by
            show _ = _
            rw [List.append_assoc, List.take_add_one, List.getElem?_eq_getElem (by omega)]
            rfl
          have LT : (ds ++ is.take i).length = ds.length + i := by rw [List.length_append, List.length_take, Nat.min_eq_left (by omega)]
          generalize is[i]?.getD 0 = n0 at *
          obtain ⟨a3, c3, e3, hc3, hm3⟩ := RI.out.shape'
          rw [LT] at e3 hc3
          subst e3
          have R0 := RI.out
          unfold RowI at R0
          rw [LT] at R0
          unfold maxLen at hm3
          have wl := B.size
          have B6 := below1 wi (.cells #[.int .i64 x1, .int .i64 x2, .int .i64 x3, .int .i64 x4, .int .i64 n0] 85)
          have q4 : (wi.alloc (.cells #[.int .i64 x1, .int .i64 x2, .int .i64 x3, .int .i64 x4, .int .i64 n0] 85)).cell? ⟨wi.heap.size, 4, none⟩ = some (.int .i64 n0) := cell_new wi _ _ 4 rfl
          clear hc2 ux RI
          go_upto_region 8 with fail
          generalize wi.alloc (.cells #[.int .i64 x1, .int .i64 x2, .int .i64 x3, .int .i64 x4, .int .i64 n0] 85) = W0 at *
          replace R0 := owns_below R0 B6
          replace B := B.trans (B6.mono wl)
          replace wl := B.size
          clear B6 g1 g2 g3 g4 g5
          generalize wi.heap.size = p7 at *
          go_wp2_with (at_builtin; refine wpList_append_own _ rfl (.tmp 24) (.tmp 27) 27 rfl w1.heap.size 3 iX (.int .i64 0) 1 8 Tryz.underlying27 hiX hx0 hx1 hx2 rfl (by decide) (.slice a3 (ds.length + i) c3) (ds.length + i) ((ds ++ is.take i).map (Value.int .i64)) rfl (World.ownsRow.alloc R0 _) ⟨W0.heap.size, 0, none⟩ 1 _ ([n0].map (Value.int .i64)) rfl rfl (one_newI _ _ _) (onesI _) (by unfold maxLen; omega) (by omega) (by simp <;> omega) ?_; intro v' w5 hown' hgrow' hiff; clear hiff)
          have O1 := World.ownsRow.alloc R0 (.cells #[.int .i64 n0] 3)
          have B5 : Below w1.heap.size w1 w5 := (B.alloc wl _).grown hgrow' (by simp <;> omega) (fun q hq => (O1.lt q hq).1)
          have R5 : RowI w1.heap.size w5 v' (ds ++ is.take (i + 1)) := by rw [TK.out]; exact RowI.snoc (n := 0) (by rw [LT]; exact hown') rfl
          clear O1 hown' hgrow' R0 B hc3 hm3 TK LT
          go_roundw
          case rel => exact ⟨i + 1, by omega, by go_num, R5, B5⟩
          case measure => simp [intOf]; omega
        · obtain rfl : i = bs.length := by omega
          have F : Hid (RowI w1.heap.size wi u3 (idN ts (j + 1))) := by
            have := RI.out
            rw [LI, List.take_length, ← ID.out] at this
            exact this
          clear RI
          go_wp2
          go_roundw
          case rel => exact ⟨j + 1, by omega, by go_num, F.out, B⟩
          case measure => simp [intOf]; omega
    · obtain rfl : j = qs.length := by omega
      have F : Hid (RowI w.heap.size wr u3 (idN ts ts.length)) := by have := RR.out; rw [HQ.out] at this; exact row_base this wl1
      clear RR
      go_wp2
      go_ret
      exact ⟨_, rfl, F.out, B1.trans (B.mono wl1)⟩
end Go.Proofs.YtdkhaghcnijilaaGreat
