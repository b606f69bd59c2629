/- The specification's Crash. -/
import Derived.Test.YtjpnkmhmipendaaDoorDkK
namespace Go.Proofs.YtjpnkmhmipendaaDoor
open Go.RowKit

theorem kpV_mem {K : Nat → Bool} {vs : List Value} {n : Nat} (hn : n = vs.length) : ∀ u ∈ kpV K vs n, u ∈ vs := by
  intro u hu
  unfold kpV at hu
  obtain ⟨i, hi, rfl⟩ := List.mem_map.1 hu
  have hlt : i < vs.length := by rw [← hn]; exact kpI_lt K _ _ hi
  rw [List.getElem?_eq_getElem hlt]
  exact List.getElem_mem hlt

set_option maxRecDepth 20000 in
set_option maxHeartbeats 4000000 in
theorem specCrash {lo lo2 : Nat} (ad : Addr) (a2 : Option Addr) (c c2 : Nat) (vs0 : List Value) (bs : List Int) (qs : List Wr) (ad3 : Addr) (c3 : Nat) (ds : List Int) (w : World) (h : DkR lo w (.slice (some ad) bs.length c) (.slice a2 qs.length c2) vs0 bs qs) (hv0 : SomeV vs0) (hd : RowB lo2 w (.slice (some ad3) ds.length c3) ds) (h8 : ∀ x ∈ ds, 0 ≤ x ∧ x < 256) (hb0 : bs.length ≤ 2000000) (hs : uptoQ qs qs.length ≤ 2000000) :
    Calls Tryd.prog 25 #[.agg #[.slice (some ad) bs.length c, .slice a2 qs.length c2], .slice (some ad3) ds.length c3] w fun e w' => ∃ ad' c' b' d' vs bs' qs', e = .returned (.agg #[.slice (some ad') bs.length c', .slice b' qs'.length d']) ∧ CrRes bs qs ds bs' qs' ∧ DkR w.heap.size w' (.slice (some ad') bs.length c') (.slice b' qs'.length d') vs bs' qs' ∧ SomeV vs ∧ Below w.heap.size w w' := by
  obtain ⟨iW, hiW, hW0, hW1, hW2⟩ := info_parts infoW
  obtain ⟨hf0, hm0⟩ := h.row.caps
  obtain ⟨hf3, hm3⟩ := hd.caps
  obtain ⟨-, hf2, hm2⟩ := h.que.caps
  unfold maxLen at hm0 hm2 hm3
  have hn : qs.length ≤ 2000000 := by have := uptoQ_mono qs (Nat.zero_le qs.length); simp only [uptoQ] at this; omega
  have HS : Hid (uptoQ qs qs.length ≤ 2000000) := hs
  have HM : Hid (SomeV vs0) := hv0
  have HD : Hid (DkR lo w (.slice (some ad) bs.length c) (.slice a2 qs.length c2) vs0 bs qs) := h
  have HP : Hid (SeesB w (some ad3) c3 ds) := hd.seesB
  have H8 : Hid (∀ x ∈ ds, 0 ≤ x ∧ x < 256) := h8
  have b1 := below1 w (.cells #[.slice (some ad) bs.length c, .slice a2 qs.length c2] 30)
  have V1 := Box2.new w (lo := w.heap.size) (Nat.le_refl _) (.slice (some ad) bs.length c) (.slice a2 qs.length c2) 30
  have b2 := below1 (w.alloc (.cells #[.slice (some ad) bs.length c, .slice a2 qs.length c2] 30)) (.cells #[.slice none 0 0, .slice none 0 0] 30)
  have V2 := Box2.new (w.alloc (.cells #[.slice (some ad) bs.length c, .slice a2 qs.length c2] 30)) (lo := w.heap.size) (by simp) (.slice none 0 0) (.slice none 0 0) 30
  rw [World.size_alloc] at V2
  have z2 : ((w.alloc (.cells #[.slice (some ad) bs.length c, .slice a2 qs.length c2] 30)).alloc (.cells #[.slice none 0 0, .slice none 0 0] 30)).heap.size = w.heap.size + 2 := by simp
  have B := b1.trans (b2.mono b1.size)
  replace V1 := V1.below b2
  clear b1 b2 hs hv0 h hd h8
  go_enter Tryd.func25, Tryd.ntmps25
  go_upto_region 1 with fail
  generalize (w.alloc (.cells #[.slice (some ad) bs.length c, .slice a2 qs.length c2] 30)).alloc (.cells #[.slice none 0 0, .slice none 0 0] 30) = W0 at *
  obtain ⟨t0, t1, tf, _⟩ := id V1
  go_wp2_with fail
  refine (l11CopyR ad a2 c c2 vs0 bs qs _ (HD.out.below B) HM.out hb0 HS.out).mono ?_
  rintro e w3 ⟨ad8, c8, b8, d8, vs, rfl, D, SV0, hb⟩
  have SV : Hid (SomeV vs) := SV0
  rw [z2] at D
  replace V1 := V1.below hb
  replace V2 := V2.below hb
  have sz3 : w.heap.size + 2 ≤ w3.heap.size := by rw [← z2]; exact hb.size
  replace B := B.trans (hb.mono B.size)
  clear hb t0 t1 tf z2 SV0
  have V8 := Box2.new w3 (lo := w.heap.size) (by omega) (.slice (some ad8) bs.length c8) (.slice b8 qs.length d8) 30
  have hb := below1 w3 (.cells #[(.slice (some ad8) bs.length c8), (.slice b8 qs.length d8)] 30)
  have N8 : Hid (∀ u ∈ ((Value.slice (some ad8) bs.length c8) :: (Value.slice b8 qs.length d8) :: vs), u.ownBlock ≠ some w3.heap.size) := D.nots (.inl (Nat.le_refl _))
  replace V1 := V1.below hb
  replace V2 := V2.below hb
  replace D := D.below hb
  replace B := B.trans (hb.mono B.size)
  clear hb
  go_upto_region 2 with fail
  generalize hp8 : w3.heap.size = p8 at *
  generalize w3.alloc (.cells #[(.slice (some ad8) bs.length c8), (.slice b8 qs.length d8)] 30) = W1 at *
  obtain ⟨t0, t1, tf, _⟩ := id V1
  go_wp2_with fail
  refine (specDiskOk (some ad) a2 c c2 vs0 bs qs _ (HD.out.below B)).mono ?_
  rintro e w4 ⟨r, rfl, hr, hb⟩
  have HRr : Hid (r = true ↔ DkOk bs qs) := hr
  replace V1 := V1.below hb
  replace V2 := V2.below hb
  replace V8 := V8.below hb
  replace D := D.below hb
  have sz4 : p8 < w4.heap.size := V8.lt
  replace B := B.trans (hb.mono B.size)
  clear hb t0 t1 tf hr
  cases r with
  | false =>
    have HN : Hid (CrRes bs qs ds bs qs) := .inr ⟨(fun q => by have := HRr.out.2 q; cases this), rfl, rfl⟩
    clear V1
    have RC := Box2.chain B V2 (.slice (some ad8) bs.length c8) (.slice b8 qs.length d8)
    have gq : w4.grownBy ((w4.setCell ⟨w.heap.size + 1, 0, none⟩ (.slice (some ad8) bs.length c8)).setCell ⟨w.heap.size + 1, 1, none⟩ (.slice b8 qs.length d8)) (some (w.heap.size + 1)) := grownBy_setCell (p := ⟨w.heap.size + 1, 1, none⟩) (grownBy_setCell (p := ⟨w.heap.size + 1, 0, none⟩) (grownBy_refl _ _) rfl _) rfl _
    have DS : Hid (DkR w.heap.size ((w4.setCell ⟨w.heap.size + 1, 0, none⟩ (.slice (some ad8) bs.length c8)).setCell ⟨w.heap.size + 1, 1, none⟩ (.slice b8 qs.length d8)) (.slice (some ad8) bs.length c8) (.slice b8 qs.length d8) vs bs qs) := (D.kept gq (fun k hk e => by have := (D.lts.1 k hk).1; injection e with e; omega) (fun k hk e => by have := (D.lts.2.1 k hk).1; injection e with e; omega) (fun y hy k hk e => by have := (D.lts.2.2 y hy k hk).1; injection e with e; omega)).base (by omega)
    obtain ⟨y0, y1, yf, _⟩ := id V8
    obtain ⟨q0, q1, qf, _⟩ := id V2
    have r0 := (V2.put (.slice (some ad8) bs.length c8) (.slice b8 qs.length d8)).c0
    have r1 := (V2.put (.slice (some ad8) bs.length c8) (.slice b8 qs.length d8)).c1
    clear gq D V2 V8 B
    go_wp2
    exact bodyPost_ret (v := .agg #[(.slice (some ad8) bs.length c8), (.slice b8 qs.length d8)]) (by simp [results, Tryd.results25, go_sem, r0, r1]) rfl ⟨_, _, _, _, vs, bs, qs, rfl, HN.out, DS.out, SV.out, RC⟩
  | true =>
    have HOk : Hid (DkOk bs qs) := HRr.out.1 rfl
    clear HRr
    obtain ⟨K, hK⟩ : ∃ K, Hid (coin ds = K) := ⟨_, rfl⟩
    have hvl : Hid (vs.length = qs.length) := D.que.len
    have HT : Hid (∀ u ∈ vs, ∀ k, u.ownBlock = some k → k < w4.heap.size) := fun u hu k hk => (D.lts.2.2 u hu k hk).2
    have bn := below1 w4 (.cells #[] 51)
    have QE : Hid ((w4.alloc (.cells #[] 51)).ownsRow w4.heap.size 51 2 (.slice (some ⟨w4.heap.size, 0, none⟩) 0 0) (kpV K vs 0).length (wrC (kpQ K qs 0) (kpV K vs 0))) := (QuR.empty w4 (lo := w4.heap.size) (Nat.le_refl _)).own
    go_upto_region 6 with fail
    generalize hp9 : w4.heap.size = p9 at *
    have HB0 : Below p9 w4 w4 := Below.refl _ _
    go_loopw [6, 7] (fun s6 s7 wr => ∃ (j : Nat) (v : Value), j ≤ qs.length ∧ s7 = .int .i64 j ∧ v = s6 ∧ Hid (wr.ownsRow p9 51 2 v (kpV K vs j).length (wrC (kpQ K qs j) (kpV K vs j))) ∧ Hid (Below p9 w4 wr)) (fun _ s7 _ => qs.length - (intOf s7).toNat)
    case atStart => exact ⟨0, _, Nat.zero_le _, rfl, rfl, QE, bn⟩
    case round =>
      clear QE bn HB0
      obtain ⟨j, v, hj, rfl, rfl, RO, HB⟩ := hrel
      rename World => wr
      have hb := HB.out
      rw [← hp9] at hb
      have hzr : p9 ≤ wr.heap.size := by rw [← hp9]; exact hb.size
      obtain ⟨t0, t1, tf, _⟩ := V1.below hb
      by_cases hlt : j < qs.length
      · obtain ⟨g, cq, a', c', e, hvj, g1, g2, _, _⟩ := (D.que.below hb).at' hlt
        injection e with e1 e2 e3
        subst e1
        clear e2 e3
        have hgl : g < p9 := by rw [← hp9]; have := (D.lts.2.1 g rfl).2; exact this
        obtain ⟨y0, y1, yf, _⟩ := V8.below hb
        have hVJ : Hid (vs[j]?.getD undef = .slice a' (wrN qs j).2.length c') := by show _ = _; rw [hvj]; rfl
        obtain ⟨q9, hq9⟩ : ∃ q, Hid (wrN qs j = q) := ⟨_, rfl⟩
        rw [hq9.out] at g1 g2 hVJ
        obtain ⟨x, es⟩ := q9
        dsimp only at g1 g2 hVJ
        obtain ⟨k, hk⟩ : ∃ k, Hid (j / 8 = k) := ⟨_, rfl⟩
        obtain ⟨m, hmm⟩ : ∃ m, Hid (j % 8 = m) := ⟨_, rfl⟩
        have hq : (j : Int).tdiv 8 = (k : Int) := by rw [Int.tdiv_eq_ediv_of_nonneg (by omega)]; have := hk.out; omega
        have hr : (j : Int).tmod 8 = (m : Int) := by rw [Int.tmod_eq_emod_of_nonneg (by omega)]; have := hmm.out; omega
        have hkb : k ≤ 2000000 := by have := hk.out; omega
        have hmb : m < 8 := by have := hmm.out; omega
        by_cases hkl : k < ds.length
        · obtain ⟨b, off, e3, hc⟩ := HP.out.cells (by intro e; rw [e] at hkl; simp at hkl)
          injection e3 with e3
          subst e3
          have g3 := bat hb (bat B (hc k hkl))
          have hx8 : 0 ≤ ds[k]?.getD 0 ∧ ds[k]?.getD 0 < 256 := by rw [List.getElem?_eq_getElem hkl]; exact H8.out _ (List.getElem_mem hkl)
          have CE : Hid (K j = (bits .and .u8 ((ds[k]?.getD 0) / 2 ^ m) 1 == 1)) := by show _ = _; rw [← hK.out]; unfold coin; rw [hk.out, hmm.out, if_pos hkl]
          generalize ds[k]?.getD 0 = z at *
          obtain ⟨hx0, hx1⟩ := hx8
          clear hc hk hmm
          cases hb1 : (bits .and .u8 (z / 2 ^ m) 1 == 1) with
          | true =>
            have HKT : Hid (K j = true) := CE.out.trans hb1
            have KL : Hid ((kpV K vs j).length ≤ 2000000) := by show _ ≤ _; unfold kpV; rw [List.length_map]; have := kpI_len K j; omega
            have KS : Hid ((kpV K vs j).length = (kpQ K qs j).length) := kp_lens K qs vs j
            have bn := below1 wr (.cells #[.int .i64 x, .slice a' es.length c'] 51)
            have NW := two_newW wr 51 (.int .i64 x) (.slice a' es.length c')
            have R2 := owns_below RO.out bn
            have HZ : p9 ≤ (wr.alloc (.cells #[.int .i64 x, .slice a' es.length c'] 51)).heap.size := Nat.le_trans hzr bn.size
            go_wp2_with (at_builtin; refine wpList_append_own_at _ rfl (.tmp 40) (.tmp 46) 28 rfl p9 51 iW (.agg #[.int .i64 0, .slice none 0 0]) 2 32 Tryd.underlying28 hiW hW0 hW1 hW2 rfl (by decide) v (kpV K vs j).length (wrC (kpQ K qs j) (kpV K vs j)) rfl R2 ⟨wr.heap.size, 0, none⟩ 1 _ [.int .i64 x, .slice a' es.length c'] rfl rfl NW (by intro y hy; simp at hy; rcases hy with rfl | rfl <;> rfl) (by unfold maxLen; have := KL.out; omega) (by have := KL.out; omega) HZ ?_; intro v7 w7 R7 G7 _ A7)
            have RN : Hid (w7.ownsRow p9 51 2 v7 (kpV K vs (j + 1)).length (wrC (kpQ K qs (j + 1)) (kpV K vs (j + 1)))) := by
              show World.ownsRow _ _ _ _ _ _ _
              rw [kpV_some HKT.out, kpQ_some HKT.out, hVJ.out, hq9.out, wrC_snoc _ _ _ _ KS.out, List.length_append, List.length_singleton]
              exact R7
            have HN : Hid (Below p9 w4 w7) := (HB.out.trans (bn.mono hzr)).grown G7 HZ (fun k hk => (World.ownsRow.lt R2 k hk).1)
            clear R7 G7 A7 R2 NW bn RO HB
            go_roundw
            case rel => exact ⟨j + 1, _, by omega, by go_num, rfl, RN, HN⟩
            case measure => simp [intOf]; omega
          | false =>
            have HKF : Hid (¬K j = true) := by show ¬ _; rw [CE.out, hb1]; decide
            go_wp2_with fail
            go_roundw
            case rel => exact ⟨j + 1, _, by omega, by go_num, rfl, (by show World.ownsRow _ _ _ _ _ _ _; rw [kpV_none HKF.out, kpQ_none HKF.out]; exact RO.out), HB⟩
            case measure => simp [intOf]; omega
        · have HKF : Hid (¬K j = true) := by show ¬ _; rw [← hK.out]; unfold coin; rw [hk.out, if_neg hkl]; decide
          clear hk hmm
          go_wp2_with fail
          go_roundw
          case rel => exact ⟨j + 1, _, by omega, by go_num, rfl, (by show World.ownsRow _ _ _ _ _ _ _; rw [kpV_none HKF.out, kpQ_none HKF.out]; exact RO.out), HB⟩
          case measure => simp [intOf]; omega
      · obtain rfl : j = qs.length := by omega
        have D9 := D.below hb
        have V28 := V2.below hb
        have V88 := V8.below hb
        have B9 := B.trans (hb.mono (by rw [← hp9] at hzr; have := B.size; omega))
        have QP := QuR.pick D9.que K RO.out (by omega) HT.out
        have kl := kp_lens K qs vs qs.length
        obtain ⟨va, vc, rfl, _, _⟩ := QP.shape
        have vlo : ∀ k, (Value.slice va (kpQ K qs qs.length).length vc).ownBlock = some k → p9 ≤ k := fun k hk => (World.ownsRow.lt RO.out k hk).1
        have DP : DkR (w.heap.size + 2) wr (.slice (some ad8) bs.length c8) (.slice va (kpQ K qs qs.length).length vc) (kpV K vs qs.length) bs (kpQ K qs qs.length) := ⟨D9.row, QP, fun k hk => ⟨fun e => by have h1 := vlo k e; have h2 := (D.lts.1 k hk).2; omega, fun u hu e => (D9.ap k hk).2 u (kpV_mem hvl.out.symm u hu) e⟩⟩
        have SP := SV.out.pick K hvl.out.symm
        have gq : wr.grownBy (wr.setCell ⟨p8, 1, none⟩ (.slice va (kpQ K qs qs.length).length vc)) (some p8) := grownBy_setCell (p := ⟨p8, 1, none⟩) (grownBy_refl _ _) rfl _
        have n8 : ∀ u ∈ vs, u.ownBlock ≠ some p8 := fun u hu => N8.out u (List.mem_cons_of_mem _ (List.mem_cons_of_mem _ hu))
        have DQ := DP.kept gq (fun k hk e => N8.out _ (List.mem_cons_self ..) (hk.trans e.symm)) (fun k hk e => by have := vlo k hk; injection e with e; omega) (fun u hu k hk e => n8 u (kpV_mem hvl.out.symm u hu) (hk.trans e.symm))
        have MK : Hid (uptoQ (kpQ K qs qs.length) (kpQ K qs qs.length).length ≤ 2000000) := Nat.le_trans (uptoQ_kept K qs qs.length) HS.out
        have OKK : Hid (DkOk bs (kpQ K qs qs.length)) := HOk.out.kept K
        have SYK : Hid (syN bs (kpQ K qs qs.length) (kpQ K qs qs.length).length = skN K bs qs qs.length) := syN_kept K bs qs qs.length
        obtain ⟨y0, y1, yf, _⟩ := id V88
        have V89 := V88.set1D (.slice va (kpQ K qs qs.length).length vc)
        have V29 := V28.grown gq (by omega)
        have BQ := B9.grown gq B9.size (fun k hk => by injection hk with hk; omega)
        have HDQ : Hid (DkR (w.heap.size + 2) (wr.setCell ⟨p8, 1, none⟩ (.slice va (kpQ K qs qs.length).length vc)) (.slice (some ad8) bs.length c8) (.slice va (kpQ K qs qs.length).length vc) (kpV K vs qs.length) bs (kpQ K qs qs.length)) := DQ
        have HSP : Hid (SomeV (kpV K vs qs.length)) := SP
        clear D9 V28 V88 B9 QP kl vlo DP SP gq n8 DQ D V1 V2 V8 B HT RO HB
        go_upto_region 11 with fail
        clear y0 y1 yf
        generalize kpV K vs qs.length = ks at *
        generalize kpQ K qs qs.length = kq at *
        generalize wr.setCell ⟨p8, 1, none⟩ (.slice va kq.length vc) = W5 at *
        obtain ⟨y0, y1, yf, _⟩ := id V89
        go_wp2_with fail
        refine (specSync ad8 va c8 vc ks bs kq _ HDQ.out HSP.out hb0 MK.out).mono ?_
        rintro e w8 ⟨ad9, c9, b9, d9, vs9, bs9, qs9, rfl, SR9, D9, SV9, hb9⟩
        have SRC : Hid (CrRes bs qs ds bs9 qs9) := by
          show CrRes _ _ _ _ _
          rcases SR9 with ⟨_, q1, q2⟩ | ⟨q, _⟩
          · exact .inl ⟨HOk.out, by rw [q1, SYK.out, hK.out], q2⟩
          · exact absurd OKK.out q
        have SVH : Hid (SomeV vs9) := SV9
        have V2' := V29.below hb9
        have B' := BQ.trans (hb9.mono BQ.size)
        have z5 : w.heap.size + 2 ≤ W5.heap.size := by have := V89.lt; omega
        clear y0 y1 yf V89 V29 BQ hb9 SR9 SV9
        have RC := Box2.chain B' V2' (.slice (some ad9) bs.length c9) (.slice b9 qs9.length d9)
        have gq : w8.grownBy ((w8.setCell ⟨w.heap.size + 1, 0, none⟩ (.slice (some ad9) bs.length c9)).setCell ⟨w.heap.size + 1, 1, none⟩ (.slice b9 qs9.length d9)) (some (w.heap.size + 1)) := grownBy_setCell (p := ⟨w.heap.size + 1, 1, none⟩) (grownBy_setCell (p := ⟨w.heap.size + 1, 0, none⟩) (grownBy_refl _ _) rfl _) rfl _
        have DS : Hid (DkR w.heap.size ((w8.setCell ⟨w.heap.size + 1, 0, none⟩ (.slice (some ad9) bs.length c9)).setCell ⟨w.heap.size + 1, 1, none⟩ (.slice b9 qs9.length d9)) (.slice (some ad9) bs.length c9) (.slice b9 qs9.length d9) vs9 bs9 qs9) := (D9.kept gq (fun k hk e => by have := (D9.lts.1 k hk).1; injection e with e; omega) (fun k hk e => by have := (D9.lts.2.1 k hk).1; injection e with e; omega) (fun y hy k hk e => by have := (D9.lts.2.2 y hy k hk).1; injection e with e; omega)).base (by omega)
        obtain ⟨q0, q1, qf, _⟩ := id V2'
        have r0 := (V2'.put (.slice (some ad9) bs.length c9) (.slice b9 qs9.length d9)).c0
        have r1 := (V2'.put (.slice (some ad9) bs.length c9) (.slice b9 qs9.length d9)).c1
        clear gq D9 V2' B'
        go_wp2
        exact bodyPost_ret (v := .agg #[(.slice (some ad9) bs.length c9), (.slice b9 qs9.length d9)]) (by simp [results, Tryd.results25, go_sem, r0, r1]) rfl ⟨_, _, _, _, vs9, bs9, qs9, rfl, SRC.out, DS.out, SVH.out, RC⟩
end Go.Proofs.YtjpnkmhmipendaaDoor
