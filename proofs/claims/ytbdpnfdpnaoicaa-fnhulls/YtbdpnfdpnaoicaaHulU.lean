/- Hull of the specification. -/
import Derived.Test.YtbdpnfdpnaoicaaHulT
import Derived.Test.YtbdpnfdpnaoicaaL9R
namespace Go.Proofs.Ytbdpnfdpnaoicaa
open Go.RowKit

theorem l9ChainN (a : Option Addr) (c n : Nat) (ps : List Pn) (w : World) (hn : ps.length = n) (h : SeesP w a c ps) (hl : ps.length ≤ 500) (ok : ∀ q ∈ ps, Crd q.1 ∧ Crd q.2) :
    Calls Try.prog 27 #[.slice a n c] w fun e w' => ∃ v, e = .returned v ∧ RowPt w.heap.size w' v (chn ps) ∧ Below w.heap.size w w' := by
  subst hn
  exact l9Chain_any a c ps w h hl ok
set_option maxRecDepth 20000 in
set_option maxHeartbeats 1500000 in
theorem specHull (ad : Addr) (c : Nat) (ps : List Pn) (w : World) (h : SeesP w (some ad) c ps) (hl : ps.length ≤ 1048576) :
    Calls Try.prog 7 #[.slice (some ad) ps.length c] w fun e w' => ∃ v, e = .returned v ∧ ∃ H : List Pn, HullOf ps H ∧ RowPt w.heap.size w' v H ∧ Below w.heap.size w w' := by
  obtain ⟨iP, hiP, hP0, hP1, hP2⟩ := info_parts infoPt
  cases ok : (okL ps && decide (ps.length ≤ 500))
  · have NO : Hid (HullOf ps []) := .inr ⟨(fun t => by rw [t.1, decide_eq_true t.2] at ok; cases ok), rfl⟩
    go_enter Try.func7, Try.ntmps7
    go_wp2_with fail
    refine (l9Right_any _ _ _ _ h hl).mono ?_
    rintro e w1 ⟨rfl, B⟩
    rw [ok]
    have R1 := RowPt.empty w1 (base := w.heap.size) B.size
    have B1 := B.trans ((below1 w1 (.cells #[] 29)).mono B.size)
    go_wp2
    go_ret
    exact ⟨_, rfl, [], NO.out, R1, B1⟩
  · have ok2 := ok
    rw [Bool.and_eq_true, decide_eq_true_eq] at ok2
    have OK : Hid (okL ps = true) := ok2.1
    have HL : Hid (ps.length ≤ 500) := ok2.2
    have h5 : ps.length ≤ 500 := ok2.2
    have CR : Hid (∀ q ∈ ps, Crd q.1 ∧ Crd q.2) := okCrd ok2.1
    clear ok2
    go_enter Try.func7, Try.ntmps7
    go_wp2_with fail
    refine (l9Right_any _ _ _ _ h hl).mono ?_
    rintro e w1 ⟨rfl, B⟩
    rw [ok]
    clear ok
    go_wp2_with fail
    refine (l9Sorted_any _ _ ps _ (h.below B) h5).mono ?_
    rintro e w2 ⟨v, rfl, S, SU0, SL, RS0, hb⟩
    have RS : RowPt w.heap.size w2 v S := row_base RS0 B.size
    replace B := B.trans (hb.mono B.size)
    have SU : Hid (Sus ps S) := SU0
    have SLH : Hid (S.length ≤ ps.length) := SL
    have CS : ∀ q ∈ S, Crd q.1 ∧ Crd q.2 := fun q hq => CR.out q ((SU0.2 q).1 hq)
    have CS2 : ∀ q ∈ S.reverse, Crd q.1 ∧ Crd q.2 := fun q hq => CS q (List.mem_reverse.1 hq)
    clear hb RS0 SU0
    obtain ⟨a3, c3, e3, hc3, hm3⟩ := RS.shape
    subst e3
    unfold maxLen at hm3
    have S5 : S.length ≤ 500 := by omega
    by_cases s2 : S.length < 3
    · have HU : Hid (hul S = S) := by
        show _ = _
        by_cases q : S.length < 2
        · unfold hul; rw [if_pos q]
        · exact hul_two (by omega)
      go_wp2
      go_ret
      refine ⟨_, rfl, hul S, .inl ⟨OK.out, HL.out, S, SU.out, SLH.out, rfl⟩, ?_, B⟩
      rw [HU.out]
      exact RS
    · have HU : Hid (hul S = (chn S).dropLast ++ (chn S.reverse).dropLast) := by show _ = _; unfold hul; rw [if_neg (by omega)]
      have s3 : 2 ≤ S.length := by omega
      go_wp2_with fail
      refine (l9Chain_any _ _ S _ RS.seesP S5 CS).mono ?_
      rintro e w5 ⟨vt, rfl, RT0, hb⟩
      have RT1 : RowPt w.heap.size w5 vt (chn S) := row_base RT0 B.size
      replace RS := RS.below hb
      replace B := B.trans (hb.mono B.size)
      clear hb RT0
      have hb := below1 w5 (.cells #[] 29)
      have RE := RowPt.empty w5 (base := w5.heap.size) (Nat.le_refl _)
      have RT2 : Hid (RowPt w.heap.size w5 vt (chn S)) := RT1
      have SP5 : Hid (SeesP w5 a3 c3 S) := RS.seesP
      have B5 : Hid (Below w.heap.size w w5) := B
      have SRL : Hid (S.reverse.length = S.length) := List.length_reverse
      clear RS RT1 B
      go_wp2
      go_loopw [5, 6] (fun s5 s6 wr => ∃ j : Nat, j ≤ S.length ∧ s6 = .int .i64 ((S.length : Int) - 1 - (j : Int)) ∧ RowPt w5.heap.size wr s5 (S.reverse.take j) ∧ Below w5.heap.size w5 wr) (fun _ s6 _ => (intOf s6 + 1).toNat)
      case atStart => exact ⟨0, Nat.zero_le _, by congr 1; omega, RE, hb⟩
      case round =>
        clear RE hb
        obtain ⟨j, hj, rfl, RJ, BJ⟩ := hrel
        rename World => wr
        by_cases hlt : j < S.length
        · obtain ⟨⟨p1, p2⟩, hp⟩ : ∃ p : Pn, Hid (ptN S (S.length - 1 - j) = p) := ⟨_, rfl⟩
          obtain ⟨bA, oA, rfl, y0, y1⟩ := (SP5.out.below BJ).at0 (by omega) hp.out
          have TK : Hid (S.reverse.take (j + 1) = S.reverse.take j ++ [(p1, p2)]) := by
            show _ = _
            have hr : j < S.reverse.length := by rw [SRL.out]; exact hlt
            rw [List.take_succ_eq_append_getElem hr, ← hp.out, ← ptN_rev hlt]
            unfold ptN
            rw [List.getElem?_eq_getElem hr]
            rfl
          have TL : (S.reverse.take j).length = j := by rw [List.length_take, SRL.out]; omega
          have ix : (S.length : Int) - 1 - (j : Int) = ((S.length - 1 - j : Nat) : Int) := by omega
          have wx : IntKind.i64.wrap ((S.length - 1 - j : Nat) : Int) = ((S.length - 1 - j : Nat) : Int) := by rw [IntKind.wrap_i64]; omega
          have NX : Hid (((S.length - 1 - j : Nat) : Int) - 1 = (S.length : Int) - 1 - ((j + 1 : Nat) : Int)) := by show _ = _; omega
          rw [ix]
          generalize S.reverse.take j = T at *
          have hb := below1 wr (.cells #[.int .i64 p1, .int .i64 p2] 29)
          have NW := pt_new wr 29 p1 p2
          have RA := RJ.below hb
          have BA := BJ.trans (hb.mono BJ.size)
          have za := BA.size
          have TLH : Hid (T.length = j) := TL
          clear hb RJ BJ TL ix
          generalize hz : S.length - 1 - j = z at *
          have zn : z < S.length := by omega
          clear hz
          go_wp2_with (at_builtin; refine wpList_append_own _ rfl (.tmp 28) (.tmp 33) 24 rfl w5.heap.size 29 iP (.agg #[.int .i64 0, .int .i64 0]) 2 16 Try.underlying24 hiP hP0 hP1 hP2 rfl (by decide) u5 T.length (ptC T) rfl RA ⟨wr.heap.size, 0, none⟩ 1 _ (ptC [(p1, p2)]) rfl rfl NW (ptC_ones _) (by unfold maxLen; have := TLH.out; omega) (by have := TLH.out; omega) za ?_; intro v7 w7 R7 G7 _; replace R7 := RowPt.snoc R7)
          have B7 := BA.grown G7 za (fun k hk => (World.ownsRow.lt RA k hk).1)
          go_roundw
          case rel => exact ⟨j + 1, by omega, (by first | (rw [← NX.out]; done) | (rw [← NX.out]; go_num) | (congr 1; omega)), (by rw [TK.out]; exact R7), B7⟩
          case measure => simp [intOf] <;> omega
        · obtain rfl : j = S.length := by omega
          rw [← SRL.out, List.take_length] at RJ
          have BW : Below w.heap.size w wr := B5.out.trans (BJ.mono B5.out.size)
          have RT3 := RT2.out.below BJ
          obtain ⟨ab, cb, eb, hcb, hmb⟩ := RJ.shape
          subst eb
          have RJ2 := RJ.seesP
          clear RJ BJ
          go_wp2_with fail
          refine (l9ChainN ab cb S.length S.reverse _ SRL.out RJ2 (by rw [SRL.out]; exact S5) CS2).mono ?_
          rintro e w7 ⟨vu, rfl, RU0, hb⟩
          have RU1 : RowPt w.heap.size w7 vu (chn S.reverse) := row_base RU0 BW.size
          have RT1 := RT3.below hb
          have B := BW.trans (hb.mono BW.size)
          have T1 := chn_two s3
          have T2 := chn_two (ps := S.reverse) (by rw [SRL.out]; exact s3)
          have T3 := chn_len S
          have T4 := chn_len S.reverse
          rw [SRL.out] at T4
          clear hb RU0 RT3 CS CS2 BW RJ2
          obtain ⟨gT, ct, e', hct, hmt⟩ := RT1.nonnil (by omega)
          subst e'
          obtain ⟨gU, cu, e', hcu, hmu⟩ := RU1.nonnil (by omega)
          subst e'
          have RT := RT1.cut (m := (chn S).length - 1) (by omega)
          have RU := RU1.cut (m := (chn S.reverse).length - 1) (by omega)
          rw [dropLast_eq rfl] at RT RU
          have LT : (chn S).dropLast.length = (chn S).length - 1 := List.length_dropLast
          have LU : (chn S.reverse).dropLast.length = (chn S.reverse).length - 1 := List.length_dropLast
          unfold maxLen at hmt hmu
          clear RU1 RT1
          obtain ⟨nt, hnt⟩ : ∃ n, (chn S).length = n := ⟨_, rfl⟩
          obtain ⟨nu, hnu⟩ : ∃ n, (chn S.reverse).length = n := ⟨_, rfl⟩
          rw [hnt] at RT LT T1 T3 hct ⊢
          rw [hnu] at RU LU T2 T4 hcu ⊢
          have k1 : (nt : Int) - 1 = ((nt - 1 : Nat) : Int) := by omega
          have k2 : (nu : Int) - 1 = ((nu - 1 : Nat) : Int) := by omega
          have wt : IntKind.i64.wrap ((nt - 1 : Nat) : Int) = ((nt - 1 : Nat) : Int) := by rw [IntKind.wrap_i64]; omega
          have wu : IntKind.i64.wrap ((nu - 1 : Nat) : Int) = ((nu - 1 : Nat) : Int) := by rw [IntKind.wrap_i64]; omega
          have bt : ((nt - 1 : Nat) : Int) ≤ (ct : Int) := by omega
          have bu : ((nu - 1 : Nat) : Int) ≤ (cu : Int) := by omega
          clear hnt hnu
          go_upto_region 13 with fail
          refine wp_region_held_drew (S := fun _ => True) (by kernel_rfl) trivial (fun hHeld => ?_)
          clear hHeld
          replace RT := RT.below ((Below.refl _ _).drew)
          replace RU := RU.below ((Below.refl _ _).drew)
          replace B := B.drew
          revert RT RU B
          generalize w7.drew = ww0
          intro RT RU B
          refine takeQ (i := 0) (gt rfl) (by kernel_rfl) (fun _ _ _ h => h) (by rfl) (by intro wq _; go_simp <;> with_reducible rfl) trivial ?_
          try simp only [Act.put, sA, sB, sC]
          refine takeQ (i := 1) (gt rfl) (by kernel_rfl) (fun _ _ _ h => h) (by rfl) (by intro wq _; go_simp <;> with_reducible rfl) trivial ?_
          try simp only [Act.put, sA, sB, sC]
          refine takeQ (i := 2) (gt rfl) (by kernel_rfl) (fun _ _ _ h => h) (by rfl) (by intro wq _; go_simp <;> with_reducible rfl) trivial ?_
          try simp only [Act.put, sA, sB, sC]
          refine takeQ (i := 3) (gt rfl) (by kernel_rfl) (fun _ _ _ h => h) (by rfl) (by intro wq _; go_simp <;> with_reducible rfl) trivial ?_
          try simp only [Act.put, sA, sB, sC]
          refine takeQ (i := 4) (gt rfl) (by kernel_rfl) (fun _ _ _ h => h) (by rfl) (by intro wq _; go_simp <;> with_reducible rfl) trivial ?_
          try simp only [Act.put, sA, sB, sC]
          refine takeQ (i := 5) (gt rfl) (by kernel_rfl) (fun _ _ _ h => h) (by rfl) (by intro wq _; go_simp <;> with_reducible rfl) trivial ?_
          try simp only [Act.put, sA, sB, sC]
          refine takeQ (i := 6) (gt rfl) (by kernel_rfl) (fun _ _ _ h => h) (by rfl) (by intro wq _; go_simp <;> with_reducible rfl) trivial ?_
          try simp only [Act.put, sA, sB, sC]
          refine takeQ (i := 7) (gt rfl) (by kernel_rfl) (fun _ _ _ h => h) (by rfl) (by intro wq _; go_simp <;> with_reducible rfl) trivial ?_
          try simp only [Act.put, sA, sB, sC]
          refine takeQ (i := 8) (gt rfl) (by kernel_rfl) (fun _ _ _ h => h) (by rfl) (by intro wq _; go_simp <;> with_reducible rfl) trivial ?_
          try simp only [Act.put, sA, sB, sC]
          refine takeQ (i := 9) (gt rfl) (by kernel_rfl) (fun _ _ _ h => h) (by rfl) (by intro wq _; go_simp <;> with_reducible rfl) trivial ?_
          try simp only [Act.put, sA, sB, sC]
          refine wpAnyH_ready (rs := [10]) (by kernel_rfl) (by simp) (AllReadyH.cons (gt rfl) (fun K hK => ?_) AllReadyH.nil)
          have NWU := RU.seesN.newsA
          refine wp_append_at (.tmp 41) (.tmp 46) 24 rfl w.heap.size 29 iP (.agg #[.int .i64 0, .int .i64 0]) 2 16 Try.underlying24 hiP hP0 hP1 hP2 rfl (by decide) (.slice (some ⟨gT, 0, none⟩) (nt - 1) ct) (chn S).dropLast.length (ptC (chn S).dropLast) rfl RT ⟨gU, 0, none⟩ (nu - 1) _ (ptC (chn S.reverse).dropLast) rfl (by rw [ptC_len, LU]) NWU (ptC_ones _) (by unfold maxLen; omega) (by omega) B.size ?_
          intro v9 w9 R9 G9 _
          have B9 := B.grown G9 B.size (fun k hk => (World.ownsRow.lt RT k hk).1)
          have R9' : RowPt w.heap.size w9 v9 ((chn S).dropLast ++ (chn S.reverse).dropLast) := by
            unfold RowPt
            rw [ptC_append, List.length_append, LU]
            exact R9
          refine hK.out _ _ trivial (fun hHeld => ?_)
          clear hK K hHeld R9 G9 RT RU NWU
          try simp only [Act.put, sA, sB, sC]
          refine takeQ (i := 11) (gt rfl) (by kernel_rfl) (fun _ _ _ h => h) (by rfl) (by intro wq _; go_simp <;> with_reducible rfl) trivial ?_
          try simp only [Act.put, sA, sB, sC]
          refine wpAnyH_done (by kernel_rfl) ?_ _
          go_wp2
          go_ret
          refine ⟨_, rfl, hul S, .inl ⟨OK.out, HL.out, S, SU.out, SLH.out, rfl⟩, ?_, B9⟩
          rw [HU.out]
          exact R9'
end Go.Proofs.Ytbdpnfdpnaoicaa
