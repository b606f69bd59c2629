/- The bytes of changes: of the specification. -/
import Derived.Test.YtlkhbbllkkdhaaaGreatDoorPcM
namespace Go.Proofs.YtlkhbbllkkdhaaaGreatDoor
open Go.RowKit

set_option maxRecDepth 20000 in
set_option maxHeartbeats 4000000 in
theorem specPutChanges (a : Option Addr) (c : Nat) (es : List Cn) (w : World) (h : SeesCn w a c es) :
    Calls Tryz.prog 5 #[.slice a es.length c] w fun e w' => ∃ v', e = .returned v' ∧ RowB w.heap.size w' v' (pcV es) ∧ Below w.heap.size w w' := by
  obtain ⟨i8, hi8, hy0, hy1, hy2⟩ := info_parts infoB
  have hm := h.max
  have hf := h.fits
  unfold maxLen at hm
  obtain ⟨pv, HV⟩ : ∃ pv, Hid (pcV es = pv) := ⟨_, rfl⟩
  rw [HV.out]
  go_enter Tryz.func5, Tryz.ntmps5
  go_wp2_with fail
  refine (l13Right_any a c es _ h).mono ?_
  rintro e w1 ⟨rfl, B⟩
  cases hr : crB es
  · have PN : Hid (pv = []) := by show _ = _; rw [← HV.out]; unfold pcV; rw [hr]; rfl
    have RE := RowB.empty w1 (base := w.heap.size) B.size
    have BN := B.trans ((below1 w1 (.cells #[] 5)).mono B.size)
    clear B HV
    go_wp2
    go_ret
    exact ⟨_, rfl, by rw [PN.out]; exact RE, BN⟩
  · have hcr := hr
    unfold crB at hcr
    rw [Bool.and_eq_true, decide_eq_true_eq] at hcr
    obtain ⟨n40, hto⟩ := hcr
    have HT : Hid (crTo es es.length = true) := hto
    have PY : Hid (pv = csB es es.length) := by show _ = _; rw [← HV.out]; unfold pcV; rw [hr]; rfl
    have hw8 : IntKind.u8.wrap (es.length : Int) = (es.length : Int) := by rw [IntKind.wrap_u8]; omega
    have R0 : RowB w.heap.size (w1.alloc (.cells #[.int .u8 (es.length : Int)] 5)) (.slice (some ⟨w1.heap.size, 0, none⟩) 1 1) (csB es 0) := RowB.one w1 B.size (es.length : Int)
    have BN := B.trans ((below1 w1 (.cells #[.int .u8 (es.length : Int)] 5)).mono B.size)
    clear B HV hr hto
    go_wp2
    go_loopw [3, 4] (fun s3 s4 wr => ∃ j : Nat, j ≤ es.length ∧ s4 = .int .i64 j ∧ RowB w.heap.size wr s3 (csB es j) ∧ Below w.heap.size w wr) (fun _ s4 _ => es.length - (intOf s4).toNat)
    case atStart => exact ⟨0, Nat.zero_le _, rfl, R0, BN⟩
    case round =>
      clear R0 BN
      obtain ⟨j, hj, rfl, R, B⟩ := hrel
      rename World => wr
      by_cases hlt : j < es.length
      · have LL := csB_le HT.out j hj
        obtain ⟨L, HL⟩ : ∃ x, Hid (csB es j = x) := ⟨_, rfl⟩
        rw [HL.out] at R LL
        obtain ⟨en, HEN⟩ : ∃ x, Hid (cnA es j = x) := ⟨_, rfl⟩
        have CK := crTo_at HT.out hlt
        unfold ckB at CK
        rw [HEN.out] at CK
        have HS0 : csB es (j + 1) = csB es j ++ cbB (cnA es j).1 (cnA es j).2.1 (cnA es j).2.2.1 (cnA es j).2.2.2 := rfl
        rw [HEN.out, HL.out] at HS0
        obtain ⟨kd, ix, k, rs⟩ := en
        dsimp only at CK HS0
        obtain ⟨x0, x1, xk⟩ := chB_parts CK
        have HP : Hid ((kd = 1 ∧ goodB k rs = true) ∨ kd = 2) := xk
        have kb : 1 ≤ kd ∧ kd ≤ 2 := by rcases xk with q | q <;> omega
        obtain ⟨kb0, kb1⟩ := kb
        have hwk : IntKind.u8.wrap kd = kd := by rw [IntKind.wrap_u8]; omega
        have hwx : Hid (IntKind.u64.wrap ix = ix) := by show _ = _; rw [IntKind.wrap_u64]; omega
        obtain ⟨L1, HL1⟩ : ∃ x, Hid (L ++ [kd] = x) := ⟨_, rfl⟩
        obtain ⟨L2, HL2⟩ : ∃ x, Hid (L1 ++ leB 4 ix = x) := ⟨_, rfl⟩
        have HS1 : Hid (csB es (j + 1) = L2 ++ (if kd = 1 then leB 2 ((shBy k rs).length : Int) ++ shBy k rs else [])) := by
          show _ = _
          rw [HS0, ← HL2.out, ← HL1.out]
          unfold cbB
          simp only [List.append_assoc]
        have l1 : L1.length ≤ 900001 := by rw [← HL1.out, List.length_append]; simp; omega
        have l2 : L2.length ≤ 900005 := by rw [← HL2.out, List.length_append, leB_len]; omega
        obtain ⟨b, off, rfl, _⟩ := h.cells (by intro e; simp [e] at hlt)
        have HC : Hid (∀ W, Below w.heap.size w W → W.cell? ⟨b, off + j * 4, none⟩ = some (.int .i64 kd) ∧ W.cell? ⟨b, off + j * 4 + 1, none⟩ = some (.int .i64 ix)) := fun W q => by
          obtain ⟨b2, off2, e2, hc2⟩ := (h.below q).cells (by intro e; simp [e] at hlt)
          obtain ⟨d0, d1, _⟩ := hc2 j hlt
          rw [HEN.out] at d0 d1
          simp only [Option.some.injEq, Addr.mk.injEq, and_true] at e2
          obtain ⟨rfl, rfl⟩ := e2
          exact ⟨d0, d1⟩
        clear HS0 CK xk LL
        have lL : L.length ≤ 900000 := by have := l1; rw [← HL1.out, List.length_append] at this; simp at this; omega
        go_wp2_with fail
        have bd := ((Below.refl wr.heap.size wr).drew : Below wr.heap.size wr _)
        replace R := R.below bd
        replace B : Below w.heap.size w wr.drew := B.drew
        have N := HC.out _ B
        clear bd
        refine wp_region_held_drew (S := fun W => W.cell? ⟨b, off + j * 4, none⟩ = some (.int .i64 kd) ∧ W.cell? ⟨b, off + j * 4 + 1, none⟩ = some (.int .i64 ix)) (by kernel_rfl) N (fun hHeld => ?_)
        clear hHeld
        generalize wr.drew = ww0 at *
        refine takeW (i := 0) (by simp only [List.getElem?_toArray, List.getElem?_cons_zero]; exact rfl) (by kernel_rfl) (by kernel_rfl) (by kernel_rfl) (by exact fun _ _ _ h => h) (by rfl) (by intro wq hSw; go_simp <;> with_reducible rfl) (by assumption) ?_
        try simp only [Act.put, List.setIfInBounds_toArray, List.set_cons_zero, List.set_cons_succ]
        refine takeW (i := 1) (by simp only [List.getElem?_toArray, List.getElem?_cons_succ, List.getElem?_cons_zero]; exact rfl) (by kernel_rfl) (by kernel_rfl) (by kernel_rfl) (by exact fun _ _ _ h => h) (by rfl) (by intro wq hSw; go_simp <;> with_reducible rfl) (by assumption) ?_
        try simp only [Act.put, List.setIfInBounds_toArray, List.set_cons_zero, List.set_cons_succ]
        refine takeW (i := 2) (by simp only [List.getElem?_toArray, List.getElem?_cons_succ, List.getElem?_cons_zero]; exact rfl) (by kernel_rfl) (by kernel_rfl) (by kernel_rfl) (by exact fun _ _ _ h => h) (by rfl) (by intro wq hSw; go_simp <;> with_reducible rfl) (by assumption) ?_
        try simp only [Act.put, List.setIfInBounds_toArray, List.set_cons_zero, List.set_cons_succ]
        refine takeW (i := 3) (by simp only [List.getElem?_toArray, List.getElem?_cons_succ, List.getElem?_cons_zero]; exact rfl) (by kernel_rfl) (by kernel_rfl) (by kernel_rfl) (by exact fun _ _ _ h => h) (by rfl) (by intro wq hSw; go_simp <;> with_reducible rfl) (by assumption) ?_
        try simp only [Act.put, List.setIfInBounds_toArray, List.set_cons_zero, List.set_cons_succ]
        refine takeW (i := 4) (by simp only [List.getElem?_toArray, List.getElem?_cons_succ, List.getElem?_cons_zero]; exact rfl) (by kernel_rfl) (by kernel_rfl) (by kernel_rfl) (by exact fun _ _ _ h => h) (by rfl) (by intro wq hSw; go_simp <;> with_reducible rfl) (by assumption) ?_
        try simp only [Act.put, List.setIfInBounds_toArray, List.set_cons_zero, List.set_cons_succ]
        refine takeW (i := 5) (by simp only [List.getElem?_toArray, List.getElem?_cons_succ, List.getElem?_cons_zero]; exact rfl) (by kernel_rfl) (by kernel_rfl) (by kernel_rfl) (by exact fun _ _ _ h => h) (by rfl) (by intro wq hSw; obtain ⟨p1, p2⟩ := hSw; go_simp <;> with_reducible rfl) (by assumption) ?_
        try simp only [Act.put, List.setIfInBounds_toArray, List.set_cons_zero, List.set_cons_succ]
        refine takeW (i := 6) (by simp only [List.getElem?_toArray, List.getElem?_cons_succ, List.getElem?_cons_zero]; exact rfl) (by kernel_rfl) (by kernel_rfl) (by kernel_rfl) (by exact fun _ _ _ h => h) (by rfl) (by intro wq hSw; go_simp <;> with_reducible rfl) (by assumption) ?_
        try simp only [Act.put, List.setIfInBounds_toArray, List.set_cons_zero, List.set_cons_succ]
        refine takeW (i := 9) (by simp only [List.getElem?_toArray, List.getElem?_cons_succ, List.getElem?_cons_zero]; exact rfl) (by kernel_rfl) (by kernel_rfl) (by kernel_rfl) (by exact fun _ _ _ h => h) (by rfl) (by intro wq hSw; go_simp <;> with_reducible rfl) (by assumption) ?_
        try simp only [Act.put, List.setIfInBounds_toArray, List.set_cons_zero, List.set_cons_succ]
        refine takeW (i := 10) (by simp only [List.getElem?_toArray, List.getElem?_cons_succ, List.getElem?_cons_zero]; exact rfl) (by kernel_rfl) (by kernel_rfl) (by kernel_rfl) (by exact fun _ _ _ h => h) (by rfl) (by intro wq hSw; go_simp <;> with_reducible rfl) (by assumption) ?_
        try simp only [Act.put, List.setIfInBounds_toArray, List.set_cons_zero, List.set_cons_succ]
        refine takeW (i := 11) (by simp only [List.getElem?_toArray, List.getElem?_cons_succ, List.getElem?_cons_zero]; exact rfl) (by kernel_rfl) (by kernel_rfl) (by kernel_rfl) (by exact fun _ _ _ h => h) (by rfl) (by intro wq hSw; go_simp <;> with_reducible rfl) (by assumption) ?_
        try simp only [Act.put, List.setIfInBounds_toArray, List.set_cons_zero, List.set_cons_succ]
        refine takeW (i := 12) (by simp only [List.getElem?_toArray, List.getElem?_cons_succ, List.getElem?_cons_zero]; exact rfl) (by kernel_rfl) (by kernel_rfl) (by kernel_rfl) (by exact fun _ _ _ h => h) (by rfl) (by intro wq hSw; go_simp <;> with_reducible rfl) (by assumption) ?_
        try simp only [Act.put, List.setIfInBounds_toArray, List.set_cons_zero, List.set_cons_succ]
        refine takeW (i := 13) (by simp only [List.getElem?_toArray, List.getElem?_cons_succ, List.getElem?_cons_zero]; exact rfl) (by kernel_rfl) (by kernel_rfl) (by kernel_rfl) (by exact fun _ _ _ h => h) (by rfl) (by intro wq hSw; obtain ⟨p1, p2⟩ := hSw; go_simp <;> with_reducible rfl) (by assumption) ?_
        try simp only [Act.put, List.setIfInBounds_toArray, List.set_cons_zero, List.set_cons_succ]
        refine wpAnyH_ready (rs := [7]) (by kernel_rfl) (by simp) (AllReadyH.cons (by simp only [List.getElem?_toArray, List.getElem?_cons_succ, List.getElem?_cons_zero]; exact rfl) (fun K hK => ?_) AllReadyH.nil)
        go_simp
        have bq := below1 ww0 (.cells #[.int .u8 kd] 5)
        have NW := one_new8 ww0 5 kd
        replace R := R.below bq
        replace B := B.trans (bq.mono B.size)
        replace N := HC.out _ B
        refine hK.out _ _ N (fun hHeld => ?_)
        clear hK K hHeld
        try simp only [Act.put, List.setIfInBounds_toArray, List.set_cons_zero, List.set_cons_succ]
        generalize hzA : ww0.heap.size = zA at *
        generalize ww0.alloc (.cells #[.int .u8 kd] 5) = ww1 at *
        clear bq
        refine wpAnyH_ready (rs := [8]) (by kernel_rfl) (by simp) (AllReadyH.cons (by simp only [List.getElem?_toArray, List.getElem?_cons_succ, List.getElem?_cons_zero]; exact rfl) (fun K hK => ?_) AllReadyH.nil)
        refine wp_append_at (.tmp 20) (.tmp 27) 24 rfl w.heap.size 5 i8 (.int .u8 0) 1 1 Tryz.underlying24 hi8 hy0 hy1 hy2 rfl (by decide) u3 L.length (L.map (Value.int .u8)) rfl R ⟨zA, 0, none⟩ 1 _ ([kd].map (Value.int .u8)) rfl (by simp) NW (ones8 _) (by unfold maxLen; omega) (by omega) (by have := B.size; omega) ?_
        intro v8 w8 R8 G8 _
        have R9 : RowB w.heap.size w8 v8 (L ++ [kd]) := RowB.app R8
        have B8 : Below w.heap.size w w8 := B.grown G8 B.size (fun k hk => (World.ownsRow.lt R k hk).1)
        replace N := HC.out _ B8
        rw [HL1.out] at R9
        refine hK.out _ _ N (fun hHeld => ?_)
        clear hK K hHeld
        try simp only [Act.put, List.setIfInBounds_toArray, List.set_cons_zero, List.set_cons_succ]
        clear R R8 G8 NW B
        refine wpAnyH_ready (rs := [14]) (by kernel_rfl) (by simp) (AllReadyH.cons (by simp only [List.getElem?_toArray, List.getElem?_cons_succ, List.getElem?_cons_zero]; exact rfl) (fun K hK => ?_) AllReadyH.nil)
        go_simp
        refine (l8Bytes_any ix 4 _ (by omega)).mono ?_
        rintro e1 w14 ⟨v14, rfl, R14, hb⟩
        rw [hwx.out] at R14
        obtain ⟨q14, c14, rfl, q14a, _⟩ := R14.shape (ne_of_len (leB_len 4 ix) (by omega))
        rw [leB_len] at R14 ⊢
        have B := B8.trans (hb.mono B8.size)
        replace R9 := R9.below hb
        replace N := HC.out _ B
        have NW : ∀ j u, ((leB 4 ix).map (Value.int .u8))[j]? = some u → w14.cell? ((⟨q14, 0, none⟩ : Addr).add j) = some u := RowB.news (by rw [leB_len]; exact R14)
        refine hK.out _ _ N (fun hHeld => ?_)
        clear hK K hHeld
        try simp only [Act.put, List.setIfInBounds_toArray, List.set_cons_zero, List.set_cons_succ]
        clear hb B8 R14
        refine wpAnyH_ready (rs := [15]) (by kernel_rfl) (by simp) (AllReadyH.cons (by simp only [List.getElem?_toArray, List.getElem?_cons_succ, List.getElem?_cons_zero]; exact rfl) (fun K hK => ?_) AllReadyH.nil)
        refine wp_append_at (.tmp 28) (.tmp 34) 24 rfl w.heap.size 5 i8 (.int .u8 0) 1 1 Tryz.underlying24 hi8 hy0 hy1 hy2 rfl (by decide) v8 L1.length (L1.map (Value.int .u8)) rfl R9 ⟨q14, 0, none⟩ 4 _ ((leB 4 ix).map (Value.int .u8)) rfl (by rw [List.length_map, leB_len]) NW (ones8 _) (by unfold maxLen; omega) (by omega) (by have := B.size; omega) ?_
        intro v15 w15 R15 G15 _
        have R16 : RowB w.heap.size w15 v15 (L1 ++ leB 4 ix) := RowB.app (by rw [leB_len]; exact R15)
        have B15 : Below w.heap.size w w15 := B.grown G15 B.size (fun k hk => (World.ownsRow.lt R9 k hk).1)
        replace N := HC.out _ B15
        have TV : Hid (∀ k, v15.ownBlock = some k → k < w15.heap.size) := fun k hk => (World.ownsRow.lt R16 k hk).2
        rw [HL2.out] at R16
        refine hK.out _ _ N (fun hHeld => ?_)
        clear hK K hHeld
        try simp only [Act.put, List.setIfInBounds_toArray, List.set_cons_zero, List.set_cons_succ]
        clear R9 R15 G15 NW B
        refine takeW (i := 16) (by simp only [List.getElem?_toArray, List.getElem?_cons_succ, List.getElem?_cons_zero]; exact rfl) (by kernel_rfl) (by kernel_rfl) (by kernel_rfl) (by exact fun _ _ _ h => h) (by rfl) (by intro wq hSw; go_simp <;> with_reducible rfl) (by assumption) ?_
        try simp only [Act.put, List.setIfInBounds_toArray, List.set_cons_zero, List.set_cons_succ]
        refine wpAnyH_done (by kernel_rfl) ?_ _
        clear HC N
        by_cases hk1 : kd = 1
        · subst hk1
          have GD : Hid (goodB k rs = true) := by
            rcases HP.out with q | q
            · exact q.2
            · omega
          have SL := shBy_le GD.out
          obtain ⟨b2, off2, e2, hc2⟩ := (h.below B15).cells (by intro e; simp [e] at hlt)
          obtain ⟨d0, d1, d9, a2', c2', d2, sp2⟩ := hc2 j hlt
          rw [HEN.out] at d0 d1 d9 d2 sp2
          dsimp only at d0 d1 d9 d2 sp2
          simp only [Option.some.injEq, Addr.mk.injEq, and_true] at e2
          obtain ⟨rfl, rfl⟩ := e2
          clear hc2
          go_wp2_with fail
          refine (l8Put_any k a2' c2' rs _ sp2 GD.out).mono ?_
          rintro e w17 ⟨v17, rfl, R17, hb⟩
          obtain ⟨M, HM⟩ : ∃ M, Hid (shBy k rs = M) := ⟨_, rfl⟩
          rw [HM.out] at R17 SL
          have MN : M ≠ [] := by rw [← HM.out]; unfold shBy hdB; simp
          obtain ⟨q17, c17, rfl, q17a, _⟩ := R17.shape MN
          have B17 := B15.trans (hb.mono B15.size)
          replace R16 := R16.below hb
          clear hb d0 d1 d9 d2 sp2 B15
          go_wp2_with fail
          refine (l8Bytes_any (M.length : Int) 2 _ (by omega)).mono ?_
          rintro e w18 ⟨v18, rfl, R18, hb⟩
          have hwm : IntKind.u64.wrap (M.length : Int) = (M.length : Int) := by rw [IntKind.wrap_u64]; omega
          rw [hwm] at R18
          obtain ⟨T, HTT⟩ : ∃ T, Hid (leB 2 (M.length : Int) = T) := ⟨_, rfl⟩
          have tl : T.length ≤ 2 := by rw [← HTT.out, leB_len]; exact Nat.le_refl _
          rw [HTT.out] at R18
          obtain ⟨q18, c18, rfl, q18a, _⟩ := R18.shape (by rw [← HTT.out]; exact ne_of_len (leB_len 2 (M.length : Int)) (by omega))
          have B18 := B17.trans (hb.mono B17.size)
          replace R16 := R16.below hb
          replace R17 := R17.below hb
          have NW := R18.news
          have s18 := B18.size
          have T16 : ∀ k, v15.ownBlock = some k → k < w15.heap.size := TV.out
          have LAST : Hid (csB es (j + 1) = L2 ++ T ++ M) := by show _ = _; rw [HS1.out, HM.out, ← HTT.out]; simp only [if_true, List.append_assoc]
          clear hb hwm B17 HP TV GD HS1 HM R18 HTT
          go_wp2_with (first
            | (at_builtin; refine wpList_append_own_at _ rfl (.tmp 48) (.tmp 51) 24 rfl w.heap.size 5 i8 (.int .u8 0) 1 1 Tryz.underlying24 hi8 hy0 hy1 hy2 rfl (by decide) v15 L2.length (L2.map (Value.int .u8)) rfl R16 ⟨q18, 0, none⟩ T.length _ (T.map (Value.int .u8)) rfl (by simp) NW (ones8 _) (by unfold maxLen; omega) (by omega) (by omega) ?_; intro v19 w19 R19 G19 _ A19; have B19 : Below w.heap.size w w19 := B18.grown G19 B18.size (fun k hk => (World.ownsRow.lt R16 k hk).1); have R20 : RowB w.heap.size w19 v19 (L2 ++ T) := RowB.app R19; obtain ⟨L3, HL3⟩ : ∃ x, Hid (L2 ++ T = x) := ⟨_, rfl⟩; rw [HL3.out] at R20; have l3 : L3.length ≤ 900010 := (by rw [← HL3.out, List.length_append]; omega); replace R17 : RowB w15.heap.size w19 (.slice (some ⟨q17, 0, none⟩) M.length c17) M := owns_keptC R17 G19 (fun k hk e => by have := (World.ownsRow.lt R17 k hk).1; have := T16 k e; omega); have NM := R17.news; have s19 := B19.size; clear R19 G19 A19)
            | (at_builtin; refine wpList_append_own_at _ rfl (.tmp 52) (.tmp 53) 24 rfl w.heap.size 5 i8 (.int .u8 0) 1 1 Tryz.underlying24 hi8 hy0 hy1 hy2 rfl (by decide) v19 L3.length (L3.map (Value.int .u8)) rfl R20 ⟨q17, 0, none⟩ M.length _ (M.map (Value.int .u8)) rfl (by simp) NM (ones8 _) (by unfold maxLen; omega) (by omega) (by omega) ?_; intro v21 w21 R21 G21 _ A21; have B21 : Below w.heap.size w w21 := B19.grown G21 B19.size (fun k hk => (World.ownsRow.lt R20 k hk).1); have R22 : RowB w.heap.size w21 v21 (L3 ++ M) := RowB.app R21; rw [← HL3.out, ← LAST.out] at R22; clear R21 G21 A21))
          go_roundw
          case rel => exact ⟨j + 1, by omega, by go_num, R22, B21⟩
          case measure => simp [intOf]; omega
        · have hk2 : (kd == 1) = false := by simpa using hk1
          obtain ⟨b2, off2, e2, hc2⟩ := (h.below B15).cells (by intro e; simp [e] at hlt)
          obtain ⟨d0, d1, d9, a2', c2', d2, sp2⟩ := hc2 j hlt
          rw [HEN.out] at d0 d1 d9 d2 sp2
          dsimp only at d0 d1 d9 d2 sp2
          simp only [Option.some.injEq, Addr.mk.injEq, and_true] at e2
          obtain ⟨rfl, rfl⟩ := e2
          have LAST : Hid (csB es (j + 1) = L2) := by show _ = _; rw [HS1.out, if_neg hk1, List.append_nil]
          rw [← LAST.out] at R16
          clear hc2 sp2 HP TV HS1 hk1
          go_wp2
          go_roundw
          case rel => exact ⟨j + 1, by omega, by go_num, R16, B15⟩
          case measure => simp [intOf]; omega
      · obtain rfl : j = es.length := by omega
        rw [← PY.out] at R
        go_wp2
        go_ret
        exact ⟨_, rfl, R, B⟩
end Go.Proofs.YtlkhbbllkkdhaaaGreatDoor
