/- The bytes of changes: of the program. -/
import Derived.Test.YtlkhbbllkkdhaaaGreatDoorPcM
namespace Go.Proofs.YtlkhbbllkkdhaaaGreatDoor
open Go.RowKit

set_option maxRecDepth 20000 in
set_option maxHeartbeats 4000000 in
theorem putChange_any (base : Nat) (v : Value) (bs : List Int) (kd ix k : Int) (a : Option Addr) (c : Nat) (rs : List (List (Int × Int))) (w : World) (R : RowB base w v bs) (hb : base ≤ w.heap.size) (hl : bs.length ≤ 900000) (hS : ∀ W, Below base w W → SeesS W a c rs) (hT : ∀ W, Below base w W → TabB W) (ok : chB kd ix k rs = true) :
    Calls Tryz.prog 20 #[v, .agg #[.int .i64 kd, .int .i64 ix, .int .i64 k, .slice a rs.length c]] w fun e w' => ∃ v', e = .returned v' ∧ RowB base w' v' (bs ++ cbB kd ix k rs) ∧ Below base w w' := by
  obtain ⟨i8, hi8, hy0, hy1, hy2⟩ := info_parts infoB
  have HS : Hid (∀ W, Below base w W → SeesS W a c rs) := hS
  have HT : Hid (∀ W, Below base w W → TabB W) := hT
  obtain ⟨x0, x1, xk⟩ := chB_parts ok
  have HP : Hid ((kd = 1 ∧ goodB k rs = true) ∨ kd = 2) := xk
  have kb : 1 ≤ kd ∧ kd ≤ 2 := by rcases xk with q | q <;> omega
  obtain ⟨kb0, kb1⟩ := kb
  have hwk : IntKind.u8.wrap kd = kd := by rw [IntKind.wrap_u8]; omega
  have hwx : IntKind.u32.wrap ix = ix := by rw [IntKind.wrap_u32]; omega
  obtain ⟨L1, HL1⟩ : ∃ x, Hid (bs ++ [kd] = x) := ⟨_, rfl⟩
  obtain ⟨L2, HL2⟩ : ∃ x, Hid (L1 ++ leB 4 ix = x) := ⟨_, rfl⟩
  have HS1 : Hid (bs ++ cbB kd ix k rs = L2 ++ (if kd = 1 then leB 2 ((shBy k rs).length : Int) ++ shBy k rs else [])) := by
    show _ = _
    rw [← HL2.out, ← HL1.out]
    unfold cbB
    simp only [List.append_assoc]
  have l1 : L1.length ≤ 900001 := by rw [← HL1.out, List.length_append]; simp; omega
  have l2 : L2.length ≤ 900005 := by rw [← HL2.out, List.length_append, leB_len]; omega
  have hc0 := (hS w (Below.refl _ _)).max
  have hf0 := (hS w (Below.refl _ _)).fits
  unfold maxLen at hc0
  have b1 := below1 w (.cells #[.int .i64 kd, .int .i64 ix, .int .i64 k, .slice a rs.length c] 44)
  have KB : Box4 w.heap.size (w.alloc (.cells #[.int .i64 kd, .int .i64 ix, .int .i64 k, .slice a rs.length c] 44)) w.heap.size (.int .i64 kd) (.int .i64 ix) (.int .i64 k) (.slice a rs.length c) := Box4.new w (Nat.le_refl _) _ _ _ _ _
  have nv : v.ownBlock ≠ some w.heap.size := fun e => by have := (World.ownsRow.lt R _ e).2; omega
  have NB : Hid (∀ k, v.ownBlock = some k → base ≤ k) := fun k hk => (World.ownsRow.lt R k hk).1
  have B1 : Below base w (w.alloc (.cells #[.int .i64 kd, .int .i64 ix, .int .i64 k, .slice a rs.length c] 44)) := b1.mono hb
  replace R := R.below b1
  have z0 : w.heap.size < (w.alloc (.cells #[.int .i64 kd, .int .i64 ix, .int .i64 k, .slice a rs.length c] 44)).heap.size := KB.lt
  have HK : Hid (∀ W v', Ext (w.alloc (.cells #[.int .i64 kd, .int .i64 ix, .int .i64 k, .slice a rs.length c] 44)) v W v' → W.cell? ⟨w.heap.size, 0, none⟩ = some (.int .i64 kd) ∧ W.cell? ⟨w.heap.size, 1, none⟩ = some (.int .i64 ix) ∧ W.cell? ⟨w.heap.size, 2, none⟩ = some (.int .i64 k) ∧ W.cell? ⟨w.heap.size, 3, none⟩ = some (.slice a rs.length c)) := fun W v' q => ⟨q.cell KB.c0 nv, q.cell KB.c1 nv, q.cell KB.c2 nv, q.cell KB.c3 nv⟩
  have HC : Hid (∀ W v', Ext (w.alloc (.cells #[.int .i64 kd, .int .i64 ix, .int .i64 k, .slice a rs.length c] 44)) v W v' → W.cell? ⟨w.heap.size, 0, none⟩ = some (.int .i64 kd) ∧ W.cell? ⟨w.heap.size, 1, none⟩ = some (.int .i64 ix)) := fun W v' q => ⟨q.cell KB.c0 nv, q.cell KB.c1 nv⟩
  clear hS hT ok xk b1 KB
  go_enter Tryz.func20, Tryz.ntmps20
  go_wp2_with fail
  generalize w.alloc (.cells #[.int .i64 kd, .int .i64 ix, .int .i64 k, .slice a rs.length c] 44) = w0 at *
  have bd := ((Below.refl w0.heap.size w0).drew : Below w0.heap.size w0 _)
  have X : Ext w0 v w0.drew v := Ext.of_below v bd
  replace R := R.below bd
  have N := HC.out _ _ X
  clear bd
  refine wp_region_held_drew (S := fun W => W.cell? ⟨w.heap.size, 0, none⟩ = some (.int .i64 kd) ∧ W.cell? ⟨w.heap.size, 1, none⟩ = some (.int .i64 ix)) (by kernel_rfl) N (fun hHeld => ?_)
  clear hHeld
  generalize w0.drew = ww0 at *
  refine takeW (i := 0) (by simp only [List.getElem?_toArray, List.getElem?_cons_zero]; exact rfl) (by kernel_rfl) (by kernel_rfl) (by kernel_rfl) (by exact fun _ _ _ h => h) (by rfl) (by intro wq hSw; go_simp <;> with_reducible rfl) (by assumption) ?_
  try simp only [Act.put, List.setIfInBounds_toArray, List.set_cons_zero, List.set_cons_succ]
  refine takeW (i := 1) (by simp only [List.getElem?_toArray, List.getElem?_cons_succ, List.getElem?_cons_zero]; exact rfl) (by kernel_rfl) (by kernel_rfl) (by kernel_rfl) (by exact fun _ _ _ h => h) (by rfl) (by intro wq hSw; go_simp <;> with_reducible rfl) (by assumption) ?_
  try simp only [Act.put, List.setIfInBounds_toArray, List.set_cons_zero, List.set_cons_succ]
  refine takeW (i := 2) (by simp only [List.getElem?_toArray, List.getElem?_cons_succ, List.getElem?_cons_zero]; exact rfl) (by kernel_rfl) (by kernel_rfl) (by kernel_rfl) (by exact fun _ _ _ h => h) (by rfl) (by intro wq hSw; obtain ⟨p1, p2⟩ := hSw; go_simp <;> with_reducible rfl) (by assumption) ?_
  try simp only [Act.put, List.setIfInBounds_toArray, List.set_cons_zero, List.set_cons_succ]
  refine takeW (i := 3) (by simp only [List.getElem?_toArray, List.getElem?_cons_succ, List.getElem?_cons_zero]; exact rfl) (by kernel_rfl) (by kernel_rfl) (by kernel_rfl) (by exact fun _ _ _ h => h) (by rfl) (by intro wq hSw; go_simp <;> with_reducible rfl) (by assumption) ?_
  try simp only [Act.put, List.setIfInBounds_toArray, List.set_cons_zero, List.set_cons_succ]
  refine takeW (i := 6) (by simp only [List.getElem?_toArray, List.getElem?_cons_succ, List.getElem?_cons_zero]; exact rfl) (by kernel_rfl) (by kernel_rfl) (by kernel_rfl) (by exact fun _ _ _ h => h) (by rfl) (by intro wq hSw; go_simp <;> with_reducible rfl) (by assumption) ?_
  try simp only [Act.put, List.setIfInBounds_toArray, List.set_cons_zero, List.set_cons_succ]
  refine takeW (i := 7) (by simp only [List.getElem?_toArray, List.getElem?_cons_succ, List.getElem?_cons_zero]; exact rfl) (by kernel_rfl) (by kernel_rfl) (by kernel_rfl) (by exact fun _ _ _ h => h) (by rfl) (by intro wq hSw; obtain ⟨p1, p2⟩ := hSw; go_simp <;> with_reducible rfl) (by assumption) ?_
  try simp only [Act.put, List.setIfInBounds_toArray, List.set_cons_zero, List.set_cons_succ]
  refine takeW (i := 8) (by simp only [List.getElem?_toArray, List.getElem?_cons_succ, List.getElem?_cons_zero]; exact rfl) (by kernel_rfl) (by kernel_rfl) (by kernel_rfl) (by exact fun _ _ _ h => h) (by rfl) (by intro wq hSw; go_simp <;> with_reducible rfl) (by assumption) ?_
  try simp only [Act.put, List.setIfInBounds_toArray, List.set_cons_zero, List.set_cons_succ]
  refine wpAnyH_ready (rs := [4]) (by kernel_rfl) (by simp) (AllReadyH.cons (by simp only [List.getElem?_toArray, List.getElem?_cons_succ, List.getElem?_cons_zero]; exact rfl) (fun K hK => ?_) AllReadyH.nil)
  go_simp
  have bq := below1 ww0 (.cells #[.int .u8 kd] 5)
  have NW := one_new8 ww0 5 kd
  replace R := R.below bq
  replace X := X.trans (Ext.of_below v bq)
  replace N := HC.out _ _ X
  refine hK.out _ _ N (fun hHeld => ?_)
  clear hK K hHeld
  try simp only [Act.put, List.setIfInBounds_toArray, List.set_cons_zero, List.set_cons_succ]
  generalize hzA : ww0.heap.size = zA at *
  generalize ww0.alloc (.cells #[.int .u8 kd] 5) = ww1 at *
  clear bq
  refine wpAnyH_ready (rs := [5]) (by kernel_rfl) (by simp) (AllReadyH.cons (by simp only [List.getElem?_toArray, List.getElem?_cons_succ, List.getElem?_cons_zero]; exact rfl) (fun K hK => ?_) AllReadyH.nil)
  have zb := X.size
  refine wp_append_at (.tmp 6) (.tmp 10) 24 rfl base 5 i8 (.int .u8 0) 1 1 Tryz.underlying24 hi8 hy0 hy1 hy2 rfl (by decide) v bs.length (bs.map (Value.int .u8)) rfl R ⟨zA, 0, none⟩ 1 _ ([kd].map (Value.int .u8)) rfl (by simp) NW (ones8 _) (by unfold maxLen; omega) (by omega) (by omega) ?_
  intro v8 w8 R8 G8 A8
  have R9 : RowB base w8 v8 (bs ++ [kd]) := RowB.app R8
  replace X := X.trans (Ext.of_at G8 A8)
  replace N := HC.out _ _ X
  rw [HL1.out] at R9
  refine hK.out _ _ N (fun hHeld => ?_)
  clear hK K hHeld
  try simp only [Act.put, List.setIfInBounds_toArray, List.set_cons_zero, List.set_cons_succ]
  clear R R8 G8 A8 NW
  refine wpAnyH_ready (rs := [9]) (by kernel_rfl) (by simp) (AllReadyH.cons (by simp only [List.getElem?_toArray, List.getElem?_cons_succ, List.getElem?_cons_zero]; exact rfl) (fun K hK => ?_) AllReadyH.nil)
  go_simp
  have zb2 := X.size
  refine (putNumber32 base v8 L1 ix _ R9 (by omega) (by omega) (by omega) (by omega)).mono ?_
  rintro e1 w14 ⟨v14, rfl, R14, X14⟩
  rw [HL2.out] at R14
  replace X := X.trans X14
  replace N := HC.out _ _ X
  refine hK.out _ _ N (fun hHeld => ?_)
  clear hK K hHeld
  try simp only [Act.put, List.setIfInBounds_toArray, List.set_cons_zero, List.set_cons_succ]
  clear X14 R9
  refine takeW (i := 10) (by simp only [List.getElem?_toArray, List.getElem?_cons_succ, List.getElem?_cons_zero]; exact rfl) (by kernel_rfl) (by kernel_rfl) (by kernel_rfl) (by exact fun _ _ _ h => h) (by rfl) (by intro wq hSw; go_simp <;> with_reducible rfl) (by assumption) ?_
  try simp only [Act.put, List.setIfInBounds_toArray, List.set_cons_zero]
  refine wpAnyH_done (by kernel_rfl) ?_ _
  have M3 := HK.out _ _ X
  obtain ⟨m0, m1, m2, m3⟩ := M3
  have zz := X.size
  by_cases hk1 : kd = 2
  · subst hk1
    have LAST : Hid (bs ++ cbB 2 ix k rs = L2) := by show _ = _; rw [HS1.out, if_neg (by omega), List.append_nil]
    have BL : Below base w w14 := X.belowOf B1 (by omega) NB.out
    rw [← LAST.out] at R14
    clear HP HS1 HC HK N
    go_wp2
    go_ret
    exact ⟨_, rfl, R14, BL⟩
  · have hk2 : (kd == 2) = false := by simpa using hk1
    have e1 : kd = 1 := by omega
    have GD : Hid (goodB k rs = true) := by
      rcases HP.out with q | q
      · exact q.2
      · omega
    have SL := shBy_le GD.out
    have BL : Below base w w14 := X.belowOf B1 (by omega) NB.out
    obtain ⟨M, HM⟩ : ∃ M, Hid (shBy k rs = M) := ⟨_, rfl⟩
    have LAST : Hid (bs ++ cbB kd ix k rs = L2 ++ leB 2 (M.length : Int) ++ M) := by show _ = _; rw [HS1.out, if_pos e1, HM.out, List.append_assoc]
    have MN : M ≠ [] := by rw [← HM.out]; unfold shBy hdB; simp
    rw [HM.out] at SL
    clear HP HS1 HC HK e1 hk1 N
    go_wp2_with fail
    refine (putShape_any k a c rs _ (HS.out _ BL) GD.out (fun w' q => HT.out _ (BL.trans (q.mono (by omega))))).mono ?_
    rintro e w17 ⟨v17, rfl, R17, hb⟩
    rw [HM.out] at R17
    obtain ⟨q17, c17, rfl, q17a, _⟩ := R17.shape MN
    have TV : Hid (∀ k, v14.ownBlock = some k → k < w14.heap.size) := fun k hk => (World.ownsRow.lt R14 k hk).2
    replace R14 := R14.below hb
    replace BL := BL.trans (hb.mono (by omega))
    have z17 := hb.size
    clear hb m0 m1 m2 m3 X
    have hw16 : IntKind.u16.wrap (M.length : Int) = (M.length : Int) := by rw [IntKind.wrap_u16]; omega
    go_wp2_with fail
    refine (putNumber16 base v14 L2 (M.length : Int) _ R14 (by omega) (by omega) (by omega) (by omega)).mono ?_
    rintro e w18 ⟨v18, rfl, R18, X18⟩
    obtain ⟨L3, HL3⟩ : ∃ x, Hid (L2 ++ leB 2 (M.length : Int) = x) := ⟨_, rfl⟩
    have T18 : ∀ k, v18.ownBlock = some k → k ≠ q17 := fun k hk e => by
      subst e
      rcases X18.b with q | ⟨k', q, hk'⟩
      · rw [q] at hk; have := TV.out _ hk; omega
      · rw [q] at hk; injection hk with hk; have := (World.ownsRow.lt R17 k rfl).2; omega
    replace R17 : RowB w14.heap.size w18 (.slice (some ⟨q17, 0, none⟩) M.length c17) M := owns_keptC R17 X18.g (fun k hk e => by have := TV.out k e; have := (World.ownsRow.lt R17 k hk).1; omega)
    replace BL : Below base w w18 := X18.belowOf BL (by omega) (fun k hk => (World.ownsRow.lt R14 k hk).1)
    have z18 := X18.size
    rw [HL3.out] at R18
    have l3 : L3.length ≤ 900010 := by rw [← HL3.out, List.length_append, leB_len]; omega
    have NM := R17.news
    clear R14 X18 TV
    go_wp2_with (at_builtin; refine wpList_append_own_at _ rfl (.tmp 27) (.tmp 28) 24 rfl base 5 i8 (.int .u8 0) 1 1 Tryz.underlying24 hi8 hy0 hy1 hy2 rfl (by decide) v18 L3.length (L3.map (Value.int .u8)) rfl R18 ⟨q17, 0, none⟩ M.length _ (M.map (Value.int .u8)) rfl (by simp) NM (ones8 _) (by unfold maxLen; omega) (by omega) (by omega) ?_; intro v21 w21 R21 G21 _ A21; have B21 : Below base w w21 := BL.grown G21 (by omega) (fun k hk => (World.ownsRow.lt R18 k hk).1); have R22 : RowB base w21 v21 (L3 ++ M) := RowB.app R21; rw [← HL3.out, ← LAST.out] at R22; clear R21 G21 A21)
    go_ret
    exact ⟨_, rfl, R22, B21⟩

set_option maxRecDepth 20000 in
set_option maxHeartbeats 4000000 in
theorem implPutChanges (a : Option Addr) (c : Nat) (es : List Cn) (w : World) (h : SeesCn w a c es) (hT : ∀ W, Below w.heap.size w W → TabB W) :
    Calls Tryz.prog 7 #[.slice a es.length c] w fun e w' => ∃ v', e = .returned v' ∧ RowB w.heap.size w' v' (pcV es) ∧ Below w.heap.size w w' := by
  have hm := h.max
  have hf := h.fits
  unfold maxLen at hm
  have HT : Hid (∀ W, Below w.heap.size w W → TabB W) := hT
  obtain ⟨pv, HV⟩ : ∃ pv, Hid (pcV es = pv) := ⟨_, rfl⟩
  rw [HV.out]
  by_cases n40 : es.length ≤ 40
  · have hn : ¬ (40 : Int) < es.length := by omega
    go_enter Tryz.func7, Tryz.ntmps7
    go_wp2_with fail
    refine (containsCh a c es _ h).mono ?_
    rintro e w1 ⟨rfl, B⟩
    cases hr : crTo es es.length
    · have PN : Hid (pv = []) := by show _ = _; rw [← HV.out]; unfold pcV crB; rw [hr, Bool.and_false]; rfl
      clear HV
      go_wp2
      go_ret
      exact ⟨_, rfl, by rw [PN.out]; exact RowB.nil _ _, B⟩
    · have HTo : Hid (crTo es es.length = true) := hr
      have PY : Hid (pv = csB es es.length) := by show _ = _; rw [← HV.out]; unfold pcV crB; rw [hr, decide_eq_true n40]; rfl
      have hw8 : IntKind.u8.wrap (es.length : Int) = (es.length : Int) := by rw [IntKind.wrap_u8]; omega
      have R0 : RowB w.heap.size (w1.alloc (.cells #[.int .u8 (es.length : Int)] 5)) (.slice (some ⟨w1.heap.size, 0, none⟩) 1 1) (csB es 0) := RowB.one w1 B.size (es.length : Int)
      have BN := B.trans ((below1 w1 (.cells #[.int .u8 (es.length : Int)] 5)).mono B.size)
      clear B HV hr
      go_wp2
      go_loopw [3, 19] (fun s3 s19 wr => ∃ j : Nat, j ≤ es.length ∧ s19 = .int .i64 j ∧ RowB w.heap.size wr s3 (csB es j) ∧ Below w.heap.size w wr) (fun _ s19 _ => es.length - (intOf s19).toNat)
      case atStart => exact ⟨0, Nat.zero_le _, rfl, R0, BN⟩
      case round =>
        clear R0 BN
        obtain ⟨j, hj, rfl, R, B⟩ := hrel
        rename World => wr
        by_cases hlt : j < es.length
        · have LL := csB_le HTo.out j hj
          have CK := crTo_at HTo.out hlt
          unfold ckB at CK
          have HS0 : Hid (csB es (j + 1) = csB es j ++ cbB (cnA es j).1 (cnA es j).2.1 (cnA es j).2.2.1 (cnA es j).2.2.2) := rfl
          obtain ⟨b, off, rfl, hc⟩ := h.cells (by intro e; simp [e] at hlt)
          obtain ⟨g0, g1, g9, a', c', g2, sp⟩ := hc j hlt
          replace g0 := bat B g0
          replace g1 := bat B g1
          replace g9 := bat B g9
          replace g2 := bat B g2
          have lL : (csB es j).length ≤ 900000 := by omega
          clear hc LL
          generalize cnA es j = en at *
          obtain ⟨kd, ix, k, rs⟩ := en
          dsimp only at g0 g1 g9 g2 sp CK HS0
          have SP : Hid (SeesS w a' c' rs) := sp
          have CKH : Hid (chB kd ix k rs = true) := CK
          have bn := below1 wr (.cells #[.int .i64 kd, .int .i64 ix, .int .i64 k, .slice a' rs.length c'] 44)
          have KB := Box4.new wr (lo := 0) (by omega) (.int .i64 kd) (.int .i64 ix) (.int .i64 k) (.slice a' rs.length c') 44
          replace R := R.below bn
          replace B := B.trans (bn.mono B.size)
          obtain ⟨L, HL⟩ : ∃ x, Hid (csB es j = x) := ⟨_, rfl⟩
          rw [HL.out] at R lL
          clear bn sp CK
          go_upto_region 7 with fail
          generalize wr.alloc (.cells #[.int .i64 kd, .int .i64 ix, .int .i64 k, .slice a' rs.length c'] 44) = W1 at *
          generalize wr.heap.size = q1 at *
          obtain ⟨k0, k1, k2, k3, _, _⟩ := id KB
          go_wp2_with fail
          refine (putChange_any w.heap.size u3 L kd ix k a' c' rs _ R B.size lL (fun W q => SP.out.below (B.trans q)) (fun W q => HT.out W (B.trans q)) CKH.out).mono ?_
          rintro e w2 ⟨v2, rfl, R2, hb⟩
          rw [← HL.out, ← HS0.out] at R2
          replace B := B.trans hb
          clear hb R KB k0 k1 k2 k3
          go_wp2
          go_roundw
          case rel => exact ⟨j + 1, by omega, by go_num, R2, B⟩
          case measure => simp [intOf]; omega
        · obtain rfl : j = es.length := by omega
          rw [← PY.out] at R
          go_wp2
          go_ret
          exact ⟨_, rfl, R, B⟩
  · have hn : (40 : Int) < es.length := by omega
    have PN : Hid (pv = []) := by show _ = _; rw [← HV.out]; unfold pcV crB; rw [decide_eq_false n40]; rfl
    clear HV n40
    go_enter Tryz.func7, Tryz.ntmps7
    go_wp2
    go_ret
    exact ⟨_, rfl, by rw [PN.out]; exact RowB.nil _ _, Below.refl _ _⟩
end Go.Proofs.YtlkhbbllkkdhaaaGreatDoor
