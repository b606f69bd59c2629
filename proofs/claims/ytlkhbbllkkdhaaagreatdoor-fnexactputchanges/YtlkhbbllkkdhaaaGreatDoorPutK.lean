/- The bytes of a shape, of the program: parts, lists of parts, putShape, PutShape. -/
import Derived.Test.YtlkhbbllkkdhaaaGreatDoorPutJ
import Derived.Test.YtlkhbbllkkdhaaaGreatDoorGoodI
namespace Go.Proofs.YtlkhbbllkkdhaaaGreatDoor
open Go.RowKit

theorem rowA_one (ps : List (Int × Int)) : rowA [ps] 0 = ps := rfl
theorem one_rows {ps : List (Int × Int)} (h0 : 0 < ps.length) (h1 : ps.length ≤ 60) : ∀ i, i < [ps].length → 0 < (rowA [ps] i).length ∧ (rowA [ps] i).length ≤ 60 := by
  intro i hi
  obtain rfl : i = 0 := by simp at hi; exact hi
  exact ⟨h0, h1⟩
theorem shB_pt (x y : Int) : shBy 1 [[(x, y)]] = ptP (x, y) := rfl
theorem shB_ln (ps : List (Int × Int)) : shBy 3 [ps] = lnP ps := rfl

set_option maxRecDepth 20000 in
set_option maxHeartbeats 1000000 in
theorem putPointPart_any (base : Nat) (v : Value) (bs : List Int) (x y : Int) (w : World) (h : RowB base w v bs) (hb : base ≤ w.heap.size) (hl : bs.length ≤ 50000) (hT : Stays w v TabB) :
    Calls Tryz.prog 47 #[v, .agg #[.int .i64 x, .int .i64 y]] w fun e w' => ∃ v', e = .returned v' ∧ RowB base w' v' (bs ++ ptP (x, y)) ∧ Ext w v w' v' := by
  have B0 := below1 w (.cells #[.int .i64 x, .int .i64 y] 59)
  have V0 := Box2.new w (lo := w.heap.size) (Nat.le_refl _) (.int .i64 x) (.int .i64 y) 59
  have X0 := Ext.of_below v B0
  have R0 := h.below B0
  have hb0 : base ≤ (w.alloc (.cells #[.int .i64 x, .int .i64 y] 59)).heap.size := Nat.le_trans hb B0.size
  have HT : Hid (Stays w v TabB) := hT
  have HP : Hid (shBy 1 [[(x, y)]] = ptP (x, y)) := rfl
  rw [← HP.out]
  clear hT
  go_enter Tryz.func47, Tryz.ntmps47
  go_upto_region 1 with fail
  generalize w.alloc (.cells #[.int .i64 x, .int .i64 y] 59) = W0 at *
  obtain ⟨t0, t1, _, _⟩ := id V0
  go_wp2_with fail
  refine (pointShape_parts x y _).mono ?_
  rintro e w1 ⟨q, b, rfl, ⟨hq, hbb⟩, SP, CK, b1⟩
  have X1 := X0.trans (Ext.of_below v b1)
  have R1 := R0.below b1
  have hb1 := Nat.le_trans hb0 b1.size
  have nq : v.ownBlock ≠ some q := R0.own_ne hq
  have nb : v.ownBlock ≠ some b := R0.own_ne hbb
  have ST : SeesT w1 v (some ⟨b, 0, none⟩) 1 [[(x, y)]] := SeesT.one (fun W v' X => X.cell CK nb) (fun W v' X => SP.ext X nq)
  have TT : Stays w1 v TabB := HT.out.step X1
  go_wp2_with fail
  refine (putShape1 base v bs (some ⟨b, 0, none⟩) 1 [[(x, y)]] _ R1 hb1 hl ST ⟨by simp, by simp⟩ (one_rows (by simp) (by simp)) TT).mono ?_
  rintro e w2 ⟨v2, rfl, R2, X2⟩
  go_wp2
  go_ret
  exact ⟨_, rfl, R2, X1.trans X2⟩

set_option maxRecDepth 20000 in
set_option maxHeartbeats 1000000 in
theorem putLinePart_any (base : Nat) (v : Value) (bs : List Int) (a : Option Addr) (c : Nat) (ps : List (Int × Int)) (w : World) (h : RowB base w v bs) (hb : base ≤ w.heap.size) (hl : bs.length ≤ 50000) (hS : Stays w v (fun W => SeesP W a c ps)) (h0 : 0 < ps.length) (h1 : ps.length ≤ 60) (hT : Stays w v TabB) :
    Calls Tryz.prog 50 #[v, .slice a ps.length c] w fun e w' => ∃ v', e = .returned v' ∧ RowB base w' v' (bs ++ lnP ps) ∧ Ext w v w' v' := by
  have B0 := below1 w (.cells #[.slice a ps.length c] 60)
  have CK := cell_new w #[.slice a ps.length c] 60 0 rfl
  have X0 := Ext.of_below v B0
  have R0 := h.below B0
  have hb0 : base ≤ (w.alloc (.cells #[.slice a ps.length c] 60)).heap.size := Nat.le_trans hb B0.size
  have nb : v.ownBlock ≠ some w.heap.size := h.own_ne (Nat.le_refl _)
  have ST : SeesT (w.alloc (.cells #[.slice a ps.length c] 60)) v (some ⟨w.heap.size, 0, none⟩) 1 [ps] := SeesT.one (fun W v' X => X.cell CK nb) (hS.step X0)
  have TT : Stays (w.alloc (.cells #[.slice a ps.length c] 60)) v TabB := hT.step X0
  have HP : Hid (shBy 3 [ps] = lnP ps) := rfl
  rw [← HP.out]
  clear hS hT
  go_enter Tryz.func50, Tryz.ntmps50
  go_wp2_with fail
  generalize w.alloc (.cells #[.slice a ps.length c] 60) = W0 at *
  refine (putShape3 base v bs (some ⟨w.heap.size, 0, none⟩) 1 [ps] _ R0 hb0 hl ST ⟨by simp, by simp⟩ (one_rows h0 h1) TT).mono ?_
  rintro e w2 ⟨v2, rfl, R2, X2⟩
  go_wp2
  go_ret
  exact ⟨_, rfl, R2, X0.trans X2⟩

theorem SeesP.cut {w : World} {a : Option Addr} {c : Nat} {ps : List (Int × Int)} (h : SeesP w a c ps) (m : Nat) : SeesP w a c (ps.take m) :=
  ⟨by rw [List.length_take]; have := h.fits; omega, h.max, fun hn => by
    obtain ⟨b, off, ha, hc⟩ := h.cells (by intro e; rw [e] at hn; simp at hn)
    refine ⟨b, off, ha, fun i hi => ?_⟩
    rw [List.length_take] at hi
    rw [List.getElem?_take_of_lt (by omega)]
    exact hc i (by omega)⟩

set_option maxRecDepth 20000 in
set_option maxHeartbeats 1000000 in
theorem putRing_any (base : Nat) (v : Value) (bs : List Int) (a : Option Addr) (c : Nat) (ps : List (Int × Int)) (w : World) (h : RowB base w v bs) (hb : base ≤ w.heap.size) (hl : bs.length ≤ 50000) (hS : Stays w v (fun W => SeesP W a c ps)) (h0 : 0 < ps.length) (h1 : ps.length ≤ 60) :
    Calls Tryz.prog 51 #[v, .slice a ps.length c] w fun e w' => ∃ v', e = .returned v' ∧ RowB base w' v' (bs ++ rgB ps) ∧ Ext w v w' v' := by
  have B0 := below1 w (.cells #[.slice a ps.length c, .slice a 1 c] 60)
  have K0 := cell_new w #[.slice a ps.length c, .slice a 1 c] 60 0 rfl
  have K1 := cell_new w #[.slice a ps.length c, .slice a 1 c] 60 1 rfl
  have X0 := Ext.of_below v B0
  have R0 := h.below B0
  have hb0 : base ≤ (w.alloc (.cells #[.slice a ps.length c, .slice a 1 c] 60)).heap.size := Nat.le_trans hb B0.size
  have P0 := hS _ _ X0
  have PM := P0.max
  have PF := P0.fits
  have T1 : (ps.take 1).length = 1 := by rw [List.length_take]; omega
  have SS : SeesS (w.alloc (.cells #[.slice a ps.length c, .slice a 1 c] 60)) (some ⟨w.heap.size, 0, none⟩) 2 [ps, ps.take 1] :=
    ⟨Nat.le_refl _, by simp [maxLen], fun _ => ⟨_, _, rfl, fun i hi => by
      have hi2 : i = 0 ∨ i = 1 := by simp at hi; omega
      rcases hi2 with rfl | rfl
      · exact ⟨a, c, K0, P0⟩
      · exact ⟨a, c, by show _ = some (Value.slice a (ps.take 1).length c); rw [T1]; exact K1, P0.cut 1⟩⟩⟩
  have HL : Hid (∀ i, i < [ps, ps.take 1].length → 0 < (rowA [ps, ps.take 1] i).length ∧ (rowA [ps, ps.take 1] i).length ≤ 60) := fun i hi => by
    have hi2 : i = 0 ∨ i = 1 := by simp at hi; omega
    rcases hi2 with rfl | rfl
    · exact ⟨h0, h1⟩
    · show 0 < (ps.take 1).length ∧ (ps.take 1).length ≤ 60
      rw [T1]; omega
  have HF : Hid ([ps, ps.take 1].flatten = ps ++ ps.take 1) := by show _ = _; simp
  have LQ : (ps ++ ps.take 1).length ≤ 61 := by rw [List.length_append, T1]; omega
  obtain ⟨b', off', ha, hcp⟩ := P0.cells (by intro e; rw [e] at h0; simp at h0)
  subst ha
  unfold rgB
  unfold maxLen at PM
  clear hS K0 K1 T1 hcp
  go_enter Tryz.func51, Tryz.ntmps51
  go_wp2_with fail
  generalize w.alloc (.cells #[.slice (some ⟨b', off', none⟩) ps.length c, .slice (some ⟨b', off', none⟩) 1 c] 60) = W0 at *
  refine (concatP (some ⟨w.heap.size, 0, none⟩) 2 [ps, ps.take 1] _ SS (by simp) HL.out).mono ?_
  rintro e w1 ⟨v1, rfl, R1, b1⟩
  rw [HF.out] at R1
  have X1 := X0.trans (Ext.of_below v b1)
  have RB := R0.below b1
  have hb1 := Nat.le_trans hb0 b1.size
  generalize HQ : ps ++ ps.take 1 = qs at *
  obtain ⟨a1, c1, rfl, _, _⟩ := R1.shape
  have SP := R1.seesP
  have ST : Stays w1 v (fun W => SeesP W a1 c1 qs) := fun W v' X => by
    rcases a1 with _ | ⟨q, o, sp⟩
    · refine ⟨SP.fits, SP.max, fun hn => ?_⟩
      obtain ⟨b, off, e, _⟩ := SP.cells hn
      cases e
    · by_cases hz : qs = []
      · exact ⟨SP.fits, SP.max, fun hn => absurd hz hn⟩
      · obtain ⟨b, off, e, _⟩ := SP.cells hz
        simp only [Option.some.injEq, Addr.mk.injEq] at e
        obtain ⟨rfl, rfl, rfl⟩ := e
        have lo := (World.ownsRow.lt R1 q rfl).1
        exact SP.ext X (R0.own_ne lo)
  go_wp2_with fail
  refine (putLine_any base v bs a1 c1 qs _ RB hb1 (by omega) LQ ST).mono ?_
  rintro e w2 ⟨v2, rfl, R2, X2⟩
  go_wp2
  go_ret
  exact ⟨_, rfl, by rw [HQ]; exact R2, X1.trans X2⟩

set_option maxRecDepth 20000 in
set_option maxHeartbeats 4000000 in
theorem putMany_part (base : Nat) (v : Value) (bs : List Int) (a : Option Addr) (c : Nat) (ps : List (Int × Int)) (w : World) (h : RowB base w v bs) (hb : base ≤ w.heap.size) (hl : bs.length ≤ 40000) (hp : ps.length ≤ 61) (hS : Stays w v (fun W => SeesP W a c ps)) (hT : Stays w v TabB) :
    Calls Tryz.prog 46 #[v, .slice a ps.length c, .func (Fn.func 47) #[] #[]] w fun e w' => ∃ v', e = .returned v' ∧ RowB base w' v' (bs ++ (leB 4 ps.length ++ ps.flatMap ptP)) ∧ Ext w v w' v' := by
  have hm := hS.now.max
  have hf := hS.now.fits
  unfold maxLen at hm
  have FL : Hid (∀ j, j ≤ ps.length → ((ps.take j).flatMap ptP).length ≤ 21 * j) := flat_le ptP 21 (fun i hi => by rw [ptP_len]; omega)
  have WL : IntKind.u32.wrap (ps.length : Int) = ps.length := by rw [IntKind.wrap_u32']; omega
  have HST : Hid (Stays w v (fun W => SeesP W a c ps)) := hS
  have HTT : Hid (Stays w v TabB) := hT
  clear hT
  clear hS
  go_enter Tryz.func46, Tryz.ntmps46
  go_wp2_with fail
  refine (putNumber32 base v bs (ps.length : Int) _ h hb (by omega) (by omega) (by omega)).mono ?_
  rintro e w1 ⟨v1, rfl, R1, X1⟩
  have L4 := leB_len 4 (ps.length : Int)
  have LL0 : (bs ++ leB 4 (ps.length : Int)).length ≤ 40004 := by rw [List.length_append]; omega
  generalize HQ : bs ++ leB 4 (ps.length : Int) = L0 at *
  clear L4 WL h
  go_wp2
  go_loopw [0, 16] (fun s0 s16 wr => ∃ j : Nat, j ≤ ps.length ∧ s16 = .int .i64 j ∧ RowB base wr s0 (L0 ++ (ps.take j).flatMap ptP) ∧ Ext w v wr s0) (fun _ s16 _ => ps.length - (intOf s16).toNat)
  case atStart => exact ⟨0, Nat.zero_le _, rfl, by simpa using R1, X1⟩
  case round =>
    clear R1 X1
    obtain ⟨j, hj, rfl, RR, X⟩ := hrel
    rename World => wr
    by_cases hlt : j < ps.length
    · obtain ⟨b, off, rfl, hc⟩ := (HST.out _ _ X).cells (by intro e; simp [e] at hlt)
      obtain ⟨g1, g2⟩ := hc j hlt
      have FS := flat_step ptP hlt
      rw [ptA_at hlt] at FS
      unfold ptA at FS
      have LL := FL.out j (by omega)
      have LL2 : (L0 ++ (ps.take j).flatMap ptP).length ≤ 50000 := by rw [List.length_append]; omega
      have hbr := Nat.le_trans hb X.size
      clear hc LL
      generalize hpp : (ps[j]?.getD (0, 0)) = p at *
      obtain ⟨x, y⟩ := p
      simp only at g1 g2
      generalize HLL : L0 ++ (ps.take j).flatMap ptP = L at *
      have bn := below1 wr (.cells #[.int .i64 x, .int .i64 y] 59)
      have RR2 := RR.below bn
      have X2 := X.trans (Ext.of_below u0 bn)
      have hb2 := Nat.le_trans hbr bn.size
      have k0 := cell_new wr #[.int .i64 x, .int .i64 y] 59 0 rfl
      have k1 := cell_new wr #[.int .i64 x, .int .i64 y] 59 1 rfl
      go_upto_region 5 with fail
      skip
      generalize wr.alloc (.cells #[.int .i64 x, .int .i64 y] 59) = W1 at *
      go_wp2_with fail
      refine (putPointPart_any base u0 L x y _ RR2 hb2 (by omega) (HTT.out.step X2)).mono ?_
      rintro e w4 ⟨v4, rfl, R4, X4⟩
      have X5 := X2.trans X4
      go_wp2
      go_roundw
      case rel => exact ⟨j + 1, by omega, by go_num, (by rw [FS, ← List.append_assoc, HLL]; exact R4), X5⟩
      case measure => simp [intOf]; omega
    · obtain rfl : j = ps.length := by omega
      rw [List.take_length] at RR
      go_wp2
      go_ret
      exact ⟨_, rfl, by rw [← List.append_assoc, HQ]; exact RR, X⟩

set_option maxRecDepth 20000 in
set_option maxHeartbeats 4000000 in
theorem putMany_line (base : Nat) (v : Value) (bs : List Int) (a : Option Addr) (c : Nat) (rs : List (List (Int × Int))) (w : World) (h : RowB base w v bs) (hb : base ≤ w.heap.size) (hl : bs.length ≤ 30000) (hn : 0 < rs.length ∧ rs.length ≤ 12) (hr : ∀ i, i < rs.length → 0 < (rowA rs i).length ∧ (rowA rs i).length ≤ 60) (hS : SeesT w v a c rs) (hT : Stays w v TabB) :
    Calls Tryz.prog 49 #[v, .slice a rs.length c, .func (Fn.func 50) #[] #[]] w fun e w' => ∃ v', e = .returned v' ∧ RowB base w' v' (bs ++ (leB 4 rs.length ++ rs.flatMap lnP)) ∧ Ext w v w' v' := by
  have hm := hS.max
  have hf := hS.fits
  unfold maxLen at hm
  obtain ⟨b, off, rfl, hc⟩ := hS.cells (by intro e; rw [e] at hn; exact absurd hn.1 (by simp))
  have HC : Hid (∀ i, i < rs.length → ∃ a' c', Stays w v (fun W => W.cell? ⟨b, off + i, none⟩ = some (.slice a' (rowA rs i).length c')) ∧ Stays w v (fun W => SeesP W a' c' (rowA rs i))) := hc
  have HR : Hid (∀ i, i < rs.length → 0 < (rowA rs i).length ∧ (rowA rs i).length ≤ 60) := hr
  have HTT : Hid (Stays w v TabB) := hT
  have FL : Hid (∀ j, j ≤ rs.length → ((rs.take j).flatMap lnP).length ≤ 1000 * j) := flat_le lnP 1000 (fun i hi => by
    have l := hr i hi
    rw [rowA_at hi]
    unfold lnP; rw [List.length_append, hdB_len, lnB_len]; omega)
  have WL : IntKind.u32.wrap (rs.length : Int) = rs.length := by rw [IntKind.wrap_u32']; omega
  clear hS hc hr hT
  go_enter Tryz.func49, Tryz.ntmps49
  go_wp2_with fail
  refine (putNumber32 base v bs (rs.length : Int) _ h hb (by omega) (by omega) (by omega)).mono ?_
  rintro e w1 ⟨v1, rfl, R1, X1⟩
  have L4 := leB_len 4 (rs.length : Int)
  have LL0 : (bs ++ leB 4 (rs.length : Int)).length ≤ 30004 := by rw [List.length_append]; omega
  generalize HQ : bs ++ leB 4 (rs.length : Int) = L0 at *
  clear L4 WL h
  go_wp2
  go_loopw [0, 16] (fun s0 s16 wr => ∃ j : Nat, j ≤ rs.length ∧ s16 = .int .i64 j ∧ RowB base wr s0 (L0 ++ (rs.take j).flatMap lnP) ∧ Ext w v wr s0) (fun _ s16 _ => rs.length - (intOf s16).toNat)
  case atStart => exact ⟨0, Nat.zero_le _, rfl, by simpa using R1, X1⟩
  case round =>
    clear R1 X1
    obtain ⟨j, hj, rfl, RR, X⟩ := hrel
    rename World => wr
    by_cases hlt : j < rs.length
    · obtain ⟨a', c', sg, sp⟩ := HC.out j hlt
      obtain ⟨l0, l1⟩ := HR.out j hlt
      have g0 := sg _ _ X
      have SS := Stays.step sp X
      have TT := HTT.out.step X
      have FS := flat_step lnP hlt
      rw [rowA_at hlt] at FS
      have LL := FL.out j (by omega)
      have LL2 : (L0 ++ (rs.take j).flatMap lnP).length ≤ 50000 := by rw [List.length_append]; omega
      have hbr := Nat.le_trans hb X.size
      have PM := SS.now.max
      have PF := SS.now.fits
      unfold maxLen at PM
      clear LL sg sp
      generalize rowA rs j = ps at *
      generalize HLL : L0 ++ (rs.take j).flatMap lnP = L at *
      go_wp2_with fail
      refine (putLinePart_any base u0 L a' c' ps _ RR hbr LL2 SS l0 l1 TT).mono ?_
      rintro e w4 ⟨v4, rfl, R4, X4⟩
      have X5 := X.trans X4
      go_wp2
      go_roundw
      case rel => exact ⟨j + 1, by omega, by go_num, (by rw [FS, ← List.append_assoc, HLL]; exact R4), X5⟩
      case measure => simp [intOf]; omega
    · obtain rfl : j = rs.length := by omega
      rw [List.take_length] at RR
      go_wp2
      go_ret
      exact ⟨_, rfl, by rw [← List.append_assoc, HQ]; exact RR, X⟩

set_option maxRecDepth 20000 in
set_option maxHeartbeats 4000000 in
theorem putMany_ring (base : Nat) (v : Value) (bs : List Int) (a : Option Addr) (c : Nat) (rs : List (List (Int × Int))) (w : World) (h : RowB base w v bs) (hb : base ≤ w.heap.size) (hl : bs.length ≤ 30000) (hn : 0 < rs.length ∧ rs.length ≤ 12) (hr : ∀ i, i < rs.length → 0 < (rowA rs i).length ∧ (rowA rs i).length ≤ 60) (hS : SeesT w v a c rs) (hT : Stays w v TabB) :
    Calls Tryz.prog 49 #[v, .slice a rs.length c, .func (Fn.func 51) #[] #[]] w fun e w' => ∃ v', e = .returned v' ∧ RowB base w' v' (bs ++ (leB 4 rs.length ++ rs.flatMap rgB)) ∧ Ext w v w' v' := by
  have hm := hS.max
  have hf := hS.fits
  unfold maxLen at hm
  obtain ⟨b, off, rfl, hc⟩ := hS.cells (by intro e; rw [e] at hn; exact absurd hn.1 (by simp))
  have HC : Hid (∀ i, i < rs.length → ∃ a' c', Stays w v (fun W => W.cell? ⟨b, off + i, none⟩ = some (.slice a' (rowA rs i).length c')) ∧ Stays w v (fun W => SeesP W a' c' (rowA rs i))) := hc
  have HR : Hid (∀ i, i < rs.length → 0 < (rowA rs i).length ∧ (rowA rs i).length ≤ 60) := hr
  have HTT : Hid (Stays w v TabB) := hT
  have FL : Hid (∀ j, j ≤ rs.length → ((rs.take j).flatMap rgB).length ≤ 1000 * j) := flat_le rgB 1000 (fun i hi => by
    have l := hr i hi
    rw [rowA_at hi]
    unfold rgB; rw [lnB_len, List.length_append, List.length_take]; omega)
  have WL : IntKind.u32.wrap (rs.length : Int) = rs.length := by rw [IntKind.wrap_u32']; omega
  clear hS hc hr hT
  go_enter Tryz.func49, Tryz.ntmps49
  go_wp2_with fail
  refine (putNumber32 base v bs (rs.length : Int) _ h hb (by omega) (by omega) (by omega)).mono ?_
  rintro e w1 ⟨v1, rfl, R1, X1⟩
  have L4 := leB_len 4 (rs.length : Int)
  have LL0 : (bs ++ leB 4 (rs.length : Int)).length ≤ 30004 := by rw [List.length_append]; omega
  generalize HQ : bs ++ leB 4 (rs.length : Int) = L0 at *
  clear L4 WL h
  go_wp2
  go_loopw [0, 16] (fun s0 s16 wr => ∃ j : Nat, j ≤ rs.length ∧ s16 = .int .i64 j ∧ RowB base wr s0 (L0 ++ (rs.take j).flatMap rgB) ∧ Ext w v wr s0) (fun _ s16 _ => rs.length - (intOf s16).toNat)
  case atStart => exact ⟨0, Nat.zero_le _, rfl, by simpa using R1, X1⟩
  case round =>
    clear R1 X1
    obtain ⟨j, hj, rfl, RR, X⟩ := hrel
    rename World => wr
    by_cases hlt : j < rs.length
    · obtain ⟨a', c', sg, sp⟩ := HC.out j hlt
      obtain ⟨l0, l1⟩ := HR.out j hlt
      have g0 := sg _ _ X
      have SS := Stays.step sp X
      have TT := HTT.out.step X
      have FS := flat_step rgB hlt
      rw [rowA_at hlt] at FS
      have LL := FL.out j (by omega)
      have LL2 : (L0 ++ (rs.take j).flatMap rgB).length ≤ 50000 := by rw [List.length_append]; omega
      have hbr := Nat.le_trans hb X.size
      have PM := SS.now.max
      have PF := SS.now.fits
      unfold maxLen at PM
      clear LL sg sp
      generalize rowA rs j = ps at *
      generalize HLL : L0 ++ (rs.take j).flatMap rgB = L at *
      go_wp2_with fail
      refine (putRing_any base u0 L a' c' ps _ RR hbr LL2 SS l0 l1).mono ?_
      rintro e w4 ⟨v4, rfl, R4, X4⟩
      have X5 := X.trans X4
      go_wp2
      go_roundw
      case rel => exact ⟨j + 1, by omega, by go_num, (by rw [FS, ← List.append_assoc, HLL]; exact R4), X5⟩
      case measure => simp [intOf]; omega
    · obtain rfl : j = rs.length := by omega
      rw [List.take_length] at RR
      go_wp2
      go_ret
      exact ⟨_, rfl, by rw [← List.append_assoc, HQ]; exact RR, X⟩

set_option maxRecDepth 20000 in
set_option maxHeartbeats 4000000 in
theorem putShape2 (base : Nat) (v : Value) (bs : List Int) (a : Option Addr) (c : Nat) (rs : List (List (Int × Int))) (w : World) (h : RowB base w v bs) (hb : base ≤ w.heap.size) (hl : bs.length ≤ 20000) (hS : SeesT w v a c rs) (hn : 0 < rs.length ∧ rs.length ≤ 12) (hr : ∀ i, i < rs.length → 0 < (rowA rs i).length ∧ (rowA rs i).length ≤ 60) (hT : Stays w v TabB) :
    Calls Tryz.prog 32 #[v, .agg #[.int .i64 2, .slice a rs.length c]] w fun e w' => ∃ v', e = .returned v' ∧ RowB base w' v' (bs ++ shBy 2 rs) ∧ Ext w v w' v' := by
  obtain ⟨i8, hi8, hy0, hy1, hy2⟩ := info_parts infoB
  have hm := hS.max
  have hf := hS.fits
  unfold maxLen at hm
  obtain ⟨b, off, rfl, hc⟩ := hS.cells (by intro e; rw [e] at hn; exact absurd hn.1 (by simp))
  have HC : Hid (∀ i, i < rs.length → ∃ a' c', Stays w v (fun W => W.cell? ⟨b, off + i, none⟩ = some (.slice a' (rowA rs i).length c')) ∧ Stays w v (fun W => SeesP W a' c' (rowA rs i))) := hc
  have HR : Hid (∀ i, i < rs.length → 0 < (rowA rs i).length ∧ (rowA rs i).length ≤ 60) := hr
  have HT : Hid (Stays w v TabB) := hT
  have B0 := below1 w (.cells #[.int .i64 2, .slice (some ⟨b, off, none⟩) rs.length c] 42)
  have V0 := Box2.new w (lo := w.heap.size) (Nat.le_refl _) (.int .i64 2) (.slice (some ⟨b, off, none⟩) rs.length c) 42
  have X0 := Ext.of_below v B0
  have R0 := h.below B0
  have ne := h.own_ne (k := w.heap.size) (Nat.le_refl _)
  have hb0 : base ≤ (w.alloc (.cells #[.int .i64 2, .slice (some ⟨b, off, none⟩) rs.length c] 42)).heap.size := Nat.le_trans hb B0.size
  have HH : Hid (hdB 2 = [1] ++ leB 4 (tyN 2)) := rfl
  have HS : Hid (shBy 2 rs = hdB 2 ++ (leB 4 (rowA rs 0).length ++ (rowA rs 0).flatMap ptP)) := rfl
  have HD := hdB_len 2
  have TB : 0 ≤ tyN 2 ∧ tyN 2 ≤ 5 := by decide
  have ML4 : (leB 4 (tyN 2)).length ≤ 4 := by rw [leB_len]; omega
  have HTY : Hid (∀ W, TabB W → W.cell? ⟨0, 2, none⟩ = some (.int .u32 (tyN 2))) := fun W t => t 2 (by decide) (by decide)
  rw [HS.out]
  clear hc hS hr hT HS h
  generalize hty : tyN 2 = ty at *
  generalize HHd : hdB 2 = H at *
  go_enter Tryz.func32, Tryz.ntmps32
  go_upto_region 1 with fail
  generalize w.alloc (.cells #[.int .i64 2, .slice (some ⟨b, off, none⟩) rs.length c] 42) = W0 at *
  have hd := ((Below.refl W0.heap.size W0).drew : Below W0.heap.size W0 _)
  have X1 := X0.trans (Ext.of_below v hd)
  have R1 := R0.below hd
  have V1 := V0.below hd
  have hb1 := Nat.le_trans hb0 hd.size
  have N : W0.drew.cell? ⟨w.heap.size, 0, none⟩ = some (.int .i64 2) ∧ W0.drew.cell? ⟨0, 2, none⟩ = some (.int .u32 ty) := ⟨V1.c0, HTY.out _ (HT.out _ _ X1)⟩
  clear X0 R0 V0 hb0 hd
  refine wp_region_held_drew (S := fun W => W.cell? ⟨w.heap.size, 0, none⟩ = some (.int .i64 2) ∧ W.cell? ⟨0, 2, none⟩ = some (.int .u32 ty)) (by kernel_rfl) N (fun hHeld => ?_)
  clear hHeld
  revert N X1 R1 V1 hb1
  generalize W0.drew = ww0
  intro X1 R1 V1 hb1 N
  refine takeW (i := 0) (by simp only [List.getElem?_toArray, List.getElem?_cons_zero]; exact rfl) (by kernel_rfl) (by kernel_rfl) (by kernel_rfl) (by exact fun _ _ _ h => h) (by rfl) (by intro wq hSw; go_simp <;> with_reducible rfl) (by assumption) ?_
  try simp only [Act.put, List.setIfInBounds_toArray, List.set_cons_zero, List.set_cons_succ]
  refine takeW (i := 3) (by simp only [List.getElem?_toArray, List.getElem?_cons_succ, List.getElem?_cons_zero]; exact rfl) (by kernel_rfl) (by kernel_rfl) (by kernel_rfl) (by exact fun _ _ _ h => h) (by rfl) (by intro wq hSw; go_simp <;> with_reducible rfl) (by assumption) ?_
  try simp only [Act.put, List.setIfInBounds_toArray, List.set_cons_zero, List.set_cons_succ]
  refine takeW (i := 4) (by simp only [List.getElem?_toArray, List.getElem?_cons_succ, List.getElem?_cons_zero]; exact rfl) (by kernel_rfl) (by kernel_rfl) (by kernel_rfl) (by exact fun _ _ _ h => h) (by rfl) (by intro wq hSw; obtain ⟨z0, z1⟩ := hSw; go_simp <;> with_reducible rfl) (by assumption) ?_
  try simp only [Act.put, List.setIfInBounds_toArray, List.set_cons_zero, List.set_cons_succ]
  refine takeW (i := 5) (by simp only [List.getElem?_toArray, List.getElem?_cons_succ, List.getElem?_cons_zero]; exact rfl) (by kernel_rfl) (by kernel_rfl) (by kernel_rfl) (by exact fun _ _ _ h => h) (by rfl) (by intro wq hSw; go_simp <;> with_reducible rfl) (by assumption) ?_
  try simp only [Act.put, List.setIfInBounds_toArray, List.set_cons_zero, List.set_cons_succ]
  refine takeW (i := 6) (by simp only [List.getElem?_toArray, List.getElem?_cons_succ, List.getElem?_cons_zero]; exact rfl) (by kernel_rfl) (by kernel_rfl) (by kernel_rfl) (by exact fun _ _ _ h => h) (by rfl) (by intro wq hSw; obtain ⟨z0, z1⟩ := hSw; go_simp <;> with_reducible rfl) (by assumption) ?_
  try simp only [Act.put, List.setIfInBounds_toArray, List.set_cons_zero, List.set_cons_succ]
  refine wpAnyH_ready (rs := [1]) (by kernel_rfl) (by simp) (AllReadyH.cons (by simp only [List.getElem?_toArray, List.getElem?_cons_succ, List.getElem?_cons_zero]; exact rfl) (fun K hK => ?_) AllReadyH.nil)
  go_simp
  have bn := below1 ww0 (.cells #[.int .u8 1] 5)
  have X2 := X1.trans (Ext.of_below v bn)
  have R2 := R1.below bn
  have V2 := V1.below bn
  have NW := one_new8 ww0 5 1
  have hb2 := Nat.le_trans hb1 bn.size
  have N2 := (⟨V2.c0, HTY.out _ (HT.out _ _ X2)⟩ : (ww0.alloc (.cells #[.int .u8 1] 5)).cell? ⟨w.heap.size, 0, none⟩ = some (.int .i64 2) ∧ (ww0.alloc (.cells #[.int .u8 1] 5)).cell? ⟨0, 2, none⟩ = some (.int .u32 ty))
  refine hK.out _ _ N2 (fun hHeld => ?_)
  clear hK K hHeld bn X1 R1 V1 N hb1
  try simp only [Act.put, List.setIfInBounds_toArray, List.set_cons_zero, List.set_cons_succ]
  generalize hz9 : ww0.heap.size = z9 at *
  generalize ww0.alloc (.cells #[.int .u8 1] 5) = ww1 at *
  refine wpAnyH_ready (rs := [2]) (by kernel_rfl) (by simp) (AllReadyH.cons (by simp only [List.getElem?_toArray, List.getElem?_cons_succ, List.getElem?_cons_zero]; exact rfl) (fun K hK => ?_) AllReadyH.nil)
  refine wp_append_own_at (.tmp 5) (.tmp 6) 24 rfl base 5 i8 (.int .u8 0) 1 1 Tryz.underlying24 hi8 hy0 hy1 hy2 rfl (by decide) v bs.length (bs.map (Value.int .u8)) rfl R2 ⟨z9, 0, none⟩ ([1] : List Int).length _ (([1] : List Int).map (Value.int .u8)) rfl (by simp) NW (ones8 _) (by simp only [List.length_cons, List.length_nil]; unfold maxLen; omega) (by simp only [List.length_cons, List.length_nil]; omega) hb2 ?_
  intro v3 w3 R3 G3 A3
  have X23 := Ext.of_at G3 A3
  have X3 := X2.trans X23
  have V3 := X23.box V2 ne
  replace R3 : RowB base w3 v3 (bs ++ [1]) := RowB.app R3
  have hb3 := Nat.le_trans hb2 X23.size
  have N3 := (⟨V3.c0, HTY.out _ (HT.out _ _ X3)⟩ : w3.cell? ⟨w.heap.size, 0, none⟩ = some (.int .i64 2) ∧ w3.cell? ⟨0, 2, none⟩ = some (.int .u32 ty))
  have ne3 : v3.ownBlock ≠ some w.heap.size := by
    rcases X3.b with e | ⟨q, e, hq⟩
    · rw [e]; exact ne
    · intro e2
      rcases A3 with e4 | e4
      · exact ne (e4.symm.trans e2)
      · have := V2.lt
        rw [e4] at e2
        injection e2 with e2
        omega
  refine hK.out _ _ N3 (fun hHeld => ?_)
  clear hK K hHeld G3 A3 X23 R2 V2 X2 N2 hb2
  try simp only [Act.put, List.setIfInBounds_toArray, List.set_cons_zero, List.set_cons_succ]
  refine wpAnyH_ready (rs := [7]) (by kernel_rfl) (by simp) (AllReadyH.cons (by simp only [List.getElem?_toArray, List.getElem?_cons_succ, List.getElem?_cons_zero]; exact rfl) (fun K hK => ?_) AllReadyH.nil)
  go_simp
  go_at_call 31
  refine (putNumber32 base v3 (bs ++ [1]) ty _ R3 hb3 (by simp only [List.length_append, List.length_cons, List.length_nil]; omega) (by omega) (by omega)).mono ?_
  rintro e w4 ⟨v4, rfl, R4, X34⟩
  have X4 := X3.trans X34
  have V4 := X34.box V3 ne3
  have hb4 := Nat.le_trans hb3 X34.size
  have N4 := (⟨V4.c0, HTY.out _ (HT.out _ _ X4)⟩ : w4.cell? ⟨w.heap.size, 0, none⟩ = some (.int .i64 2) ∧ w4.cell? ⟨0, 2, none⟩ = some (.int .u32 ty))
  rw [List.append_assoc, ← HH.out] at R4
  refine hK.out _ _ N4 (fun hHeld => ?_)
  clear hK K hHeld X34 R3 V3 X3 N3 hb3
  try simp only [Act.put, List.setIfInBounds_toArray, List.set_cons_zero, List.set_cons_succ]
  refine takeW (i := 8) (by simp only [List.getElem?_toArray, List.getElem?_cons_succ, List.getElem?_cons_zero]; exact rfl) (by kernel_rfl) (by kernel_rfl) (by kernel_rfl) (by exact fun _ _ _ h => h) (by rfl) (by intro wq hSw; go_simp <;> with_reducible rfl) (by assumption) ?_
  try simp only [Act.put, List.setIfInBounds_toArray, List.set_cons_zero]
  refine wpAnyH_done (by kernel_rfl) ?_ _
  have L4 : (bs ++ H).length ≤ 20005 := by rw [List.length_append]; omega
  generalize HQ : bs ++ H = L at *
  have K0 := V4.c0
  have K1 := V4.c1
  obtain ⟨a', c', sg, sp⟩ := HC.out 0 hn.1
  obtain ⟨l0, l1⟩ := HR.out 0 hn.1
  have g0 := sg _ _ X4
  simp only [Nat.add_zero] at g0
  have PP := sp _ _ X4
  have PM := PP.max
  have PF := PP.fits
  unfold maxLen at PM

  have SS := Stays.step sp X4
  have TT := HT.out.step X4
  clear sp sg
  go_wp2_with fail
  refine (putMany_part base v4 L a' c' (rowA rs 0) _ R4 hb4 (by omega) (by omega) SS TT).mono ?_
  rintro e w5 ⟨v5, rfl, R5, X5⟩
  go_wp2
  go_ret
  exact ⟨_, rfl, by rw [← List.append_assoc, HQ]; exact R5, X4.trans X5⟩

set_option maxRecDepth 20000 in
set_option maxHeartbeats 4000000 in
theorem putShape4 (base : Nat) (v : Value) (bs : List Int) (a : Option Addr) (c : Nat) (rs : List (List (Int × Int))) (w : World) (h : RowB base w v bs) (hb : base ≤ w.heap.size) (hl : bs.length ≤ 20000) (hS : SeesT w v a c rs) (hn : 0 < rs.length ∧ rs.length ≤ 12) (hr : ∀ i, i < rs.length → 0 < (rowA rs i).length ∧ (rowA rs i).length ≤ 60) (hT : Stays w v TabB) :
    Calls Tryz.prog 32 #[v, .agg #[.int .i64 4, .slice a rs.length c]] w fun e w' => ∃ v', e = .returned v' ∧ RowB base w' v' (bs ++ shBy 4 rs) ∧ Ext w v w' v' := by
  obtain ⟨i8, hi8, hy0, hy1, hy2⟩ := info_parts infoB
  have hm := hS.max
  have hf := hS.fits
  unfold maxLen at hm
  obtain ⟨b, off, rfl, hc⟩ := hS.cells (by intro e; rw [e] at hn; exact absurd hn.1 (by simp))
  have HC : Hid (∀ i, i < rs.length → ∃ a' c', Stays w v (fun W => W.cell? ⟨b, off + i, none⟩ = some (.slice a' (rowA rs i).length c')) ∧ Stays w v (fun W => SeesP W a' c' (rowA rs i))) := hc
  have HR : Hid (∀ i, i < rs.length → 0 < (rowA rs i).length ∧ (rowA rs i).length ≤ 60) := hr
  have HT : Hid (Stays w v TabB) := hT
  have B0 := below1 w (.cells #[.int .i64 4, .slice (some ⟨b, off, none⟩) rs.length c] 42)
  have V0 := Box2.new w (lo := w.heap.size) (Nat.le_refl _) (.int .i64 4) (.slice (some ⟨b, off, none⟩) rs.length c) 42
  have X0 := Ext.of_below v B0
  have R0 := h.below B0
  have ne := h.own_ne (k := w.heap.size) (Nat.le_refl _)
  have hb0 : base ≤ (w.alloc (.cells #[.int .i64 4, .slice (some ⟨b, off, none⟩) rs.length c] 42)).heap.size := Nat.le_trans hb B0.size
  have HH : Hid (hdB 4 = [1] ++ leB 4 (tyN 4)) := rfl
  have HS : Hid (shBy 4 rs = hdB 4 ++ (leB 4 rs.length ++ rs.flatMap lnP)) := rfl
  have HD := hdB_len 4
  have TB : 0 ≤ tyN 4 ∧ tyN 4 ≤ 5 := by decide
  have ML4 : (leB 4 (tyN 4)).length ≤ 4 := by rw [leB_len]; omega
  have HTY : Hid (∀ W, TabB W → W.cell? ⟨0, 4, none⟩ = some (.int .u32 (tyN 4))) := fun W t => t 4 (by decide) (by decide)
  rw [HS.out]
  clear hc hS hr hT HS h
  generalize hty : tyN 4 = ty at *
  generalize HHd : hdB 4 = H at *
  go_enter Tryz.func32, Tryz.ntmps32
  go_upto_region 1 with fail
  generalize w.alloc (.cells #[.int .i64 4, .slice (some ⟨b, off, none⟩) rs.length c] 42) = W0 at *
  have hd := ((Below.refl W0.heap.size W0).drew : Below W0.heap.size W0 _)
  have X1 := X0.trans (Ext.of_below v hd)
  have R1 := R0.below hd
  have V1 := V0.below hd
  have hb1 := Nat.le_trans hb0 hd.size
  have N : W0.drew.cell? ⟨w.heap.size, 0, none⟩ = some (.int .i64 4) ∧ W0.drew.cell? ⟨0, 4, none⟩ = some (.int .u32 ty) := ⟨V1.c0, HTY.out _ (HT.out _ _ X1)⟩
  clear X0 R0 V0 hb0 hd
  refine wp_region_held_drew (S := fun W => W.cell? ⟨w.heap.size, 0, none⟩ = some (.int .i64 4) ∧ W.cell? ⟨0, 4, none⟩ = some (.int .u32 ty)) (by kernel_rfl) N (fun hHeld => ?_)
  clear hHeld
  revert N X1 R1 V1 hb1
  generalize W0.drew = ww0
  intro X1 R1 V1 hb1 N
  refine takeW (i := 0) (by simp only [List.getElem?_toArray, List.getElem?_cons_zero]; exact rfl) (by kernel_rfl) (by kernel_rfl) (by kernel_rfl) (by exact fun _ _ _ h => h) (by rfl) (by intro wq hSw; go_simp <;> with_reducible rfl) (by assumption) ?_
  try simp only [Act.put, List.setIfInBounds_toArray, List.set_cons_zero, List.set_cons_succ]
  refine takeW (i := 3) (by simp only [List.getElem?_toArray, List.getElem?_cons_succ, List.getElem?_cons_zero]; exact rfl) (by kernel_rfl) (by kernel_rfl) (by kernel_rfl) (by exact fun _ _ _ h => h) (by rfl) (by intro wq hSw; go_simp <;> with_reducible rfl) (by assumption) ?_
  try simp only [Act.put, List.setIfInBounds_toArray, List.set_cons_zero, List.set_cons_succ]
  refine takeW (i := 4) (by simp only [List.getElem?_toArray, List.getElem?_cons_succ, List.getElem?_cons_zero]; exact rfl) (by kernel_rfl) (by kernel_rfl) (by kernel_rfl) (by exact fun _ _ _ h => h) (by rfl) (by intro wq hSw; obtain ⟨z0, z1⟩ := hSw; go_simp <;> with_reducible rfl) (by assumption) ?_
  try simp only [Act.put, List.setIfInBounds_toArray, List.set_cons_zero, List.set_cons_succ]
  refine takeW (i := 5) (by simp only [List.getElem?_toArray, List.getElem?_cons_succ, List.getElem?_cons_zero]; exact rfl) (by kernel_rfl) (by kernel_rfl) (by kernel_rfl) (by exact fun _ _ _ h => h) (by rfl) (by intro wq hSw; go_simp <;> with_reducible rfl) (by assumption) ?_
  try simp only [Act.put, List.setIfInBounds_toArray, List.set_cons_zero, List.set_cons_succ]
  refine takeW (i := 6) (by simp only [List.getElem?_toArray, List.getElem?_cons_succ, List.getElem?_cons_zero]; exact rfl) (by kernel_rfl) (by kernel_rfl) (by kernel_rfl) (by exact fun _ _ _ h => h) (by rfl) (by intro wq hSw; obtain ⟨z0, z1⟩ := hSw; go_simp <;> with_reducible rfl) (by assumption) ?_
  try simp only [Act.put, List.setIfInBounds_toArray, List.set_cons_zero, List.set_cons_succ]
  refine wpAnyH_ready (rs := [1]) (by kernel_rfl) (by simp) (AllReadyH.cons (by simp only [List.getElem?_toArray, List.getElem?_cons_succ, List.getElem?_cons_zero]; exact rfl) (fun K hK => ?_) AllReadyH.nil)
  go_simp
  have bn := below1 ww0 (.cells #[.int .u8 1] 5)
  have X2 := X1.trans (Ext.of_below v bn)
  have R2 := R1.below bn
  have V2 := V1.below bn
  have NW := one_new8 ww0 5 1
  have hb2 := Nat.le_trans hb1 bn.size
  have N2 := (⟨V2.c0, HTY.out _ (HT.out _ _ X2)⟩ : (ww0.alloc (.cells #[.int .u8 1] 5)).cell? ⟨w.heap.size, 0, none⟩ = some (.int .i64 4) ∧ (ww0.alloc (.cells #[.int .u8 1] 5)).cell? ⟨0, 4, none⟩ = some (.int .u32 ty))
  refine hK.out _ _ N2 (fun hHeld => ?_)
  clear hK K hHeld bn X1 R1 V1 N hb1
  try simp only [Act.put, List.setIfInBounds_toArray, List.set_cons_zero, List.set_cons_succ]
  generalize hz9 : ww0.heap.size = z9 at *
  generalize ww0.alloc (.cells #[.int .u8 1] 5) = ww1 at *
  refine wpAnyH_ready (rs := [2]) (by kernel_rfl) (by simp) (AllReadyH.cons (by simp only [List.getElem?_toArray, List.getElem?_cons_succ, List.getElem?_cons_zero]; exact rfl) (fun K hK => ?_) AllReadyH.nil)
  refine wp_append_own_at (.tmp 5) (.tmp 6) 24 rfl base 5 i8 (.int .u8 0) 1 1 Tryz.underlying24 hi8 hy0 hy1 hy2 rfl (by decide) v bs.length (bs.map (Value.int .u8)) rfl R2 ⟨z9, 0, none⟩ ([1] : List Int).length _ (([1] : List Int).map (Value.int .u8)) rfl (by simp) NW (ones8 _) (by simp only [List.length_cons, List.length_nil]; unfold maxLen; omega) (by simp only [List.length_cons, List.length_nil]; omega) hb2 ?_
  intro v3 w3 R3 G3 A3
  have X23 := Ext.of_at G3 A3
  have X3 := X2.trans X23
  have V3 := X23.box V2 ne
  replace R3 : RowB base w3 v3 (bs ++ [1]) := RowB.app R3
  have hb3 := Nat.le_trans hb2 X23.size
  have N3 := (⟨V3.c0, HTY.out _ (HT.out _ _ X3)⟩ : w3.cell? ⟨w.heap.size, 0, none⟩ = some (.int .i64 4) ∧ w3.cell? ⟨0, 4, none⟩ = some (.int .u32 ty))
  have ne3 : v3.ownBlock ≠ some w.heap.size := by
    rcases X3.b with e | ⟨q, e, hq⟩
    · rw [e]; exact ne
    · intro e2
      rcases A3 with e4 | e4
      · exact ne (e4.symm.trans e2)
      · have := V2.lt
        rw [e4] at e2
        injection e2 with e2
        omega
  refine hK.out _ _ N3 (fun hHeld => ?_)
  clear hK K hHeld G3 A3 X23 R2 V2 X2 N2 hb2
  try simp only [Act.put, List.setIfInBounds_toArray, List.set_cons_zero, List.set_cons_succ]
  refine wpAnyH_ready (rs := [7]) (by kernel_rfl) (by simp) (AllReadyH.cons (by simp only [List.getElem?_toArray, List.getElem?_cons_succ, List.getElem?_cons_zero]; exact rfl) (fun K hK => ?_) AllReadyH.nil)
  go_simp
  go_at_call 31
  refine (putNumber32 base v3 (bs ++ [1]) ty _ R3 hb3 (by simp only [List.length_append, List.length_cons, List.length_nil]; omega) (by omega) (by omega)).mono ?_
  rintro e w4 ⟨v4, rfl, R4, X34⟩
  have X4 := X3.trans X34
  have V4 := X34.box V3 ne3
  have hb4 := Nat.le_trans hb3 X34.size
  have N4 := (⟨V4.c0, HTY.out _ (HT.out _ _ X4)⟩ : w4.cell? ⟨w.heap.size, 0, none⟩ = some (.int .i64 4) ∧ w4.cell? ⟨0, 4, none⟩ = some (.int .u32 ty))
  rw [List.append_assoc, ← HH.out] at R4
  refine hK.out _ _ N4 (fun hHeld => ?_)
  clear hK K hHeld X34 R3 V3 X3 N3 hb3
  try simp only [Act.put, List.setIfInBounds_toArray, List.set_cons_zero, List.set_cons_succ]
  refine takeW (i := 8) (by simp only [List.getElem?_toArray, List.getElem?_cons_succ, List.getElem?_cons_zero]; exact rfl) (by kernel_rfl) (by kernel_rfl) (by kernel_rfl) (by exact fun _ _ _ h => h) (by rfl) (by intro wq hSw; go_simp <;> with_reducible rfl) (by assumption) ?_
  try simp only [Act.put, List.setIfInBounds_toArray, List.set_cons_zero]
  refine wpAnyH_done (by kernel_rfl) ?_ _
  have L4 : (bs ++ H).length ≤ 20005 := by rw [List.length_append]; omega
  generalize HQ : bs ++ H = L at *
  have K0 := V4.c0
  have K1 := V4.c1

  have ST : SeesT w4 v4 (some ⟨b, off, none⟩) c rs := ⟨hf, by unfold maxLen; omega, fun _ => ⟨b, off, rfl, fun i hi => by
    obtain ⟨a', c', sg, sp⟩ := HC.out i hi
    exact ⟨a', c', Stays.step sg X4, Stays.step sp X4⟩⟩⟩
  have TT := HT.out.step X4
  go_wp2_with fail
  refine (putMany_line base v4 L (some ⟨b, off, none⟩) c rs _ R4 hb4 (by omega) hn HR.out ST TT).mono ?_
  rintro e w5 ⟨v5, rfl, R5, X5⟩
  go_wp2
  go_ret
  exact ⟨_, rfl, by rw [← List.append_assoc, HQ]; exact R5, X4.trans X5⟩

set_option maxRecDepth 20000 in
set_option maxHeartbeats 4000000 in
theorem putShape5 (base : Nat) (v : Value) (bs : List Int) (a : Option Addr) (c : Nat) (rs : List (List (Int × Int))) (w : World) (h : RowB base w v bs) (hb : base ≤ w.heap.size) (hl : bs.length ≤ 20000) (hS : SeesT w v a c rs) (hn : 0 < rs.length ∧ rs.length ≤ 12) (hr : ∀ i, i < rs.length → 0 < (rowA rs i).length ∧ (rowA rs i).length ≤ 60) (hT : Stays w v TabB) :
    Calls Tryz.prog 32 #[v, .agg #[.int .i64 5, .slice a rs.length c]] w fun e w' => ∃ v', e = .returned v' ∧ RowB base w' v' (bs ++ shBy 5 rs) ∧ Ext w v w' v' := by
  obtain ⟨i8, hi8, hy0, hy1, hy2⟩ := info_parts infoB
  have hm := hS.max
  have hf := hS.fits
  unfold maxLen at hm
  obtain ⟨b, off, rfl, hc⟩ := hS.cells (by intro e; rw [e] at hn; exact absurd hn.1 (by simp))
  have HC : Hid (∀ i, i < rs.length → ∃ a' c', Stays w v (fun W => W.cell? ⟨b, off + i, none⟩ = some (.slice a' (rowA rs i).length c')) ∧ Stays w v (fun W => SeesP W a' c' (rowA rs i))) := hc
  have HR : Hid (∀ i, i < rs.length → 0 < (rowA rs i).length ∧ (rowA rs i).length ≤ 60) := hr
  have HT : Hid (Stays w v TabB) := hT
  have B0 := below1 w (.cells #[.int .i64 5, .slice (some ⟨b, off, none⟩) rs.length c] 42)
  have V0 := Box2.new w (lo := w.heap.size) (Nat.le_refl _) (.int .i64 5) (.slice (some ⟨b, off, none⟩) rs.length c) 42
  have X0 := Ext.of_below v B0
  have R0 := h.below B0
  have ne := h.own_ne (k := w.heap.size) (Nat.le_refl _)
  have hb0 : base ≤ (w.alloc (.cells #[.int .i64 5, .slice (some ⟨b, off, none⟩) rs.length c] 42)).heap.size := Nat.le_trans hb B0.size
  have HH : Hid (hdB 5 = [1] ++ leB 4 (tyN 5)) := rfl
  have HS : Hid (shBy 5 rs = hdB 5 ++ (leB 4 rs.length ++ rs.flatMap rgB)) := rfl
  have HD := hdB_len 5
  have TB : 0 ≤ tyN 5 ∧ tyN 5 ≤ 5 := by decide
  have ML4 : (leB 4 (tyN 5)).length ≤ 4 := by rw [leB_len]; omega
  have HTY : Hid (∀ W, TabB W → W.cell? ⟨0, 5, none⟩ = some (.int .u32 (tyN 5))) := fun W t => t 5 (by decide) (by decide)
  rw [HS.out]
  clear hc hS hr hT HS h
  generalize hty : tyN 5 = ty at *
  generalize HHd : hdB 5 = H at *
  go_enter Tryz.func32, Tryz.ntmps32
  go_upto_region 1 with fail
  generalize w.alloc (.cells #[.int .i64 5, .slice (some ⟨b, off, none⟩) rs.length c] 42) = W0 at *
  have hd := ((Below.refl W0.heap.size W0).drew : Below W0.heap.size W0 _)
  have X1 := X0.trans (Ext.of_below v hd)
  have R1 := R0.below hd
  have V1 := V0.below hd
  have hb1 := Nat.le_trans hb0 hd.size
  have N : W0.drew.cell? ⟨w.heap.size, 0, none⟩ = some (.int .i64 5) ∧ W0.drew.cell? ⟨0, 5, none⟩ = some (.int .u32 ty) := ⟨V1.c0, HTY.out _ (HT.out _ _ X1)⟩
  clear X0 R0 V0 hb0 hd
  refine wp_region_held_drew (S := fun W => W.cell? ⟨w.heap.size, 0, none⟩ = some (.int .i64 5) ∧ W.cell? ⟨0, 5, none⟩ = some (.int .u32 ty)) (by kernel_rfl) N (fun hHeld => ?_)
  clear hHeld
  revert N X1 R1 V1 hb1
  generalize W0.drew = ww0
  intro X1 R1 V1 hb1 N
  refine takeW (i := 0) (by simp only [List.getElem?_toArray, List.getElem?_cons_zero]; exact rfl) (by kernel_rfl) (by kernel_rfl) (by kernel_rfl) (by exact fun _ _ _ h => h) (by rfl) (by intro wq hSw; go_simp <;> with_reducible rfl) (by assumption) ?_
  try simp only [Act.put, List.setIfInBounds_toArray, List.set_cons_zero, List.set_cons_succ]
  refine takeW (i := 3) (by simp only [List.getElem?_toArray, List.getElem?_cons_succ, List.getElem?_cons_zero]; exact rfl) (by kernel_rfl) (by kernel_rfl) (by kernel_rfl) (by exact fun _ _ _ h => h) (by rfl) (by intro wq hSw; go_simp <;> with_reducible rfl) (by assumption) ?_
  try simp only [Act.put, List.setIfInBounds_toArray, List.set_cons_zero, List.set_cons_succ]
  refine takeW (i := 4) (by simp only [List.getElem?_toArray, List.getElem?_cons_succ, List.getElem?_cons_zero]; exact rfl) (by kernel_rfl) (by kernel_rfl) (by kernel_rfl) (by exact fun _ _ _ h => h) (by rfl) (by intro wq hSw; obtain ⟨z0, z1⟩ := hSw; go_simp <;> with_reducible rfl) (by assumption) ?_
  try simp only [Act.put, List.setIfInBounds_toArray, List.set_cons_zero, List.set_cons_succ]
  refine takeW (i := 5) (by simp only [List.getElem?_toArray, List.getElem?_cons_succ, List.getElem?_cons_zero]; exact rfl) (by kernel_rfl) (by kernel_rfl) (by kernel_rfl) (by exact fun _ _ _ h => h) (by rfl) (by intro wq hSw; go_simp <;> with_reducible rfl) (by assumption) ?_
  try simp only [Act.put, List.setIfInBounds_toArray, List.set_cons_zero, List.set_cons_succ]
  refine takeW (i := 6) (by simp only [List.getElem?_toArray, List.getElem?_cons_succ, List.getElem?_cons_zero]; exact rfl) (by kernel_rfl) (by kernel_rfl) (by kernel_rfl) (by exact fun _ _ _ h => h) (by rfl) (by intro wq hSw; obtain ⟨z0, z1⟩ := hSw; go_simp <;> with_reducible rfl) (by assumption) ?_
  try simp only [Act.put, List.setIfInBounds_toArray, List.set_cons_zero, List.set_cons_succ]
  refine wpAnyH_ready (rs := [1]) (by kernel_rfl) (by simp) (AllReadyH.cons (by simp only [List.getElem?_toArray, List.getElem?_cons_succ, List.getElem?_cons_zero]; exact rfl) (fun K hK => ?_) AllReadyH.nil)
  go_simp
  have bn := below1 ww0 (.cells #[.int .u8 1] 5)
  have X2 := X1.trans (Ext.of_below v bn)
  have R2 := R1.below bn
  have V2 := V1.below bn
  have NW := one_new8 ww0 5 1
  have hb2 := Nat.le_trans hb1 bn.size
  have N2 := (⟨V2.c0, HTY.out _ (HT.out _ _ X2)⟩ : (ww0.alloc (.cells #[.int .u8 1] 5)).cell? ⟨w.heap.size, 0, none⟩ = some (.int .i64 5) ∧ (ww0.alloc (.cells #[.int .u8 1] 5)).cell? ⟨0, 5, none⟩ = some (.int .u32 ty))
  refine hK.out _ _ N2 (fun hHeld => ?_)
  clear hK K hHeld bn X1 R1 V1 N hb1
  try simp only [Act.put, List.setIfInBounds_toArray, List.set_cons_zero, List.set_cons_succ]
  generalize hz9 : ww0.heap.size = z9 at *
  generalize ww0.alloc (.cells #[.int .u8 1] 5) = ww1 at *
  refine wpAnyH_ready (rs := [2]) (by kernel_rfl) (by simp) (AllReadyH.cons (by simp only [List.getElem?_toArray, List.getElem?_cons_succ, List.getElem?_cons_zero]; exact rfl) (fun K hK => ?_) AllReadyH.nil)
  refine wp_append_own_at (.tmp 5) (.tmp 6) 24 rfl base 5 i8 (.int .u8 0) 1 1 Tryz.underlying24 hi8 hy0 hy1 hy2 rfl (by decide) v bs.length (bs.map (Value.int .u8)) rfl R2 ⟨z9, 0, none⟩ ([1] : List Int).length _ (([1] : List Int).map (Value.int .u8)) rfl (by simp) NW (ones8 _) (by simp only [List.length_cons, List.length_nil]; unfold maxLen; omega) (by simp only [List.length_cons, List.length_nil]; omega) hb2 ?_
  intro v3 w3 R3 G3 A3
  have X23 := Ext.of_at G3 A3
  have X3 := X2.trans X23
  have V3 := X23.box V2 ne
  replace R3 : RowB base w3 v3 (bs ++ [1]) := RowB.app R3
  have hb3 := Nat.le_trans hb2 X23.size
  have N3 := (⟨V3.c0, HTY.out _ (HT.out _ _ X3)⟩ : w3.cell? ⟨w.heap.size, 0, none⟩ = some (.int .i64 5) ∧ w3.cell? ⟨0, 5, none⟩ = some (.int .u32 ty))
  have ne3 : v3.ownBlock ≠ some w.heap.size := by
    rcases X3.b with e | ⟨q, e, hq⟩
    · rw [e]; exact ne
    · intro e2
      rcases A3 with e4 | e4
      · exact ne (e4.symm.trans e2)
      · have := V2.lt
        rw [e4] at e2
        injection e2 with e2
        omega
  refine hK.out _ _ N3 (fun hHeld => ?_)
  clear hK K hHeld G3 A3 X23 R2 V2 X2 N2 hb2
  try simp only [Act.put, List.setIfInBounds_toArray, List.set_cons_zero, List.set_cons_succ]
  refine wpAnyH_ready (rs := [7]) (by kernel_rfl) (by simp) (AllReadyH.cons (by simp only [List.getElem?_toArray, List.getElem?_cons_succ, List.getElem?_cons_zero]; exact rfl) (fun K hK => ?_) AllReadyH.nil)
  go_simp
  go_at_call 31
  refine (putNumber32 base v3 (bs ++ [1]) ty _ R3 hb3 (by simp only [List.length_append, List.length_cons, List.length_nil]; omega) (by omega) (by omega)).mono ?_
  rintro e w4 ⟨v4, rfl, R4, X34⟩
  have X4 := X3.trans X34
  have V4 := X34.box V3 ne3
  have hb4 := Nat.le_trans hb3 X34.size
  have N4 := (⟨V4.c0, HTY.out _ (HT.out _ _ X4)⟩ : w4.cell? ⟨w.heap.size, 0, none⟩ = some (.int .i64 5) ∧ w4.cell? ⟨0, 5, none⟩ = some (.int .u32 ty))
  rw [List.append_assoc, ← HH.out] at R4
  refine hK.out _ _ N4 (fun hHeld => ?_)
  clear hK K hHeld X34 R3 V3 X3 N3 hb3
  try simp only [Act.put, List.setIfInBounds_toArray, List.set_cons_zero, List.set_cons_succ]
  refine takeW (i := 8) (by simp only [List.getElem?_toArray, List.getElem?_cons_succ, List.getElem?_cons_zero]; exact rfl) (by kernel_rfl) (by kernel_rfl) (by kernel_rfl) (by exact fun _ _ _ h => h) (by rfl) (by intro wq hSw; go_simp <;> with_reducible rfl) (by assumption) ?_
  try simp only [Act.put, List.setIfInBounds_toArray, List.set_cons_zero]
  refine wpAnyH_done (by kernel_rfl) ?_ _
  have L4 : (bs ++ H).length ≤ 20005 := by rw [List.length_append]; omega
  generalize HQ : bs ++ H = L at *
  have K0 := V4.c0
  have K1 := V4.c1

  have ST : SeesT w4 v4 (some ⟨b, off, none⟩) c rs := ⟨hf, by unfold maxLen; omega, fun _ => ⟨b, off, rfl, fun i hi => by
    obtain ⟨a', c', sg, sp⟩ := HC.out i hi
    exact ⟨a', c', Stays.step sg X4, Stays.step sp X4⟩⟩⟩
  have TT := HT.out.step X4
  go_wp2_with fail
  refine (putMany_ring base v4 L (some ⟨b, off, none⟩) c rs _ R4 hb4 (by omega) hn HR.out ST TT).mono ?_
  rintro e w5 ⟨v5, rfl, R5, X5⟩
  go_wp2
  go_ret
  exact ⟨_, rfl, by rw [← List.append_assoc, HQ]; exact R5, X4.trans X5⟩

theorem putShape_any (k : Int) (a : Option Addr) (c : Nat) (rs : List (List (Int × Int))) (w : World) (h : SeesS w a c rs) (g : goodB k rs = true) (hT : ∀ w', Below w.heap.size w w' → TabB w') :
    Calls Tryz.prog 32 #[.slice none 0 0, .agg #[.int .i64 k, .slice a rs.length c]] w fun e w' => ∃ v', e = .returned v' ∧ RowB w.heap.size w' v' (shBy k rs) ∧ Below w.heap.size w w' := by
  obtain ⟨hk, h1, h2⟩ := goodS_rows g
  have h0 := good_some g
  have hl : ∀ i, i < rs.length → 0 < (rowA rs i).length ∧ (rowA rs i).length ≤ 60 := fun i hi => (h2 i hi).2
  have TT : Stays w (.slice none 0 0) TabB := fun w' v' X => hT w' (X.below rfl)
  have fin : ∀ K : Int, (Calls Tryz.prog 32 #[.slice none 0 0, .agg #[.int .i64 K, .slice a rs.length c]] w fun e w' => ∃ v', e = .returned v' ∧ RowB w.heap.size w' v' ([] ++ shBy K rs) ∧ Ext w (.slice none 0 0) w' v') →
      Calls Tryz.prog 32 #[.slice none 0 0, .agg #[.int .i64 K, .slice a rs.length c]] w fun e w' => ∃ v', e = .returned v' ∧ RowB w.heap.size w' v' (shBy K rs) ∧ Below w.heap.size w w' := by
    intro K hh
    refine hh.mono ?_
    rintro e w' ⟨v', rfl, R, X⟩
    exact ⟨v', rfl, R, X.below rfl⟩
  have R0 := RowB.nil w.heap.size w
  rcases kinds hk with rfl | rfl | rfl | rfl | rfl
  · exact fin 1 (putShape1 w.heap.size _ [] a c rs w R0 (Nat.le_refl _) (by simp) h.stays ⟨h0, h1⟩ hl TT)
  · exact fin 2 (putShape2 w.heap.size _ [] a c rs w R0 (Nat.le_refl _) (by simp) h.stays ⟨h0, h1⟩ hl TT)
  · exact fin 3 (putShape3 w.heap.size _ [] a c rs w R0 (Nat.le_refl _) (by simp) h.stays ⟨h0, h1⟩ hl TT)
  · exact fin 4 (putShape4 w.heap.size _ [] a c rs w R0 (Nat.le_refl _) (by simp) h.stays ⟨h0, h1⟩ hl TT)
  · exact fin 5 (putShape5 w.heap.size _ [] a c rs w R0 (Nat.le_refl _) (by simp) h.stays ⟨h0, h1⟩ hl TT)

end Go.Proofs.YtlkhbbllkkdhaaaGreatDoor
