/- The program's LogOpen. -/
import Derived.Test.YtkagohmgjhiddaaDoorScI
import Derived.Test.YtkagohmgjhiddaaDoorSetI
import Derived.Test.YtkagohmgjhiddaaDoorLoS
namespace Go.Proofs.YtkagohmgjhiddaaDoor
open Go.RowKit

set_option maxRecDepth 20000 in
set_option maxHeartbeats 2000000 in
theorem implLogOpen {lo0 : Nat} (b0 : Addr) (ad : Addr) (a2 : Option Addr) (c c2 : Nat) (vs0 : List Value) (bs : List Int) (qs : List Wr) (F L : Int) (w : World) (h : DkR lo0 w (.slice (some ad) bs.length c) (.slice a2 qs.length c2) vs0 bs qs) (hv0 : SomeV vs0) (hb0 : bs.length ≤ 2000000) (hs : uptoQ qs qs.length ≤ 2000000) (h8 : Dk8 bs qs) (E : Er b0 w) :
    Calls Tryd.prog 8 #[.agg #[.slice (some ad) bs.length c, .slice a2 qs.length c2], .int .i64 F, .int .i64 L] w fun e w' => LoPost w.heap.size bs qs F L e w' ∧ Below w.heap.size w w' := by
  have wp := E.pos
  have HD : Hid (DkR lo0 w (.slice (some ad) bs.length c) (.slice a2 qs.length c2) vs0 bs qs) := h
  have HM : Hid (SomeV vs0) := hv0
  have HU : Hid (uptoQ qs qs.length ≤ 2000000) := hs
  have H8 : Hid (Dk8 bs qs) := h8
  have HE : Hid (Er b0 w) := E
  have V := Box2.new w (lo := w.heap.size) (Nat.le_refl _) (.slice (some ad) bs.length c) (.slice a2 qs.length c2) 34
  have b1 := below1 w (.cells #[.slice (some ad) bs.length c, .slice a2 qs.length c2] 34)
  generalize hWa : w.alloc (.cells #[.slice (some ad) bs.length c, .slice a2 qs.length c2] 34) = Wa at *
  have za : Wa.heap.size = w.heap.size + 1 := by rw [← hWa]; simp
  have VR := Box4.new Wa (lo := w.heap.size) b1.size (.int .i64 0) (.int .i64 0) (.int .i64 0) (.int .i64 0) 28
  have b2 := below1 Wa (.cells #[.int .i64 0, .int .i64 0, .int .i64 0, .int .i64 0] 28)
  replace V := V.below b2
  have B := b1.trans (b2.mono b1.size)
  rw [za] at VR
  have NR : Hid (¬OpOk bs qs F L → LoRes bs qs F L 0 0 0 0 [] false) := fun q => .inr ⟨q, rfl, rfl, rfl, rfl, rfl, rfl⟩
  clear h hv0 hs h8 E b1 b2
  go_enter Tryd.func8, Tryd.ntmps8
  go_upto_region 1 with fail
  try rw [za]
  generalize Wa.alloc (.cells #[.int .i64 0, .int .i64 0, .int .i64 0, .int .i64 0] 28) = W0 at *
  clear hWa
  obtain ⟨v0, v1, _, _⟩ := id V
  go_wp2_with fail
  refine (implDiskOk b0 _ _ c c2 vs0 bs qs _ (HD.out.below B) (HE.out.below B wp)).mono ?_
  rintro e w1 ⟨r, rfl, hr, hb⟩
  have HR : Hid (r = true ↔ DkOk bs qs) := hr
  replace V := V.below hb
  replace VR := VR.below hb
  replace B := B.trans (hb.mono B.size)
  clear hb hr v0 v1
  cases r with
  | false =>
    have NO : Hid (LoRes bs qs F L 0 0 0 0 [] false) := NR.out (fun q => by have := HR.out.2 q.1.1; cases this)
    obtain ⟨r0, r1, r2, r3, rf, _⟩ := id VR
    have Q := Box4.chain B VR (.int .i64 0) (.int .i64 0) (.int .i64 0) (.int .i64 0)
    obtain ⟨s0, s1, s2, s3, _, _⟩ := VR.put (.int .i64 0) (.int .i64 0) (.int .i64 0) (.int .i64 0)
    clear NR HR VR V
    go_wp2
    exact bodyPost_ret (v := .tuple #[.agg #[.int .i64 0, .int .i64 0, .int .i64 0, .int .i64 0], .slice none 0 0, .bool false]) (by simp [results, Tryd.results8, go_sem, s0, s1, s2, s3]) rfl ⟨⟨0, 0, 0, 0, _, [], [], _, rfl, NO.out, BsR.nil _ _⟩, Q⟩
  | true =>
    have DO : Hid (DkOk bs qs) := HR.out.1 rfl
    obtain ⟨kk, hk⟩ : ∃ kk, Hid (bs.length / 64 = kk) := ⟨_, rfl⟩
    have k4 : kk ≤ 400 := by have := DO.out.2.2.1; rw [← hk.out]; omega
    obtain ⟨v0, v1, _, _⟩ := id V
    clear HR
    go_wp2_with fail
    refine (sectors_any _ _ c c2 bs.length qs.length kk _ hk hb0).mono ?_
    rintro e w2 ⟨rfl, hb⟩
    replace V := V.below hb
    replace VR := VR.below hb
    replace B := B.trans (hb.mono B.size)
    clear hb v0 v1
    go_wp2_with fail
    refine (areSectors_any F L (kk : Int) _).mono ?_
    rintro e w3 ⟨r, rfl, hr, rfl⟩
    have HR : Hid (r = true ↔ OpIn bs qs F L) := by
      show _ ↔ _
      rw [hr]
      unfold ArS OpIn
      rw [hk.out]
      exact ⟨fun q => ⟨DO.out, q⟩, fun q => q.2⟩
    clear hr
    cases r with
    | false =>
      have NO : Hid (LoRes bs qs F L 0 0 0 0 [] false) := NR.out (fun q => by have := HR.out.2 q.1; cases this)
      obtain ⟨r0, r1, r2, r3, rf, _⟩ := id VR
      have Q := Box4.chain B VR (.int .i64 0) (.int .i64 0) (.int .i64 0) (.int .i64 0)
      obtain ⟨s0, s1, s2, s3, _, _⟩ := VR.put (.int .i64 0) (.int .i64 0) (.int .i64 0) (.int .i64 0)
      clear NR HR VR V
      go_wp2
      exact bodyPost_ret (v := .tuple #[.agg #[.int .i64 0, .int .i64 0, .int .i64 0, .int .i64 0], .slice none 0 0, .bool false]) (by simp [results, Tryd.results8, go_sem, s0, s1, s2, s3]) rfl ⟨⟨0, 0, 0, 0, _, [], [], _, rfl, NO.out, BsR.nil _ _⟩, Q⟩
    | true =>
      have OI : Hid (OpIn bs qs F L) := HR.out.1 rfl
      have oi := OI.out
      unfold OpIn at oi
      rw [hk.out] at oi
      obtain ⟨_, f0, f1, f2⟩ := oi
      obtain ⟨v0, v1, _, _⟩ := id V
      clear HR
      go_wp2_with fail
      refine (implSync b0 ad a2 c c2 vs0 bs qs _ (HD.out.below B) HM.out hb0 HU.out (HE.out.below B wp)).mono ?_
      rintro e w4 ⟨ad4, c4, b4, d4, vs4, bs4, qs4, rfl, SR, DK, _, hb⟩
      have e4 : bs4 = syN bs qs qs.length := by
        rcases SR with ⟨_, q, _⟩ | ⟨q, _⟩
        · exact q
        · exact absurd DO.out q
      have l4 : bs4.length = bs.length := by rw [e4]; exact syN_len DO.out _ (Nat.le_refl _)
      have SB4 : SeesB w4 (some ad4) c4 bs4 := by have := DK.row; rw [← l4] at this; exact this.seesB
      have B84 : Hid (∀ x ∈ bs4, 0 ≤ x ∧ x < 256) := by show ∀ _, _; rw [e4]; exact syN_u8 H8.out _
      have HO : Hid (lgOf bs qs F L = lgFold (fun t => secN bs4 t) F.toNat (L - F + 1).toNat) := by show _ = _; unfold lgOf; rw [e4]
      replace VR := VR.below hb
      replace B := B.trans (hb.mono B.size)
      have hlt4 : w.heap.size + 1 < w4.heap.size := VR.lt
      clear hb v0 v1 DK SR V e4
      have L4 : Hid (bs4.length = bs.length) := l4
      rw [← l4]
      have hb4 : bs4.length ≤ 2000000 := by omega
      have hk4 : Hid (bs4.length / 64 = kk) := by show _ = _; rw [l4]; exact hk.out
      clear l4
      go_wp2_with fail
      refine (scanned_any b0 (some ad4) b4 c4 d4 qs4.length kk bs4 F L _ SB4 (HE.out.below B wp) hk4.out hb4 B84.out f0 f1 f2 k4).mono ?_
      rintro e w5 ⟨rv, _, vs, s, hsf, rfl, ⟨ba, bn0, bc, rfl⟩, OU, hb⟩
      have HS : Hid (lgOf bs qs F L = s) := by show _ = _; rw [HO.out, hsf]
      have IV : LgInv (L - F + 1).toNat s := by rw [hsf]; exact lgFold_inv _ _ _
      obtain ⟨mo0, mo1⟩ := IV.mo
      have IW := IV.wh
      replace VR := VR.below hb
      replace B := B.trans (hb.mono B.size)
      clear hb SB4 hsf IV HO
      obtain ⟨ra, rcp, rfl, _, _⟩ := OU.shape
      obtain ⟨st, nx, le, mo, wh, rc, bg⟩ := s
      dsimp only at mo0 mo1 IW OU HS ⊢
      have S7 : BoxL w.heap.size (w5.alloc (.cells #[.int .i64 (st : Int), .int .i64 (nx : Int), .int .i64 le, .int .i64 mo, .int .i64 (wh : Int), .slice ra vs.length rcp, .slice ba bn0 bc] 63)) w5.heap.size [.int .i64 (st : Int), .int .i64 (nx : Int), .int .i64 le, .int .i64 mo, .int .i64 (wh : Int), .slice ra vs.length rcp, .slice ba bn0 bc] := BoxL.new w5 B.size _ _
      have bn := below1 w5 (.cells #[.int .i64 (st : Int), .int .i64 (nx : Int), .int .i64 le, .int .i64 mo, .int .i64 (wh : Int), .slice ra vs.length rcp, .slice ba bn0 bc] 63)
      have hlt5 : w.heap.size + 1 < w5.heap.size := VR.lt
      replace VR := VR.below bn
      replace OU := OU.below bn
      replace B := B.trans (bn.mono B.size)
      clear bn
      go_upto_region 4 with fail
      generalize w5.alloc (.cells #[.int .i64 (st : Int), .int .i64 (nx : Int), .int .i64 le, .int .i64 mo, .int .i64 (wh : Int), .slice ra vs.length rcp, .slice ba bn0 bc] 63) = W6 at *
      generalize hp5 : w5.heap.size = p5 at *
      have q3 := S7.c 3 _ rfl
      by_cases hm : mo = 1000000
      · have NO : Hid (LoRes bs qs F L 0 0 0 0 [] false) := NR.out (fun q => q.2 (by rw [HS.out]; exact hm))
        obtain ⟨r0, r1, r2, r3, rf, _⟩ := id VR
        have Q := Box4.chain B VR (.int .i64 0) (.int .i64 0) (.int .i64 0) (.int .i64 0)
        obtain ⟨s0, s1, s2, s3, _, _⟩ := VR.put (.int .i64 0) (.int .i64 0) (.int .i64 0) (.int .i64 0)
        have hm1 : (mo == 1000000) = true := by simpa using hm
        clear NR VR S7 OU hm HS
        go_wp2
        exact bodyPost_ret (v := .tuple #[.agg #[.int .i64 0, .int .i64 0, .int .i64 0, .int .i64 0], .slice none 0 0, .bool false]) (by simp [results, Tryd.results8, go_sem, s0, s1, s2, s3]) rfl ⟨⟨0, 0, 0, 0, _, [], [], _, rfl, NO.out, BsR.nil _ _⟩, Q⟩
      · have YO : Hid (LoRes bs qs F L F L (wh : Int) (mo + 1) rc true) := .inl ⟨⟨OI.out, by rw [HS.out]; exact hm⟩, rfl, rfl, rfl, by rw [HS.out], by rw [HS.out], by rw [HS.out]⟩
        have hm1 : (mo == 1000000) = false := by simpa using hm
        have q4 := S7.c 4 _ rfl
        have q5 := S7.c 5 _ rfl
        obtain ⟨r0, r1, r2, r3, rf, _⟩ := id VR
        have Q : Hid (Below w.heap.size w _) := (Box4.chain B VR (.int .i64 F) (.int .i64 L) (.int .i64 (wh : Int)) (.int .i64 (mo + 1))).drew
        have VX : Hid (Box4 _ _ _ _ _ _ _) := VR.put (.int .i64 F) (.int .i64 L) (.int .i64 (wh : Int)) (.int .i64 (mo + 1))
        have gp := grownBy_setCell (grownBy_setCell (grownBy_setCell (grownBy_setCell (grownBy_refl W6 (some (w.heap.size + 1))) (p := ⟨w.heap.size + 1, 0, none⟩) rfl (.int .i64 F)) (p := ⟨w.heap.size + 1, 1, none⟩) rfl (.int .i64 L)) (p := ⟨w.heap.size + 1, 2, none⟩) rfl (.int .i64 (wh : Int))) (p := ⟨w.heap.size + 1, 3, none⟩) rfl (.int .i64 (mo + 1))
        clear NR S7 hm HS
        go_wp2_with fail
        go_region
        have OF := ((OU.kept gp (fun k hk e => by have := (OU.lts.1 k hk).1; injection e with e; omega) (fun u hu k hk e => by have := (OU.lts.2 u hu k hk).1; injection e with e; omega)).base (lo' := w.heap.size) (by omega)).below ((Below.refl _ _).drew)
        obtain ⟨s0, s1, s2, s3, _, _⟩ := VX.out
        clear gp OU VR
        go_wp2
        exact bodyPost_ret (v := .tuple #[.agg #[.int .i64 F, .int .i64 L, .int .i64 (wh : Int), .int .i64 (mo + 1)], .slice ra vs.length rcp, .bool true]) (by simp [results, Tryd.results8, go_sem, s0, s1, s2, s3]) rfl ⟨⟨F, L, (wh : Int), mo + 1, _, vs, rc, true, rfl, YO.out, OF⟩, Q.out⟩
end Go.Proofs.YtkagohmgjhiddaaDoor
