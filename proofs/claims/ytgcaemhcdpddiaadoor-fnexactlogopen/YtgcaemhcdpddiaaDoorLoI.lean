/- The program's openLog, LogOpen. -/
import Derived.Test.YtgcaemhcdpddiaaDoorScI
import Derived.Test.YtgcaemhcdpddiaaDoorSetI
import Derived.Test.YtgcaemhcdpddiaaDoorLoS
namespace Go.Proofs.YtgcaemhcdpddiaaDoor
open Go.RowKit

/-- What openLog answers, and where it lies. -/
def LoPostE (base : Nat) (bs : List Int) (qs : List Wr) (F L : Int) (e : Ending) (w' : World) : Prop := ∃ (a b c d : Int) (v : Value) (us : List (Value × Int)) (rs : List (List Int)) (r : Bool), e = .returned (.tuple #[.agg #[.int .i64 a, .int .i64 b, .int .i64 c, .int .i64 d], v, .bool r]) ∧ LoRes bs qs F L a b c d rs r ∧ EsR base w' v us rs ∧ us.length ≤ 400

set_option maxRecDepth 20000 in
set_option maxHeartbeats 2000000 in
theorem implOpenLog {lo0 : Nat} (b0 : Addr) (ad : Addr) (a2 : Option Addr) (c c2 : Nat) (vs0 : List Value) (bs : List Int) (qs : List Wr) (F L : Int) (w : World) (h : DkR lo0 w (.slice (some ad) bs.length c) (.slice a2 qs.length c2) vs0 bs qs) (hv0 : SomeV vs0) (hb0 : bs.length ≤ 2000000) (hs : uptoQ qs qs.length ≤ 2000000) (h8 : Dk8 bs qs) (E : Er b0 w) :
    Calls Tryd.prog 21 #[.agg #[.slice (some ad) bs.length c, .slice a2 qs.length c2], .int .i64 F, .int .i64 L] w fun e w' => LoPostE w.heap.size bs qs F L e w' ∧ Below w.heap.size w w' := by
  have wp := E.pos
  have HD : Hid (DkR lo0 w (.slice (some ad) bs.length c) (.slice a2 qs.length c2) vs0 bs qs) := h
  have HM : Hid (SomeV vs0) := hv0
  have HU : Hid (uptoQ qs qs.length ≤ 2000000) := hs
  have H8 : Hid (Dk8 bs qs) := h8
  have HE : Hid (Er b0 w) := E
  have V := Box2.new w (lo := w.heap.size) (Nat.le_refl _) (.slice (some ad) bs.length c) (.slice a2 qs.length c2) 34
  have b1 := below1 w (.cells #[.slice (some ad) bs.length c, .slice a2 qs.length c2] 34)
  generalize hWa : w.alloc (.cells #[.slice (some ad) bs.length c, .slice a2 qs.length c2] 34) = Wa at *
  have za : Wa.heap.size = w.heap.size + 1 := by rw [← hWa]; simp
  have VR := Box4.new Wa (lo := w.heap.size) b1.size (.int .i64 0) (.int .i64 0) (.int .i64 0) (.int .i64 0) 28
  have b2 := below1 Wa (.cells #[.int .i64 0, .int .i64 0, .int .i64 0, .int .i64 0] 28)
  replace V := V.below b2
  have B := b1.trans (b2.mono b1.size)
  rw [za] at VR
  have NR : Hid (¬OpOk bs qs F L → LoRes bs qs F L 0 0 0 0 [] false) := fun q => .inr ⟨q, rfl, rfl, rfl, rfl, rfl, rfl⟩
  clear h hv0 hs h8 E b1 b2
  go_enter Tryd.func21, Tryd.ntmps21
  go_upto_region 1 with fail
  try rw [za]
  generalize Wa.alloc (.cells #[.int .i64 0, .int .i64 0, .int .i64 0, .int .i64 0] 28) = W0 at *
  clear hWa
  obtain ⟨v0, v1, _, _⟩ := id V
  go_wp2_with fail
  refine (implDiskOk b0 _ _ c c2 vs0 bs qs _ (HD.out.below B) (HE.out.below B wp)).mono ?_
  rintro e w1 ⟨r, rfl, hr, hb⟩
  have HR : Hid (r = true ↔ DkOk bs qs) := hr
  replace V := V.below hb
  replace VR := VR.below hb
  replace B := B.trans (hb.mono B.size)
  clear hb hr v0 v1
  cases r with
  | false =>
    have NO : Hid (LoRes bs qs F L 0 0 0 0 [] false) := NR.out (fun q => by have := HR.out.2 q.1.1; cases this)
    obtain ⟨r0, r1, r2, r3, rf, _⟩ := id VR
    have Q := Box4.chain B VR (.int .i64 0) (.int .i64 0) (.int .i64 0) (.int .i64 0)
    obtain ⟨s0, s1, s2, s3, _, _⟩ := VR.put (.int .i64 0) (.int .i64 0) (.int .i64 0) (.int .i64 0)
    clear NR HR VR V
    go_wp2
    exact bodyPost_ret (v := .tuple #[.agg #[.int .i64 0, .int .i64 0, .int .i64 0, .int .i64 0], .slice none 0 0, .bool false]) (by simp [results, Tryd.results21, go_sem, s0, s1, s2, s3]) rfl ⟨⟨0, 0, 0, 0, _, [], [], _, rfl, NO.out, EsR.nil _ _, by simp⟩, Q⟩
  | true =>
    have DO : Hid (DkOk bs qs) := HR.out.1 rfl
    obtain ⟨kk, hk⟩ : ∃ kk, Hid (bs.length / 64 = kk) := ⟨_, rfl⟩
    have k4 : kk ≤ 400 := by have := DO.out.2.2.1; rw [← hk.out]; omega
    obtain ⟨v0, v1, _, _⟩ := id V
    clear HR
    go_wp2_with fail
    refine (sectors_any _ _ c c2 bs.length qs.length kk _ hk hb0).mono ?_
    rintro e w2 ⟨rfl, hb⟩
    replace V := V.below hb
    replace VR := VR.below hb
    replace B := B.trans (hb.mono B.size)
    clear hb v0 v1
    go_wp2_with fail
    refine (areSectors_any F L (kk : Int) _).mono ?_
    rintro e w3 ⟨r, rfl, hr, rfl⟩
    have HR : Hid (r = true ↔ OpIn bs qs F L) := by
      show _ ↔ _
      rw [hr]
      unfold ArS OpIn
      rw [hk.out]
      exact ⟨fun q => ⟨DO.out, q⟩, fun q => q.2⟩
    clear hr
    cases r with
    | false =>
      have NO : Hid (LoRes bs qs F L 0 0 0 0 [] false) := NR.out (fun q => by have := HR.out.2 q.1; cases this)
      obtain ⟨r0, r1, r2, r3, rf, _⟩ := id VR
      have Q := Box4.chain B VR (.int .i64 0) (.int .i64 0) (.int .i64 0) (.int .i64 0)
      obtain ⟨s0, s1, s2, s3, _, _⟩ := VR.put (.int .i64 0) (.int .i64 0) (.int .i64 0) (.int .i64 0)
      clear NR HR VR V
      go_wp2
      exact bodyPost_ret (v := .tuple #[.agg #[.int .i64 0, .int .i64 0, .int .i64 0, .int .i64 0], .slice none 0 0, .bool false]) (by simp [results, Tryd.results21, go_sem, s0, s1, s2, s3]) rfl ⟨⟨0, 0, 0, 0, _, [], [], _, rfl, NO.out, EsR.nil _ _, by simp⟩, Q⟩
    | true =>
      have OI : Hid (OpIn bs qs F L) := HR.out.1 rfl
      have oi := OI.out
      unfold OpIn at oi
      rw [hk.out] at oi
      obtain ⟨_, f0, f1, f2⟩ := oi
      obtain ⟨v0, v1, _, _⟩ := id V
      clear HR
      go_wp2_with fail
      refine (implSync b0 ad a2 c c2 vs0 bs qs _ (HD.out.below B) HM.out hb0 HU.out (HE.out.below B wp)).mono ?_
      rintro e w4 ⟨ad4, c4, b4, d4, vs4, bs4, qs4, rfl, SR, DK, _, hb⟩
      have e4 : bs4 = syN bs qs qs.length := by
        rcases SR with ⟨_, q, _⟩ | ⟨q, _⟩
        · exact q
        · exact absurd DO.out q
      have l4 : bs4.length = bs.length := by rw [e4]; exact syN_len DO.out _ (Nat.le_refl _)
      have SB4 : SeesB w4 (some ad4) c4 bs4 := by have := DK.row; rw [← l4] at this; exact this.seesB
      have B84 : Hid (∀ x ∈ bs4, 0 ≤ x ∧ x < 256) := by show ∀ _, _; rw [e4]; exact syN_u8 H8.out _
      have HO : Hid (lgOf bs qs F L = lgFold (fun t => secN bs4 t) F.toNat (L - F + 1).toNat) := by show _ = _; unfold lgOf; rw [e4]
      replace VR := VR.below hb
      replace B := B.trans (hb.mono B.size)
      have hlt4 : w.heap.size + 1 < w4.heap.size := VR.lt
      clear hb v0 v1 DK SR V e4
      have L4 : Hid (bs4.length = bs.length) := l4
      rw [← l4]
      have hb4 : bs4.length ≤ 2000000 := by omega
      have hk4 : Hid (bs4.length / 64 = kk) := by show _ = _; rw [l4]; exact hk.out
      clear l4
      go_wp2_with fail
      refine (scanned_any b0 (some ad4) b4 c4 d4 qs4.length kk bs4 F L _ SB4 (HE.out.below B wp) hk4.out hb4 B84.out f0 f1 f2 k4).mono ?_
      rintro e w5 ⟨rv, _, vs, s, hsf, rfl, ⟨ba, bn0, bc, rfl⟩, OU, hb⟩
      have HS : Hid (lgOf bs qs F L = s) := by show _ = _; rw [HO.out, hsf]
      have IV : LgInv (L - F + 1).toNat s := by rw [hsf]; exact lgFold_inv _ _ _
      obtain ⟨mo0, mo1⟩ := IV.mo
      have IW := IV.wh
      have HN : Hid (vs.length ≤ 400) := by show _ ≤ _; have := OU.len.out; have := IV.rl; omega
      replace VR := VR.below hb
      replace B := B.trans (hb.mono B.size)
      clear hb SB4 hsf IV HO
      obtain ⟨ra, rcp, rfl, _, _⟩ := OU.shape
      obtain ⟨st, nx, le, mo, wh, rc, bg⟩ := s
      dsimp only at mo0 mo1 IW OU HS ⊢
      have S7 : BoxL w.heap.size (w5.alloc (.cells #[.int .i64 (st : Int), .int .i64 (nx : Int), .int .i64 le, .int .i64 mo, .int .i64 (wh : Int), .slice ra vs.length rcp, .slice ba bn0 bc] 72)) w5.heap.size [.int .i64 (st : Int), .int .i64 (nx : Int), .int .i64 le, .int .i64 mo, .int .i64 (wh : Int), .slice ra vs.length rcp, .slice ba bn0 bc] := BoxL.new w5 B.size _ _
      have bn := below1 w5 (.cells #[.int .i64 (st : Int), .int .i64 (nx : Int), .int .i64 le, .int .i64 mo, .int .i64 (wh : Int), .slice ra vs.length rcp, .slice ba bn0 bc] 72)
      have hlt5 : w.heap.size + 1 < w5.heap.size := VR.lt
      replace VR := VR.below bn
      replace OU := OU.below bn
      replace B := B.trans (bn.mono B.size)
      clear bn
      go_upto_region 4 with fail
      generalize w5.alloc (.cells #[.int .i64 (st : Int), .int .i64 (nx : Int), .int .i64 le, .int .i64 mo, .int .i64 (wh : Int), .slice ra vs.length rcp, .slice ba bn0 bc] 72) = W6 at *
      generalize hp5 : w5.heap.size = p5 at *
      have q3 := S7.c 3 _ rfl
      by_cases hm : mo = 1000000
      · have NO : Hid (LoRes bs qs F L 0 0 0 0 [] false) := NR.out (fun q => q.2 (by rw [HS.out]; exact hm))
        obtain ⟨r0, r1, r2, r3, rf, _⟩ := id VR
        have Q := Box4.chain B VR (.int .i64 0) (.int .i64 0) (.int .i64 0) (.int .i64 0)
        obtain ⟨s0, s1, s2, s3, _, _⟩ := VR.put (.int .i64 0) (.int .i64 0) (.int .i64 0) (.int .i64 0)
        have hm1 : (mo == 1000000) = true := by simpa using hm
        clear NR VR S7 OU hm HS
        go_wp2
        exact bodyPost_ret (v := .tuple #[.agg #[.int .i64 0, .int .i64 0, .int .i64 0, .int .i64 0], .slice none 0 0, .bool false]) (by simp [results, Tryd.results21, go_sem, s0, s1, s2, s3]) rfl ⟨⟨0, 0, 0, 0, _, [], [], _, rfl, NO.out, EsR.nil _ _, by simp⟩, Q⟩
      · have YO : Hid (LoRes bs qs F L F L (wh : Int) (mo + 1) rc true) := .inl ⟨⟨OI.out, by rw [HS.out]; exact hm⟩, rfl, rfl, rfl, by rw [HS.out], by rw [HS.out], by rw [HS.out]⟩
        have hm1 : (mo == 1000000) = false := by simpa using hm
        have q4 := S7.c 4 _ rfl
        have q5 := S7.c 5 _ rfl
        obtain ⟨r0, r1, r2, r3, rf, _⟩ := id VR
        have Q : Hid (Below w.heap.size w _) := (Box4.chain B VR (.int .i64 F) (.int .i64 L) (.int .i64 (wh : Int)) (.int .i64 (mo + 1))).drew
        have VX : Hid (Box4 _ _ _ _ _ _ _) := VR.put (.int .i64 F) (.int .i64 L) (.int .i64 (wh : Int)) (.int .i64 (mo + 1))
        have gp := grownBy_setCell (grownBy_setCell (grownBy_setCell (grownBy_setCell (grownBy_refl W6 (some (w.heap.size + 1))) (p := ⟨w.heap.size + 1, 0, none⟩) rfl (.int .i64 F)) (p := ⟨w.heap.size + 1, 1, none⟩) rfl (.int .i64 L)) (p := ⟨w.heap.size + 1, 2, none⟩) rfl (.int .i64 (wh : Int))) (p := ⟨w.heap.size + 1, 3, none⟩) rfl (.int .i64 (mo + 1))
        clear NR S7 hm HS
        go_wp2_with fail
        go_region
        have OF := ((OU.kept gp (fun k hk e => by have := (OU.lts.1 k hk).1; injection e with e; omega) (fun u hu k hk e => by have := (OU.lts.2 u hu k hk).1; injection e with e; omega)).base (lo' := w.heap.size) (by omega)).below ((Below.refl _ _).drew)
        obtain ⟨s0, s1, s2, s3, _, _⟩ := VX.out
        clear gp OU VR
        go_wp2
        exact bodyPost_ret (v := .tuple #[.agg #[.int .i64 F, .int .i64 L, .int .i64 (wh : Int), .int .i64 (mo + 1)], .slice ra vs.length rcp, .bool true]) (by simp [results, Tryd.results21, go_sem, s0, s1, s2, s3]) rfl ⟨⟨F, L, (wh : Int), mo + 1, _, vs, rc, true, rfl, YO.out, OF, HN.out⟩, Q.out⟩

theorem take_fst {us : List (Value × Int)} {j : Nat} {u : Value} {n : Int} (h : us[j]? = some (u, n)) : (us.take (j + 1)).map Prod.fst = (us.take j).map Prod.fst ++ [u] := by
  rw [List.take_add_one, h]
  simp

set_option maxRecDepth 20000 in
set_option maxHeartbeats 2000000 in
theorem implLogOpen {lo0 : Nat} (b0 : Addr) (ad : Addr) (a2 : Option Addr) (c c2 : Nat) (vs0 : List Value) (bs : List Int) (qs : List Wr) (F L : Int) (w : World) (h : DkR lo0 w (.slice (some ad) bs.length c) (.slice a2 qs.length c2) vs0 bs qs) (hv0 : SomeV vs0) (hb0 : bs.length ≤ 2000000) (hs : uptoQ qs qs.length ≤ 2000000) (h8 : Dk8 bs qs) (E : Er b0 w) :
    Calls Tryd.prog 7 #[.agg #[.slice (some ad) bs.length c, .slice a2 qs.length c2], .int .i64 F, .int .i64 L] w fun e w' => LoPost w.heap.size bs qs F L e w' ∧ Below w.heap.size w w' := by
  have wp := E.pos
  have V := Box2.new w (lo := w.heap.size) (Nat.le_refl _) (.slice (some ad) bs.length c) (.slice a2 qs.length c2) 34
  have b1 := below1 w (.cells #[.slice (some ad) bs.length c, .slice a2 qs.length c2] 34)
  generalize hWa : w.alloc (.cells #[.slice (some ad) bs.length c, .slice a2 qs.length c2] 34) = Wa at *
  have za : Wa.heap.size = w.heap.size + 1 := by rw [← hWa]; simp
  have VR := Box4.new Wa (lo := w.heap.size) b1.size (.int .i64 0) (.int .i64 0) (.int .i64 0) (.int .i64 0) 28
  have b2 := below1 Wa (.cells #[.int .i64 0, .int .i64 0, .int .i64 0, .int .i64 0] 28)
  replace V := V.below b2
  have B := b1.trans (b2.mono b1.size)
  rw [za] at VR
  clear b1 b2
  obtain ⟨iR, hiR, hR0, hR1, hR2⟩ := info_parts infoRY
  have CO := fun W hb => implOpenLog b0 ad a2 c c2 vs0 bs qs F L W (h.below (w' := W) hb) hv0 hb0 hs h8 (E.below hb wp)
  replace CO : Hid _ := CO
  clear h hv0 hs h8 E
  go_enter Tryd.func7, Tryd.ntmps7
  go_upto_region 1 with fail
  try rw [za]
  have zb : (Wa.alloc (.cells #[.int .i64 0, .int .i64 0, .int .i64 0, .int .i64 0] 28)).heap.size = w.heap.size + 2 := by simp [za]
  generalize Wa.alloc (.cells #[.int .i64 0, .int .i64 0, .int .i64 0, .int .i64 0] 28) = W0 at *
  clear hWa
  obtain ⟨v0, v1, _, _⟩ := id V
  go_wp2_with fail
  refine Calls.mono (CO.out _ B) ?_
  rintro e w1 ⟨⟨a, b, cc, dd, v, us, rs, r, rfl, LR, ER, hl⟩, hb⟩
  clear v0 v1 V CO
  replace VR := VR.below hb
  replace B := B.trans (hb.mono B.size)
  clear hb
  obtain ⟨va, vc, rfl, _, _⟩ := ER.shape
  have hb := below1 w1 (.cells #[.int .i64 a, .int .i64 b, .int .i64 cc, .int .i64 dd] 28)
  have V9 := Box4.new w1 (lo := w.heap.size) B.size (.int .i64 a) (.int .i64 b) (.int .i64 cc) (.int .i64 dd) 28
  replace VR := VR.below hb
  replace ER := ER.below hb
  replace B := B.trans (hb.mono B.size)
  clear hb
  go_upto_region 2 with fail
  generalize w1.alloc (.cells #[.int .i64 a, .int .i64 b, .int .i64 cc, .int .i64 dd] 28) = w2 at *
  generalize w1.heap.size = p9 at *
  have LR' : Hid (LoRes bs qs F L a b cc dd rs r) := LR
  have HE : Hid (EsR W0.heap.size w2 (.slice va us.length vc) us rs) := ER
  have lt2 : w.heap.size + 1 < w2.heap.size := VR.lt
  have HVR : Hid (Box4 w.heap.size w2 (w.heap.size + 1) (.int .i64 0) (.int .i64 0) (.int .i64 0) (.int .i64 0)) := VR
  have HV9 : Hid (Box4 w.heap.size w2 p9 (.int .i64 a) (.int .i64 b) (.int .i64 cc) (.int .i64 dd)) := V9
  have HB : Hid (Below w.heap.size w w2) := B
  clear LR ER VR V9 B
  go_wp2_with fail
  go_loopw [12, 25] (fun s12 s25 wr => ∃ (j : Nat), j ≤ us.length ∧ s25 = .int .i64 j ∧ Hid (wr.ownsRow w2.heap.size 22 1 s12 j ((us.take j).map Prod.fst)) ∧ Hid (Below w2.heap.size w2 wr)) (fun _ s25 _ => us.length - (intOf s25).toNat)
  case atStart => exact ⟨0, Nat.zero_le _, rfl, ⟨rfl, .inl ⟨rfl, rfl⟩⟩, Below.refl _ _⟩
  case round =>
    obtain ⟨j, hj, rfl, RW, BB⟩ := hrel
    rename World => wr
    by_cases hlt : j < us.length
    · obtain ⟨g, vc', a', c', n, e, hv, g0, g1, R⟩ := (HE.out.below BB.out).at' hlt
      injection e with e1 e2 e3
      subst e1 e3
      have HT : Hid ((us.take (j + 1)).map Prod.fst = (us.take j).map Prod.fst ++ [.slice a' (rowY rs j).length c']) := take_fst hv
      generalize (rowY rs j).length = rn at *
      have hlt' : (j : Int) < (us.length : Int) := by omega
      have b2 := below2 wr (.cells #[.slice a' rn c', .int .i64 n] 57) (.cells #[.slice a' rn c'] 22)
      have R3 := owns_below RW.out b2
      have B3 : Hid _ := BB.out.trans (b2.mono BB.out.size)
      have NW := slice_newY (wr.alloc (.cells #[.slice a' rn c', .int .i64 n] 57)) 22 (.slice a' rn c')
      have nz : w2.heap.size ≤ ((wr.alloc (.cells #[.slice a' rn c', .int .i64 n] 57)).alloc (.cells #[.slice a' rn c'] 22)).heap.size := Nat.le_trans BB.out.size b2.size
      clear RW BB b2 hv R
      rw [World.size_alloc] at NW
      go_wp2_with (at_builtin; refine wpList_append_own _ rfl (.tmp 29) (.tmp 32) 29 rfl w2.heap.size 22 iR (.slice none 0 0) 1 24 Tryd.underlying29 hiR hR0 hR1 hR2 rfl (by decide) u12 j ((us.take j).map Prod.fst) rfl R3 ⟨wr.heap.size + 1, 0, none⟩ 1 1 [.slice a' rn c'] rfl rfl NW (by intro x hx; simp at hx; subst hx; rfl) (by unfold maxLen; omega) (by omega) nz ?_; intro v7 w7 R8 G7 nil7; clear nil7)
      have R9 : Hid (w7.ownsRow w2.heap.size 22 1 v7 (j + 1) ((us.take (j + 1)).map Prod.fst)) := by show World.ownsRow _ _ _ _ _ _ _; rw [HT.out]; exact R8
      have B7 : Hid (Below w2.heap.size w2 w7) := B3.out.grown G7 nz (fun q hq => (World.ownsRow.lt R3 q hq).1)
      clear R8 G7 R3 B3 HT NW nz g0 g1
      go_roundw
      case rel => exact ⟨j + 1, by omega, by go_num, R9, B7⟩
      case measure => simp [intOf]; omega
    · obtain rfl : j = us.length := by omega
      have hlt' : ¬ (us.length : Int) < (us.length : Int) := by omega
      have BB' := BB.out
      have E2 := HE.out
      have E3 := HE.out.below BB'
      have RWO := RW.out
      rw [List.take_length] at RWO
      have lt := World.ownsRow.lt RWO
      have OB : BsR w.heap.size wr u12 (us.map Prod.fst) rs := ⟨by rw [List.length_map]; exact row_base RWO (by omega), (by show _ = _; rw [List.length_map]; exact E2.len.out), fun i u hu => (by
          rw [List.getElem?_map] at hu
          cases hi : us[i]? with
          | none => rw [hi] at hu; cases hu
          | some q => rw [hi] at hu; injection hu with hu; subst hu; exact row_base (E3.rows i q hi) (by omega)), fun u hu k hk q => (by
          obtain ⟨x, hx, rfl⟩ := List.mem_map.1 hu
          have h1 := (E2.lts.2 x hx k hk).2
          have h2 := (lt k q).1
          omega), fun i j' u u' hij hi hj' k hk => (by
          rw [List.getElem?_map] at hi hj'
          cases e1 : us[i]? with
          | none => rw [e1] at hi; cases hi
          | some q =>
            cases e2 : us[j']? with
            | none => rw [e2] at hj'; cases hj'
            | some q' =>
              rw [e1] at hi; rw [e2] at hj'
              injection hi with hi; injection hj' with hj'
              subst hi hj'
              exact E2.apart i j' q q' hij e1 e2 k hk)⟩
      have VR := HVR.out.below BB'
      obtain ⟨t0, t1, t2, t3, _, _⟩ := HV9.out.below BB'
      have B5 := HB.out.trans (BB'.mono HB.out.size)
      obtain ⟨r0, r1, r2, r3, rf, _⟩ := id VR
      have Q : Hid (Below w.heap.size w _) := Box4.chain B5 VR (.int .i64 a) (.int .i64 b) (.int .i64 cc) (.int .i64 dd)
      obtain ⟨s0, s1, s2, s3, _, _⟩ := VR.put (.int .i64 a) (.int .i64 b) (.int .i64 cc) (.int .i64 dd)
      have gp := grownBy_setCell (grownBy_setCell (grownBy_setCell (grownBy_setCell (grownBy_refl wr (some (w.heap.size + 1))) (p := ⟨w.heap.size + 1, 0, none⟩) rfl (.int .i64 a)) (p := ⟨w.heap.size + 1, 1, none⟩) rfl (.int .i64 b)) (p := ⟨w.heap.size + 1, 2, none⟩) rfl (.int .i64 cc)) (p := ⟨w.heap.size + 1, 3, none⟩) rfl (.int .i64 dd)
      have OF : Hid (BsR w.heap.size _ u12 (us.map Prod.fst) rs) := OB.kept gp (fun k hk e => by have := (lt k hk).1; injection e with e; omega) (fun u hu k hk e => by
        obtain ⟨x, hx, rfl⟩ := List.mem_map.1 hu
        have h1 := (E2.lts.2 x hx k hk).1
        injection e with e
        omega)
      clear gp OB VR B5 RW RWO BB BB' E2 E3 lt HE HVR HV9 HB
      go_wp2
      exact bodyPost_ret (v := .tuple #[.agg #[.int .i64 a, .int .i64 b, .int .i64 cc, .int .i64 dd], u12, .bool r]) (by simp [results, Tryd.results7, go_sem, s0, s1, s2, s3]) rfl ⟨⟨a, b, cc, dd, _, _, rs, r, rfl, LR'.out, OF.out⟩, Q.out⟩
end Go.Proofs.YtgcaemhcdpddiaaDoor
