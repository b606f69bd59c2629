/- The specification's LogOpen: its scan. -/
import Derived.Test.YtgcaemhcdpddiaaDoorLgO
import Derived.Test.YtgcaemhcdpddiaaDoorDkRd
namespace Go.Proofs.YtgcaemhcdpddiaaDoor
open Go.RowKit

/-- What LogOpen answers, and where it lies. -/
def LoPost (base : Nat) (bs : List Int) (qs : List Wr) (F L : Int) (e : Ending) (w' : World) : Prop := ∃ (a b c d : Int) (v : Value) (vs : List Value) (rs : List (List Int)) (r : Bool), e = .returned (.tuple #[.agg #[.int .i64 a, .int .i64 b, .int .i64 c, .int .i64 d], v, .bool r]) ∧ LoRes bs qs F L a b c d rs r ∧ BsR base w' v vs rs
/-- What the scan has in memory. -/
structure LoM (b0 lo p : Nat) (wr : World) (v9 v15 : Value) (vs : List Value) (s : LgSt) (F L : Int) : Prop where
  out : BsR lo wr v9 vs s.rc
  row : RowB lo wr v15 s.bg
  own : ∃ k, v15.ownBlock = some k
  ap : ∀ k, v15.ownBlock = some k → v9.ownBlock ≠ some k ∧ ∀ u ∈ vs, u.ownBlock ≠ some k
  n10 : ∀ u ∈ v9 :: v15 :: vs, u.ownBlock ≠ some p
  box : Box4 b0 wr p (.int .i64 F) (.int .i64 L) (.int .i64 (s.wh : Int)) (.int .i64 0)
theorem LoM.below {b0 lo p : Nat} {w w' : World} {v9 v15 : Value} {vs : List Value} {s : LgSt} {F L : Int} (h : LoM b0 lo p w v9 v15 vs s F L) (hb : Below w.heap.size w w') : LoM b0 lo p w' v9 v15 vs s F L :=
  ⟨h.out.below hb, h.row.below hb, h.own, h.ap, h.n10, h.box.below hb⟩
theorem Box4.put2W {lo p : Nat} {w : World} {x0 x1 x2 x3 : Value} (h : Box4 lo w p x0 x1 x2 x3) (u : Value) : Box4 lo (w.setCell ⟨p, 2, none⟩ u) p x0 x1 u x3 :=
  ⟨(cell_other (.inr (by decide)) u).trans h.c0, (cell_other (.inr (by decide)) u).trans h.c1, cell_same h.c2 u, (cell_other (.inr (by decide)) u).trans h.c3, fun o => (World.frozen?_setCell ..).trans (h.fr o), h.lo⟩
theorem Box2.grownO {lo q : Nat} {w w' : World} {x0 x1 : Value} {row : Option Nat} (h : Box2 lo w q x0 x1) (g : w.grownBy w' row) (ne : row ≠ some q) : Box2 lo w' q x0 x1 := by
  obtain ⟨hc, hf⟩ := grown_at g h.lt (fun e => ne e.symm)
  exact ⟨(hc 0).trans h.c0, (hc 1).trans h.c1, fun o => (hf o).trans (h.fr o), h.lo⟩
/-- What is within a record. -/
def WiOk (s : LgSt) (wi : Int) : Prop := (s.st = 1 → wi = s.le) ∧ (s.st = 0 → wi = 0)
theorem RowB.someA {base n c : Nat} {w : World} {a : Option Addr} {ds : List Int} (_ : RowB base w (.slice a n c) ds) (k : ∃ k, (Value.slice a n c).ownBlock = some k) : ∃ d, a = some d := by
  cases a with
  | some d => exact ⟨d, rfl⟩
  | none => obtain ⟨k, q⟩ := k; cases q

set_option maxRecDepth 20000 in
set_option maxHeartbeats 8000000 in
theorem specLogOpen {lo0 : Nat} (ad : Addr) (a2 : Option Addr) (c c2 : Nat) (vs0 : List Value) (bs : List Int) (qs : List Wr) (F L : Int) (w : World) (h : DkR lo0 w (.slice (some ad) bs.length c) (.slice a2 qs.length c2) vs0 bs qs) (hv0 : SomeV vs0) (hb0 : bs.length ≤ 2000000) (hs : uptoQ qs qs.length ≤ 2000000) (h8 : Dk8 bs qs) :
    Calls Tryd.prog 5 #[.agg #[.slice (some ad) bs.length c, .slice a2 qs.length c2], .int .i64 F, .int .i64 L] w fun e w' => LoPost w.heap.size bs qs F L e w' ∧ Below w.heap.size w w' := by
  obtain ⟨iR, hiR, hR0, hR1, hR2⟩ := info_parts infoRY
  have HD : Hid (DkR lo0 w (.slice (some ad) bs.length c) (.slice a2 qs.length c2) vs0 bs qs) := h
  have HM : Hid (SomeV vs0) := hv0
  have HU : Hid (uptoQ qs qs.length ≤ 2000000) := hs
  have H8 : Hid (Dk8 bs qs) := h8
  have V := Box2.new w (lo := w.heap.size) (Nat.le_refl _) (.slice (some ad) bs.length c) (.slice a2 qs.length c2) 34
  have b1 := below1 w (.cells #[.slice (some ad) bs.length c, .slice a2 qs.length c2] 34)
  generalize hWa : w.alloc (.cells #[.slice (some ad) bs.length c, .slice a2 qs.length c2] 34) = Wa at *
  have za : Wa.heap.size = w.heap.size + 1 := by rw [← hWa]; simp
  have VR := Box4.new Wa (lo := w.heap.size) b1.size (.int .i64 0) (.int .i64 0) (.int .i64 0) (.int .i64 0) 28
  have b2 := below1 Wa (.cells #[.int .i64 0, .int .i64 0, .int .i64 0, .int .i64 0] 28)
  replace V := V.below b2
  have B := b1.trans (b2.mono b1.size)
  rw [za] at VR
  generalize hWb : Wa.alloc (.cells #[.int .i64 0, .int .i64 0, .int .i64 0, .int .i64 0] 28) = Wb at *
  have zb : Wb.heap.size = w.heap.size + 2 := by rw [← hWb]; simp [za]
  have OU := BsR.empty Wb (lo := w.heap.size + 2) (by omega)
  have b3 := below1 Wb (.cells #[] 22)
  replace V := V.below b3
  replace VR := VR.below b3
  replace B := B.trans (b3.mono B.size)
  have zc : (Wb.alloc (.cells #[] 22)).heap.size = w.heap.size + 3 := by simp [zb]
  have NR : Hid (¬OpOk bs qs F L → LoRes bs qs F L 0 0 0 0 [] false) := fun q => .inr ⟨q, rfl, rfl, rfl, rfl, rfl, rfl⟩
  rw [zb] at OU
  clear h hv0 hs h8 b1 b2 b3
  go_enter Tryd.func5, Tryd.ntmps5
  go_upto_region 2 with fail
  try rw [za]
  try rw [zb]
  generalize Wb.alloc (.cells #[] 22) = W0 at *
  clear hWa hWb
  obtain ⟨v0, v1, vf, _⟩ := id V
  go_wp2_with fail
  refine (l12Region_any ad a2 c c2 vs0 bs qs F L _ (HD.out.below B) hb0).mono ?_
  rintro e w1 ⟨r, rfl, hr, hb⟩
  have HR : Hid (r = true ↔ OpIn bs qs F L) := hr
  have z1 : w.heap.size + 3 ≤ w1.heap.size := by rw [← zc]; exact hb.size
  replace V := V.below hb
  replace VR := VR.below hb
  replace OU := OU.below hb
  replace B := B.trans (hb.mono B.size)
  clear hb hr v0 v1 vf zc
  cases r with
  | false =>
    have NO : Hid (LoRes bs qs F L 0 0 0 0 [] false) := NR.out (fun q => by have := HR.out.2 q.1; cases this)
    obtain ⟨r0, r1, r2, r3, rf, _⟩ := id VR
    have Q := Box4.chain B VR (.int .i64 0) (.int .i64 0) (.int .i64 0) (.int .i64 0)
    obtain ⟨s0, s1, s2, s3, _, _⟩ := VR.put (.int .i64 0) (.int .i64 0) (.int .i64 0) (.int .i64 0)
    have gp := grownBy_setCell (grownBy_setCell (grownBy_setCell (grownBy_setCell (grownBy_refl w1 (some (w.heap.size + 1))) (p := ⟨w.heap.size + 1, 0, none⟩) rfl (.int .i64 0)) (p := ⟨w.heap.size + 1, 1, none⟩) rfl (.int .i64 0)) (p := ⟨w.heap.size + 1, 2, none⟩) rfl (.int .i64 0)) (p := ⟨w.heap.size + 1, 3, none⟩) rfl (.int .i64 0)
    have OF := (OU.kept gp (fun k hk e => by have := (OU.lts.1 k hk).1; injection e with e; omega) (fun u hu => by cases hu)).base (lo' := w.heap.size) (by omega)
    clear NR HR gp VR V
    go_wp2
    exact bodyPost_ret (v := .tuple #[.agg #[.int .i64 0, .int .i64 0, .int .i64 0, .int .i64 0], .slice (some ⟨w.heap.size + 2, 0, none⟩) 0 0, .bool false]) (by simp [results, Tryd.results5, go_sem, s0, s1, s2, s3]) rfl ⟨⟨0, 0, 0, 0, _, _, _, _, rfl, NO.out, OF⟩, Q⟩
  | true =>
    have OI : Hid (OpIn bs qs F L) := HR.out.1 rfl
    obtain ⟨od, f0, f1, f2⟩ := OI.out
    have od4 := od.2.2.1
    obtain ⟨K, hK⟩ : ∃ K : Nat, Hid ((L - F + 1).toNat = K) := ⟨_, rfl⟩
    have hKL : (K : Int) = L - F + 1 := by rw [← hK.out]; omega
    have HO : Hid (lgOf bs qs F L = lgFold (fun t => secN (syN bs qs qs.length) t) F.toNat K) := by show _ = _; unfold lgOf; rw [hK.out]
    have KB : K ≤ 400 := by omega
    have LB : L < 400 := by omega
    have b4 := below1 w1 (.cells #[.int .i64 F, .int .i64 L, .int .i64 0, .int .i64 0] 28)
    have VL := Box4.new w1 (lo := w.heap.size) B.size (.int .i64 F) (.int .i64 L) (.int .i64 0) (.int .i64 0) 28
    replace V := V.below b4
    replace VR := VR.below b4
    have OL := OU.lts
    replace OU := OU.below b4
    replace B := B.trans (b4.mono B.size)
    have zp : w1.heap.size < (w1.alloc (.cells #[.int .i64 F, .int .i64 L, .int .i64 0, .int .i64 0] 28)).heap.size := VL.lt
    clear b4 HR od
    go_upto_region 5 with fail
    generalize hp : w1.heap.size = p at *
    generalize w1.alloc (.cells #[.int .i64 F, .int .i64 L, .int .i64 0, .int .i64 0] 28) = W2 at *
    have RE := RowB.empty W2 (base := w.heap.size + 2) (by omega)
    have b5 := below1 W2 (.cells #[] 5)
    have MM : LoM w.heap.size (w.heap.size + 2) p (W2.alloc (.cells #[] 5)) (.slice (some ⟨w.heap.size + 2, 0, none⟩) 0 0) (.slice (some ⟨W2.heap.size, 0, none⟩) 0 0) [] (lgFold (fun t => secN (syN bs qs qs.length) t) F.toNat 0) F L := by
      refine ⟨OU.below b5, RE, ⟨_, rfl⟩, fun k hk => ⟨fun e => ?_, fun u hu => by cases hu⟩, fun u hu e => ?_, VL.below b5⟩
      · have := (OL.1 k e).2; injection hk with hk; subst hk; have : (W2.heap.size : Nat) < p := this; omega
      · rcases List.mem_cons.1 hu with rfl | hu
        · have := (OL.1 p e).2; omega
        · rcases List.mem_cons.1 hu with rfl | hu
          · injection e with e; have : W2.heap.size = p := e; omega
          · cases hu
    replace V := V.below b5
    replace VR := VR.below b5
    replace B := B.trans (b5.mono B.size)
    clear OU OL RE VL b5
    go_wp2
    generalize W2.alloc (.cells #[] 5) = W3 at *
    go_loopw [9, 11, 12, 13, 14, 15, 16, 17] (fun s9 s11 s12 s13 s14 s15 s16 s17 wr => ∃ (k : Nat) (vs : List Value) (wi : Int) (s : LgSt) (go : Bool), k ≤ K ∧ s17 = .int .i64 (F + (k : Int)) ∧ Hid (s = lgFold (fun t => secN (syN bs qs qs.length) t) F.toNat k) ∧ s11 = .int .i64 s.mo ∧ s12 = .bool go ∧ Hid (go = true ↔ s.st ≠ 2) ∧ s13 = .int .i64 s.le ∧ s14 = .int .i64 wi ∧ Hid (WiOk s wi) ∧ s16 = .int .i64 (s.nx : Int) ∧ LoM w.heap.size (w.heap.size + 2) p wr s9 s15 vs s F L ∧ Box2 w.heap.size wr w.heap.size (.slice (some ad) bs.length c) (.slice a2 qs.length c2) ∧ Box4 w.heap.size wr (w.heap.size + 1) (.int .i64 0) (.int .i64 0) (.int .i64 0) (.int .i64 0) ∧ Below w.heap.size w wr) (fun _ _ _ _ _ _ _ s17 _ => K - (intOf s17 - F).toNat)
    case atStart => exact ⟨0, [], 0, _, true, Nat.zero_le _, by simp, rfl, rfl, rfl, (by show _ ↔ _; simp [lgFold]), rfl, rfl, ⟨fun q => by simp [lgFold] at q, fun _ => rfl⟩, rfl, MM, V, VR, B⟩
    case round =>
      clear MM V VR B
      obtain ⟨k, vs, wi, s, go, hk, rfl, hs, rfl, rfl, hgo, rfl, rfl, hwi, rfl, MM, V, VR, B⟩ := hrel
      rename World => wr
      have IV : Hid (LgInv k s) := by show LgInv k s; rw [hs.out]; exact lgFold_inv _ _ k
      have iv := IV.out
      obtain ⟨i1, i2, i3, i4, i5, i6, i7⟩ := iv
      obtain ⟨le0, le1⟩ := i3
      obtain ⟨mo0, mo1⟩ := i4
      by_cases hlt : k < K
      · have hkL : F + (k : Int) ≤ L := by omega
        obtain ⟨v0, v1, vf, _⟩ := id V
        go_wp2_with fail
        refine (specReadSector ad a2 c c2 vs0 bs qs (F + (k : Int)) _ (HD.out.below B) HM.out hb0 HU.out).mono ?_
        rintro e w4 ⟨ad4, c4, res, r4, rfl, RS, RR, hb⟩
        obtain ⟨e5, e6⟩ := RS.in OI.out (by omega)
        have l64 : Hid (res.length = 64) := by
          show _ = _
          rw [e5]
          exact secN_l64 (by rw [syN_len OI.out.1 _ (Nat.le_refl _)]; have := OI.out; unfold OpIn at this; omega)
        have r8 : Hid (∀ x ∈ res, 0 ≤ x ∧ x < 256) := by show ∀ _, _; rw [e5]; exact secN_u8 (syN_u8 H8.out _) _
        have HF : Hid (lgFold (fun t => secN (syN bs qs qs.length) t) F.toNat (k + 1) = lgStep s res) := by show _ = _; rw [hs.out, e5]; rfl
        subst e6
        replace V := V.below hb
        replace VR := VR.below hb
        replace MM := MM.below hb
        replace B := B.trans (hb.mono B.size)
        clear hb v0 v1 vf e5 RS
        go_wp2_with fail
        refine (l12Read_any (some ad4) c4 res _ RR.seesB l64.out r8.out).mono ?_
        rintro e w5 ⟨ep, nu, m, v5, ok, rfl, RD, hb⟩
        replace V := V.below hb
        replace VR := VR.below hb
        replace MM := MM.below hb
        replace B := B.trans (hb.mono B.size)
        clear hb RR
        rcases RD with ⟨rfl, hI, e1, e2, e3, R5, d5, c5, rfl⟩ | ⟨rfl, hI, rfl, rfl, rfl, rfl⟩
        · have HI : Hid (LgIs res) := hI
          have ep0 := hI.1
          rw [← e1] at ep0
          obtain ⟨ep1, ep2⟩ := ep0
          have HE : Hid (lgGet res 0 = ep ∧ lgGet res 4 = nu ∧ (u8N res 8 == 1) = m) := ⟨e1.symm, e2.symm, e3.symm⟩
          have PL : Hid ((lgPc res).length ≤ 44) := lgPc_len hI
          have PZ := (World.ownsRow.lt R5)
          clear hI e1 e2 e3
          have MZ := fun k hk => (World.ownsRow.lt MM.row k hk).2
          have MY := MM.out.lts
          have pw5 : p < w5.heap.size := MM.box.lt
          have b6 := below1 w5 (.cells #[.int .i64 ep, .int .i64 nu, .bool m, .slice (some d5) (lgPc res).length c5] 48)
          have VP := Box4.new w5 (lo := w.heap.size) B.size (.int .i64 ep) (.int .i64 nu) (.bool m) (.slice (some d5) (lgPc res).length c5) 48
          replace V := V.below b6
          replace VR := VR.below b6
          replace MM := MM.below b6
          replace B := B.trans (b6.mono B.size)
          replace R5 := R5.below b6
          clear b6
          go_upto_region 16 with fail
          generalize hp20 : w5.heap.size = p20 at *
          generalize w5.alloc (.cells #[.int .i64 ep, .int .i64 nu, .bool m, .slice (some d5) (lgPc res).length c5] 48) = w6 at *
          obtain ⟨t0, t1, t2, t3, tf, _⟩ := id VP
          have HMO : Hid (lgMo s res = max s.mo ep) := by show _ = _; rw [lgMo_yes HI.out, HE.out.1]
          obtain ⟨mo2, hmo2⟩ : ∃ x, Hid (lgMo s res = x) := ⟨_, rfl⟩
          go_upto_if 57 with fail
          go_cut [11] (fun s11 W => s11 = .int .i64 mo2 ∧ W = w6)
          case first =>
            by_cases hgt : s.mo < ep
            · go_wp2
              go_meet
              case rel => exact ⟨by rw [← hmo2.out, HMO.out]; congr 1; omega, rfl⟩
            · go_wp2
              go_meet
              case rel => exact ⟨by rw [← hmo2.out, HMO.out]; congr 1; omega, rfl⟩
          obtain ⟨rfl, rfl⟩ := hcut
          rename World => w6
          obtain ⟨ac, hac⟩ : ∃ ac : Bool, Hid (ac = true ↔ lgGo s res) := ⟨@decide (lgGo s res) (Classical.propDecidable _), by show _ ↔ _; exact @decide_eq_true_iff _ (Classical.propDecidable _)⟩
          have HG : Hid (lgGo s res ↔ s.st ≠ 2 ∧ nu = (s.nx : Int) ∧ s.le ≤ ep ∧ (s.st = 1 → ep = s.le)) := by
            show _ ↔ _
            unfold lgGo
            rw [HE.out.1, HE.out.2.1]
            exact ⟨fun q => q.2, fun q => ⟨HI.out, q⟩⟩
          go_upto_region 18 with fail
          go_cut [87] (fun s87 W => s87 = .bool (!ac) ∧ W = w6)
          case first =>
            have NA : Hid (¬(s.st ≠ 2 ∧ nu = (s.nx : Int) ∧ s.le ≤ ep ∧ (s.st = 1 → ep = s.le)) → ac = false) := fun q => by
              cases ac with
              | false => rfl
              | true => exact absurd (HG.out.1 (hac.out.1 rfl)) q
            have YA : Hid ((s.st ≠ 2 ∧ nu = (s.nx : Int) ∧ s.le ≤ ep ∧ (s.st = 1 → ep = s.le)) → ac = true) := fun q => hac.out.2 (HG.out.2 q)
            cases go with
            | false =>
              have ea := NA.out (fun q => by have := hgo.out.2 q.1; cases this)
              go_wp2
              go_meet
              case rel => exact ⟨by rw [ea]; rfl, rfl⟩
            | true =>
              have st2 := hgo.out.1 rfl
              by_cases h1 : nu = (s.nx : Int)
              · have n1 : (nu != (s.nx : Int)) = false := by simp [h1]
                by_cases h2 : ep < s.le
                · have ea := NA.out (fun q => by have := q.2.2.1; omega)
                  go_wp2
                  go_meet
                  case rel => exact ⟨by rw [ea]; rfl, rfl⟩
                · by_cases h3 : s.st = 1
                  · have hw : Hid (wi = s.le) := hwi.out.1 h3
                    by_cases h4 : ep = s.le
                    · have ea := YA.out ⟨st2, h1, by omega, fun _ => h4⟩
                      have n2 : (ep != wi) = false := by simp [h4, hw.out]
                      have n3 : 0 < wi := by rw [hw.out]; omega
                      clear h4
                      go_wp2
                      go_meet
                      case rel => exact ⟨by rw [ea]; rfl, rfl⟩
                    · have ea := NA.out (fun q => h4 (q.2.2.2 h3))
                      have n2 : (ep != wi) = true := by simp [hw.out, h4]
                      have n3 : 0 < wi := by rw [hw.out]; omega
                      go_wp2
                      go_meet
                      case rel => exact ⟨by rw [ea]; rfl, rfl⟩
                  · have hw := hwi.out.2 (by omega)
                    have ea := YA.out ⟨st2, h1, by omega, fun q => absurd q h3⟩
                    subst hw
                    go_wp2
                    go_meet
                    case rel => exact ⟨by rw [ea]; rfl, rfl⟩
              · have n1 : (nu != (s.nx : Int)) = true := by simp [h1]
                have ea := NA.out (fun q => h1 q.2.1)
                go_wp2
                go_meet
                case rel => exact ⟨by rw [ea]; rfl, rfl⟩
          obtain ⟨rfl, rfl⟩ := hcut
          rename World => w6
          cases ac with
          | false =>
            have NG : ¬lgGo s res := fun q => by have := hac.out.2 q; cases this
            have ES : Hid (lgStep s res = ⟨2, s.nx, s.le, mo2, s.wh, s.rc, s.bg⟩) := by show _ = _; rw [lgStep_no NG, hmo2.out]
            have MN : LoM w.heap.size (w.heap.size + 2) p w6 u9 u15 vs ⟨2, s.nx, s.le, mo2, s.wh, s.rc, s.bg⟩ F L := ⟨MM.out, MM.row, MM.own, MM.ap, MM.n10, MM.box⟩
            clear MM NG hac HG
            go_wp2
            go_roundw
            case rel => exact ⟨k + 1, vs, wi, ⟨2, s.nx, s.le, mo2, s.wh, s.rc, s.bg⟩, false, by omega, by first | go_num | (congr 1; push_cast; omega), (by show _ = _; rw [HF.out, ES.out]), rfl, rfl, (by show _ ↔ _; simp), rfl, rfl, ⟨fun q => by simp at q, fun q => by simp at q⟩, rfl, MN, V, VR, B⟩
            case measure => simp [intOf]; omega
          | true =>
            have GG : lgGo s res := hac.out.1 rfl
            obtain ⟨g1, g2, g3, g4⟩ := HG.out.1 GG
            have BL : s.bg.length ≤ 17600 := by omega
            obtain ⟨a15, c15, rfl, -, -⟩ := MM.row.shape'
            have SP := R5.seesB
            obtain ⟨v8, w8, hr8, R8, G8, A8⟩ := appS MM.row SP (by have := PL.out; omega) (by have := VR.lt; omega)
            obtain ⟨nb, hnb⟩ : ∃ nb, Hid (s.bg ++ lgPc res = nb) := ⟨_, rfl⟩
            have nbl : nb.length ≤ 18000 := by rw [← hnb.out, List.length_append]; have := PL.out; omega
            rw [hnb.out] at R8
            obtain rfl : go = true := hgo.out.2 g1
            obtain ⟨k15, hk15⟩ := MM.own
            have z6 : p20 < w6.heap.size := VP.lt
            have kl15 := MZ k15 hk15
            have kg15 := (World.ownsRow.lt MM.row k15 hk15).1
            have G8' : w6.grownBy w8 (some k15) := by rw [← hk15]; exact G8
            have o8 : ∃ k, v8.ownBlock = some k := A8.elim (fun e => ⟨k15, e.trans hk15⟩) (fun e => ⟨_, e⟩)
            have np15 : k15 ≠ p := fun e => MM.n10 _ (List.mem_cons_of_mem _ (List.mem_cons_self ..)) (by rw [hk15, e])
            have V8 := V.grown G8' (by omega)
            have VR8 := VR.grownW G8' (by intro e; injection e with e; omega)
            have VP8 := VP.grownW G8' (by intro e; injection e with e; omega)
            have VB8 := MM.box.grownW G8' (by intro e; injection e with e; omega)
            have OU8 := MM.out.kept G8' (fun k hk e => by injection e with e; subst e; exact (MM.ap _ hk15).1 hk) (fun u hu k hk e => by injection e with e; subst e; exact (MM.ap _ hk15).2 u hu hk)
            have B8 := B.grown G8' B.size (fun k hk => by injection hk with hk; omega)
            have s8 := G8'.size
            have AP8 : ∀ k, v8.ownBlock = some k → u9.ownBlock ≠ some k ∧ ∀ u ∈ vs, u.ownBlock ≠ some k := fun k hk => by
              rcases A8 with q | q
              · rw [q] at hk; exact MM.ap k hk
              · rw [q] at hk
                injection hk with hk
                exact ⟨fun e => by have := (MY.1 k e).2; omega, fun u hu e => by have := (MY.2 u hu k e).2; omega⟩
            have N8 : ∀ u ∈ u9 :: v8 :: vs, u.ownBlock ≠ some p := fun u hu e => by
              rcases List.mem_cons.1 hu with rfl | hu
              · exact MM.n10 _ (List.mem_cons_self ..) e
              · rcases List.mem_cons.1 hu with rfl | hu
                · rcases A8 with q | q
                  · rw [q, hk15] at e; injection e with e; exact np15 e
                  · rw [q] at e; injection e with e; omega
                · exact MM.n10 u (List.mem_cons_of_mem _ (List.mem_cons_of_mem _ hu)) e
            obtain ⟨t0, t1, t2, t3, tf, _⟩ := id VP
            cases m with
            | true =>
              have ES : Hid (lgStep s res = ⟨1, s.nx + 1, ep, mo2, s.wh, s.rc, nb⟩) := by
                show _ = _
                rw [lgStep_more GG (by have := HE.out.2.2; simpa using this), hmo2.out, HE.out.1, hnb.out]
              have MN : LoM w.heap.size (w.heap.size + 2) p w8 u9 v8 vs ⟨1, s.nx + 1, ep, mo2, s.wh, s.rc, nb⟩ F L := ⟨OU8, R8, o8, AP8, N8, VB8⟩
              obtain ⟨a8, c8, rfl, -, -⟩ := R8.shape'
              have wok : Hid (WiOk ⟨1, s.nx + 1, ep, mo2, s.wh, s.rc, nb⟩ ep) := ⟨fun _ => rfl, fun q => by simp at q⟩
              obtain ⟨y0, y1, y2, y3, yf, _⟩ := id VP8
              clear MM GG hac HG OU8 R8 o8 AP8 N8 VB8 A8 G8 G8' MY MZ SP R5 VP VP8 V VR B g1 g2 g3 g4 hwi hgo PZ
              go_wp2_with (at_builtin; refine Lib.wpList_append_run _ rfl (.tmp 94) (.tmp 96) 22 22 rfl _ _ rfl rfl _ w8 hr8 ?_)
              go_roundw
              case rel => exact ⟨k + 1, vs, ep, ⟨1, s.nx + 1, ep, mo2, s.wh, s.rc, nb⟩, true, by omega, by first | go_num | (congr 1; push_cast; omega), (by show _ = _; rw [HF.out, ES.out]), rfl, (by first | rfl | assumption), (by show _ ↔ _; simp), rfl, rfl, wok, (by first | rfl | (congr 1)), MN, V8, VR8, B8⟩
              case measure => simp [intOf]; omega
            | false =>
              have ES : Hid (lgStep s res = ⟨0, s.nx + 1, ep, mo2, s.nx + 1, s.rc ++ [nb], []⟩) := by
                show _ = _
                rw [lgStep_last GG (by have := HE.out.2.2; simpa using this), hmo2.out, HE.out.1, hnb.out]
              obtain ⟨a8, c8, rfl, -, -⟩ := R8.shape'
              obtain ⟨d8, rfl⟩ := R8.someA o8
              obtain ⟨y0, y1, y2, y3, yf, _⟩ := id VP8
              have pl6 : p < w6.heap.size := MM.box.lt
              clear MM GG hac HG o8 AP8 A8 G8 G8' MZ SP R5 VP VP8 V VR B g1 g2 g3 g4 hwi hgo PZ
              go_upto_region 25 with (at_builtin; refine Lib.wpList_append_run _ rfl (.tmp 94) (.tmp 96) 22 22 rfl _ _ rfl rfl _ w8 hr8 ?_)
              clear t0 t1 t2 t3 tf y0 y1 y2 y3 yf hr8
              have RE := RowB.empty w8 (base := w.heap.size + 2) (by omega)
              have b9 := below1 w8 (.cells #[] 5)
              have S9 := (R8.below b9).seesB
              obtain ⟨v10, w10, hr10, R10, G10, A10⟩ := appS RE S9 (by simp; omega) (by have := b9.size; omega)
              rw [List.nil_append] at R10
              obtain ⟨a10, c10, rfl, -, -⟩ := R10.shape'
              replace G10 : (w8.alloc (.cells #[] 5)).grownBy w10 (some w8.heap.size) := G10
              have z9 : (w8.alloc (.cells #[] 5)).heap.size = w8.heap.size + 1 := by simp
              have L10 : ∀ k, (Value.slice a10 nb.length c10).ownBlock = some k → w8.heap.size ≤ k := fun k hk => by
                rcases A10 with q | q
                · rw [q] at hk; injection hk with hk; exact Nat.le_of_eq hk
                · rw [q, z9] at hk; injection hk with hk; omega
              have U10 := World.ownsRow.lt R10
              have OL := OU8.lts
              have OU10 := (OU8.below b9).kept G10 (fun k hk e => by have := (OL.1 k hk).2; injection e with e; omega) (fun u hu k hk e => by have := (OL.2 u hu k hk).2; injection e with e; omega)
              have V10 := (V8.below b9).grown G10 (by have := V8.lt; omega)
              have VR10 := (VR8.below b9).grownW G10 (by intro e; injection e with e; have := VR8.lt; omega)
              have VB10 := (VB8.below b9).grownW G10 (by intro e; injection e with e; have := VB8.lt; omega)
              have B10 := (B8.trans (b9.mono B8.size)).grown G10 (Nat.le_trans B8.size b9.size) (fun k hk => by injection hk with hk; have := V8.lt; omega)
              have s10 := G10.size
              have b11 := below1 w10 (.cells #[.slice a10 nb.length c10] 22)
              have NW := slice_newY w10 22 (.slice a10 nb.length c10)
              have OU11 := OU10.below b11
              have R11 := R10.below b11
              have HZ : w.heap.size + 2 ≤ (w10.alloc (.cells #[.slice a10 nb.length c10] 22)).heap.size := by have := b11.size; omega
              have vl : vs.length ≤ 400 := by have := OU8.len.out; omega
              have vn := N8 u9 (List.mem_cons_self ..)
              clear S9 RE b9 A10 G10 V8 VR8 VB8 B8 R8
              go_upto_region 26 with (at_builtin; first
                | refine Lib.wpList_append_run _ rfl (.tmp 102) (.tmp 103) 22 22 rfl _ _ rfl rfl _ w10 hr10 ?_
                | (refine wpList_append_own_at _ rfl (.tmp 101) (.tmp 105) 29 rfl (w.heap.size + 2) 22 iR (.slice none 0 0) 1 24 Tryd.underlying29 hiR hR0 hR1 hR2 rfl (by decide) u9 vs.length vs rfl OU11.own ⟨w10.heap.size, 0, none⟩ 1 _ [.slice a10 nb.length c10] rfl rfl NW (by intro y hy; simp at hy; subst hy; rfl) (by unfold maxLen; omega) (by omega) HZ ?_; intro v12 w12 R12 G12 _ A12))
              have z11 : (w10.alloc (.cells #[.slice a10 nb.length c10] 22)).heap.size = w10.heap.size + 1 := by simp
              have OL10 := OU10.lts
              have nu : ∀ k, (Value.slice a10 nb.length c10).ownBlock = some k → u9.ownBlock ≠ some k ∧ v12.ownBlock ≠ some k ∧ ∀ x ∈ vs, x.ownBlock ≠ some k := fun k hk => by
                have h1 := L10 k hk
                have h2 := (U10 k hk).2
                refine ⟨fun e => ?_, fun e => ?_, fun x hx e => ?_⟩
                · have := (OL.1 k e).2; omega
                · rcases A12 with q | q
                  · rw [q] at e; have := (OL.1 k e).2; omega
                  · rw [q, z11] at e; injection e with e; omega
                · have := (OL.2 x hx k e).2; omega
              have OU12 := BsR.snoc OU11 R11 nu R12 G12 A12
              have gk : ∀ q, q < w8.heap.size → u9.ownBlock ≠ some q → True := fun _ _ _ => trivial
              have nv0 : u9.ownBlock ≠ some w.heap.size := fun e => by have := (OL.1 _ e).1; omega
              have nv1 : u9.ownBlock ≠ some (w.heap.size + 1) := fun e => by have := (OL.1 _ e).1; omega
              have V12 := (V10.below b11).grownO G12 nv0
              have VR12 := (VR10.below b11).grownW G12 nv1
              have VB12 := (VB10.below b11).grownW G12 vn
              have B12 := (B10.trans (b11.mono B10.size)).grown G12 (Nat.le_trans B10.size b11.size) (fun k hk => by have := (OL.1 k hk).1; omega)
              have s12 := G12.size
              have np12 : v12.ownBlock ≠ some p := fun e => by
                rcases A12 with q | q
                · rw [q] at e; exact vn e
                · rw [q, z11] at e; injection e with e; omega
              have np10 : (Value.slice a10 nb.length c10).ownBlock ≠ some p := fun e => by have := L10 p e; omega
              have b13 := below1 w12 (.cells #[] 5)
              have RN := RowB.empty w12 (base := w.heap.size + 2) (by omega)
              have OL12 := OU12.lts
              have OU13 := OU12.below b13
              have VB13 := VB12.below b13
              have VR13 := VR12.below b13
              have V13 := V12.below b13
              have B13 := B12.trans (b13.mono B12.size)
              have p12 : p < w12.heap.size := VB12.lt
              clear OU12 OU11 OU10 R10 R11 R12 G12 A12 NW V12 VR12 VB12 B12 V10 VR10 VB10 B10 b11 nu gk U10 L10 hr10
              go_upto_region 27 with fail
              generalize hp13 : w12.heap.size = p13 at *
              generalize w12.alloc (.cells #[] 5) = w13 at *
              have gp := grownBy_setCell (grownBy_refl w13 (some p)) (p := ⟨p, 2, none⟩) rfl (.int .i64 ((s.nx : Int) + 1))
              have ne13 : ∀ k, (Value.slice (some ⟨p13, 0, none⟩) 0 0).ownBlock = some k → ¬(some p = some k) := fun k hk e => by
                have h1 : p13 = k := by injection hk
                have h2 : p = k := by injection e
                omega
              have MN : LoM w.heap.size (w.heap.size + 2) p (w13.setCell ⟨p, 2, none⟩ (.int .i64 ((s.nx : Int) + 1))) v12 (.slice (some ⟨p13, 0, none⟩) 0 0) (vs ++ [.slice a10 nb.length c10]) ⟨0, s.nx + 1, ep, mo2, s.nx + 1, s.rc ++ [nb], []⟩ F L := by
                refine ⟨OU13.kept gp (fun k hk e => by injection e with e; subst e; exact np12 hk) (fun u hu k hk e => ?_), owns_kept' RN gp (fun k hk e => ne13 k hk e), ⟨_, rfl⟩, fun k hk => ?_, fun u hu e => ?_, VB13.put2W (.int .i64 ((s.nx : Int) + 1))⟩
                · injection e with e
                  subst e
                  rcases List.mem_append.1 hu with hu | hu
                  · exact N8 u (List.mem_cons_of_mem _ (List.mem_cons_of_mem _ hu)) hk
                  · simp at hu; subst hu; exact np10 hk
                · obtain rfl : p13 = k := by injection hk
                  exact ⟨fun e => by have := (OL12.1 _ e).2; omega, fun u hu e => by have := (OL12.2 u hu _ e).2; omega⟩
                · rcases List.mem_cons.1 hu with rfl | hu
                  · exact np12 e
                  · rcases List.mem_cons.1 hu with rfl | hu
                    · have : p13 = p := by injection e
                      omega
                    · rcases List.mem_append.1 hu with hu | hu
                      · exact N8 u (List.mem_cons_of_mem _ (List.mem_cons_of_mem _ hu)) e
                      · simp at hu; subst hu; exact np10 e
              have V14 := V13.grown gp (by have := V13.lt; omega)
              have VR14 := VR13.grownW gp (by intro e; injection e with e; omega)
              have B14 := B13.grown gp B13.size (fun k hk => by injection hk with hk; omega)
              have wok : Hid (WiOk ⟨0, s.nx + 1, ep, mo2, s.nx + 1, s.rc ++ [nb], []⟩ 0) := ⟨fun q => by simp at q, fun _ => rfl⟩
              obtain ⟨l0, l1, l2, l3, lf, _⟩ := id VB13
              clear OU13 VB13 VR13 V13 B13 gp RN OL12 N8
              go_wp2
              go_roundw
              case rel => exact ⟨k + 1, _, 0, ⟨0, s.nx + 1, ep, mo2, s.nx + 1, s.rc ++ [nb], []⟩, true, by omega, by first | go_num | (congr 1; push_cast; omega), (by show _ = _; rw [HF.out, ES.out]), rfl, rfl, (by show _ ↔ _; simp), rfl, rfl, wok, (by first | rfl | (congr 1)), MN, V14, VR14, B14⟩
              case measure => simp [intOf]; omega
        · have HI : Hid (¬LgIs res) := hI
          have ES : Hid (lgStep s res = ⟨2, s.nx, s.le, s.mo, s.wh, s.rc, s.bg⟩) := by show _ = _; rw [lgStep_no (fun q => HI.out q.1), lgMo_no HI.out]
          have b6 := below1 w5 (.cells #[.int .i64 0, .int .i64 0, .bool false, .slice none 0 0] 48)
          replace V := V.below b6
          replace VR := VR.below b6
          replace MM := MM.below b6
          replace B := B.trans (b6.mono B.size)
          have MN : LoM w.heap.size (w.heap.size + 2) p (w5.alloc (.cells #[.int .i64 0, .int .i64 0, .bool false, .slice none 0 0] 48)) u9 u15 vs ⟨2, s.nx, s.le, s.mo, s.wh, s.rc, s.bg⟩ F L := ⟨MM.out, MM.row, MM.own, MM.ap, MM.n10, MM.box⟩
          clear b6 MM hI
          cases go with
          | false =>
            go_wp2
            go_roundw
            case rel => exact ⟨k + 1, vs, wi, ⟨2, s.nx, s.le, s.mo, s.wh, s.rc, s.bg⟩, false, by omega, by first | go_num | (congr 1; push_cast; omega), (by show _ = _; rw [HF.out, ES.out]), rfl, rfl, (by show _ ↔ _; simp), rfl, rfl, ⟨fun q => by simp at q, fun q => by simp at q⟩, rfl, MN, V, VR, B⟩
            case measure => simp [intOf]; omega
          | true =>
            go_wp2
            go_roundw
            case rel => exact ⟨k + 1, vs, wi, ⟨2, s.nx, s.le, s.mo, s.wh, s.rc, s.bg⟩, false, by omega, by first | go_num | (congr 1; push_cast; omega), (by show _ = _; rw [HF.out, ES.out]), rfl, rfl, (by show _ ↔ _; simp), rfl, rfl, ⟨fun q => by simp at q, fun q => by simp at q⟩, rfl, MN, V, VR, B⟩
            case measure => simp [intOf]; omega
      · obtain rfl : k = K := by omega
        have HS2 : Hid (lgOf bs qs F L = s) := by show _ = _; rw [HO.out, hs.out]
        have hnl : ¬(F + (k : Int) ≤ L) := by omega
        by_cases hmo : s.mo = 1000000
        · have NO : Hid (LoRes bs qs F L 0 0 0 0 [] false) := NR.out (fun q => q.2 (by rw [HS2.out]; exact hmo))
          have OU := BsR.empty wr (lo := w.heap.size + 2) (by have := VR.lt; omega)
          have b7 := below1 wr (.cells #[] 22)
          replace VR := VR.below b7
          replace B := B.trans (b7.mono B.size)
          obtain ⟨r0, r1, r2, r3, rf, _⟩ := id VR
          have Q := Box4.chain B VR (.int .i64 0) (.int .i64 0) (.int .i64 0) (.int .i64 0)
          obtain ⟨s0, s1, s2, s3, _, _⟩ := VR.put (.int .i64 0) (.int .i64 0) (.int .i64 0) (.int .i64 0)
          have gp := grownBy_setCell (grownBy_setCell (grownBy_setCell (grownBy_setCell (grownBy_refl (wr.alloc (.cells #[] 22)) (some (w.heap.size + 1))) (p := ⟨w.heap.size + 1, 0, none⟩) rfl (.int .i64 0)) (p := ⟨w.heap.size + 1, 1, none⟩) rfl (.int .i64 0)) (p := ⟨w.heap.size + 1, 2, none⟩) rfl (.int .i64 0)) (p := ⟨w.heap.size + 1, 3, none⟩) rfl (.int .i64 0)
          have OF := (OU.kept gp (fun k hk e => by have := (OU.lts.1 k hk).1; injection e with e; omega) (fun u hu => by cases hu)).base (lo' := w.heap.size) (by omega)
          clear gp VR V MM OU b7
          go_wp2
          exact bodyPost_ret (v := .tuple #[.agg #[.int .i64 0, .int .i64 0, .int .i64 0, .int .i64 0], .slice (some ⟨wr.heap.size, 0, none⟩) 0 0, .bool false]) (by simp [results, Tryd.results5, go_sem, s0, s1, s2, s3]) rfl ⟨⟨0, 0, 0, 0, _, _, _, _, rfl, NO.out, OF⟩, Q⟩
        · have YO : Hid (LoRes bs qs F L F L (s.wh : Int) (s.mo + 1) s.rc true) := .inl ⟨⟨OI.out, by rw [HS2.out]; exact hmo⟩, rfl, rfl, rfl, by rw [HS2.out], by rw [HS2.out], by rw [HS2.out]⟩
          have hmb : (s.mo == 1000000) = false := by simp [hmo]
          have pl : p < wr.heap.size := MM.box.lt
          have gp3 := grownBy_setCell (grownBy_refl wr (some p)) (p := ⟨p, 3, none⟩) rfl (.int .i64 (s.mo + 1))
          have VB := MM.box.put3W (.int .i64 (s.mo + 1))
          have VR3 := VR.grownW gp3 (by intro e; injection e with e; omega)
          have OU3 := MM.out.kept gp3 (fun k hk e => by injection e with e; subst e; exact MM.n10 _ (List.mem_cons_self ..) hk) (fun u hu k hk e => by injection e with e; subst e; exact MM.n10 u (List.mem_cons_of_mem _ (List.mem_cons_of_mem _ hu)) hk)
          have B3 := B.grown gp3 B.size (fun k hk => by injection hk with hk; omega)
          obtain ⟨l0, l1, l2, l3, lf, _⟩ := id MM.box
          clear V VR B gp3 MM
          go_upto_region 32 with fail
          clear l0 l1 l2 l3 lf
          generalize wr.setCell ⟨p, 3, none⟩ (.int .i64 (s.mo + 1)) = w7 at *
          obtain ⟨l0, l1, l2, l3, lf, _⟩ := id VB
          obtain ⟨r0, r1, r2, r3, rf, _⟩ := id VR3
          have Q := Box4.chain B3 VR3 (.int .i64 F) (.int .i64 L) (.int .i64 (s.wh : Int)) (.int .i64 (s.mo + 1))
          obtain ⟨s0, s1, s2, s3, _, _⟩ := VR3.put (.int .i64 F) (.int .i64 L) (.int .i64 (s.wh : Int)) (.int .i64 (s.mo + 1))
          have gp := grownBy_setCell (grownBy_setCell (grownBy_setCell (grownBy_setCell (grownBy_refl w7 (some (w.heap.size + 1))) (p := ⟨w.heap.size + 1, 0, none⟩) rfl (.int .i64 F)) (p := ⟨w.heap.size + 1, 1, none⟩) rfl (.int .i64 L)) (p := ⟨w.heap.size + 1, 2, none⟩) rfl (.int .i64 (s.wh : Int))) (p := ⟨w.heap.size + 1, 3, none⟩) rfl (.int .i64 (s.mo + 1))
          have OL := OU3.lts
          have OF := (OU3.kept gp (fun k hk e => by have := (OL.1 k hk).1; injection e with e; omega) (fun u hu k hk e => by have := (OL.2 u hu k hk).1; injection e with e; omega)).base (lo' := w.heap.size) (by omega)
          clear gp VB VR3 B3 OU3
          go_wp2
          exact bodyPost_ret (v := .tuple #[.agg #[.int .i64 F, .int .i64 L, .int .i64 (s.wh : Int), .int .i64 (s.mo + 1)], u9, .bool true]) (by simp [results, Tryd.results5, go_sem, s0, s1, s2, s3]) rfl ⟨⟨_, _, _, _, _, _, _, _, rfl, YO.out, OF⟩, Q⟩
end Go.Proofs.YtgcaemhcdpddiaaDoor
