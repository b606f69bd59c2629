/- The law on Crash: at every argument the program's Crash is the specification's; it writes into no argument; its answer owns its memory. -/
import Derived.Test.YtjpnkmhmipendaaDoorCrI
import Derived.Test.YtjpnkmhmipendaaDoorDkB
import Derived.Test.YtjpnkmhmipendaaDoorCrS
namespace Go.Proofs.YtjpnkmhmipendaaDoor
open Go.RowKit

theorem implCrashW {lo lo2 : Nat} (bE : Addr) (ad : Addr) (a2 : Option Addr) (c c2 : Nat) (vs0 : List Value) (bs : List Int) (qs : List Wr) (ad3 : Addr) (c3 : Nat) (ds : List Int) (w : World) (h : DkR lo w (.slice (some ad) bs.length c) (.slice a2 qs.length c2) vs0 bs qs) (hv0 : SomeV vs0) (hd : RowB lo2 w (.slice (some ad3) ds.length c3) ds) (hc8 : ∀ x ∈ ds, 0 ≤ x ∧ x < 256) (hb0 : bs.length ≤ 2000000) (hs : uptoQ qs qs.length ≤ 2000000) (E : Er bE w) :
    Calls Tryd.prog 26 #[.agg #[.slice (some ad) bs.length c, .slice a2 qs.length c2], .slice (some ad3) ds.length c3] w fun e w' => ∃ a' c' b' d' vs bs' qs', e = .returned (.agg #[.slice a' bs.length c', .slice b' qs'.length d']) ∧ CrRes bs qs ds bs' qs' ∧ DkR w.heap.size w' (.slice a' bs.length c') (.slice b' qs'.length d') vs bs' qs' ∧ Below w.heap.size w w' :=
  (implCrash bE ad a2 c c2 vs0 bs qs ad3 c3 ds w h hv0 hd hc8 hb0 hs E).mono fun _ _ ⟨ad', c', b', d', vs, bs', qs', h1, h2, h3, _, h5⟩ => ⟨some ad', c', b', d', vs, bs', qs', h1, h2, h3, h5⟩
set_option maxRecDepth 20000 in
set_option maxHeartbeats 4000000 in
theorem lawCrash (a a2 ay : Option Addr) (c c2 cy : Nat) (bs ds : List Int) (qs : List Wr) (w : World) (h : SeesB w a c bs) (k : SeesQ w a2 c2 qs) (y : SeesB w ay cy ds) (hc8 : ∀ x ∈ ds, 0 ≤ x ∧ x < 256) (bE : Addr) (E : Er bE w) :
    Calls Tryd.prog 7 #[.agg #[.slice a bs.length c, .slice a2 qs.length c2], .slice ay ds.length cy] w fun e w' => e = .returned (.bool true) ∧ Below w.heap.size w w' := by
  have hm := h.max
  have hf := h.fits
  unfold maxLen at hm
  have HB : Hid (SeesB w a c bs) := h
  have HE : Hid (Er bE w) := E
  have HY : Hid (SeesB w ay cy ds) := y
  have hym := y.max
  have hyf := y.fits
  unfold maxLen at hym
  have HC : Hid (∀ x ∈ ds, 0 ≤ x ∧ x < 256) := hc8
  have wp := E.pos
  have HQ : Hid (SeesQ w a2 c2 qs) := k
  have B := below1 w (.cells #[.slice a bs.length c, .slice a2 qs.length c2] 25)
  have V := Box2.new w (lo := w.heap.size) (Nat.le_refl _) (.slice a bs.length c) (.slice a2 qs.length c2) 25
  clear h k y E hc8
  by_cases hy : 1048576 < ds.length
  · go_enter Tryd.func7, Tryd.ntmps7
    go_wp2
    go_ret
    exact ⟨rfl, B⟩
  · have LY : Hid (ds.length ≤ 1048576) := by show _ ≤ _; omega
    have MY : Hid (ds.length ≤ 2000000) := by show _ ≤ _; omega
    go_enter Tryd.func7, Tryd.ntmps7
    go_wp2_with fail
    refine (szDisk_any a a2 c c2 bs.length qs 1048576 _ (by omega) (HQ.out.below B) ⟨by omega, by omega⟩).mono ?_
    rintro e w1 ⟨z, rfl, hz, hb⟩
    have HZ : Hid (z = -1 ∨ (0 ≤ z ∧ z + bs.length + (uptoQ qs qs.length : Nat) = 1048576)) := hz
    replace V := V.below hb
    replace B := B.trans (hb.mono B.size)
    clear hb hz
    by_cases h0 : z < 0
    · go_wp2
      go_ret
      exact ⟨rfl, B⟩
    · have L1 : Hid (bs.length ≤ 1048576) := by show _ ≤ _; have := HZ.out; omega
      have L2 : Hid (uptoQ qs qs.length ≤ 1048576) := by show _ ≤ _; have := HZ.out; omega
      have M1 : Hid (bs.length ≤ 2000000) := Nat.le_trans L1.out (by omega)
      have M2 : Hid (uptoQ qs qs.length ≤ 2000000) := Nat.le_trans L2.out (by omega)
      obtain ⟨v0, v1, vf, _⟩ := id V
      go_wp2_with fail
      refine (toDisk_any a a2 c c2 bs qs _ (HB.out.below B) (HQ.out.below B) L1.out L2.out).mono ?_
      rintro e w2 ⟨a3, b3, us, rfl, D2, S2, hb⟩
      replace V := V.below hb
      replace B := B.trans (hb.mono B.size)
      clear hb v0 v1 vf
      go_wp2_with fail
      refine (toBytes ay cy ds _ (HY.out.below B) LY.out).mono ?_
      rintro e wy ⟨rfl, RY, hb⟩
      replace V := V.below hb
      replace D2 := D2.below hb
      replace B := B.trans (hb.mono B.size)
      clear hb
      go_wp2_with fail
      refine (specCrash a3 b3 bs.length qs.length us bs qs _ _ ds _ D2 S2 RY HC.out M1.out M2.out).mono ?_
      rintro e w3 ⟨a0, c0, b0, d0, vs0, bs', qs', rfl, SR0, D0, _, hb⟩
      have SR : Hid (CrRes bs qs ds bs' qs') := SR0
      have LN : Hid (bs'.length = bs.length) := SR0.len
      have M3 : Hid (uptoQ qs' qs'.length ≤ 2000000) := by
        show _ ≤ _
        rcases SR0 with ⟨_, _, q⟩ | ⟨_, _, q⟩
        · rw [q]; simp [uptoQ]
        · rw [q]; exact M2.out
      replace V := V.below hb
      replace B := B.trans (hb.mono B.size)
      clear hb D2 S2 SR0 RY
      have X0 := Box2.new w3 (lo := w.heap.size) B.size (.slice (some a0) bs.length c0) (.slice b0 qs'.length d0) 30
      have b5 := below1 w3 (.cells #[.slice (some a0) bs.length c0, .slice b0 qs'.length d0] 30)
      have T0 := D0.tops (b := w3.heap.size + 1) (by omega)
      replace V := V.below b5
      replace D0 := D0.below b5
      replace B := B.trans (b5.mono B.size)
      have z3 : (w3.alloc (.cells #[.slice (some a0) bs.length c0, .slice b0 qs'.length d0] 30)).heap.size = w3.heap.size + 1 := by simp
      clear b5
      obtain ⟨v0, v1, vf, _⟩ := id V
      go_wp2_with fail
      refine (toDisk_any a a2 c c2 bs qs _ (HB.out.below B) (HQ.out.below B) L1.out L2.out).mono ?_
      rintro e w4 ⟨a4, b4, vs, rfl, Dx, Sx, hb⟩
      rw [z3] at Dx
      replace V := V.below hb
      replace X0 := X0.below hb
      replace D0 := D0.below hb
      have sz4 : w3.heap.size + 1 ≤ w4.heap.size := by rw [← z3]; exact hb.size
      replace B := B.trans (hb.mono B.size)
      clear hb v0 v1 vf z3
      have X1 := Box2.new w4 (lo := w.heap.size) B.size (.slice (some a4) bs.length bs.length) (.slice b4 qs.length qs.length) 30
      have b5 := below1 w4 (.cells #[.slice (some a4) bs.length bs.length, .slice b4 qs.length qs.length] 30)
      have N1 := Dx.nots (p := w4.heap.size) (.inl (Nat.le_refl _))
      have TX := Dx.tops' (b := w4.heap.size + 1) (by omega)
      replace V := V.below b5
      replace X0 := X0.below b5
      replace D0 := D0.below b5
      replace Dx := Dx.below b5
      replace B := B.trans (b5.mono B.size)
      have z4 : (w4.alloc (.cells #[.slice (some a4) bs.length bs.length, .slice b4 qs.length qs.length] 30)).heap.size = w4.heap.size + 1 := by simp
      clear b5
      go_wp2_with fail
      refine (toBytes ay cy ds _ (HY.out.below B) LY.out).mono ?_
      rintro e wz ⟨rfl, Ry, hb⟩
      rw [z4] at Ry ⊢
      have szy : w4.heap.size + 2 ≤ wz.heap.size := (World.ownsRow.lt Ry (w4.heap.size + 1) rfl).2
      replace V := V.below hb
      replace X0 := X0.below hb
      replace X1 := X1.below hb
      replace D0 := D0.below hb
      replace Dx := Dx.below hb
      replace B := B.trans (hb.mono B.size)
      clear hb
      obtain ⟨x1a, x1b, x1f, _⟩ := id X1
      go_wp2_with fail
      refine (implCrashW bE a4 b4 bs.length qs.length vs bs qs _ _ ds _ Dx Sx Ry HC.out M1.out M2.out (HE.out.below B wp)).mono ?_
      rintro e w5 ⟨a5, c5, b5, d5, vs5, bs5, qs5, rfl, SR5, Dg, hb⟩
      obtain ⟨e1, e2⟩ := SR5.one SR.out
      subst e1 e2
      clear x1a x1b x1f
      have sz5' : wz.heap.size ≤ w5.heap.size := hb.size
      replace Ry := Ry.below hb
      replace V := V.below hb
      replace X0 := X0.below hb
      replace X1 := X1.below hb
      replace D0 := D0.below hb
      replace Dx := Dx.below hb
      have sz5 : w4.heap.size + 2 ≤ w5.heap.size := by omega
      replace B := B.trans (hb.mono B.size)
      clear hb z4 SR5
      have X2 := Box2.new w5 (lo := w.heap.size) B.size (.slice a5 bs.length c5) (.slice b5 qs5.length d5) 30
      have b6 := below1 w5 (.cells #[.slice a5 bs.length c5, .slice b5 qs5.length d5] 30)
      have N2 := Dg.nots (p := w5.heap.size) (.inl (Nat.le_refl _))
      have N12 := Dx.nots (p := w5.heap.size) (.inl (Nat.le_refl _))
      replace V := V.below b6
      replace X0 := X0.below b6
      replace X1 := X1.below b6
      replace D0 := D0.below b6
      replace Dx := Dx.below b6
      replace Dg := Dg.below b6
      replace Ry := Ry.below b6
      replace B := B.trans (b6.mono B.size)
      clear b6
      have sz0 : w.heap.size ≤ w3.heap.size := by have := X0.lo; exact this
      generalize hq3 : w3.heap.size = p0 at *
      generalize hq4 : w4.heap.size = p1 at *
      generalize hq5 : w5.heap.size = p2 at *
      generalize hqz : wz.heap.size = py at *
      obtain ⟨x0a, x0b, x0f, _⟩ := id X0
      obtain ⟨x2a, x2b, x2f, _⟩ := id X2
      go_wp2_with fail
      refine (eqDiskN a5 b5 (some a0) b0 c5 d5 c0 d0 vs5 vs0 bs5 qs5 _ LN.out Dg D0).mono ?_
      rintro e w6 ⟨rfl, hb⟩
      have s6 : p2 + 1 ≤ w6.heap.size := by have := hb.size; rw [← hq5]; simpa using this
      replace V := V.below hb
      replace X0 := X0.below hb
      replace X1 := X1.below hb
      replace X2 := X2.below hb
      replace D0 := D0.below hb
      replace Dx := Dx.below hb
      replace Dg := Dg.below hb
      replace Ry := Ry.below hb
      replace B := B.trans (hb.mono B.size)
      clear hb
      clear x0a x0b x0f x2a x2b x2f
      obtain ⟨va, vb, vf, _⟩ := id V
      obtain ⟨x1a, x1b, x1f, _⟩ := id X1
      go_wp2_with fail
      have k0 : w6.cell? ⟨w.heap.size, 0, none⟩ = some (.slice a bs.length c) ∧ w6.cell? ⟨w.heap.size, 1, none⟩ = some (.slice a2 qs.length c2) ∧ w6.cell? ⟨p1, 0, none⟩ = some (.slice (some a4) bs.length bs.length) ∧ w6.cell? ⟨p1, 1, none⟩ = some (.slice b4 qs.length qs.length) := ⟨va, vb, x1a, x1b⟩
      have B1 : Below w6.heap.size w6 w6 := Below.refl _ _
      clear va vb vf x1a x1b x1f
      go_region_held3 (fun w' => w'.cell? ⟨w.heap.size, 0, none⟩ = some (.slice a bs.length c) ∧ w'.cell? ⟨w.heap.size, 1, none⟩ = some (.slice a2 qs.length c2) ∧ w'.cell? ⟨p1, 0, none⟩ = some (.slice (some a4) bs.length bs.length) ∧ w'.cell? ⟨p1, 1, none⟩ = some (.slice b4 qs.length qs.length))
        (first | exact k0 | exact ⟨bat B1 k0.1, bat B1 k0.2.1, bat B1 k0.2.2.1, bat B1 k0.2.2.2⟩)
        (first
          | (go_at_call 10; refine (toDisk_any a a2 c c2 bs qs _ (HB.out.below (B.trans (B1.drew.mono B.size))) (HQ.out.below (B.trans (B1.drew.mono B.size))) L1.out L2.out).mono ?_; rintro e w7 ⟨a6, b6, us6, rfl, D6, _, hb⟩; replace B1 := B1.drew.trans (hb.mono B1.drew.size))
          | (go_at_call 12; refine (eqDisk_any (some a4) b4 (some a6) b6 bs.length qs.length bs.length qs.length vs us6 bs qs _ (Dx.below B1) D6).mono ?_; rintro e w8 ⟨rfl, hb⟩; replace B1 := B1.trans (hb.mono B1.size)))
      have s8 := B1.size
      replace V := V.below B1
      replace X0 := X0.below B1
      replace X1 := X1.below B1
      replace X2 := X2.below B1
      replace D0 := D0.below B1
      replace Dx := Dx.below B1
      replace Dg := Dg.below B1
      replace Ry := Ry.below B1
      replace B := B.trans (B1.mono B.size)
      clear B1 k0
      go_wp2_with fail
      refine (toBytes ay cy ds _ (HY.out.below B) LY.out).mono ?_
      rintro e wu ⟨rfl, Ru, hb⟩
      replace V := V.below hb
      replace X0 := X0.below hb
      replace X1 := X1.below hb
      replace X2 := X2.below hb
      replace D0 := D0.below hb
      replace Dx := Dx.below hb
      replace Dg := Dg.below hb
      replace Ry := Ry.below hb
      have su := hb.size
      replace B := B.trans (hb.mono B.size)
      clear hb
      go_wp2_with fail
      refine (eqBy _ _ ds.length ds.length ds _ Ry Ru).mono ?_
      rintro e wv ⟨rfl, hb⟩
      replace V := V.below hb
      replace X0 := X0.below hb
      replace X1 := X1.below hb
      replace X2 := X2.below hb
      replace D0 := D0.below hb
      replace Dx := Dx.below hb
      replace Dg := Dg.below hb
      replace Ry := Ry.below hb
      have sv := hb.size
      replace B := B.trans (hb.mono B.size)
      clear hb Ru
      obtain ⟨x1a, x1b, x1f, _⟩ := id X1
      go_wp2_with fail
      refine (markDisk_any (some a4) b4 bs.length qs.length vs bs qs _ Dx M1.out M2.out).mono ?_
      rintro e w9 ⟨rfl, _, K9, hbb⟩
      have hb := hbb (p0 + 1) (Nat.le_refl _) (by omega)
      replace D0 := D0.under hb T0
      replace X0 := X0.underB hb (by omega)
      replace V := V.underB hb (by omega)
      replace X1 := X1.butQ K9 N1.out
      replace X2 := X2.butQ K9 N12.out
      replace Dg := Dg.butQ K9 (fun u hu k hk => Nat.lt_of_lt_of_le (TX.out u hu k hk) (by omega))
      replace Ry := owns_butQ Ry K9 TX.out
      replace B := B.trans (hb.mono (by omega))
      have s9 := K9.1
      obtain ⟨k8, hk8⟩ : ∃ k, Hid (1 + (bs.length : Int) + (uptoQ qs qs.length : Nat) = k) := ⟨_, rfl⟩
      have k8p : 0 ≤ k8 ∧ k8 ≤ 5000000 := by rw [← hk8.out]; have := M1.out; have := M2.out; omega
      obtain ⟨k8p, k8q⟩ := k8p
      rw [hk8.out]
      clear hb hbb K9 Dx
      clear x1a x1b x1f
      go_wp2_with fail
      refine (markBy (base := p1 + 1) _ ds.length k8 ds _ Ry MY.out (by omega) (by omega)).mono ?_
      rintro e wm ⟨rfl, _, Gm⟩
      have hb : Below (p1 + 1) w9 wm := (Below.refl (p1 + 1) w9).grown Gm (by omega) (fun k hk => (World.ownsRow.lt Ry k hk).1)
      replace D0 := D0.under hb ⟨fun k hk => by have := T0.out.1 k hk; omega, fun k hk => by have := T0.out.2.1 k hk; omega, fun u hu k hk => by have := T0.out.2.2 u hu k hk; omega⟩
      replace X0 := X0.underB hb (by omega)
      replace V := V.underB hb (by omega)
      replace X1 := X1.underB hb (by omega)
      replace X2 := Box2.grown X2 (show w9.grownBy wm (some (p1 + 1)) from Gm) (by omega)
      replace Dg := Dg.kept (show w9.grownBy wm (some (p1 + 1)) from Gm) (fun k hk e => by have := (Dg.lts.1 k hk).1; injection e with e; omega) (fun k hk e => by have := (Dg.lts.2.1 k hk).1; injection e with e; omega) (fun u hu k hk e => by have := (Dg.lts.2.2 u hu k hk).1; injection e with e; omega)
      replace B := B.trans (hb.mono (by omega))
      have sm := Gm.size
      obtain ⟨k7, hk7⟩ : ∃ k, Hid (k8 + (ds.length : Int) = k) := ⟨_, rfl⟩
      have k7p : 0 ≤ k7 := by rw [← hk7.out]; omega
      rw [hk7.out]
      clear hb Gm Ry hk7
      obtain ⟨x0a, x0b, x0f, _⟩ := id X0
      obtain ⟨x2a, x2b, x2f, _⟩ := id X2
      go_wp2_with fail
      refine (eqDiskN a5 b5 (some a0) b0 c5 d5 c0 d0 vs5 vs0 bs5 qs5 _ LN.out Dg D0).mono ?_
      rintro e w10 ⟨rfl, hb⟩
      have s10 := hb.size
      replace V := V.below hb
      replace X0 := X0.below hb
      replace X1 := X1.below hb
      replace X2 := X2.below hb
      replace D0 := D0.below hb
      replace Dg := Dg.below hb
      replace B := B.trans (hb.mono B.size)
      clear hb
      clear x0a x0b x0f x2a x2b x2f
      obtain ⟨x2a, x2b, x2f, _⟩ := id X2
      go_wp2_with fail
      refine (markDiskN a5 b5 c5 d5 vs5 bs5 qs5 _ LN.out Dg M1.out M3.out).mono ?_
      rintro e w11 ⟨rfl, D4, K4, hbb⟩
      have hb := hbb py (Nat.le_refl _) (by omega)
      replace D0 := D0.under hb ⟨fun k hk => by have := T0.out.1 k hk; omega, fun k hk => by have := T0.out.2.1 k hk; omega, fun u hu k hk => by have := T0.out.2.2 u hu k hk; omega⟩
      replace X0 := X0.underB hb (by omega)
      replace V := V.underB hb (by omega)
      replace X2 := X2.butQ K4 N2.out
      replace B := B.trans (hb.mono (by omega))
      have D5 : Hid (DkR py w11 (.slice a5 bs.length c5) (.slice b5 qs5.length d5) vs5 (mkY 1 bs.length) (mkQs (1 + (bs.length : Int)) qs5 qs5.length)) := D4
      obtain ⟨k9, hk9⟩ : ∃ k, Hid (1 + (bs.length : Int) + (uptoQ qs5 qs5.length : Nat) = k) := ⟨_, rfl⟩
      have kp : 0 ≤ k9 := by rw [← hk9.out]; omega
      have hk9n : (k9 != k9) = false := by simp
      rw [hk9.out]
      clear hb hbb K4 D4 Dg X1
      clear x2a x2b x2f
      obtain ⟨x2a, x2b, x2f, _⟩ := id X2
      go_wp2_with fail
      refine (heldDiskN a5 b5 c5 d5 vs5 bs5 qs5 _ LN.out D5.out M1.out M3.out).mono ?_
      rintro e w12 ⟨rfl, hb⟩
      rw [hk9.out]
      replace V := V.below hb
      replace X0 := X0.below hb
      replace X2 := X2.below hb
      replace D0 := D0.below hb
      have D6 : Hid (DkR py w12 (.slice a5 bs.length c5) (.slice b5 qs5.length d5) vs5 (mkY 1 bs.length) (mkQs (1 + (bs.length : Int)) qs5 qs5.length)) := D5.out.below hb
      replace B := B.trans (hb.mono B.size)
      clear hb D5
      clear x2a x2b x2f
      obtain ⟨va, vb, vf, _⟩ := id V
      go_wp2_with fail
      refine (toDisk_any a a2 c c2 bs qs _ (HB.out.below B) (HQ.out.below B) L1.out L2.out).mono ?_
      rintro e w13 ⟨a7, b7, us7, rfl, D7, S7, hb⟩
      replace X0 := X0.below hb
      replace X2 := X2.below hb
      replace D0 := D0.below hb
      have D8 : Hid (DkR py w13 (.slice a5 bs.length c5) (.slice b5 qs5.length d5) vs5 (mkY 1 bs.length) (mkQs (1 + (bs.length : Int)) qs5 qs5.length)) := D6.out.below hb
      replace B := B.trans (hb.mono B.size)
      clear hb D6 V
      clear va vb vf
      go_wp2_with fail
      refine (toBytes ay cy ds _ (HY.out.below B) LY.out).mono ?_
      rintro e wn ⟨rfl, R7, hb⟩
      replace X0 := X0.below hb
      replace X2 := X2.below hb
      replace D0 := D0.below hb
      replace D7 := D7.below hb
      have D8' : Hid (DkR py wn (.slice a5 bs.length c5) (.slice b5 qs5.length d5) vs5 (mkY 1 bs.length) (mkQs (1 + (bs.length : Int)) qs5 qs5.length)) := D8.out.below hb
      replace B := B.trans (hb.mono B.size)
      clear hb D8
      go_wp2_with fail
      refine (implCrashW bE a7 b7 bs.length qs.length us7 bs qs _ _ ds _ D7 S7 R7 HC.out M1.out M2.out (HE.out.below B wp)).mono ?_
      rintro e w14 ⟨a8, c8, b8, d8, vs8, bs8, qs8, rfl, SR8, Dh, hb⟩
      obtain ⟨e1, e2⟩ := SR8.one SR.out
      subst e1 e2
      replace X0 := X0.below hb
      replace X2 := X2.below hb
      replace D0 := D0.below hb
      have D9 : Hid (DkR py w14 (.slice a5 bs.length c5) (.slice b5 qs8.length d5) vs5 (mkY 1 bs.length) (mkQs (1 + (bs.length : Int)) qs8 qs8.length)) := D8'.out.below hb
      replace B := B.trans (hb.mono B.size)
      clear hb D8' D7 S7 SR8 R7
      have b9 := below1 w14 (.cells #[.slice a8 bs.length c8, .slice b8 qs8.length d8] 30)
      replace X0 := X0.below b9
      replace X2 := X2.below b9
      replace D0 := D0.below b9
      replace Dh := Dh.below b9
      have D10 : Hid (DkR py _ (.slice a5 bs.length c5) (.slice b5 qs8.length d5) vs5 (mkY 1 bs.length) (mkQs (1 + (bs.length : Int)) qs8 qs8.length)) := D9.out.below b9
      replace B := B.trans (b9.mono B.size)
      clear b9 D9
      obtain ⟨x0a, x0b, x0f, _⟩ := id X0
      go_wp2_with fail
      refine (eqDiskN a8 b8 (some a0) b0 c8 d8 c0 d0 vs8 vs0 bs8 qs8 _ LN.out Dh D0).mono ?_
      rintro e w15 ⟨rfl, hb⟩
      replace X2 := X2.below hb
      have D11 : Hid (DkR py w15 (.slice a5 bs.length c5) (.slice b5 qs8.length d5) vs5 (mkY 1 bs.length) (mkQs (1 + (bs.length : Int)) qs8 qs8.length)) := D10.out.below hb
      replace B := B.trans (hb.mono B.size)
      clear hb D10
      clear x0a x0b x0f
      obtain ⟨x2a, x2b, x2f, _⟩ := id X2
      go_wp2_with fail
      refine (heldDiskN a5 b5 c5 d5 vs5 bs8 qs8 _ LN.out D11.out M1.out M3.out).mono ?_
      rintro e w16 ⟨rfl, hb⟩
      rw [hk9.out]
      replace B := B.trans (hb.mono B.size)
      clear hb D11
      clear x2a x2b x2f
      go_wp2
      go_ret
      exact ⟨rfl, B⟩
end Go.Proofs.YtjpnkmhmipendaaDoor
