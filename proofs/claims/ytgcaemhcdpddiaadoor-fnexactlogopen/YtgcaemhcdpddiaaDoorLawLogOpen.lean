/- The law on LogOpen: at every argument the program's LogOpen is the specification's; it writes into no argument; its answer owns its memory. -/
import Derived.Test.YtgcaemhcdpddiaaDoorLoI
import Derived.Test.YtgcaemhcdpddiaaDoorDkB
namespace Go.Proofs.YtgcaemhcdpddiaaDoor
open Go.RowKit

theorem BsR.butQ {lo : Nat} {w w' : World} {v : Value} {vs us : List Value} {rs : List (List Int)} (h : BsR lo w v vs rs) (hb : ButQ us w w') (ne : ∀ u ∈ us, ∀ k, u.ownBlock = some k → k < lo) : BsR lo w' v vs rs :=
  ⟨owns_butQ h.own hb ne, h.len, fun i u hu => owns_butQ (h.rows i u hu) hb ne, h.ne, h.apart⟩
theorem Box4.underO {lo q n : Nat} {w w' : World} {x0 x1 x2 x3 : Value} (h : Box4 lo w q x0 x1 x2 x3) (hb : Below n w w') (hq : q < n) : Box4 lo w' q x0 x1 x2 x3 := by
  have e := hb.block q hq
  exact ⟨(World.cell?_of_block (a := ⟨q, 0, none⟩) e).trans h.c0, (World.cell?_of_block (a := ⟨q, 1, none⟩) e).trans h.c1, (World.cell?_of_block (a := ⟨q, 2, none⟩) e).trans h.c2, (World.cell?_of_block (a := ⟨q, 3, none⟩) e).trans h.c3, fun o => (World.frozen?_of_block (a := ⟨q, o, none⟩) e).trans (h.fr o), h.lo⟩
theorem Box4.butO {lo q : Nat} {w w' : World} {x0 x1 x2 x3 : Value} {us : List Value} (h : Box4 lo w q x0 x1 x2 x3) (hb : ButQ us w w') (ne : ∀ u ∈ us, u.ownBlock ≠ some q) : Box4 lo w' q x0 x1 x2 x3 := by
  have e := hb.2 q h.lt ne
  exact ⟨(World.cell?_of_block (a := ⟨q, 0, none⟩) e).trans h.c0, (World.cell?_of_block (a := ⟨q, 1, none⟩) e).trans h.c1, (World.cell?_of_block (a := ⟨q, 2, none⟩) e).trans h.c2, (World.cell?_of_block (a := ⟨q, 3, none⟩) e).trans h.c3, fun o => (World.frozen?_of_block (a := ⟨q, o, none⟩) e).trans (h.fr o), h.lo⟩

set_option maxRecDepth 20000 in
set_option maxHeartbeats 4000000 in
theorem lawLogOpen (a a2 : Option Addr) (c c2 : Nat) (bs : List Int) (qs : List Wr) (F L : Int) (w : World) (h : SeesB w a c bs) (k : SeesQ w a2 c2 qs) (h8 : Dk8 bs qs) (bE : Addr) (E : Er bE w) :
    Calls Tryd.prog 3 #[.agg #[.slice a bs.length c, .slice a2 qs.length c2], .int .i64 F, .int .i64 L] w fun e w' => e = .returned (.bool true) ∧ Below w.heap.size w w' := by
  have hm := h.max
  have hf := h.fits
  unfold maxLen at hm
  have HB : Hid (SeesB w a c bs) := h
  have HE : Hid (Er bE w) := E
  have H8 : Hid (Dk8 bs qs) := h8
  have wp := E.pos
  have HQ : Hid (SeesQ w a2 c2 qs) := k
  have B := below1 w (.cells #[.slice a bs.length c, .slice a2 qs.length c2] 25)
  have V := Box2.new w (lo := w.heap.size) (Nat.le_refl _) (.slice a bs.length c) (.slice a2 qs.length c2) 25
  clear h k E h8
  go_enter Tryd.func3, Tryd.ntmps3
  go_wp2_with fail
  refine (szDisk_any a a2 c c2 bs.length qs 1048576 _ (by omega) (HQ.out.below B) ⟨by omega, by omega⟩).mono ?_
  rintro e w1 ⟨z, rfl, hz, hb⟩
  have HZ : Hid (z = -1 ∨ (0 ≤ z ∧ z + bs.length + (uptoQ qs qs.length : Nat) = 1048576)) := hz
  replace V := V.below hb
  replace B := B.trans (hb.mono B.size)
  clear hb hz
  by_cases h0 : z < 0
  · go_wp2
    go_ret
    exact ⟨rfl, B⟩
  · have L1 : Hid (bs.length ≤ 1048576) := by show _ ≤ _; have := HZ.out; omega
    have L2 : Hid (uptoQ qs qs.length ≤ 1048576) := by show _ ≤ _; have := HZ.out; omega
    have M1 : Hid (bs.length ≤ 2000000) := Nat.le_trans L1.out (by omega)
    have M2 : Hid (uptoQ qs qs.length ≤ 2000000) := Nat.le_trans L2.out (by omega)
    obtain ⟨v0, v1, vf, _⟩ := id V
    go_wp2_with fail
    refine (toDisk_any a a2 c c2 bs qs _ (HB.out.below B) (HQ.out.below B) L1.out L2.out).mono ?_
    rintro e w2 ⟨a3, b3, us, rfl, D2, S2, hb⟩
    replace V := V.below hb
    replace B := B.trans (hb.mono B.size)
    clear hb v0 v1 vf
    go_wp2_with fail
    refine (specLogOpen a3 b3 bs.length qs.length us bs qs F L _ D2 S2 M1.out M2.out H8.out).mono ?_
    rintro e w3 ⟨⟨ya, yb, yc, yd, v3, us3, rs, r, rfl, SR0, R0⟩, hb⟩
    have SR : Hid (LoRes bs qs F L ya yb yc yd rs r) := SR0
    have M3 : Hid (uptoY rs rs.length ≤ 2000000) := SR0.size
    obtain ⟨a0, c0, rfl, _, _⟩ := R0.shape
    have l0 := R0.len.out
    rw [l0] at R0 ⊢
    have T0 : Hid ((∀ k, (Value.slice a0 rs.length c0).ownBlock = some k → k < w3.heap.size) ∧ ∀ u ∈ us3, ∀ k, u.ownBlock = some k → k < w3.heap.size) := ⟨fun k hk => (R0.lts.1 k hk).2, fun u hu k hk => (R0.lts.2 u hu k hk).2⟩
    have VL0 : w.heap.size < w3.heap.size := Nat.lt_of_lt_of_le V.lt hb.size
    replace V := V.below hb
    replace B := B.trans (hb.mono B.size)
    clear hb D2 S2 SR0 l0
    have X0 := Box4.new w3 (lo := w.heap.size) B.size (.int .i64 ya) (.int .i64 yb) (.int .i64 yc) (.int .i64 yd) 28
    have b4' := below1 w3 (.cells #[.int .i64 ya, .int .i64 yb, .int .i64 yc, .int .i64 yd] 28)
    have hr33 : r = r := rfl
    replace V := V.below b4'
    replace R0 := R0.below b4'
    replace B := B.trans (b4'.mono B.size)
    have zX : w3.heap.size < (w3.alloc (.cells #[.int .i64 ya, .int .i64 yb, .int .i64 yc, .int .i64 yd] 28)).heap.size := X0.lt
    clear b4' hr33
    obtain ⟨va, vb, vf, _⟩ := id V
    go_wp2_with fail
    generalize w3.alloc (.cells #[.int .i64 ya, .int .i64 yb, .int .i64 yc, .int .i64 yd] 28) = W3 at *
    generalize hq3 : w3.heap.size = p0 at *
    refine (toDisk_any a a2 c c2 bs qs _ (HB.out.below B) (HQ.out.below B) L1.out L2.out).mono ?_
    rintro e w4 ⟨a4, b4, vs, rfl, Dx, Sx, hb⟩
    have sz4 : W3.heap.size ≤ w4.heap.size := hb.size
    replace V := V.below hb
    replace X0 := X0.below hb
    replace R0 := R0.below hb
    replace B := B.trans (hb.mono B.size)
    clear hb va vb vf
    have X1 := Box2.new w4 (lo := w.heap.size) B.size (.slice (some a4) bs.length bs.length) (.slice b4 qs.length qs.length) 34
    have b5 := below1 w4 (.cells #[.slice (some a4) bs.length bs.length, .slice b4 qs.length qs.length] 34)
    have TX := Dx.tops' (b := w4.heap.size + 1) (by omega)
    replace V := V.below b5
    replace X0 := X0.below b5
    replace R0 := R0.below b5
    replace Dx := Dx.below b5
    replace B := B.trans (b5.mono B.size)
    have z4 : (w4.alloc (.cells #[.slice (some a4) bs.length bs.length, .slice b4 qs.length qs.length] 34)).heap.size = w4.heap.size + 1 := by simp
    clear b5
    go_wp2_with fail
    generalize w4.alloc (.cells #[.slice (some a4) bs.length bs.length, .slice b4 qs.length qs.length] 34) = W4 at *
    generalize hq4 : w4.heap.size = p1 at *
    refine (implLogOpen bE a4 b4 bs.length qs.length vs bs qs F L _ Dx Sx M1.out M2.out H8.out (HE.out.below B wp)).mono ?_
    rintro e w5 ⟨⟨za, zb, zc, zd, v5, us5, rs5, r5, rfl, SR5, Rg⟩, hb⟩
    obtain ⟨e1, e2, e3, e4, e5, e6⟩ := SR.out.one SR5
    subst e1 e2 e3 e4 e5 e6
    obtain ⟨a5, c5, rfl, _, _⟩ := Rg.shape
    have l5 := Rg.len.out
    rw [l5] at Rg ⊢
    rw [z4] at Rg
    have sz5 : p1 + 1 ≤ w5.heap.size := by rw [← z4]; exact hb.size
    replace V := V.below hb
    replace X0 := X0.below hb
    replace X1 := X1.below hb
    replace R0 := R0.below hb
    replace Dx := Dx.below hb
    replace B := B.trans (hb.mono B.size)
    clear hb z4 SR5 l5
    have X2 := Box4.new w5 (lo := w.heap.size) B.size (.int .i64 ya) (.int .i64 yb) (.int .i64 yc) (.int .i64 yd) 28
    have b6 := below1 w5 (.cells #[.int .i64 ya, .int .i64 yb, .int .i64 yc, .int .i64 yd] 28)
    replace V := V.below b6
    replace X0 := X0.below b6
    replace X1 := X1.below b6
    replace R0 := R0.below b6
    replace Rg := Rg.below b6
    replace Dx := Dx.below b6
    replace B := B.trans (b6.mono B.size)
    clear b6
    have hrn : (r != r) = false := by simp
    obtain ⟨g0, g1, g2, g3, _, _⟩ := id X2
    obtain ⟨f0, f1, f2, f3, _, _⟩ := id X0
    go_wp2_with fail
    generalize w5.alloc (.cells #[.int .i64 ya, .int .i64 yb, .int .i64 yc, .int .i64 yd] 28) = W5 at *
    generalize hq5 : w5.heap.size = p5 at *
    refine (eqLog_any ya yb yc yd _).mono ?_
    rintro e w6 ⟨rfl, hb⟩
    replace V := V.below hb
    replace X0 := X0.below hb
    replace X1 := X1.below hb
    replace X2 := X2.below hb
    replace R0 := R0.below hb
    replace Rg := Rg.below hb
    replace Dx := Dx.below hb
    replace B := B.trans (hb.mono B.size)
    clear hb g0 g1 g2 g3 f0 f1 f2 f3
    go_wp2_with fail
    refine (eqBss a5 a0 c5 c0 us5 us3 rs _ Rg R0).mono ?_
    rintro e w7 ⟨rfl, hb⟩
    replace V := V.below hb
    replace X0 := X0.below hb
    replace X1 := X1.below hb
    replace X2 := X2.below hb
    replace R0 := R0.below hb
    replace Rg := Rg.below hb
    replace Dx := Dx.below hb
    replace B := B.trans (hb.mono B.size)
    clear hb
    go_wp2_with fail
    have k0 : w7.cell? ⟨w.heap.size, 0, none⟩ = some (.slice a bs.length c) ∧ w7.cell? ⟨w.heap.size, 1, none⟩ = some (.slice a2 qs.length c2) ∧ w7.cell? ⟨p1, 0, none⟩ = some (.slice (some a4) bs.length bs.length) ∧ w7.cell? ⟨p1, 1, none⟩ = some (.slice b4 qs.length qs.length) := ⟨V.c0, V.c1, X1.c0, X1.c1⟩
    have B1 : Below w7.heap.size w7 w7 := Below.refl _ _
    go_region_held3 (fun w' => w'.cell? ⟨w.heap.size, 0, none⟩ = some (.slice a bs.length c) ∧ w'.cell? ⟨w.heap.size, 1, none⟩ = some (.slice a2 qs.length c2) ∧ w'.cell? ⟨p1, 0, none⟩ = some (.slice (some a4) bs.length bs.length) ∧ w'.cell? ⟨p1, 1, none⟩ = some (.slice b4 qs.length qs.length))
      (first | exact k0 | exact ⟨bat B1 k0.1, bat B1 k0.2.1, bat B1 k0.2.2.1, bat B1 k0.2.2.2⟩)
      (first
        | (go_at_call 6; refine (toDisk_any a a2 c c2 bs qs _ (HB.out.below (B.trans (B1.drew.mono B.size))) (HQ.out.below (B.trans (B1.drew.mono B.size))) L1.out L2.out).mono ?_; rintro e w8 ⟨a6, b6, us6, rfl, D6, _, hb⟩; replace B1 := B1.drew.trans (hb.mono B1.drew.size))
        | (go_at_call 10; refine (eqDisk_any (some a4) b4 (some a6) b6 bs.length qs.length bs.length qs.length vs us6 bs qs _ (Dx.below B1) D6).mono ?_; rintro e w9 ⟨rfl, hb⟩; replace B1 := B1.trans (hb.mono B1.size)))
    have hb := B1
    replace V := V.below hb
    replace X0 := X0.below hb
    replace X1 := X1.below hb
    replace X2 := X2.below hb
    replace R0 := R0.below hb
    replace Rg := Rg.below hb
    replace Dx := Dx.below hb
    replace B := B.trans (hb.mono B.size)
    clear hb B1 k0
    have s9 : p5 < w9.heap.size := X2.lt
    obtain ⟨x1a, x1b, x1f, _⟩ := id X1
    go_wp2_with fail
    refine (markDisk_any (some a4) b4 bs.length qs.length vs bs qs _ Dx M1.out M2.out).mono ?_
    rintro e w10 ⟨rfl, _, K9, hbb⟩
    have hb := hbb W3.heap.size (Nat.le_refl _) (by omega)
    replace R0 := R0.under hb (fun k hk => by have := T0.out.1 k hk; omega) (fun u hu k hk => by have := T0.out.2 u hu k hk; omega)
    replace V := V.underB hb (by omega)
    replace X0 := X0.underO hb zX
    replace X2 := X2.butO K9 (fun u hu e => by have := TX.out u hu _ e; omega)
    replace Rg := Rg.butQ K9 TX.out
    replace B := B.trans (hb.mono (by omega))
    have s10 := K9.1
    obtain ⟨k8, hk8⟩ : ∃ k, Hid (1 + (bs.length : Int) + (uptoQ qs qs.length : Nat) = k) := ⟨_, rfl⟩
    have k8p : ¬ k8 < 0 := by rw [← hk8.out]; omega
    rw [hk8.out]
    clear hb hbb K9 Dx X1 x1a x1b x1f
    obtain ⟨g0, g1, g2, g3, _, _⟩ := id X2
    obtain ⟨f0, f1, f2, f3, _, _⟩ := id X0
    go_wp2_with fail
    refine (eqLog_any ya yb yc yd _).mono ?_
    rintro e w11 ⟨rfl, hb⟩
    replace V := V.below hb
    replace X0 := X0.below hb
    replace X2 := X2.below hb
    replace R0 := R0.below hb
    replace Rg := Rg.below hb
    replace B := B.trans (hb.mono B.size)
    have s11 : p5 < w11.heap.size := X2.lt
    clear hb g0 g1 g2 g3 f0 f1 f2 f3 X2
    go_wp2_with fail
    refine (eqBss a5 a0 c5 c0 us5 us3 rs _ Rg R0).mono ?_
    rintro e w12 ⟨rfl, hb⟩
    have s12 := hb.size
    replace V := V.below hb
    replace X0 := X0.below hb
    replace R0 := R0.below hb
    replace Rg := Rg.below hb
    replace B := B.trans (hb.mono B.size)
    clear hb
    go_wp2_with fail
    refine (markBss (lo := p1 + 1) a5 c5 1 us5 rs _ Rg M3.out (by omega) (by omega) (fun _ => by omega)).mono ?_
    rintro e w13 ⟨rfl, R4, hb⟩
    replace R0 := R0.under hb (fun k hk => by have := T0.out.1 k hk; omega) (fun u hu k hk => by have := T0.out.2 u hu k hk; omega)
    replace V := V.underB hb (by omega)
    replace X0 := X0.underO hb (by omega)
    replace B := B.trans (hb.mono (by omega))
    have R5 : Hid (BsR (p1 + 1) w13 (.slice a5 rs.length c5) us5 (mkYs 1 rs rs.length)) := R4
    obtain ⟨k9, hk9⟩ : ∃ k, Hid (1 + (uptoY rs rs.length : Int) = k) := ⟨_, rfl⟩
    have kp : ¬ k9 < 0 := by rw [← hk9.out]; omega
    have hk9n : (k9 != k9) = false := by simp
    rw [hk9.out]
    clear hb R4 Rg
    go_wp2_with fail
    refine (heldBss a5 c5 1 us5 rs _ R5.out M3.out (by omega) (by omega)).mono ?_
    rintro e w14 ⟨rfl, rfl⟩
    rw [hk9.out]
    obtain ⟨va, vb, vf, _⟩ := id V
    go_wp2_with fail
    refine (toDisk_any a a2 c c2 bs qs _ (HB.out.below B) (HQ.out.below B) L1.out L2.out).mono ?_
    rintro e w15 ⟨a7, b7, us7, rfl, D7, S7, hb⟩
    replace R0 := R0.below hb
    replace X0 := X0.below hb
    have R6 : Hid (BsR (p1 + 1) w15 (.slice a5 rs.length c5) us5 (mkYs 1 rs rs.length)) := R5.out.below hb
    replace B := B.trans (hb.mono B.size)
    clear hb R5 V va vb vf
    go_wp2_with fail
    refine (implLogOpen bE a7 b7 bs.length qs.length us7 bs qs F L _ D7 S7 M1.out M2.out H8.out (HE.out.below B wp)).mono ?_
    rintro e w16 ⟨⟨za, zb, zc, zd, v8, us8, rs8, r8, rfl, SR8, Rh⟩, hb⟩
    obtain ⟨e1, e2, e3, e4, e5, e6⟩ := SR.out.one SR8
    subst e1 e2 e3 e4 e5 e6
    obtain ⟨a8, c8, rfl, _, _⟩ := Rh.shape
    have l8 := Rh.len.out
    rw [l8] at Rh ⊢
    replace R0 := R0.below hb
    replace X0 := X0.below hb
    have R7 : Hid (BsR (p1 + 1) w16 (.slice a5 rs.length c5) us5 (mkYs 1 rs rs.length)) := R6.out.below hb
    replace B := B.trans (hb.mono B.size)
    clear hb R6 D7 S7 SR8 l8
    have X3 := Box4.new w16 (lo := w.heap.size) B.size (.int .i64 ya) (.int .i64 yb) (.int .i64 yc) (.int .i64 yd) 28
    have b7' := below1 w16 (.cells #[.int .i64 ya, .int .i64 yb, .int .i64 yc, .int .i64 yd] 28)
    replace X0 := X0.below b7'
    replace R0 := R0.below b7'
    replace Rh := Rh.below b7'
    have R8 : Hid (BsR (p1 + 1) (w16.alloc (.cells #[.int .i64 ya, .int .i64 yb, .int .i64 yc, .int .i64 yd] 28)) (.slice a5 rs.length c5) us5 (mkYs 1 rs rs.length)) := R7.out.below b7'
    replace B := B.trans (b7'.mono B.size)
    clear b7' R7
    obtain ⟨g0, g1, g2, g3, _, _⟩ := id X3
    obtain ⟨f0, f1, f2, f3, _, _⟩ := id X0
    go_wp2_with fail
    generalize w16.alloc (.cells #[.int .i64 ya, .int .i64 yb, .int .i64 yc, .int .i64 yd] 28) = W16 at *
    refine (eqLog_any ya yb yc yd _).mono ?_
    rintro e w17 ⟨rfl, hb⟩
    replace R0 := R0.below hb
    replace Rh := Rh.below hb
    have R9 : Hid (BsR (p1 + 1) w17 (.slice a5 rs.length c5) us5 (mkYs 1 rs rs.length)) := R8.out.below hb
    replace B := B.trans (hb.mono B.size)
    clear hb R8 g0 g1 g2 g3 f0 f1 f2 f3 X0 X3
    go_wp2_with fail
    refine (eqBss a8 a0 c8 c0 us8 us3 rs _ Rh R0).mono ?_
    rintro e w18 ⟨rfl, hb⟩
    have RA : Hid (BsR (p1 + 1) w18 (.slice a5 rs.length c5) us5 (mkYs 1 rs rs.length)) := R9.out.below hb
    replace B := B.trans (hb.mono B.size)
    clear hb R9
    go_wp2_with fail
    refine (heldBss a5 c5 1 us5 rs _ RA.out M3.out (by omega) (by omega)).mono ?_
    rintro e w19 ⟨rfl, rfl⟩
    rw [hk9.out]
    go_wp2
    go_ret
    exact ⟨rfl, B⟩
end Go.Proofs.YtgcaemhcdpddiaaDoor
