/- The law on ReadSector: at every argument the program's ReadSector is the specification's; it writes into no argument; its answer owns its memory. -/
import Derived.Test.YtjpnkmhmipendaaDoorRsI
import Derived.Test.YtjpnkmhmipendaaDoorDkB
namespace Go.Proofs.YtjpnkmhmipendaaDoor
open Go.RowKit

theorem rsN_len {bs : List Int} {qs : List Wr} (h : DkOk bs qs) (t : Nat) : ∀ j, j ≤ qs.length → (rsN bs qs t j).length ≤ 64
  | 0, _ => by unfold rsN; simp; omega
  | j + 1, hj => by
    have ok := h.2.2.2 j (by omega)
    unfold rsN
    split
    · rw [ok.2.2]; omega
    · exact rsN_len h t j (by omega)
theorem RsRes.len {bs : List Int} {qs : List Wr} {at' : Int} {res : List Int} {r : Bool} (h : RsRes bs qs at' res r) : res.length ≤ 2000000 := by
  rcases h with ⟨a, b, _⟩ | ⟨_, b, _⟩
  · rw [b]
    have := rsN_len a.1 at'.toNat qs.length (Nat.le_refl _)
    omega
  · rw [b]; simp

set_option maxRecDepth 20000 in
set_option maxHeartbeats 4000000 in
theorem lawReadSector (a a2 : Option Addr) (c c2 : Nat) (bs : List Int) (qs : List Wr) (at' : Int) (w : World) (h : SeesB w a c bs) (k : SeesQ w a2 c2 qs) (bE : Addr) (E : Er bE w) :
    Calls Tryd.prog 4 #[.agg #[.slice a bs.length c, .slice a2 qs.length c2], .int .i64 at'] w fun e w' => e = .returned (.bool true) ∧ Below w.heap.size w w' := by
  have hm := h.max
  have hf := h.fits
  unfold maxLen at hm
  have HB : Hid (SeesB w a c bs) := h
  have HE : Hid (Er bE w) := E
  have wp := E.pos
  have HQ : Hid (SeesQ w a2 c2 qs) := k
  have B := below1 w (.cells #[.slice a bs.length c, .slice a2 qs.length c2] 25)
  have V := Box2.new w (lo := w.heap.size) (Nat.le_refl _) (.slice a bs.length c) (.slice a2 qs.length c2) 25
  clear h k E
  go_enter Tryd.func4, Tryd.ntmps4
  go_wp2_with fail
  refine (szDisk_any a a2 c c2 bs.length qs 1048576 _ (by omega) (HQ.out.below B) ⟨by omega, by omega⟩).mono ?_
  rintro e w1 ⟨z, rfl, hz, hb⟩
  have HZ : Hid (z = -1 ∨ (0 ≤ z ∧ z + bs.length + (uptoQ qs qs.length : Nat) = 1048576)) := hz
  replace V := V.below hb
  replace B := B.trans (hb.mono B.size)
  clear hb hz
  by_cases h0 : z < 0
  · go_wp2
    go_ret
    exact ⟨rfl, B⟩
  · have L1 : Hid (bs.length ≤ 1048576) := by show _ ≤ _; have := HZ.out; omega
    have L2 : Hid (uptoQ qs qs.length ≤ 1048576) := by show _ ≤ _; have := HZ.out; omega
    have M1 : Hid (bs.length ≤ 2000000) := Nat.le_trans L1.out (by omega)
    have M2 : Hid (uptoQ qs qs.length ≤ 2000000) := Nat.le_trans L2.out (by omega)
    obtain ⟨v0, v1, vf, _⟩ := id V
    go_wp2_with fail
    refine (toDisk_any a a2 c c2 bs qs _ (HB.out.below B) (HQ.out.below B) L1.out L2.out).mono ?_
    rintro e w2 ⟨a3, b3, us, rfl, D2, S2, hb⟩
    replace V := V.below hb
    replace B := B.trans (hb.mono B.size)
    clear hb v0 v1 vf
    go_wp2_with fail
    refine (specReadSector a3 b3 bs.length qs.length us bs qs at' _ D2 S2 M1.out M2.out).mono ?_
    rintro e w3 ⟨a0, c0, res, r, rfl, SR0, R0, hb⟩
    have SR : Hid (RsRes bs qs at' res r) := SR0
    have M3 : Hid (res.length ≤ 2000000) := SR0.len
    have T0 : Hid (∀ k, (Value.slice (some a0) res.length c0).ownBlock = some k → k < w3.heap.size) := fun k hk => (World.ownsRow.lt R0 k hk).2
    replace V := V.below hb
    replace B := B.trans (hb.mono B.size)
    clear hb D2 S2 SR0
    obtain ⟨va, vb, vf, _⟩ := id V
    go_wp2_with fail
    refine (toDisk_any a a2 c c2 bs qs _ (HB.out.below B) (HQ.out.below B) L1.out L2.out).mono ?_
    rintro e w4 ⟨a4, b4, vs, rfl, Dx, Sx, hb⟩
    have sz0 := B.size
    have VL0 : w.heap.size < w3.heap.size := V.lt
    have sz4 : w3.heap.size ≤ w4.heap.size := hb.size
    replace V := V.below hb
    replace R0 := R0.below hb
    replace B := B.trans (hb.mono B.size)
    clear hb
    clear va vb vf
    have X1 := Box2.new w4 (lo := w.heap.size) B.size (.slice (some a4) bs.length bs.length) (.slice b4 qs.length qs.length) 30
    have b5 := below1 w4 (.cells #[.slice (some a4) bs.length bs.length, .slice b4 qs.length qs.length] 30)
    have N1 := Dx.nots (p := w4.heap.size) (.inl (Nat.le_refl _))
    have TX := Dx.tops' (b := w4.heap.size + 1) (by omega)
    have wl : w.heap.size < w3.heap.size ∨ w.heap.size ≤ w3.heap.size := .inr sz0
    replace V := V.below b5
    replace R0 := R0.below b5
    replace Dx := Dx.below b5
    replace B := B.trans (b5.mono B.size)
    have z4 : (w4.alloc (.cells #[.slice (some a4) bs.length bs.length, .slice b4 qs.length qs.length] 30)).heap.size = w4.heap.size + 1 := by simp
    clear b5 wl
    go_wp2_with fail
    refine (implReadSector bE a4 b4 bs.length qs.length vs bs qs at' _ Dx M1.out M2.out (HE.out.below B wp)).mono ?_
    rintro e w5 ⟨a5, c5, res5, r5, rfl, SR5, Rg, hb⟩
    obtain ⟨e1, e2⟩ := SR5.one SR.out
    subst e1 e2
    rw [z4] at Rg
    have sz5 : w4.heap.size + 1 ≤ w5.heap.size := by rw [← z4]; exact hb.size
    replace V := V.below hb
    replace X1 := X1.below hb
    replace R0 := R0.below hb
    replace Dx := Dx.below hb
    replace B := B.trans (hb.mono B.size)
    clear hb z4 SR5
    have hrn : (r5 != r5) = false := by simp
    have VL := VL0
    clear VL0
    generalize hq3 : w3.heap.size = p0 at *
    generalize hq4 : w4.heap.size = p1 at *
    go_wp2_with fail
    refine (eqByE (t := 56) (t' := 5) a5 (some a0) c5 c0 res5 _ Rg R0).mono ?_
    rintro e w6 ⟨rfl, hb⟩
    have s6 := hb.size
    replace V := V.below hb
    replace X1 := X1.below hb
    replace R0 := R0.below hb
    replace Rg := Rg.below hb
    replace Dx := Dx.below hb
    replace B := B.trans (hb.mono B.size)
    clear hb
    obtain ⟨va, vb, vf, _⟩ := id V
    obtain ⟨x1a, x1b, x1f, _⟩ := id X1
    go_wp2_with fail
    have k0 : w6.cell? ⟨w.heap.size, 0, none⟩ = some (.slice a bs.length c) ∧ w6.cell? ⟨w.heap.size, 1, none⟩ = some (.slice a2 qs.length c2) ∧ w6.cell? ⟨p1, 0, none⟩ = some (.slice (some a4) bs.length bs.length) ∧ w6.cell? ⟨p1, 1, none⟩ = some (.slice b4 qs.length qs.length) := ⟨va, vb, x1a, x1b⟩
    have B1 : Below w6.heap.size w6 w6 := Below.refl _ _
    clear va vb vf x1a x1b x1f
    go_region_held3 (fun w' => w'.cell? ⟨w.heap.size, 0, none⟩ = some (.slice a bs.length c) ∧ w'.cell? ⟨w.heap.size, 1, none⟩ = some (.slice a2 qs.length c2) ∧ w'.cell? ⟨p1, 0, none⟩ = some (.slice (some a4) bs.length bs.length) ∧ w'.cell? ⟨p1, 1, none⟩ = some (.slice b4 qs.length qs.length))
      (first | exact k0 | exact ⟨bat B1 k0.1, bat B1 k0.2.1, bat B1 k0.2.2.1, bat B1 k0.2.2.2⟩)
      (first
        | (go_at_call 10; refine (toDisk_any a a2 c c2 bs qs _ (HB.out.below (B.trans (B1.drew.mono B.size))) (HQ.out.below (B.trans (B1.drew.mono B.size))) L1.out L2.out).mono ?_; rintro e w7 ⟨a6, b6, us6, rfl, D6, _, hb⟩; replace B1 := B1.drew.trans (hb.mono B1.drew.size))
        | (go_at_call 12; refine (eqDisk_any (some a4) b4 (some a6) b6 bs.length qs.length bs.length qs.length vs us6 bs qs _ (Dx.below B1) D6).mono ?_; rintro e w8 ⟨rfl, hb⟩; replace B1 := B1.trans (hb.mono B1.size)))
    have s8 := B1.size
    replace V := V.below B1
    replace X1 := X1.below B1
    replace R0 := R0.below B1
    replace Rg := Rg.below B1
    replace Dx := Dx.below B1
    replace B := B.trans (B1.mono B.size)
    clear B1 k0
    obtain ⟨x1a, x1b, x1f, _⟩ := id X1
    go_wp2_with fail
    refine (markDisk_any (some a4) b4 bs.length qs.length vs bs qs _ Dx M1.out M2.out).mono ?_
    rintro e w9 ⟨rfl, _, K9, hbb⟩
    have hb := hbb p0 (Nat.le_refl _) (by omega)
    replace R0 := owns_under R0 hb T0.out
    replace V := V.underB hb VL
    replace Rg := owns_butQ Rg K9 TX.out
    replace B := B.trans (hb.mono (by omega))
    have s9 := K9.1
    obtain ⟨k8, hk8⟩ : ∃ k, Hid (1 + (bs.length : Int) + (uptoQ qs qs.length : Nat) = k) := ⟨_, rfl⟩
    have k8p : 0 ≤ k8 := by rw [← hk8.out]; omega
    rw [hk8.out]
    clear hb hbb K9 Dx X1
    clear x1a x1b x1f
    go_wp2_with fail
    refine (eqByE (t := 56) (t' := 5) a5 (some a0) c5 c0 res5 _ Rg R0).mono ?_
    rintro e w10 ⟨rfl, hb⟩
    have s10 := hb.size
    replace V := V.below hb
    replace R0 := owns_below R0 hb
    replace Rg := owns_below Rg hb
    replace B := B.trans (hb.mono B.size)
    clear hb
    go_wp2_with fail
    refine (markByE (t := 56) (base := p1 + 1) a5 c5 1 res5 _ Rg M3.out (by omega) (by omega)).mono ?_
    rintro e w11 ⟨rfl, R4, G4⟩
    have hb : Below (p1 + 1) w10 w11 := (Below.refl (p1 + 1) w10).grown G4 (by omega) (fun k hk => (World.ownsRow.lt Rg k hk).1)
    replace R0 := owns_under R0 hb (fun k hk => by have := T0.out k hk; omega)
    replace V := V.underB hb (by omega)
    replace B := B.trans (hb.mono (by omega))
    have R5 : Hid (RowE 56 (p1 + 1) w11 (.slice a5 (mkY 1 res5.length).length c5) (mkY 1 res5.length)) := R4
    obtain ⟨k9, hk9⟩ : ∃ k, Hid (1 + (res5.length : Int) = k) := ⟨_, rfl⟩
    have kp : 0 ≤ k9 := by rw [← hk9.out]; omega
    have hk9n : (k9 != k9) = false := by simp
    rw [hk9.out]
    clear hb R4 G4 Rg
    go_wp2_with fail
    refine (heldByE (t := 56) (base := p1 + 1) a5 c5 res5.length 1 _ R5.out M3.out (by omega) (by omega)).mono ?_
    rintro e w12 ⟨rfl, rfl⟩
    rw [hk9.out]
    obtain ⟨va, vb, vf, _⟩ := id V
    go_wp2_with fail
    refine (toDisk_any a a2 c c2 bs qs _ (HB.out.below B) (HQ.out.below B) L1.out L2.out).mono ?_
    rintro e w13 ⟨a7, b7, us7, rfl, D7, S7, hb⟩
    replace R0 := owns_below R0 hb
    have R6 : Hid (RowE 56 (p1 + 1) w13 (.slice a5 (mkY 1 res5.length).length c5) (mkY 1 res5.length)) := R5.out.below hb
    replace B := B.trans (hb.mono B.size)
    clear hb R5 V
    clear va vb vf
    go_wp2_with fail
    refine (implReadSector bE a7 b7 bs.length qs.length us7 bs qs at' _ D7 M1.out M2.out (HE.out.below B wp)).mono ?_
    rintro e w14 ⟨a8, c8, res8, r8, rfl, SR8, Rh, hb⟩
    obtain ⟨e1, e2⟩ := SR8.one SR.out
    subst e1 e2
    replace R0 := owns_below R0 hb
    have R7 : Hid (RowE 56 (p1 + 1) w14 (.slice a5 (mkY 1 res8.length).length c5) (mkY 1 res8.length)) := R6.out.below hb
    replace B := B.trans (hb.mono B.size)
    clear hb R6 D7 S7 SR8
    go_wp2_with fail
    refine (eqByE (t := 56) (t' := 5) a8 (some a0) c8 c0 res8 _ Rh R0).mono ?_
    rintro e w15 ⟨rfl, hb⟩
    have R8 : Hid (RowE 56 (p1 + 1) w15 (.slice a5 (mkY 1 res8.length).length c5) (mkY 1 res8.length)) := R7.out.below hb
    replace B := B.trans (hb.mono B.size)
    clear hb R7
    go_wp2_with fail
    refine (heldByE (t := 56) (base := p1 + 1) a5 c5 res8.length 1 _ R8.out M3.out (by omega) (by omega)).mono ?_
    rintro e w16 ⟨rfl, rfl⟩
    rw [hk9.out]
    go_wp2
    go_ret
    exact ⟨rfl, B⟩
end Go.Proofs.YtjpnkmhmipendaaDoor
