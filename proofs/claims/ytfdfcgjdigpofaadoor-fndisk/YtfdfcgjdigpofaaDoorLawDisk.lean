/- The law on drawn disks: behind a Sync a crash changes nothing; behind a crash each sector is one of those that it was, or was to be; with all coins a crash is a Sync; what is read is what a Sync brings. -/
import Derived.Test.YtfdfcgjdigpofaaDoorDrCr
import Derived.Test.YtfdfcgjdigpofaaDoorDkOkS
import Derived.Test.YtfdfcgjdigpofaaDoorRsI
import Derived.Test.YtfdfcgjdigpofaaDoorDkD
import Derived.Test.YtfdfcgjdigpofaaDoorSamB
import Derived.Test.YtfdfcgjdigpofaaDoorCrI
import Derived.Test.YtfdfcgjdigpofaaDoorBig
namespace Go.Proofs.YtfdfcgjdigpofaaDoor
open Go.RowKit

theorem SeesB.sec {w : World} {b off c k : Nat} {bs : List Int} (h : SeesB w (some ⟨b, off, none⟩) c bs) (hk : (k + 1) * 64 ≤ bs.length) : SeesB w (some ⟨b, off + k * 64, none⟩) (c - k * 64) (secN bs k) := by
  have hl : (secN bs k).length = 64 := by unfold secN; simp; omega
  have hf := h.fits
  have hm := h.max
  refine ⟨by rw [hl]; omega, by unfold maxLen at *; omega, fun _ => ⟨b, off + k * 64, rfl, fun i hi => ?_⟩⟩
  rw [hl] at hi
  obtain ⟨b', off', e, hc⟩ := h.cells (by intro e; rw [e] at hk; simp at hk)
  injection e with e
  injection e with e1 e2
  subst e1 e2
  rw [Nat.add_assoc, hc (k * 64 + i) (by omega)]
  unfold secN
  rw [List.getElem?_take_of_lt hi, List.getElem?_drop]
theorem secN_len' {bs : List Int} {k : Nat} (hk : (k + 1) * 64 ≤ bs.length) : (secN bs k).length = 64 := by unfold secN; simp; omega
theorem RowE.seesB {t : TypeId} {base : Nat} {w : World} {a : Option Addr} {cap : Nat} {bs : List Int} (h : RowE t base w (.slice a bs.length cap) bs) : SeesB w a cap bs := by
  obtain ⟨hf, hm⟩ := h.caps
  refine ⟨hf, hm, fun hn => ?_⟩
  have hp : 0 < bs.length := List.length_pos_iff.2 hn
  obtain ⟨q, rfl, _, _⟩ := h.at2 hp
  exact ⟨q, 0, rfl, fun i hi => by rw [Nat.zero_add]; exact h.at' hi⟩
theorem CrRes.ok {bs : List Int} {qs : List Wr} {ds b1 : List Int} {q1 : List Wr} (h : CrRes bs qs ds b1 q1) (hk : DkOk bs qs) : b1 = skN (coin ds) bs qs qs.length ∧ q1 = [] := by
  rcases h with ⟨_, a, b⟩ | ⟨a, _⟩
  · exact ⟨a, b⟩
  · exact absurd hk a
theorem SyRes.ok {bs : List Int} {qs : List Wr} {b1 : List Int} {q1 : List Wr} (h : SyRes bs qs b1 q1) (hk : DkOk bs qs) : b1 = syN bs qs qs.length ∧ q1 = [] := by
  rcases h with ⟨_, a, b⟩ | ⟨a, _⟩
  · exact ⟨a, b⟩
  · exact absurd hk a
theorem row255 (w : World) : RowB w.heap.size (w.alloc (.cells #[.int .u8 255, .int .u8 255, .int .u8 255] 5)) (.slice (some ⟨w.heap.size, 0, none⟩) 3 3) [255, 255, 255] :=
  ⟨rfl, .inr ⟨w.heap.size, 3, #[.int .u8 255, .int .u8 255, .int .u8 255], rfl, Nat.le_refl _, heap_alloc_new _ _, Nat.le_refl _, by simp [maxLen], rfl, rfl⟩⟩
theorem fieldD0 (a b : Option Addr) (n c k d : Nat) (w : World) : (Instr.field 26 (.agg #[.slice a n c, .slice b k d]) 0).run Tryd.prog w = .ok (.slice a n c) w := by kernel_rfl
theorem in255 : ∀ x ∈ [(255 : Int), 255, 255], 0 ≤ x ∧ x < 256 := by simp

set_option maxRecDepth 20000 in
set_option maxHeartbeats 3000000 in
theorem lawDisk (a : Option Addr) (n cap : Nat) (w : World) (hB : Byt w a n) (bE : Addr) (E : Er bE w) :
    Calls Tryd.prog 3 #[.slice a n cap] w fun e w' => e = .returned (.bool true) ∧ Below w.heap.size w w' := by
  by_cases hs : n ≤ 1048576
  · have hd : decide (1048576 < (n : Int)) = false := decide_eq_false (by omega)
    have HE : Hid (Er bE w) := E
    have wp := E.pos
    clear E
    go_enter Tryd.func3, Tryd.ntmps3
    go_wp2_with fail
    refine (bigB_any a n cap _).mono ?_
    rintro e w0 ⟨rfl, rfl⟩
    rw [hd]
    clear hd
    go_wp2_with fail
    refine (drawCrash_any a n cap _ hB hs).mono ?_
    rintro e w1 ⟨ab, cb, a2, c2, vs, bs, qs, gd, cd, ds, rfl, DD, RD, h8, hdl, B⟩
    have H8 : Hid (∀ x ∈ ds, 0 ≤ x ∧ x < 256) := h8
    have V3 := Box2.new w1 (lo := w0.heap.size) B.size (.slice ab bs.length cb) (.slice a2 qs.length c2) 26
    have hb := below1 w1 (.cells #[.slice ab bs.length cb, .slice a2 qs.length c2] 26)
    replace DD := DD.below hb
    replace RD := RD.below hb
    replace B := B.trans (hb.mono B.size)
    clear hb hB h8
    go_upto_region 4 with fail
    generalize hp3 : w1.heap.size = p3 at *
    generalize w1.alloc (.cells #[.slice ab bs.length cb, .slice a2 qs.length c2] 26) = W1 at *
    obtain ⟨t0, t1, tf, _⟩ := id V3
    go_wp2_with fail
    refine (specDiskOkS ab a2 cb c2 vs bs qs _ DD.sees DD.que).mono ?_
    rintro e w2 ⟨r, rfl, hr, hb⟩
    have HRr : Hid (r = true ↔ DkOk bs qs) := hr
    replace V3 := V3.below hb
    replace DD := DD.below hb
    replace RD := RD.below hb
    replace B := B.trans (hb.mono B.size)
    clear hb t0 t1 tf hr
    cases r with
    | false =>
      have HN : Hid (¬DkOk bs qs) := fun q => by have := HRr.out.2 q; cases this
      obtain ⟨t0, t1, tf, _⟩ := id V3
      go_wp2_with fail
      refine (implDiskOkS bE ab a2 cb c2 vs bs qs _ DD.sees DD.que (HE.out.below B wp)).mono ?_
      rintro e w3 ⟨r, rfl, hr, hb⟩
      replace B := B.trans (hb.mono B.size)
      cases r with
      | true => exact absurd (hr.1 rfl) HN.out
      | false =>
        clear hb hr t0 t1 tf
        go_wp2
        go_ret
        exact ⟨rfl, B⟩
    | true =>
      have HOk : Hid (DkOk bs qs) := HRr.out.1 rfl
      clear HRr
      obtain ⟨ad, eab, D⟩ := DD.good HOk.out
      subst eab
      have SV : Hid (SomeV vs) := DD.smv
      have hbl : bs.length ≤ 384 := DD.len
      have hql : qs.length ≤ 6 := DD.qlen
      have HUP : Hid (uptoQ qs qs.length ≤ 400) := DD.up
      clear DD
      obtain ⟨m, hm⟩ : ∃ m, Hid (bs.length / 64 = m) := ⟨_, rfl⟩
      have hm64 : m * 64 = bs.length := by have := HOk.out.1; have := hm.out; omega
      have hqd : (bs.length : Int).tdiv 64 = (m : Int) := by rw [Int.tdiv_eq_ediv_of_nonneg (by omega)]; omega
      obtain ⟨gb, ead, _, _⟩ := D.row.at2 (j := 0) (by have := HOk.out.2.1; omega)
      injection ead with ead
      subst ead
      have hmp : 1 ≤ m := by have := HOk.out.2.1; have := hm.out; omega
      obtain ⟨t0, t1, tf, _⟩ := id V3
      go_wp2_with fail
      refine (implSync bE ⟨gb, 0, none⟩ a2 cb c2 vs bs qs _ D SV.out (by omega) (by have := HUP.out; omega) (HE.out.below B wp)).mono ?_
      rintro e w3 ⟨ads, cs, bq, dq, vs5, bsS, qsS, rfl, SR, DS, SV5, hb⟩
      obtain ⟨e1, e2⟩ := SR.ok HOk.out
      subst e2
      have HS : Hid (bsS = syN bs qs qs.length) := e1
      have LN : Hid (bsS.length = bs.length) := SR.len
      have OKS : Hid (DkOk bsS []) := HOk.out.none SR.len
      have HSV5 : Hid (SomeV vs5) := SV5
      replace V3 := V3.below hb
      replace D := D.below hb
      replace RD := RD.below hb
      replace B := B.trans (hb.mono B.size)
      clear hb t0 t1 tf SR SV5 e1
      have V5 := Box2.new w3 (lo := w0.heap.size) B.size (.slice (some ads) bs.length cs) (.slice bq 0 dq) 26
      have hb := below1 w3 (.cells #[.slice (some ads) bs.length cs, .slice bq 0 dq] 26)
      replace V3 := V3.below hb
      replace D := D.below hb
      replace DS := DS.below hb
      replace RD := RD.below hb
      replace B := B.trans (hb.mono B.size)
      clear hb
      go_upto_region 7 with fail
      generalize hp5 : w3.heap.size = p5 at *
      generalize w3.alloc (.cells #[.slice (some ads) bs.length cs, .slice bq 0 dq] 26) = W3 at *
      have bd := ((Below.refl W3.heap.size W3).drew : Below W3.heap.size W3 _)
      have N : W3.drew.cell? ⟨p3, 0, none⟩ = some (.slice (some ⟨gb, 0, none⟩) bs.length cb) ∧ W3.drew.cell? ⟨p3, 1, none⟩ = some (.slice a2 qs.length c2) ∧ W3.drew.cell? ⟨p5, 0, none⟩ = some (.slice (some ads) bs.length cs) ∧ W3.drew.cell? ⟨p5, 1, none⟩ = some (.slice bq 0 dq) := ⟨V3.c0, V3.c1, V5.c0, V5.c1⟩
      replace V3 := V3.below bd
      replace V5 := V5.below bd
      replace D := D.below bd
      replace DS := DS.below bd
      replace RD := RD.below bd
      replace B := B.trans (bd.mono B.size)
      clear bd
      refine wp_region_held_drew (S := fun W => W.cell? ⟨p3, 0, none⟩ = some (.slice (some ⟨gb, 0, none⟩) bs.length cb) ∧ W.cell? ⟨p3, 1, none⟩ = some (.slice a2 qs.length c2) ∧ W.cell? ⟨p5, 0, none⟩ = some (.slice (some ads) bs.length cs) ∧ W.cell? ⟨p5, 1, none⟩ = some (.slice bq 0 dq)) (by kernel_rfl) N (fun hHeld => ?_)
      clear hHeld
      have INTRO := And.intro N (And.intro V3 (And.intro V5 (And.intro D (And.intro DS (And.intro RD B)))))
      clear N V3 V5 D DS RD B
      revert INTRO
      generalize W3.drew = ww0
      rintro ⟨N, V3, V5, D, DS, RD, B⟩
      refine takeW (i := 0) (by simp only [List.getElem?_toArray, List.getElem?_cons_zero]; exact rfl) (by kernel_rfl) (by kernel_rfl) (by kernel_rfl) (by exact fun _ _ _ h => h) (by rfl) (by intro wq hSw; go_simp <;> with_reducible rfl) (by assumption) ?_
      try simp only [Act.put, List.setIfInBounds_toArray, List.set_cons_zero, List.set_cons_succ]
      refine takeW (i := 1) (by simp only [List.getElem?_toArray, List.getElem?_cons_succ, List.getElem?_cons_zero]; exact rfl) (by kernel_rfl) (by kernel_rfl) (by kernel_rfl) (by exact fun _ _ _ h => h) (by rfl) (by intro wq hSw; obtain ⟨p1, p2, p4, p5⟩ := hSw; go_simp <;> with_reducible rfl) (by assumption) ?_
      try simp only [Act.put, List.setIfInBounds_toArray, List.set_cons_zero, List.set_cons_succ]
      refine takeW (i := 2) (by simp only [List.getElem?_toArray, List.getElem?_cons_succ, List.getElem?_cons_zero]; exact rfl) (by kernel_rfl) (by kernel_rfl) (by kernel_rfl) (by exact fun _ _ _ h => h) (by rfl) (by intro wq hSw; go_simp <;> with_reducible rfl) (by assumption) ?_
      try simp only [Act.put, List.setIfInBounds_toArray, List.set_cons_zero, List.set_cons_succ]
      refine takeW (i := 3) (by simp only [List.getElem?_toArray, List.getElem?_cons_succ, List.getElem?_cons_zero]; exact rfl) (by kernel_rfl) (by kernel_rfl) (by kernel_rfl) (by exact fun _ _ _ h => h) (by rfl) (by intro wq hSw; go_simp <;> with_reducible rfl) (by assumption) ?_
      try simp only [Act.put, List.setIfInBounds_toArray, List.set_cons_zero, List.set_cons_succ]
      refine takeW (i := 4) (by simp only [List.getElem?_toArray, List.getElem?_cons_succ, List.getElem?_cons_zero]; exact rfl) (by kernel_rfl) (by kernel_rfl) (by kernel_rfl) (by exact fun _ _ _ h => h) (by rfl) (by intro wq hSw; go_simp <;> with_reducible rfl) (by assumption) ?_
      try simp only [Act.put, List.setIfInBounds_toArray, List.set_cons_zero, List.set_cons_succ]
      refine takeW (i := 5) (by simp only [List.getElem?_toArray, List.getElem?_cons_succ, List.getElem?_cons_zero]; exact rfl) (by kernel_rfl) (by kernel_rfl) (by kernel_rfl) (by exact fun _ _ _ h => h) (by rfl) (by intro wq hSw; obtain ⟨p1, p2, p4, p5⟩ := hSw; go_simp <;> with_reducible rfl) (by assumption) ?_
      try simp only [Act.put, List.setIfInBounds_toArray, List.set_cons_zero, List.set_cons_succ]
      refine takeW (i := 6) (by simp only [List.getElem?_toArray, List.getElem?_cons_succ, List.getElem?_cons_zero]; exact rfl) (by kernel_rfl) (by kernel_rfl) (by kernel_rfl) (by exact fun _ _ _ h => h) (by rfl) (by intro wq hSw; go_simp <;> with_reducible rfl) (by assumption) ?_
      try simp only [Act.put, List.setIfInBounds_toArray, List.set_cons_zero, List.set_cons_succ]
      refine takeW (i := 9) (by simp only [List.getElem?_toArray, List.getElem?_cons_succ, List.getElem?_cons_zero]; exact rfl) (by kernel_rfl) (by kernel_rfl) (by kernel_rfl) (by exact fun _ _ _ h => h) (by rfl) (by intro wq hSw; go_simp <;> with_reducible rfl) (by assumption) ?_
      try simp only [Act.put, List.setIfInBounds_toArray, List.set_cons_zero, List.set_cons_succ]
      refine takeW (i := 10) (by simp only [List.getElem?_toArray, List.getElem?_cons_succ, List.getElem?_cons_zero]; exact rfl) (by kernel_rfl) (by kernel_rfl) (by kernel_rfl) (by exact fun _ _ _ h => h) (by rfl) (by intro wq hSw; obtain ⟨p1, p2, p4, p5⟩ := hSw; go_simp <;> with_reducible rfl) (by assumption) ?_
      try simp only [Act.put, List.setIfInBounds_toArray, List.set_cons_zero, List.set_cons_succ]
      refine wpAnyH_ready (rs := [7]) (by kernel_rfl) (by simp) (AllReadyH.cons (by simp only [List.getElem?_toArray, List.getElem?_cons_succ, List.getElem?_cons_zero]; exact rfl) (fun K9 hK => ?_) AllReadyH.nil)
      go_simp
      have DS2 : DkR w2.heap.size ww0 (.slice (some ads) bsS.length cs) (.slice bq ([] : List Wr).length dq) vs5 bsS [] := by rw [LN.out]; exact DS
      have CS := implCrash bE ads bq cs dq vs5 bsS [] ⟨gd, 0, none⟩ cd ds ww0 DS2 HSV5.out RD H8.out (by rw [LN.out]; omega) (by simp [uptoQ]) (HE.out.below B wp)
      rw [LN.out] at CS
      refine CS.mono ?_
      rintro e ww1 ⟨ad7, c7, b7, d7, vs7, bs7, qs7, rfl, SR7, D7, SV7, hb⟩
      obtain ⟨e7, e8⟩ := SR7.ok OKS.out
      have e9 : bs7 = bsS := e7
      subst e9
      subst e8
      have S7 : Hid (SeesB ww1 (some ad7) c7 bs7) := by have := D7.row; rw [← LN.out] at this; exact this.seesB
      have N1 : _ ∧ _ ∧ _ ∧ _ := ⟨bat hb N.1, bat hb N.2.1, bat hb N.2.2.1, bat hb N.2.2.2⟩
      replace V3 := V3.below hb
      replace V5 := V5.below hb
      replace D := D.below hb
      replace DS := DS.below hb
      replace RD := RD.below hb
      replace B := B.trans (hb.mono B.size)
      refine hK.out _ _ N1 (fun hHeld => ?_)
      clear hK K9 hHeld N hb CS DS2 D7 SV7 SR7 e7
      try simp only [Act.put, List.setIfInBounds_toArray, List.set_cons_zero, List.set_cons_succ]
      refine takeW (i := 8) (v := .slice (some ad7) bs.length c7) (by simp only [List.getElem?_toArray, List.getElem?_cons_succ, List.getElem?_cons_zero]; exact rfl) (by kernel_rfl) (by kernel_rfl) (by kernel_rfl) (by exact fun _ _ _ h => h) (by rfl) (by intro wq hSw; go_simp; rw [fieldD0]; rfl) (by assumption) ?_
      try simp only [Act.put, List.setIfInBounds_toArray, List.set_cons_zero, List.set_cons_succ]
      refine wpAnyH_ready (rs := [11]) (by kernel_rfl) (by simp) (AllReadyH.cons (by simp only [List.getElem?_toArray, List.getElem?_cons_succ, List.getElem?_cons_zero]; exact rfl) (fun K9 hK => ?_) AllReadyH.nil)
      go_simp
      have SS : SeesB ww1 (some ads) cs bs7 := by have := DS.row; rw [← LN.out] at this; exact this.seesB
      have SM := sameBytes_any (some ad7) (some ads) c7 cs bs7 bs7 ww1 S7.out SS
      rw [LN.out] at SM
      refine SM.mono ?_
      rintro e ww2 ⟨r, rfl, hr, hb⟩
      have hrt := hr.out.2 rfl
      subst hrt
      have N2 : _ ∧ _ ∧ _ ∧ _ := ⟨bat hb N1.1, bat hb N1.2.1, bat hb N1.2.2.1, bat hb N1.2.2.2⟩
      replace V3 := V3.below hb
      replace V5 := V5.below hb
      replace D := D.below hb
      replace DS := DS.below hb
      replace RD := RD.below hb
      replace B := B.trans (hb.mono B.size)
      refine hK.out _ _ N2 (fun hHeld => ?_)
      clear hK K9 hHeld N1 hb SM SS hr S7
      try simp only [Act.put, List.setIfInBounds_toArray, List.set_cons_zero, List.set_cons_succ]
      refine takeW (i := 12) (by simp only [List.getElem?_toArray, List.getElem?_cons_succ, List.getElem?_cons_zero]; exact rfl) (by kernel_rfl) (by kernel_rfl) (by kernel_rfl) (by exact fun _ _ _ h => h) (by rfl) (by intro wq hSw; go_simp <;> with_reducible rfl) (by assumption) ?_
      try simp only [Act.put, List.setIfInBounds_toArray, List.set_cons_zero, List.set_cons_succ]
      refine takeW (i := 13) (by simp only [List.getElem?_toArray, List.getElem?_cons_succ, List.getElem?_cons_zero]; exact rfl) (by kernel_rfl) (by kernel_rfl) (by kernel_rfl) (by exact fun _ _ _ h => h) (by rfl) (by intro wq hSw; go_simp <;> with_reducible rfl) (by assumption) ?_
      try simp only [Act.put, List.setIfInBounds_toArray, List.set_cons_zero, List.set_cons_succ]
      refine takeW (i := 14) (by simp only [List.getElem?_toArray, List.getElem?_cons_succ, List.getElem?_cons_zero]; exact rfl) (by kernel_rfl) (by kernel_rfl) (by kernel_rfl) (by exact fun _ _ _ h => h) (by rfl) (by intro wq hSw; go_simp <;> with_reducible rfl) (by assumption) ?_
      try simp only [Act.put, List.setIfInBounds_toArray, List.set_cons_zero, List.set_cons_succ]
      refine takeW (i := 15) (by simp only [List.getElem?_toArray, List.getElem?_cons_succ, List.getElem?_cons_zero]; exact rfl) (by kernel_rfl) (by kernel_rfl) (by kernel_rfl) (by exact fun _ _ _ h => h) (by rfl) (by intro wq hSw; obtain ⟨p1, p2, p4, p5⟩ := hSw; go_simp <;> with_reducible rfl) (by assumption) ?_
      try simp only [Act.put, List.setIfInBounds_toArray, List.set_cons_zero, List.set_cons_succ]
      refine takeW (i := 19) (by simp only [List.getElem?_toArray, List.getElem?_cons_succ, List.getElem?_cons_zero]; exact rfl) (by kernel_rfl) (by kernel_rfl) (by kernel_rfl) (by exact fun _ _ _ h => h) (by rfl) (by intro wq hSw; go_simp <;> with_reducible rfl) (by assumption) ?_
      try simp only [Act.put, List.setIfInBounds_toArray, List.set_cons_zero, List.set_cons_succ]
      refine takeW (i := 20) (by simp only [List.getElem?_toArray, List.getElem?_cons_succ, List.getElem?_cons_zero]; exact rfl) (by kernel_rfl) (by kernel_rfl) (by kernel_rfl) (by exact fun _ _ _ h => h) (by rfl) (by intro wq hSw; obtain ⟨p1, p2, p4, p5⟩ := hSw; go_simp <;> with_reducible rfl) (by assumption) ?_
      try simp only [Act.put, List.setIfInBounds_toArray, List.set_cons_zero, List.set_cons_succ]
      refine wpAnyH_ready (rs := [16]) (by kernel_rfl) (by simp) (AllReadyH.cons (by simp only [List.getElem?_toArray, List.getElem?_cons_succ, List.getElem?_cons_zero]; exact rfl) (fun K9 hK => ?_) AllReadyH.nil)
      go_simp
      have bn := below1 ww2 (.cells #[.int .u8 255, .int .u8 255, .int .u8 255] 5)
      have R5 := row255 ww2
      have N3 : _ ∧ _ ∧ _ ∧ _ := ⟨bat bn N2.1, bat bn N2.2.1, bat bn N2.2.2.1, bat bn N2.2.2.2⟩
      replace V3 := V3.below bn
      replace V5 := V5.below bn
      replace D := D.below bn
      replace DS := DS.below bn
      replace RD := RD.below bn
      replace B := B.trans (bn.mono B.size)
      refine hK.out _ _ N3 (fun hHeld => ?_)
      clear hK K9 hHeld N2 bn
      try simp only [Act.put, List.setIfInBounds_toArray, List.set_cons_zero, List.set_cons_succ]
      generalize hz3 : ww2.heap.size = z3 at *
      generalize ww2.alloc (.cells #[.int .u8 255, .int .u8 255, .int .u8 255] 5) = ww3 at *
      refine wpAnyH_ready (rs := [17]) (by kernel_rfl) (by simp) (AllReadyH.cons (by simp only [List.getElem?_toArray, List.getElem?_cons_succ, List.getElem?_cons_zero]; exact rfl) (fun K9 hK => ?_) AllReadyH.nil)
      go_simp
      refine (implCrash bE ⟨gb, 0, none⟩ a2 cb c2 vs bs qs ⟨z3, 0, none⟩ 3 [255, 255, 255] ww3 D SV.out R5 in255 (by omega) (by have := HUP.out; omega) (HE.out.below B wp)).mono ?_
      rintro e ww4 ⟨ad9, c9, b9, d9, vs9, bs9, qs9, rfl, SR9, D9, SV9, hb⟩
      obtain ⟨e7, e8⟩ := SR9.ok HOk.out
      have e9 : bs9 = bs7 := by rw [e7, HS.out]; exact skN_all _ (fun i hi => coin255 i (by omega))
      subst e9
      subst e8
      have S9 : Hid (SeesB ww4 (some ad9) c9 bs9) := by have := D9.row; rw [← LN.out] at this; exact this.seesB
      have N4 : _ ∧ _ ∧ _ ∧ _ := ⟨bat hb N3.1, bat hb N3.2.1, bat hb N3.2.2.1, bat hb N3.2.2.2⟩
      replace V3 := V3.below hb
      replace V5 := V5.below hb
      replace D := D.below hb
      replace DS := DS.below hb
      replace RD := RD.below hb
      replace B := B.trans (hb.mono B.size)
      refine hK.out _ _ N4 (fun hHeld => ?_)
      clear hK K9 hHeld N3 hb D9 SV9 SR9 e7 R5
      try simp only [Act.put, List.setIfInBounds_toArray, List.set_cons_zero, List.set_cons_succ]
      refine takeW (i := 18) (v := .slice (some ad9) bs.length c9) (by simp only [List.getElem?_toArray, List.getElem?_cons_succ, List.getElem?_cons_zero]; exact rfl) (by kernel_rfl) (by kernel_rfl) (by kernel_rfl) (by exact fun _ _ _ h => h) (by rfl) (by intro wq hSw; go_simp; rw [fieldD0]; rfl) (by assumption) ?_
      try simp only [Act.put, List.setIfInBounds_toArray, List.set_cons_zero, List.set_cons_succ]
      refine wpAnyH_ready (rs := [21]) (by kernel_rfl) (by simp) (AllReadyH.cons (by simp only [List.getElem?_toArray, List.getElem?_cons_succ, List.getElem?_cons_zero]; exact rfl) (fun K9 hK => ?_) AllReadyH.nil)
      go_simp
      have SS : SeesB ww4 (some ads) cs bs9 := by have := DS.row; rw [← LN.out] at this; exact this.seesB
      have SM := sameBytes_any (some ad9) (some ads) c9 cs bs9 bs9 ww4 S9.out SS
      rw [LN.out] at SM
      refine SM.mono ?_
      rintro e ww5 ⟨r, rfl, hr, hb⟩
      have hrt := hr.out.2 rfl
      subst hrt
      have N5 : _ ∧ _ ∧ _ ∧ _ := ⟨bat hb N4.1, bat hb N4.2.1, bat hb N4.2.2.1, bat hb N4.2.2.2⟩
      replace V3 := V3.below hb
      replace V5 := V5.below hb
      replace D := D.below hb
      replace DS := DS.below hb
      replace RD := RD.below hb
      replace B := B.trans (hb.mono B.size)
      refine hK.out _ _ N5 (fun hHeld => ?_)
      clear hK K9 hHeld N4 hb SM SS hr S9
      try simp only [Act.put, List.setIfInBounds_toArray, List.set_cons_zero, List.set_cons_succ]
      refine takeW (i := 22) (by simp only [List.getElem?_toArray, List.getElem?_cons_succ, List.getElem?_cons_zero]; exact rfl) (by kernel_rfl) (by kernel_rfl) (by kernel_rfl) (by exact fun _ _ _ h => h) (by rfl) (by intro wq hSw; go_simp <;> with_reducible rfl) (by assumption) ?_
      try simp only [Act.put, List.setIfInBounds_toArray, List.set_cons_zero, List.set_cons_succ]
      refine takeW (i := 23) (by simp only [List.getElem?_toArray, List.getElem?_cons_succ, List.getElem?_cons_zero]; exact rfl) (by kernel_rfl) (by kernel_rfl) (by kernel_rfl) (by exact fun _ _ _ h => h) (by rfl) (by intro wq hSw; go_simp <;> with_reducible rfl) (by assumption) ?_
      try simp only [Act.put, List.setIfInBounds_toArray, List.set_cons_zero, List.set_cons_succ]
      refine wpAnyH_done (by kernel_rfl) ?_ _
      clear N5
      obtain ⟨t0, t1, tf, _⟩ := id V3
      go_wp2_with fail
      refine (implCrash bE ⟨gb, 0, none⟩ a2 cb c2 vs bs qs ⟨gd, 0, none⟩ cd ds ww5 D SV.out RD H8.out (by omega) (by have := HUP.out; omega) (HE.out.below B wp)).mono ?_
      rintro e w6 ⟨adx, cx, bqx, dqx, vsx, bsX, qsX, rfl, SRX, DX, SVX, hb⟩
      obtain ⟨e7, e8⟩ := SRX.ok HOk.out
      subst e8
      have HX : Hid (bsX = skN (coin ds) bs qs qs.length) := e7
      have LX : Hid (bsX.length = bs.length) := SRX.len
      replace V3 := V3.below hb
      replace V5 := V5.below hb
      replace D := D.below hb
      replace DS := DS.below hb
      replace B := B.trans (hb.mono B.size)
      clear hb t0 t1 tf SRX SVX e7 RD H8 HSV5 OKS
      have V6 := Box2.new w6 (lo := w0.heap.size) B.size (.slice (some adx) bs.length cx) (.slice bqx 0 dqx) 26
      have hb := below1 w6 (.cells #[.slice (some adx) bs.length cx, .slice bqx 0 dqx] 26)
      replace V3 := V3.below hb
      replace V5 := V5.below hb
      replace D := D.below hb
      replace DS := DS.below hb
      replace DX := DX.below hb
      replace B := B.trans (hb.mono B.size)
      clear hb
      have RS : RowB w2.heap.size (w6.alloc (.cells #[.slice (some adx) bs.length cx, .slice bqx 0 dqx] 26)) (.slice (some ads) bs9.length cs) bs9 := by rw [LN.out]; exact DS.row
      have RX : RowB ww5.heap.size (w6.alloc (.cells #[.slice (some adx) bs.length cx, .slice bqx 0 dqx] 26)) (.slice (some adx) bsX.length cx) bsX := by rw [LX.out]; exact DX.row
      obtain ⟨gs, eas, _, _⟩ := RS.at2 (j := 0) (by rw [LN.out]; omega)
      injection eas with eas
      subst eas
      obtain ⟨gx, eax, _, _⟩ := RX.at2 (j := 0) (by rw [LX.out]; omega)
      injection eax with eax
      subst eax
      obtain ⟨fb, mb⟩ := D.row.caps
      obtain ⟨fs, ms⟩ := RS.caps
      obtain ⟨fx, mx⟩ := RX.caps
      unfold maxLen at mb ms mx
      rw [LN.out] at fs
      rw [LX.out] at fx
      have SD : Hid (SeesB _ (some ⟨gb, 0, none⟩) cb bs) := D.row.seesB
      have SS : Hid (SeesB _ (some ⟨gs, 0, none⟩) cs bs9) := RS.seesB
      have SX : Hid (SeesB _ (some ⟨gx, 0, none⟩) cx bsX) := RX.seesB
      have HD : Hid (DkR w0.heap.size _ (.slice (some ⟨gb, 0, none⟩) bs.length cb) (.slice a2 qs.length c2) vs bs qs) := D
      clear RS RX DS DX D
      go_upto_region 10 with fail
      generalize hp6 : w6.heap.size = p6 at *
      generalize w6.alloc (.cells #[.slice (some ⟨gx, 0, none⟩) bs.length cx, .slice bqx 0 dqx] 26) = WL at *
      have hne : ((bs.length : Int) != (bs.length : Int)) = false := by simp
      obtain ⟨t0, t1, tf, _⟩ := id V3
      obtain ⟨u0, u1, uf, _⟩ := id V5
      obtain ⟨x0, x1, xf, _⟩ := id V6
      go_wp2
      clear t0 t1 tf u0 u1 uf x0 x1 xf
      go_loopw [7] (fun s7 wr => ∃ k : Nat, k ≤ m ∧ s7 = .int .i64 k ∧ Below WL.heap.size WL wr) (fun s7 _ => m - (intOf s7).toNat)
      case atStart => exact ⟨0, Nat.zero_le _, rfl, Below.refl _ _⟩
      case round =>
        obtain ⟨k, hk, rfl, BL⟩ := hrel
        rename World => wr
        obtain ⟨t0, t1, tf, _⟩ := V3.below BL
        obtain ⟨u0, u1, uf, _⟩ := V5.below BL
        obtain ⟨x0, x1, xf, _⟩ := V6.below BL
        by_cases hlt : k < m
        · have hkm : (k + 1) * 64 ≤ bs.length := by omega
          have e64 : (k + 1) * 64 - k * 64 = 64 := by omega
          have lX : Hid ((secN bsX k).length = 64) := secN_len' (by rw [LX.out]; exact hkm)
          have lD : Hid ((secN bs k).length = 64) := secN_len' hkm
          have lS : Hid ((secN bs9 k).length = 64) := secN_len' (by rw [LN.out]; exact hkm)
          have QX : Hid (SeesB WL (some ⟨gx, k * 64, none⟩) (cx - k * 64) (secN bsX k)) := by have := SX.out.sec (k := k) (by rw [LX.out]; exact hkm); rw [Nat.zero_add] at this; exact this
          have QD : Hid (SeesB WL (some ⟨gb, k * 64, none⟩) (cb - k * 64) (secN bs k)) := by have := SD.out.sec (k := k) hkm; rw [Nat.zero_add] at this; exact this
          have QS : Hid (SeesB WL (some ⟨gs, k * 64, none⟩) (cs - k * 64) (secN bs9 k)) := by have := SS.out.sec (k := k) (by rw [LN.out]; exact hkm); rw [Nat.zero_add] at this; exact this
          have SM := sameBytes_any (some ⟨gx, k * 64, none⟩) (some ⟨gb, k * 64, none⟩) (cx - k * 64) (cb - k * 64) (secN bsX k) (secN bs k) wr (QX.out.below BL) (QD.out.below BL)
          rw [lX.out, lD.out] at SM
          have HSM : Hid _ := SM
          clear SM
          go_wp2_with fail
          refine Calls.mono HSM.out ?_
          rintro e v1 ⟨r, rfl, hr, hb⟩
          have BL1 := BL.trans (hb.mono BL.size)
          clear hb HSM t0 t1 tf u0 u1 uf x0 x1 xf
          have HK0 : Hid (r = true ↔ (secN bsX k = secN bs k ∨ ∃ i', i' < 0 ∧ (wrN qs i').1 = (k : Int) ∧ secN bsX k = (wrN qs i').2)) := by
            show _ ↔ _
            rw [hr.out]
            constructor
            · exact fun q => .inl q
            · rintro (q | ⟨_, q, _⟩)
              · exact q
              · omega
          go_wp2
          go_loopw [9, 10] (fun s9 s10 wr2 => ∃ (r : Bool) (i : Nat), i ≤ qs.length ∧ s10 = .int .i64 i ∧ s9 = .bool r ∧ Hid (r = true ↔ (secN bsX k = secN bs k ∨ ∃ i', i' < i ∧ (wrN qs i').1 = (k : Int) ∧ secN bsX k = (wrN qs i').2)) ∧ Below WL.heap.size WL wr2) (fun _ s10 _ => qs.length - (intOf s10).toNat)
          case atStart => exact ⟨r, 0, Nat.zero_le _, rfl, rfl, HK0, BL1⟩
          case round =>
            clear HK0 BL1 hr
            obtain ⟨r, i, hi, rfl, rfl, HK, BL2⟩ := hrel
            rename World => wr2
            obtain ⟨t0, t1, tf, _⟩ := V3.below BL2
            by_cases hil : i < qs.length
            · obtain ⟨g, cq, a', c', e, _, g1, g2, PB, _⟩ := (HD.out.que.below BL2).at' hil
              injection e with e1 e2 e3
              subst e1
              clear e2 e3
              have ok := (HOk.out.2.2.2 i hil).2.2
              have KS : Hid (∀ r2 : Bool, (r2 = true ↔ (r = true ∨ ((wrN qs i).1 = (k : Int) ∧ secN bsX k = (wrN qs i).2))) → (r2 = true ↔ (secN bsX k = secN bs k ∨ ∃ i', i' < i + 1 ∧ (wrN qs i').1 = (k : Int) ∧ secN bsX k = (wrN qs i').2))) := fun r2 h2 => by
                rw [h2, HK.out]
                constructor
                · rintro ((q | ⟨i', q1, q2⟩) | q)
                  · exact .inl q
                  · exact .inr ⟨i', by omega, q2⟩
                  · exact .inr ⟨i, by omega, q⟩
                · rintro (q | ⟨i', q1, q2⟩)
                  · exact .inl (.inl q)
                  · by_cases e : i' = i
                    · subst e; exact .inr q2
                    · exact .inl (.inr ⟨i', by omega, q2⟩)
              clear HK
              generalize wrN qs i = q9 at *
              obtain ⟨x, es⟩ := q9
              dsimp only at g1 g2 PB ok KS
              cases r with
              | true =>
                have KT : Hid _ := KS.out true ⟨fun _ => .inl rfl, fun _ => rfl⟩
                clear KS
                go_wp2
                go_roundw
                case rel => exact ⟨true, i + 1, by omega, by go_num, rfl, KT, BL2⟩
                case measure => simp [intOf]; omega
              | false =>
                by_cases hxk : x = (k : Int)
                · have hb1 : (x == (k : Int)) = true := by simpa using hxk
                  have SE := sameBytes_any (some ⟨gx, k * 64, none⟩) a' (cx - k * 64) c' (secN bsX k) es wr2 (QX.out.below BL2) PB.seesB
                  rw [lX.out, ok] at SE
                  have HSE : Hid _ := SE
                  clear SE
                  go_wp2_with fail
                  refine Calls.mono HSE.out ?_
                  rintro e v2 ⟨r2, rfl, hr2, hb⟩
                  have BL3 := BL2.trans (hb.mono BL2.size)
                  have KT : Hid _ := KS.out r2 ⟨fun e => .inr ⟨hxk, hr2.out.1 e⟩, fun q => Or.elim q (fun e => (by cases e)) (fun e => hr2.out.2 e.2)⟩
                  clear KS HSE hb hr2 t0 t1 tf
                  go_wp2
                  go_roundw
                  case rel => exact ⟨r2, i + 1, by omega, by go_num, rfl, KT, BL3⟩
                  case measure => simp [intOf]; omega
                · have hb1 : (x == (k : Int)) = false := by simpa using hxk
                  have KT : Hid _ := KS.out false ⟨fun e => (by cases e), fun q => Or.elim q (fun e => (by cases e)) (fun e => absurd e.1 hxk)⟩
                  clear KS
                  go_wp2
                  go_roundw
                  case rel => exact ⟨false, i + 1, by omega, by go_num, rfl, KT, BL2⟩
                  case measure => simp [intOf]; omega
            · obtain rfl : i = qs.length := by omega
              have KN := skN_known (K := coin ds) HOk.out hkm qs.length (Nat.le_refl _)
              rw [← HX.out] at KN
              have hrt : r = true := HK.out.2 KN
              subst hrt
              clear HK KN
              have RO : Hid (RsOk bs qs (k : Int)) := ⟨HOk.out, by omega, by rw [hm.out]; omega⟩
              go_wp2_with fail
              refine (implReadSector bE ⟨gb, 0, none⟩ a2 cb c2 vs bs qs (k : Int) _ (HD.out.below BL2) (by omega) (by have := HUP.out; omega) (HE.out.below (B.trans (BL2.mono B.size)) wp)).mono ?_
              rintro e v3 ⟨a8, c8, res, r8, rfl, SR8, R8, hb⟩
              obtain ⟨e8, e9⟩ : res = secN bs9 k ∧ r8 = true := by
                rcases SR8 with ⟨_, q1, q2⟩ | ⟨q, _⟩
                · rw [Int.toNat_natCast, rsN_sync HOk.out hkm qs.length (Nat.le_refl _), ← HS.out] at q1
                  exact ⟨q1, q2⟩
                · exact absurd RO.out q
              subst e8 e9
              have BL3 := BL2.trans (hb.mono BL2.size)
              obtain ⟨u0, u1, uf, _⟩ := V5.below BL3
              have SE := sameBytes_any a8 (some ⟨gs, k * 64, none⟩) c8 (cs - k * 64) (secN bs9 k) (secN bs9 k) v3 R8.seesB (QS.out.below BL3)
              rw [lS.out] at SE ⊢
              have HSE : Hid _ := SE
              clear SE hb SR8 R8 t0 t1 tf
              go_wp2_with fail
              refine Calls.mono HSE.out ?_
              rintro e v4 ⟨r2, rfl, hr2, hb⟩
              have hrt : r2 = true := hr2.out.2 (by first | exact rfl | exact trivial)
              subst hrt
              have BL4 := BL3.trans (hb.mono BL3.size)
              clear HSE hb hr2 u0 u1 uf
              go_wp2
              go_roundw
              case rel => exact ⟨k + 1, by omega, by go_num, BL4⟩
              case measure => simp [intOf]; omega
        · go_wp2
          go_ret
          exact ⟨rfl, B.trans (BL.mono B.size)⟩
  · have hd : decide (1048576 < (n : Int)) = true := decide_eq_true (by omega)
    go_enter Tryd.func3, Tryd.ntmps3
    go_wp2_with fail
    refine (bigB_any a n cap _).mono ?_
    rintro e w0 ⟨rfl, rfl⟩
    rw [hd]
    go_wp2
    go_ret
    exact ⟨rfl, Below.refl _ _⟩
end Go.Proofs.YtfdfcgjdigpofaaDoor
