/- The program's Crash. -/
import Derived.Test.YtfdfcgjdigpofaaDoorSetI
import Derived.Test.YtfdfcgjdigpofaaDoorDkK
namespace Go.Proofs.YtfdfcgjdigpofaaDoor
open Go.RowKit

set_option maxHeartbeats 1000000 in
theorem coinAt_any (a : Option Addr) (c : Nat) (ds : List Int) (j : Nat) (w : World) (h : SeesB w a c ds) (h8 : ∀ x ∈ ds, 0 ≤ x ∧ x < 256) (hj : j ≤ 2000000) :
    Calls Tryd.prog 22 #[.slice a ds.length c, .int .i64 (j : Int)] w fun e w' => e = .returned (.bool (coin ds j)) ∧ Below w.heap.size w w' := by
  have hm := h.max
  have hf := h.fits
  unfold maxLen at hm
  obtain ⟨k, hk⟩ : ∃ k, Hid (j / 8 = k) := ⟨_, rfl⟩
  obtain ⟨m, hmm⟩ : ∃ m, Hid (j % 8 = m) := ⟨_, rfl⟩
  have hq : (j : Int).tdiv 8 = (k : Int) := by rw [Int.tdiv_eq_ediv_of_nonneg (by omega)]; have := hk.out; omega
  have hr : (j : Int).tmod 8 = (m : Int) := by rw [Int.tmod_eq_emod_of_nonneg (by omega)]; have := hmm.out; omega
  have hkb : k ≤ 2000000 := by have := hk.out; omega
  have hmb : m < 8 := by have := hmm.out; omega
  by_cases hlt : k < ds.length
  · obtain ⟨b, off, rfl, hc⟩ := h.cells (by intro e; rw [e] at hlt; simp at hlt)
    have g1 := hc k hlt
    have hx8 : 0 ≤ ds[k]?.getD 0 ∧ ds[k]?.getD 0 < 256 := by rw [List.getElem?_eq_getElem hlt]; exact h8 _ (List.getElem_mem hlt)
    have CE : Hid (coin ds j = (bits .and .u8 ((ds[k]?.getD 0) / 2 ^ m) 1 == 1)) := by show _ = _; unfold coin; rw [hk.out, hmm.out, if_pos hlt]
    generalize ds[k]?.getD 0 = x at *
    clear h hc h8 hk hmm
    go_enter Tryd.func22, Tryd.ntmps22
    go_wp2
    go_ret
    exact ⟨by rw [CE.out]; rfl, Below.refl _ _⟩
  · have CE : Hid (coin ds j = false) := by show _ = _; unfold coin; rw [hk.out, if_neg hlt]
    clear h h8 hk hmm
    go_enter Tryd.func22, Tryd.ntmps22
    go_wp2
    go_ret
    exact ⟨by rw [CE.out]; rfl, Below.refl _ _⟩

theorem enter_crash1 (args : Array Value) (W : World) : Sem.run Tryd.prog (callFunc 21 args) W = .ok (.enter 21 args) W := by kernel_rfl
theorem crash1_any (a : Option Addr) (c p : Nat) (ds : List Int) (j : Nat) (w : World) (h : SeesB w a c ds) (h8 : ∀ x ∈ ds, 0 ≤ x ∧ x < 256) (hj : j ≤ 2000000) (hp : w.cell? ⟨p, 0, none⟩ = some (.slice a ds.length c)) :
    Calls Tryd.prog 21 #[.int .i64 (j : Int), .pointer (some ⟨p, 0, none⟩)] w fun e w' => e = .returned (.bool (coin ds j)) ∧ Below w.heap.size w w' := by
  have HS : Hid (SeesB w a c ds) := h
  have H8 : Hid (∀ x ∈ ds, 0 ≤ x ∧ x < 256) := h8
  clear h h8
  go_enter Tryd.func21, Tryd.ntmps21
  go_wp2_with fail
  refine (coinAt_any a c ds j _ HS.out H8.out hj).mono ?_
  rintro e w1 ⟨rfl, hb⟩
  go_wp2
  go_ret
  exact ⟨rfl, hb⟩

set_option maxRecDepth 20000 in
set_option maxHeartbeats 4000000 in
theorem implCrash {lo lo2 : Nat} (b0 : Addr) (ad : Addr) (a2 : Option Addr) (c c2 : Nat) (vs0 : List Value) (bs : List Int) (qs : List Wr) (ad3 : Addr) (c3 : Nat) (ds : List Int) (w : World) (h : DkR lo w (.slice (some ad) bs.length c) (.slice a2 qs.length c2) vs0 bs qs) (hv0 : SomeV vs0) (hd : RowB lo2 w (.slice (some ad3) ds.length c3) ds) (h8 : ∀ x ∈ ds, 0 ≤ x ∧ x < 256) (hb0 : bs.length ≤ 2000000) (hs : uptoQ qs qs.length ≤ 2000000) (E : Er b0 w) :
    Calls Tryd.prog 10 #[.agg #[.slice (some ad) bs.length c, .slice a2 qs.length c2], .slice (some ad3) ds.length c3] w fun e w' => ∃ ad' c' b' d' vs bs' qs', e = .returned (.agg #[.slice (some ad') bs.length c', .slice b' qs'.length d']) ∧ CrRes bs qs ds bs' qs' ∧ DkR w.heap.size w' (.slice (some ad') bs.length c') (.slice b' qs'.length d') vs bs' qs' ∧ SomeV vs ∧ Below w.heap.size w w' := by
  have hn : qs.length ≤ 2000000 := by have := uptoQ_mono qs (Nat.zero_le qs.length); simp only [uptoQ] at this; omega
  have b1 := below1 w (.cells #[.slice (some ad) bs.length c, .slice a2 qs.length c2] 26)
  have V1 := Box2.new w (lo := w.heap.size) (Nat.le_refl _) (.slice (some ad) bs.length c) (.slice a2 qs.length c2) 26
  have b1' := below1 (w.alloc (.cells #[.slice (some ad) bs.length c, .slice a2 qs.length c2] 26)) (.cells #[.slice (some ad3) ds.length c3] 22)
  have P1 : ((w.alloc (.cells #[.slice (some ad) bs.length c, .slice a2 qs.length c2] 26)).alloc (.cells #[.slice (some ad3) ds.length c3] 22)).cell? ⟨w.heap.size + 1, 0, none⟩ = some (.slice (some ad3) ds.length c3) := (by have := cell_new (w.alloc (.cells #[.slice (some ad) bs.length c, .slice a2 qs.length c2] 26)) #[.slice (some ad3) ds.length c3] 22 0 rfl; rw [World.size_alloc] at this; exact this)
  have b2 := below1 ((w.alloc (.cells #[.slice (some ad) bs.length c, .slice a2 qs.length c2] 26)).alloc (.cells #[.slice (some ad3) ds.length c3] 22)) (.cells #[.slice none 0 0, .slice none 0 0] 26)
  have V2 := Box2.new ((w.alloc (.cells #[.slice (some ad) bs.length c, .slice a2 qs.length c2] 26)).alloc (.cells #[.slice (some ad3) ds.length c3] 22)) (lo := w.heap.size) (by simp; omega) (.slice none 0 0) (.slice none 0 0) 26
  rw [World.size_alloc, World.size_alloc] at V2
  have z2 : (((w.alloc (.cells #[.slice (some ad) bs.length c, .slice a2 qs.length c2] 26)).alloc (.cells #[.slice (some ad3) ds.length c3] 22)).alloc (.cells #[.slice none 0 0, .slice none 0 0] 26)).heap.size = w.heap.size + 3 := by simp
  have B := (b1.trans (b1'.mono b1.size)).trans (b2.mono (Nat.le_trans b1.size b1'.size))
  replace V1 := (V1.below b1').below b2
  replace P1 := bat b2 P1
  have HD : Hid (DkR lo w (.slice (some ad) bs.length c) (.slice a2 qs.length c2) vs0 bs qs) := h
  have HM : Hid (SomeV vs0) := hv0
  have HS : Hid (uptoQ qs qs.length ≤ 2000000) := hs
  have HP : Hid (SeesB w (some ad3) c3 ds) := hd.seesB
  have H8 : Hid (∀ x ∈ ds, 0 ≤ x ∧ x < 256) := h8
  have HR : Hid (Er b0 w) := E
  have wp := E.pos
  clear b1 b2 b1' h hv0 hs E hd h8
  go_enter Tryd.func10, Tryd.ntmps10
  go_upto_region 1 with fail
  generalize ((w.alloc (.cells #[.slice (some ad) bs.length c, .slice a2 qs.length c2] 26)).alloc (.cells #[.slice (some ad3) ds.length c3] 22)).alloc (.cells #[.slice none 0 0, .slice none 0 0] 26) = W0 at *
  obtain ⟨t0, t1, tf, _⟩ := id V1
  have HP1 : Hid (W0.cell? ⟨w.heap.size + 1, 0, none⟩ = some (.slice (some ad3) ds.length c3)) := P1
  clear P1
  go_wp2_with fail
  refine (settled_any 21 [.pointer (some ⟨w.heap.size + 1, 0, none⟩)] (coin ds) b0 ad a2 c c2 vs0 bs qs _ (HD.out.below B) HM.out hb0 HS.out (HR.out.below B wp) enter_crash1 (fun W j hj hW => crash1_any (some ad3) c3 (w.heap.size + 1) ds j W ((HP.out.below B).below hW) H8.out (by omega) (bat hW HP1.out))).mono ?_
  rintro e w5 ⟨ad8, c8, b8, d8, vs, bs', qs', rfl, SR0, D, SV0, hb⟩
  have SR : Hid (CrRes bs qs ds bs' qs') := SR0
  have SV : Hid (SomeV vs) := SV0
  rw [z2] at D
  replace V2 := V2.below hb
  replace B := B.trans (hb.mono B.size)
  clear hb t0 t1 tf V1 SV0 SR0 z2
  have RC := Box2.chain B V2 (.slice (some ad8) bs.length c8) (.slice b8 qs'.length d8)
  have gq : w5.grownBy ((w5.setCell ⟨w.heap.size + 2, 0, none⟩ (.slice (some ad8) bs.length c8)).setCell ⟨w.heap.size + 2, 1, none⟩ (.slice b8 qs'.length d8)) (some (w.heap.size + 2)) := grownBy_setCell (p := ⟨w.heap.size + 2, 1, none⟩) (grownBy_setCell (p := ⟨w.heap.size + 2, 0, none⟩) (grownBy_refl _ _) rfl _) rfl _
  have DS : Hid (DkR w.heap.size ((w5.setCell ⟨w.heap.size + 2, 0, none⟩ (.slice (some ad8) bs.length c8)).setCell ⟨w.heap.size + 2, 1, none⟩ (.slice b8 qs'.length d8)) (.slice (some ad8) bs.length c8) (.slice b8 qs'.length d8) vs bs' qs') := (D.kept gq (fun k hk e => by have := (D.lts.1 k hk).1; injection e with e; omega) (fun k hk e => by have := (D.lts.2.1 k hk).1; injection e with e; omega) (fun y hy k hk e => by have := (D.lts.2.2 y hy k hk).1; injection e with e; omega)).base (by omega)
  obtain ⟨q0, q1, qf, _⟩ := id V2
  have r0 := (V2.put (.slice (some ad8) bs.length c8) (.slice b8 qs'.length d8)).c0
  have r1 := (V2.put (.slice (some ad8) bs.length c8) (.slice b8 qs'.length d8)).c1
  clear gq D V2 B
  go_wp2
  exact bodyPost_ret (v := .agg #[(.slice (some ad8) bs.length c8), (.slice b8 qs'.length d8)]) (by simp [results, Tryd.results10, go_sem, r0, r1]) rfl ⟨_, _, _, _, vs, bs', qs', rfl, SR.out, DS.out, SV.out, RC⟩
end Go.Proofs.YtfdfcgjdigpofaaDoor
