/- TreeBuild of the specification. -/
import Derived.Test.YtinlomcaagdbiaaGreatTbC
import Derived.Test.YtinlomcaagdbiaaGreatTbB
import Derived.Test.YtinlomcaagdbiaaGreatTbA
import Derived.Test.YtinlomcaagdbiaaGreatCsM
namespace Go.Proofs.YtinlomcaagdbiaaGreat
open Go.RowKit

structure LpB (wi : World) (p : Nat) (u1 u2 v1 v2 : Value) (bs : List Bx) (is : List Int) (W : World) : Prop where
 s : Bx7 W p (.int .i64 0) (.int .i64 0) (.int .i64 0) (.int .i64 0) u1 u2 (.slice none 0 0)
 ty : ∃ cs : Array Value, W.heap[p]? = some (.cells cs 32 (0, 0))
 r1 : RowBx wi.heap.size W v1 bs
 r2 : RowI wi.heap.size W v2 is
 bel : Below wi.heap.size wi W
 ge : wi.heap.size ≤ p
theorem LpB.below {wi : World} {p : Nat} {u1 u2 v1 v2 : Value} {bs : List Bx} {is : List Int} {W W' : World} (h : LpB wi p u1 u2 v1 v2 bs is W) (hb : Below W.heap.size W W') : LpB wi p u1 u2 v1 v2 bs is W' := ⟨h.s.below hb, tyB h.ty hb, h.r1.belowK hb, h.r2.below hb, h.bel.trans (hb.mono h.bel.size), h.ge⟩
theorem LpB.appI {wi : World} {p : Nat} {u1 u2 v1 v2 v2' : Value} {bs : List Bx} {is is' : List Int} {W W' : World} (h : LpB wi p u1 u2 v1 v2 bs is W) (g : W.grownBy W' v2.ownBlock) (R : RowI wi.heap.size W' v2' is') : LpB wi p u1 u2 v1 v2' bs is' W' :=
 ⟨h.s.grownK g (ne_rowI h.r2 h.ty), tyG h.ty g (ne_rowI h.r2 h.ty), rowX_apI h.r1 h.r2 g, R, h.bel.grown g h.bel.size (fun k e => (World.ownsRow.lt h.r2 k e).1), h.ge⟩
theorem LpB.appX {wi : World} {p : Nat} {u1 u2 v1 v2 v1' : Value} {bs bs' : List Bx} {is : List Int} {W W' : World} (h : LpB wi p u1 u2 v1 v2 bs is W) (g : W.grownBy W' v1.ownBlock) (R : RowBx wi.heap.size W' v1' bs') : LpB wi p u1 u2 v1' v2 bs' is W' :=
 ⟨h.s.grownK g (ne_rowX h.r1 h.ty), tyG h.ty g (ne_rowX h.r1 h.ty), R, rowI_apX h.r2 h.r1 g, h.bel.grown g h.bel.size (fun k e => (World.ownsRow.lt h.r1 k e).1), h.ge⟩
theorem LpB.stI {wi : World} {p : Nat} {u1 u2 v1 v2 : Value} {bs : List Bx} {is : List Int} {W : World} (h : LpB wi p u1 u2 v1 v2 bs is W) : LpB wi p u1 v2 v1 v2 bs is (W.setCell ⟨p, 5, none⟩ v2) := by
 have g : W.grownBy (W.setCell ⟨p, 5, none⟩ v2) (some p) := grownBy_setCell (grownBy_refl _ _) rfl v2
 exact ⟨h.s.set5 v2, tyS h.ty 5 v2, rowX_apN h.r1 h.ty g, rowI_apN h.r2 h.ty g, h.bel.setCell (p := ⟨p, 5, none⟩) h.ge _, h.ge⟩
theorem LpB.stX {wi : World} {p : Nat} {u1 u2 v1 v2 : Value} {bs : List Bx} {is : List Int} {W : World} (h : LpB wi p u1 u2 v1 v2 bs is W) : LpB wi p v1 u2 v1 v2 bs is (W.setCell ⟨p, 4, none⟩ v1) := by
 have g : W.grownBy (W.setCell ⟨p, 4, none⟩ v1) (some p) := grownBy_setCell (grownBy_refl _ _) rfl v1
 exact ⟨h.s.set4 v1, tyS h.ty 4 v1, rowX_apN h.r1 h.ty g, rowI_apN h.r2 h.ty g, h.bel.setCell (p := ⟨p, 4, none⟩) h.ge _, h.ge⟩
theorem LpB.node {wi : World} {p pb : Nat} {v1 v2 v : Value} {bs : List Bx} {is : List Int} {W : World} (h : LpB wi p v1 v2 v1 v2 bs is W) (hp : pb ≤ wi.heap.size) (hv : ∀ k, v.ownBlock = some k → k < wi.heap.size) (b : Bx) : ∃ s1 s2 : Sl, v1 = slV s1 ∧ v2 = slV s2 ∧ s1.2.1 = bs.length ∧ s2.2.1 = is.length ∧ NdP (fun q => pb ≤ q ∧ v.ownBlock ≠ some q) W (.mk b bs is []) (slV s1) (slV s2) (.slice none 0 0) := by
 obtain ⟨b1, d1, e1, s1, f1⟩ := rowX_seesK h.r1
 obtain ⟨b2, d2, e2, s2, f2⟩ := rowI_seesK h.r2
 refine ⟨(b1, bs.length, d1), (b2, is.length, d2), e1, e2, rfl, rfl, ?_⟩
 exact .mk (ks := []) (p := 0) (o := 0) (g1 := fun _ => undef) (g2 := fun _ => undef) (g3 := fun _ => undef) s1 (fun q o e _ => ⟨by have := (f1 q o e).1; omega, fun e' => by have := (f1 q o e).1; have := hv q e'; omega⟩) s2 (fun q o e _ => ⟨by have := (f2 q o e).1; omega, fun e' => by have := (f2 q o e).1; have := hv q e'; omega⟩) (Nat.le_refl _) (by simp [maxLen]) (fun _ _ _ h => absurd h (Nat.lt_irrefl _)) (fun h => absurd rfl h) (fun i hi => absurd hi (Nat.not_lt_zero _)) (fun i hi => absurd hi (Nat.not_lt_zero _))
theorem ch4_get {α : Type} {l : List α} {q m : Nat} (hm : m < 4) : (ch4 l q)[m]? = l[4 * q + m]? := by unfold ch4; rw [List.getElem?_take_of_lt hm, List.getElem?_drop]
theorem ch4_more {α : Type} {l : List α} {q m : Nat} {x : α} (hm : m < 4) (h : l[4 * q + m]? = some x) : (ch4 l q).take (m + 1) = (ch4 l q).take m ++ [x] := by
 rw [List.take_add_one, ch4_get hm, h]
 rfl

theorem ndA_ch4 {L : List Nd} {q i : Nat} (hi : i < (ch4 L q).length) : ndA (ch4 L q) i = ndA L (4 * q + i) := by
 have := ch4_len L q
 unfold ndA
 rw [ch4_get (by omega)]
theorem LvE.kids {rb g n c : Nat} {w W : World} {es : List Ke} {L : List Nd} (h : LvE rb 0 w (.slice (some ⟨g, 0, none⟩) n c) es L) (hb : Below w.heap.size w W) {v : Value} (hv : ∀ k, v.ownBlock = some k → w.heap.size ≤ k) (q : Nat) (hq : 4 * q ≤ L.length) (hn : L.length ≤ c) (hm : c ≤ maxLen) : NdP (fun p => 0 ≤ p ∧ v.ownBlock ≠ some p) W (.mk (0, 0, 0, 0) [] [] (ch4 L q)) (slV (none, 0, 0)) (slV (none, 0, 0)) (slV (some ⟨g, 4 * q * 7, none⟩, (ch4 L q).length, c - 4 * q)) := by
 have h' := h.below hb
 have hg : g < w.heap.size := (World.ownsRow.lt h.row g rfl).2
 have hl := ch4_len' L q
 obtain ⟨a8, c8, e8, _, _, h8⟩ := RowK.sees h'.row
 have hS : ∀ i, i < (ch4 L q).length → Sev W g (4 * q * 7 + i * 7) (ndA (ch4 L q) i).b (slV (keAt es (4 * q + i)).2.1) (slV (keAt es (4 * q + i)).2.2.1) (slV (keAt es (4 * q + i)).2.2.2) := fun i hi => by
  have hiL : 4 * q + i < L.length := by omega
  obtain ⟨g', e9, _, h9⟩ := h8 (by intro e; have h9 := h'.len; rw [e] at h9; simp at h9; omega)
  rw [e9] at e8
  injection e8 with e81
  injection e81 with e81
  injection e81 with e81 _
  have := h9 (4 * q + i) (by rw [h'.len]; exact hiL)
  rw [← e81, (h'.nd _ hiL).1, ← ndA_ch4 hi, show (4 * q + i) * 7 = 4 * q * 7 + i * 7 by omega] at this
  exact this
 refine .mk (p := g) (o := 4 * q * 7) (g1 := fun i => slV (keAt es (4 * q + i)).2.1) (g2 := fun i => slV (keAt es (4 * q + i)).2.2.1) (g3 := fun i => slV (keAt es (4 * q + i)).2.2.2) (⟨Nat.zero_le _, by simp [maxLen], fun e => absurd rfl e⟩ : SeesX W none 0 []) (fun _ _ e _ => by cases e) (⟨Nat.zero_le _, by simp [maxLen], fun e => absurd rfl e⟩ : SeesI W none 0 []) (fun _ _ e _ => by cases e) (show (ch4 L q).length ≤ c - 4 * q by omega) (show c - 4 * q ≤ maxLen by omega) (fun p o e _ => ?_) (fun _ => rfl) hS (fun i hi => ?_)
 ·injection e with e
  injection e with e _
  subst e
  exact ⟨Nat.zero_le _, fun e' => by have := hv _ e'; omega⟩
 ·have hiL : 4 * q + i < L.length := by omega
  rw [ndA_ch4 hi]
  exact (NdP.mono (fun p hp => ⟨hp.1.1, fun e' => by have := hv _ e'; have := hp.2; omega⟩) _ (h.nd _ hiL).2.lt).keep hb

set_option maxRecDepth 100000 in
set_option maxHeartbeats 4000000 in
theorem l15Build_any (a1 a2 : Option Addr) (c1 c2 : Nat) (is : List Int) (bs : List Bx) (w : World) (h1 : SeesI w a1 c1 is) (h2 : SeesX w a2 c2 bs) (hl : bs.length ≤ 600) (he : is.length = bs.length) :
  Calls Tryz.prog 39 #[.slice a1 is.length c1, .slice a2 bs.length c2] w fun e w' => ∃ u1 u2 u3, e = .returned (ndV (tbT is bs) u1 u2 u3) ∧ NdP (fun q => w.heap.size ≤ q) w' (tbT is bs) u1 u2 u3 ∧ Below w.heap.size w w' := by
 obtain ⟨iI, hiI, hI0, hI1, hI2⟩ := info_parts infoI
 obtain ⟨iX, hiX, hX0, hX1, hX2⟩ := info_parts infoX
 obtain ⟨iN, hiN, hN0, hN1, hN2⟩ := info_parts infoN
 have hm1 := h1.max
 have hf1 := h1.fits
 have hm2 := h2.max
 have hf2 := h2.fits
 unfold maxLen at hm1 hm2
 have he' : Hid (is.length = bs.length) := he
 have hb1 := below1 w (.cells #[.int .i64 0, .int .i64 0, .int .i64 0, .int .i64 0, .slice none 0 0, .slice none 0 0, .slice none 0 0] 32)
 have V0 := Bx7.new w (.int .i64 0) (.int .i64 0) (.int .i64 0) (.int .i64 0) (.slice none 0 0) (.slice none 0 0) (.slice none 0 0) 32
 have HI0 : Hid (SeesI (w.alloc (.cells #[.int .i64 0, .int .i64 0, .int .i64 0, .int .i64 0, .slice none 0 0, .slice none 0 0, .slice none 0 0] 32)) a1 c1 is) := h1.below hb1
 have HX0 : Hid (SeesX (w.alloc (.cells #[.int .i64 0, .int .i64 0, .int .i64 0, .int .i64 0, .slice none 0 0, .slice none 0 0, .slice none 0 0] 32)) a2 c2 bs) := h2.below hb1
 clear h1 h2 he
 go_enter Tryz.func39, Tryz.ntmps39
 go_wp2_with fail
 generalize w.alloc (.cells #[.int .i64 0, .int .i64 0, .int .i64 0, .int .i64 0, .slice none 0 0, .slice none 0 0, .slice none 0 0] 32) = W0 at *
 refine (specCurveSort a2 c2 bs W0 HX0.out).mono ?_
 rintro e w1 ⟨v, rfl, l, R, hcs, hb⟩
 have HV0 : Hid (Bx7 w1 w.heap.size (.int .i64 0) (.int .i64 0) (.int .i64 0) (.int .i64 0) (.slice none 0 0) (.slice none 0 0) (.slice none 0 0)) := V0.below hb
 have HI1 : Hid (SeesI w1 a1 c1 is) := HI0.out.below hb
 have HX1 : Hid (SeesX w1 a2 c2 bs) := HX0.out.below hb
 have HB1 : Hid (Below w.heap.size w w1) := hb1.trans (hb.mono hb1.size)
 have HR : Hid (RowI w1.heap.size.pred.succ.pred w1 v [] ∨ RowI W0.heap.size w1 v (List.map Int.ofNat l)) := .inr R
 have HCS : Hid (csOk bs l) := hcs
 have HR1 : Hid (RowI W0.heap.size w1 v (List.map Int.ofNat l)) := R
 obtain ⟨av, cv, HEV⟩ : ∃ av cv, Hid (v = .slice av (List.map Int.ofNat l).length cv) := by obtain ⟨av, cv, ev, _, _⟩ := R.shape'; exact ⟨av, cv, ev⟩
 clear HI0 HX0 R hcs hb hb1 V0 HR
 go_upto_if 17 with fail
 go_cut [5, 6] (fun s5 _ W => ∃ (rb : Nat) (a3 : Option Addr) (c3 : Nat), s5 = .slice a3 bs.length c3 ∧ RowI rb W s5 ((ordN bs).map Int.ofNat) ∧ ordOk bs (ordN bs) ∧ Below w1.heap.size w1 W)
 case first =>
  by_cases h5 : bs.length ≤ 500
  ·have h5' : ¬ (500 : Int) < (bs.length : Int) := by omega
   have ho := ordOk_cs HCS.out h5
   have HO : Hid (ordOk bs (ordN bs)) := by have := ho; rw [ho.1] at this; exact this
   have HRR : Hid (RowI W0.heap.size w1 v ((ordN bs).map Int.ofNat)) := by show RowI _ _ _ _; rw [← ho.1]; exact HR1.out
   have hlv : (List.map Int.ofNat l).length = bs.length := by rw [List.length_map]; exact ho.2.1
   have HEV2 : Hid (v = .slice av bs.length cv) := by have h := HEV.out; rw [hlv] at h; exact h
   clear ho hlv
   go_wp2
   go_meet
   case rel => exact ⟨_, av, cv, HEV2.out, HRR.out, HO.out, Below.refl _ _⟩
  ·have h5' : (500 : Int) < (bs.length : Int) := by omega
   have HO : Hid (ordOk bs (List.range bs.length)) := ordOk_all h5
   rw [decide_eq_true h5']
   have q1 := below1 w1 (.cells #[] 3)
   have R0 := RowI.empty w1 (base := w1.heap.size) (Nat.le_refl _)
   go_wp2
   go_loopw [5, 6] (fun s5 s6 wr => ∃ j : Nat, j ≤ bs.length ∧ s6 = .int .i64 j ∧ Hid (RowI w1.heap.size wr s5 ((List.range j).map Int.ofNat)) ∧ Below w1.heap.size w1 wr) (fun _ s6 _ => bs.length - (intOf s6).toNat)
   case atStart => exact ⟨0, Nat.zero_le _, rfl, R0, q1⟩
   case round =>
    clear R0 q1
    obtain ⟨j, hj, rfl, RR, B⟩ := hrel
    rename World => wr
    by_cases hlt : j < bs.length
    ·have hlt' : (j : Int) < (bs.length : Int) := by omega
     have hb := below1 wr (.cells #[.int .i64 (j : Int)] 3)
     have NW := one_newI wr 3 (j : Int)
     have R2 : RowI w1.heap.size (wr.alloc (.cells #[.int .i64 (j : Int)] 3)) _ ((List.range j).map Int.ofNat) := RR.out.below hb
     have HE : Hid ((List.range (j + 1)).map Int.ofNat = (List.range j).map Int.ofNat ++ [(j : Int)]) := by show _ = _; rw [List.range_succ, List.map_append]; rfl
     have hlj : ((List.range j).map Int.ofNat).length ≤ 1048576 := by simp; omega
     have B3 := B.trans (hb.mono B.size)
     generalize (List.range j).map Int.ofNat = dj at *
     have hz : w1.heap.size ≤ (wr.alloc (.cells #[.int .i64 (j : Int)] 3)).heap.size := B3.size
     clear RR hb B
     go_wp2_with (at_builtin; refine wpList_append_own_at _ rfl (.tmp 25) (.tmp 27) 29 rfl w1.heap.size 3 iI (.int .i64 0) 1 8 Tryz.underlying29 hiI hI0 hI1 hI2 rfl (by decide) _ dj.length (dj.map (Value.int .i64)) rfl R2 ⟨wr.heap.size, 0, none⟩ 1 _ ([(j : Int)].map (Value.int .i64)) rfl rfl NW (onesI _) (by unfold maxLen; omega) (by omega) hz ?_; intro v7 w7 R8 G7 nil7 _; replace R8 := RowI.snoc R8 rfl; clear nil7)
     have B8 := B3.grown G7 B3.size (fun k e => (World.ownsRow.lt R2 _ e).1)
     have R9 : Hid (RowI w1.heap.size w7 v7 ((List.range (j + 1)).map Int.ofNat)) := by show RowI _ _ _ _; rw [HE.out]; exact R8
     clear R8 G7 R2 B3 HE
     go_roundw
     case rel => exact ⟨j + 1, by omega, by go_num, R9, B8⟩
     case measure => simp [intOf]; omega
    ·obtain rfl : j = bs.length := by omega
     obtain ⟨a9, c9, e9, _, _⟩ := RR.out.shape'
     have hl9 : ((List.range bs.length).map Int.ofNat).length = bs.length := by simp
     rw [hl9] at e9
     have hr := RR.out
     rw [HO.out.1] at hr
     have HO2 : Hid (ordOk bs (ordN bs)) := by have := HO.out; rw [this.1] at this; exact this
     clear RR HO hl9
     subst e9
     have HHR : Hid (RowI w1.heap.size wr (.slice a9 bs.length c9) ((ordN bs).map Int.ofNat)) := hr
     clear hr
     go_wp2
     go_meet
     case rel => exact ⟨_, a9, c9, rfl, HHR.out, HO2.out, B⟩
 rename World => w2
 obtain ⟨rb, a3, c3, rfl, RO, ho, B2⟩ := hcut
 have HV2 : Hid (Bx7 w2 w.heap.size (.int .i64 0) (.int .i64 0) (.int .i64 0) (.int .i64 0) (.slice none 0 0) (.slice none 0 0) (.slice none 0 0)) := HV0.out.below B2
 have HI2 : Hid (SeesI w2 a1 c1 is) := HI1.out.below B2
 have HX2 : Hid (SeesX w2 a2 c2 bs) := HX1.out.below B2
 have HB2 : Hid (Below w.heap.size w w2) := HB1.out.trans (B2.mono HB1.out.size)
 have HRO : Hid (RowI rb w2 (.slice a3 bs.length c3) ((ordN bs).map Int.ofNat)) := RO
 have HO : Hid (ordOk bs (ordN bs)) := ho
 obtain ⟨hf3, hm3⟩ : bs.length ≤ c3 ∧ c3 ≤ maxLen := by
  have h := RO
  have e : bs.length = ((ordN bs).map Int.ofNat).length := by rw [List.length_map]; exact ho.2.1.symm
  rw [e] at h ⊢
  exact RowI.caps h
 unfold maxLen at hm3
 clear HV0 HI1 HX1 HB1 HR1 HCS B2 RO ho HEV
 obtain ⟨obs, hobs⟩ : ∃ o, (itK bs is (ordN bs)).map Prod.fst = o := ⟨_, rfl⟩
 obtain ⟨ois, hois⟩ : ∃ o, (itK bs is (ordN bs)).map Prod.snd = o := ⟨_, rfl⟩
 have HOB : Hid (obs.length = bs.length ∧ ois.length = bs.length ∧ tbT is bs = bldT obs ois ∧ ∀ i, i < bs.length → ∃ k, (ordN bs)[i]? = some k ∧ k < bs.length ∧ obs[i]? = some (bxAt bs k) ∧ ois[i]? = some (is[k]?.getD 0)) := by
  refine ⟨by rw [← hobs, List.length_map, itK_len, HO.out.2.1], by rw [← hois, List.length_map, itK_len, HO.out.2.1], by unfold tbT; rw [hobs, hois], fun i hi => ?_⟩
  have hi2 : i < (ordN bs).length := by rw [HO.out.2.1]; exact hi
  refine ⟨_, List.getElem?_eq_getElem hi2, HO.out.2.2 _ (List.getElem_mem hi2), ?_, ?_⟩
  ·rw [← hobs]; unfold itK; rw [List.map_map, List.getElem?_map, List.getElem?_eq_getElem hi2]; rfl
  ·rw [← hois]; unfold itK; rw [List.map_map, List.getElem?_map, List.getElem?_eq_getElem hi2]; rfl
 clear hobs hois
 have R7 := RowK.empty w2 (base := w2.heap.size) (Nat.le_refl _)
 have q7 := below1 w2 (.cells #[] 32)
 have L7 : Hid (LvE w2.heap.size 0 (w2.alloc (.cells #[] 32)) (.slice (some ⟨w2.heap.size, 0, none⟩) 0 0) [] (lfK obs ois 0)) := LvE.nil _ _ _ R7
 go_wp2
 go_loopw [7, 8, 9, 10] (fun s7 s8 _ _ wr => ∃ (q i : Nat) (es : List Ke), i = 4 * q ∧ q ≤ (bs.length + 3) / 4 ∧ s8 = .int .i64 (i : Int) ∧ Hid (LvE w2.heap.size 0 wr s7 es (lfK obs ois q)) ∧ Hid (Below w2.heap.size w2 wr)) (fun _ s8 _ _ _ => bs.length + 4 - (intOf s8).toNat)
 case atStart => exact ⟨0, 0, [], rfl, Nat.zero_le _, rfl, L7, q7⟩
 case round =>
  clear L7 R7 q7
  obtain ⟨q, i, es, hiq, hq, rfl, LH, BH⟩ := hrel
  rename World => wi
  by_cases hlt : i < bs.length
  ·have hlt' : (i : Int) < (bs.length : Int) := by omega
   have HIQ : Hid (i = 4 * q ∧ q < (bs.length + 3) / 4) := ⟨hiq, by omega⟩
   have hb := below1 wi (.cells #[.int .i64 0, .int .i64 0, .int .i64 0, .int .i64 0, .slice none 0 0, .slice none 0 0, .slice none 0 0] 32)
   have A0 : Hid (LpB wi wi.heap.size (.slice none 0 0) (.slice none 0 0) (.slice none 0 0) (.slice none 0 0) ((ch4 obs q).take 0) ((ch4 ois q).take 0) (wi.alloc (.cells #[.int .i64 0, .int .i64 0, .int .i64 0, .int .i64 0, .slice none 0 0, .slice none 0 0, .slice none 0 0] 32))) := by
    rw [List.take_zero, List.take_zero]
    exact ⟨Bx7.new wi _ _ _ _ _ _ _ _, ⟨_, heap_alloc_new _ _⟩, ⟨rfl, .inl ⟨rfl, rfl⟩⟩, RowI.nil _ _, hb, Nat.le_refl _⟩
   clear hiq hq hb
   have hil : i ≤ 600 := by omega
   go_upto_region 13 with fail
   generalize wi.alloc (.cells #[.int .i64 0, .int .i64 0, .int .i64 0, .int .i64 0, .slice none 0 0, .slice none 0 0, .slice none 0 0] 32) = w3 at *
   generalize hpt : wi.heap.size = pt at *
   have HPT : Hid (wi.heap.size = pt) := hpt
   clear hpt
   go_wp2
   go_loopw [10] (fun s10 W => ∃ (mm kk : Nat) (u1 u2 : Value), kk = i + mm ∧ mm ≤ 4 ∧ kk ≤ bs.length ∧ s10 = .int .i64 (kk : Int) ∧ Hid (LpB wi pt u1 u2 u1 u2 ((ch4 obs q).take mm) ((ch4 ois q).take mm) W)) (fun s10 _ => i + 5 - (intOf s10).toNat)
   case atStart => exact ⟨0, i, _, _, rfl, by omega, by omega, rfl, A0⟩
   case round =>
    clear A0
    obtain ⟨mm, kk, u1, u2, hkk0, hm4, hmn, rfl, AH⟩ := hrel
    rename World => wr
    have HKK : Hid (kk = i + mm) := hkk0
    by_cases hin : kk < bs.length ∧ mm < 4
    ·obtain ⟨hkn, hk4⟩ := hin
     have hc1 : ((kk : Int) < (bs.length : Int)) := by omega
     have hc2 : ((kk : Int) < (i : Int) + 4) := by omega
     obtain ⟨k, ek, hk, eo1, eo2⟩ := HOB.out.2.2.2 kk hkn
     have HROj : RowI rb wi (.slice a3 ((ordN bs).map Int.ofNat).length c3) ((ordN bs).map Int.ofNat) := by
      have h := HRO.out.below BH.out
      have e : bs.length = ((ordN bs).map Int.ofNat).length := by rw [List.length_map]; exact HO.out.2.1.symm
      rw [e] at h
      exact h
     obtain ⟨q3, ea3, g3, _⟩ := RowI.at2 (j := kk) HROj (by rw [List.length_map, HO.out.2.1]; exact hkn)
     clear HROj
     have gk : ((ordN bs).map Int.ofNat)[kk]?.getD 0 = (k : Int) := by rw [List.getElem?_map, ek]; rfl
     rw [gk] at g3
     obtain ⟨b1, o1, ea1, hcI⟩ := (HI2.out.below BH.out).cells (by intro e; have := he'.out; rw [e] at this; simp at this; omega)
     obtain ⟨b2, o2, ea2, hcX⟩ := (HX2.out.below BH.out).cells (by intro e; rw [e] at hk; simp at hk)
     have xi := hcI k (by have := he'.out; omega)
     obtain ⟨x0, x1, x2, x3⟩ := hcX k hk
     have HT1 : Hid ((ch4 obs q).take (mm + 1) = (ch4 obs q).take mm ++ [bxAt bs k]) := ch4_more hk4 (by rw [← HIQ.out.1, ← HKK.out]; exact eo1)
     have HT2 : Hid ((ch4 ois q).take (mm + 1) = (ch4 ois q).take mm ++ [is[k]?.getD 0]) := ch4_more hk4 (by rw [← HIQ.out.1, ← HKK.out]; exact eo2)
     obtain ⟨⟨y1, y2, y3, y4⟩, uy⟩ : ∃ x, Hid (bxAt bs k = x) := ⟨_, rfl⟩
     obtain ⟨m, um⟩ : ∃ x, Hid (is[k]?.getD 0 = x) := ⟨_, rfl⟩
     rw [uy.out] at x0 x1 x2 x3 HT1
     rw [um.out] at xi HT2
     dsimp only at x0 x1 x2 x3
     have HB : Hid (((ch4 obs q).take mm).length ≤ 1048576 ∧ ((ch4 ois q).take mm).length ≤ 1048576) := ⟨by rw [List.length_take]; omega, by rw [List.length_take]; omega⟩
     have hki : k < is.length := by have := he'.out; omega
     have hki' : (k : Int) < (is.length : Int) := by omega
     have hkb' : (k : Int) < (bs.length : Int) := by omega
     generalize hbj : (ch4 obs q).take mm = bj at *
     generalize hij : (ch4 ois q).take mm = ij at *
     obtain ⟨⟨b1', n1', d1'⟩, hu1⟩ : ∃ s : Sl, u1 = slV s := by obtain ⟨b, d, e, _⟩ := rowX_seesK AH.out.r1; exact ⟨(b, _, d), e⟩
     obtain ⟨⟨b2', n2', d2'⟩, hu2⟩ : ∃ s : Sl, u2 = slV s := by obtain ⟨b, d, e, _⟩ := rowI_seesK AH.out.r2; exact ⟨(b, _, d), e⟩
     subst ea1 ea2 ea3
     clear hcI hcX gk ek eo1 eo2 hbj hij hu1 hu2 hkk0
     go_upto_region 16 with fail
     have A := AH.out.below (Below.refl wr.heap.size wr).drew
     have NL := A.s.c5
     have NT := A.bel
     have hpt := HPT.out
     clear AH
     refine wp_region_M 12 (fun W => W.cell? ⟨pt, 5, none⟩ = some u2) (fun W => Below wi.heap.size wi W) (by kernel_rfl) ?_
     generalize wr.drew = ww0 at *
     refine takeT (i := 0) (by simp only [List.getElem?_toArray, List.getElem?_cons_zero]; exact rfl) (by kernel_rfl) (by kernel_rfl) (by kernel_rfl) (by exact fun _ _ _ h => h) (by decide) (by rfl) (by intro wq hSw; go_simp <;> with_reducible rfl) ⟨NT, .inr NL⟩ ?_
     try simp only [Act.put, pA, pB, pC]
     refine takeL (i := 1) (by simp only [List.getElem?_toArray, List.getElem?_cons_succ, List.getElem?_cons_zero]; exact rfl) (by kernel_rfl) (by kernel_rfl) (by kernel_rfl) (by exact fun _ _ _ h => h) (by decide) (by kernel_rfl) (by kernel_rfl) (by rfl) (by intro wq hSw; obtain ⟨_, y4⟩ := hSw; go_simp <;> with_reducible rfl) ⟨NT, .inr NL⟩ ?_
     try simp only [Act.put, pA, pB, pC]
     refine takeT (i := 2) (by simp only [List.getElem?_toArray, List.getElem?_cons_succ, List.getElem?_cons_zero]; exact rfl) (by kernel_rfl) (by kernel_rfl) (by kernel_rfl) (by exact fun _ _ _ h => h) (by decide) (by rfl) (by intro wq hSw; go_simp <;> with_reducible rfl) ⟨NT, .inr NL⟩ ?_
     try simp only [Act.put, pA, pB, pC]
     refine takeT (i := 3) (by simp only [List.getElem?_toArray, List.getElem?_cons_succ, List.getElem?_cons_zero]; exact rfl) (by kernel_rfl) (by kernel_rfl) (by kernel_rfl) (by exact fun _ _ _ h => h) (by decide) (by rfl) (by intro wq hSw; go_simp <;> with_reducible rfl) ⟨NT, .inr NL⟩ ?_
     try simp only [Act.put, pA, pB, pC]
     refine takeT (i := 4) (by simp only [List.getElem?_toArray, List.getElem?_cons_succ, List.getElem?_cons_zero]; exact rfl) (by kernel_rfl) (by kernel_rfl) (by kernel_rfl) (by exact fun _ _ _ h => h) (by decide) (by rfl) (by intro wq hSw; go_simp <;> with_reducible rfl) ⟨NT, .inr NL⟩ ?_
     try simp only [Act.put, pA, pB, pC]
     refine takeT (i := 5) (by simp only [List.getElem?_toArray, List.getElem?_cons_succ, List.getElem?_cons_zero]; exact rfl) (by kernel_rfl) (by kernel_rfl) (by kernel_rfl) (by exact fun _ _ _ h => h) (by decide) (by rfl) (by intro wq hSw; go_simp <;> with_reducible rfl) ⟨NT, .inr NL⟩ ?_
     try simp only [Act.put, pA, pB, pC]
     refine takeT (i := 6) (by simp only [List.getElem?_toArray, List.getElem?_cons_succ, List.getElem?_cons_zero]; exact rfl) (by kernel_rfl) (by kernel_rfl) (by kernel_rfl) (by exact fun _ _ _ h => h) (by decide) (by rfl) (by intro wq hSw; have y5 := bat hSw g3; have y6 := bat hSw xi; go_simp <;> with_reducible rfl) ⟨NT, .inr NL⟩ ?_
     try simp only [Act.put, pA, pB, pC]
     refine takeT (i := 7) (by simp only [List.getElem?_toArray, List.getElem?_cons_succ, List.getElem?_cons_zero]; exact rfl) (by kernel_rfl) (by kernel_rfl) (by kernel_rfl) (by exact fun _ _ _ h => h) (by decide) (by rfl) (by intro wq hSw; go_simp <;> with_reducible rfl) ⟨NT, .inr NL⟩ ?_
     try simp only [Act.put, pA, pB, pC]
     refine takeT (i := 8) (by simp only [List.getElem?_toArray, List.getElem?_cons_succ, List.getElem?_cons_zero]; exact rfl) (by kernel_rfl) (by kernel_rfl) (by kernel_rfl) (by exact fun _ _ _ h => h) (by decide) (by rfl) (by intro wq hSw; have y5 := bat hSw g3; have y6 := bat hSw xi; go_simp <;> with_reducible rfl) ⟨NT, .inr NL⟩ ?_
     try simp only [Act.put, pA, pB, pC]
     refine wpAnyM_ready (rs := [9]) (by kernel_rfl) (by simp) (AllReadyM.cons (by simp only [List.getElem?_toArray, List.getElem?_cons_succ, List.getElem?_cons_zero]; exact rfl) (fun K hK => ?_) AllReadyM.nil)
     go_simp
     have bq := below1 ww0 (.cells #[.int .i64 m] 3)
     have NW := one_newI ww0 3 m
     replace A := A.below bq
     have NL := A.s.c5
     replace NT := NT.trans (bq.mono NT.size)
     refine hK.out _ _ ⟨NT, .inr NL⟩ ?_
     clear hK K
     try simp only [Act.put, pA, pB, pC]
     clear bq
     generalize ww0.heap.size = zA at *
     generalize ww0.alloc (.cells #[.int .i64 m] 3) = w6 at *
     refine wpAnyM_ready (rs := [10]) (by kernel_rfl) (by simp) (AllReadyM.cons (by simp only [List.getElem?_toArray, List.getElem?_cons_succ, List.getElem?_cons_zero]; exact rfl) (fun K hK => ?_) AllReadyM.nil)
     refine wp_append_at (.tmp 51) (.tmp 59) 29 rfl wi.heap.size 3 iI (.int .i64 0) 1 8 Tryz.underlying29 hiI hI0 hI1 hI2 rfl (by decide) u2 ij.length (ij.map (Value.int .i64)) rfl A.r2 ⟨zA, 0, none⟩ 1 _ ([m].map (Value.int .i64)) rfl rfl NW (onesI _) (by have := HB.out; unfold maxLen; omega) (by have := HB.out; omega) NT.size ?_
     intro v8 w7 R8 G8 _
     have R8' := RowI.snoc R8 rfl
     obtain ⟨a8, c8, ev8, _⟩ := rowI_seesK R8'
     obtain ⟨n8, hn8⟩ : ∃ n, (ij ++ [m]).length = n := ⟨_, rfl⟩
     rw [hn8] at ev8
     subst ev8
     replace NT := NT.grown G8 NT.size (fun k e => (World.ownsRow.lt A.r2 k e).1)
     replace A := A.appI G8 R8'
     have NL := A.s.c5
     clear hn8 NW R8 R8' G8
     refine hK.out _ _ ⟨NT, .inr NL⟩ ?_
     clear hK K
     try simp only [Act.put, pA, pB, pC]
     refine takeT (i := 11) (by simp only [List.getElem?_toArray, List.getElem?_cons_succ, List.getElem?_cons_zero]; exact rfl) (by kernel_rfl) (by kernel_rfl) (by kernel_rfl) (by exact fun _ _ _ h => h) (by decide) (by rfl) (by intro wq hSw; go_simp <;> with_reducible rfl) ⟨NT, .inr NL⟩ ?_
     try simp only [Act.put, pA, pB, pC]
     refine wpAnyM_ready (rs := [12]) (by kernel_rfl) (by simp) (AllReadyM.cons (by simp only [List.getElem?_toArray, List.getElem?_cons_succ, List.getElem?_cons_zero]; exact rfl) (fun K hK => ?_) AllReadyM.nil)
     have y5 := A.s.c5
     have yf := A.s.fr
     go_simp
     clear y5 yf NL
     replace NT : Below wi.heap.size wi (w7.setCell ⟨pt, 5, none⟩ (.slice a8 n8 c8)) := NT.setCell (p := ⟨pt, 5, none⟩) (by show wi.heap.size ≤ pt; omega) _
     replace A := A.stI
     refine hK.out _ _ ⟨NT, .inl (by kernel_rfl)⟩ ?_
     clear hK K
     try simp only [Act.put, pA, pB, pC]
     refine wpAnyM_done (by kernel_rfl) ?_ _
     clear NT
     generalize w7.setCell ⟨pt, 5, none⟩ (.slice a8 n8 c8) = w8 at *
     have HA8 : Hid (LpB wi pt u1 (.slice a8 n8 c8) u1 (.slice a8 n8 c8) bj (ij ++ [m]) w8) := A
     clear A
     go_upto_region 17 with fail
     have A := HA8.out.below (Below.refl w8.heap.size w8).drew
     have NL := A.s.c4
     have NT := A.bel
     clear HA8
     refine wp_region_M 12 (fun W => W.cell? ⟨pt, 4, none⟩ = some u1) (fun W => Below wi.heap.size wi W) (by kernel_rfl) ?_
     generalize w8.drew = ww1 at *
     refine takeT (i := 0) (by simp only [List.getElem?_toArray, List.getElem?_cons_zero]; exact rfl) (by kernel_rfl) (by kernel_rfl) (by kernel_rfl) (by exact fun _ _ _ h => h) (by decide) (by rfl) (by intro wq hSw; go_simp <;> with_reducible rfl) ⟨NT, .inr NL⟩ ?_
     try simp only [Act.put, pA, pB, pC]
     refine takeL (i := 1) (by simp only [List.getElem?_toArray, List.getElem?_cons_succ, List.getElem?_cons_zero]; exact rfl) (by kernel_rfl) (by kernel_rfl) (by kernel_rfl) (by exact fun _ _ _ h => h) (by decide) (by kernel_rfl) (by kernel_rfl) (by rfl) (by intro wq hSw; obtain ⟨_, y4⟩ := hSw; go_simp <;> with_reducible rfl) ⟨NT, .inr NL⟩ ?_
     try simp only [Act.put, pA, pB, pC]
     refine takeT (i := 2) (by simp only [List.getElem?_toArray, List.getElem?_cons_succ, List.getElem?_cons_zero]; exact rfl) (by kernel_rfl) (by kernel_rfl) (by kernel_rfl) (by exact fun _ _ _ h => h) (by decide) (by rfl) (by intro wq hSw; go_simp <;> with_reducible rfl) ⟨NT, .inr NL⟩ ?_
     try simp only [Act.put, pA, pB, pC]
     refine takeT (i := 3) (by simp only [List.getElem?_toArray, List.getElem?_cons_succ, List.getElem?_cons_zero]; exact rfl) (by kernel_rfl) (by kernel_rfl) (by kernel_rfl) (by exact fun _ _ _ h => h) (by decide) (by rfl) (by intro wq hSw; go_simp <;> with_reducible rfl) ⟨NT, .inr NL⟩ ?_
     try simp only [Act.put, pA, pB, pC]
     refine takeT (i := 4) (by simp only [List.getElem?_toArray, List.getElem?_cons_succ, List.getElem?_cons_zero]; exact rfl) (by kernel_rfl) (by kernel_rfl) (by kernel_rfl) (by exact fun _ _ _ h => h) (by decide) (by rfl) (by intro wq hSw; go_simp <;> with_reducible rfl) ⟨NT, .inr NL⟩ ?_
     try simp only [Act.put, pA, pB, pC]
     refine takeT (i := 5) (by simp only [List.getElem?_toArray, List.getElem?_cons_succ, List.getElem?_cons_zero]; exact rfl) (by kernel_rfl) (by kernel_rfl) (by kernel_rfl) (by exact fun _ _ _ h => h) (by decide) (by rfl) (by intro wq hSw; go_simp <;> with_reducible rfl) ⟨NT, .inr NL⟩ ?_
     try simp only [Act.put, pA, pB, pC]
     refine takeT (i := 6) (by simp only [List.getElem?_toArray, List.getElem?_cons_succ, List.getElem?_cons_zero]; exact rfl) (by kernel_rfl) (by kernel_rfl) (by kernel_rfl) (by exact fun _ _ _ h => h) (by decide) (by rfl) (by intro wq hSw; have y5 := bat hSw g3; have y6 := bat hSw x0; have y7 := bat hSw x1; have y8 := bat hSw x2; have y9 := bat hSw x3; go_simp <;> with_reducible rfl) ⟨NT, .inr NL⟩ ?_
     try simp only [Act.put, pA, pB, pC]
     refine takeT (i := 7) (by simp only [List.getElem?_toArray, List.getElem?_cons_succ, List.getElem?_cons_zero]; exact rfl) (by kernel_rfl) (by kernel_rfl) (by kernel_rfl) (by exact fun _ _ _ h => h) (by decide) (by rfl) (by intro wq hSw; go_simp <;> with_reducible rfl) ⟨NT, .inr NL⟩ ?_
     try simp only [Act.put, pA, pB, pC]
     refine takeT (i := 8) (by simp only [List.getElem?_toArray, List.getElem?_cons_succ, List.getElem?_cons_zero]; exact rfl) (by kernel_rfl) (by kernel_rfl) (by kernel_rfl) (by exact fun _ _ _ h => h) (by decide) (by rfl) (by intro wq hSw; have y5 := bat hSw g3; have y6 := bat hSw x0; have y7 := bat hSw x1; have y8 := bat hSw x2; have y9 := bat hSw x3; go_simp <;> with_reducible rfl) ⟨NT, .inr NL⟩ ?_
     try simp only [Act.put, pA, pB, pC]
     refine wpAnyM_ready (rs := [9]) (by kernel_rfl) (by simp) (AllReadyM.cons (by simp only [List.getElem?_toArray, List.getElem?_cons_succ, List.getElem?_cons_zero]; exact rfl) (fun K hK => ?_) AllReadyM.nil)
     go_simp
     have bq := below1 ww1 (.cells #[.int .i64 y1, .int .i64 y2, .int .i64 y3, .int .i64 y4] 27)
     have NW := box_new ww1 27 y1 y2 y3 y4
     replace A := A.below bq
     have NL := A.s.c4
     replace NT := NT.trans (bq.mono NT.size)
     refine hK.out _ _ ⟨NT, .inr NL⟩ ?_
     clear hK K
     try simp only [Act.put, pA, pB, pC]
     clear bq
     generalize ww1.heap.size = zB at *
     generalize ww1.alloc (.cells #[.int .i64 y1, .int .i64 y2, .int .i64 y3, .int .i64 y4] 27) = w9 at *
     refine wpAnyM_ready (rs := [10]) (by kernel_rfl) (by simp) (AllReadyM.cons (by simp only [List.getElem?_toArray, List.getElem?_cons_succ, List.getElem?_cons_zero]; exact rfl) (fun K hK => ?_) AllReadyM.nil)
     refine wp_append_at (.tmp 63) (.tmp 71) 28 rfl wi.heap.size 27 iX (.agg #[.int .i64 0, .int .i64 0, .int .i64 0, .int .i64 0]) 4 32 Tryz.underlying28 hiX hX0 hX1 hX2 rfl (by decide) u1 bj.length (boxC bj) rfl A.r1 ⟨zB, 0, none⟩ 1 _ (boxC [(y1, y2, y3, y4)]) rfl rfl NW (boxC_ones _) (by have := HB.out; unfold maxLen; omega) (by have := HB.out; omega) NT.size ?_
     intro v9 w10 R9 G9 _
     have R9' := RowBx.snoc R9
     obtain ⟨a9, c9, ev9, _⟩ := rowX_seesK R9'
     obtain ⟨n9, hn9⟩ : ∃ n, (bj ++ [(y1, y2, y3, y4)]).length = n := ⟨_, rfl⟩
     rw [hn9] at ev9
     subst ev9
     replace NT := NT.grown G9 NT.size (fun k e => (World.ownsRow.lt A.r1 k e).1)
     replace A := A.appX G9 R9'
     have NL := A.s.c4
     clear hn9 NW R9 R9' G9
     refine hK.out _ _ ⟨NT, .inr NL⟩ ?_
     clear hK K
     try simp only [Act.put, pA, pB, pC]
     refine takeT (i := 11) (by simp only [List.getElem?_toArray, List.getElem?_cons_succ, List.getElem?_cons_zero]; exact rfl) (by kernel_rfl) (by kernel_rfl) (by kernel_rfl) (by exact fun _ _ _ h => h) (by decide) (by rfl) (by intro wq hSw; go_simp <;> with_reducible rfl) ⟨NT, .inr NL⟩ ?_
     try simp only [Act.put, pA, pB, pC]
     refine wpAnyM_ready (rs := [12]) (by kernel_rfl) (by simp) (AllReadyM.cons (by simp only [List.getElem?_toArray, List.getElem?_cons_succ, List.getElem?_cons_zero]; exact rfl) (fun K hK => ?_) AllReadyM.nil)
     have y4 := A.s.c4
     have yf := A.s.fr
     go_simp
     clear y4 yf NL
     replace NT : Below wi.heap.size wi (w10.setCell ⟨pt, 4, none⟩ (.slice a9 n9 c9)) := NT.setCell (p := ⟨pt, 4, none⟩) (by show wi.heap.size ≤ pt; omega) _
     replace A := A.stX
     refine hK.out _ _ ⟨NT, .inl (by kernel_rfl)⟩ ?_
     clear hK K
     try simp only [Act.put, pA, pB, pC]
     refine wpAnyM_done (by kernel_rfl) ?_ _
     have A9 : Hid (LpB wi pt (.slice a9 n9 c9) (.slice a8 n8 c8) (.slice a9 n9 c9) (.slice a8 n8 c8) ((ch4 obs q).take (mm + 1)) ((ch4 ois q).take (mm + 1)) (w10.setCell ⟨pt, 4, none⟩ (.slice a9 n9 c9))) := by rw [HT1.out, HT2.out]; exact A
     clear NT A HT1 HT2
     go_wp2
     go_roundw
     case rel => exact ⟨mm + 1, kk + 1, _, _, by have := HKK.out; omega, by omega, by omega, by go_num, A9⟩
     case measure => have := HKK.out; simp [intOf]; omega
    ·have HMM : Hid (mm = chM bs.length q) := by show mm = min 4 _; have := HIQ.out.1; omega
     have HF1 : Hid ((ch4 obs q).take mm = ch4 obs q ∧ (ch4 ois q).take mm = ch4 ois q) := by
      have h1 : (ch4 obs q).length = mm := by rw [ch4_len', HOB.out.1, HMM.out]; rfl
      have h2 : (ch4 ois q).length = mm := by rw [ch4_len', HOB.out.2.1, HMM.out]; rfl
      exact ⟨List.take_of_length_le (by omega), List.take_of_length_le (by omega)⟩
     have AF : Hid (LpB wi pt u1 u2 u1 u2 (ch4 obs q) (ch4 ois q) wr) := by have h := AH.out; rw [HF1.out.1, HF1.out.2] at h; exact h
     have LE := LH.out.below AF.out.bel
     have hlv : ∀ k, (Value.ownBlock _) = some k → k < wi.heap.size := fun k e => (World.ownsRow.lt LH.out.row k e).2
     obtain ⟨⟨t1, m1, d1⟩, ⟨t2, m2, d2⟩, rfl, rfl, hl1, hl2, ND⟩ := AF.out.node (pb := 0) (Nat.zero_le _) hlv (0, 0, 0, 0)
     clear hl1 hl2
     obtain ⟨r0, r1, r2, r3, r4, r5, r6, _⟩ := id AF.out.s
     have hcond : ¬ ((kk : Int) < (bs.length : Int)) ∨ ((kk : Int) < (bs.length : Int) ∧ ¬ ((kk : Int) < (i : Int) + 4)) := by omega
     have hown : Hid (∀ k, (Value.ownBlock _) = some k → w2.heap.size ≤ k) := fun k e => (World.ownsRow.lt LE.row k e).1
     have CC := l15Closed_any (.mk (0, 0, 0, 0) (ch4 obs q) (ch4 ois q) []) (slV (t1, m1, d1)) (slV (t2, m2, d2)) (.slice none 0 0) wr (NdP.toIn _ ND) (Nat.zero_le _)
     unfold ndV at CC
     dsimp only [Nd.b, slV] at CC
     have HEB : Hid (lfK obs ois (q + 1) = lfK obs ois q ++ [clS (.mk (0, 0, 0, 0) (ch4 obs q) (ch4 ois q) [])]) := lfK_succ obs ois q
     obtain ⟨⟨z1, z2, z3, z4⟩, uz⟩ : ∃ z, Hid (bxS (.mk (0, 0, 0, 0) (ch4 obs q) (ch4 ois q) []) = z) := ⟨_, rfl⟩
     have HND : Hid (NdP (fun q => 0 ≤ q ∧ _ ≠ some q) wr (clS (.mk (0, 0, 0, 0) (ch4 obs q) (ch4 ois q) [])) (slV (t1, m1, d1)) (slV (t2, m2, d2)) (slV (none, 0, 0))) := NdP.rebox ND
     have HELN : Hid (es.length ≤ 1048576) := by have e := LE.len; rw [lfK_len] at e; have := HIQ.out.2; show _ ≤ _; omega
     have HLE : Hid (LvE w2.heap.size 0 wr _ es (lfK obs ois q)) := LE
     have HBW : Hid (Below w2.heap.size w2 wr) := BH.out.trans (AF.out.bel.mono BH.out.size)
     have hcb : (clS (.mk (0, 0, 0, 0) (ch4 obs q) (ch4 ois q) [])) = .mk (z1, z2, z3, z4) (ch4 obs q) (ch4 ois q) [] := by show Nd.mk (bxS _) _ _ _ = _; rw [uz.out]; rfl
     rw [hcb] at CC
     dsimp only at CC
     clear hcb
     dsimp only [slV] at r4 r5
     have hkk9 : i ≤ 600 := hil
     clear AF LE hlv ND AH hkk0 HF1 HMM LH BH
     rcases hcond with hco | ⟨hco, hco2⟩
     all_goals
      go_wp2_with fail
      refine CC.mono ?_
      rintro e w5 ⟨rfl, hb⟩
      have bq := below1 w5 (.cells #[.int .i64 z1, .int .i64 z2, .int .i64 z3, .int .i64 z4, .slice t1 m1 d1, .slice t2 m2 d2, .slice none 0 0] 32)
      have NW := k_new w5 32 ((z1, z2, z3, z4), (t1, m1, d1), (t2, m2, d2), (none, 0, 0))
      dsimp only [slV] at NW
      have L5 := (HLE.out.below hb).below bq
      have N5 := (HND.out.keep hb).keep bq
      have B5 := (HBW.out.trans (hb.mono HBW.out.size)).trans (bq.mono (Nat.le_trans HBW.out.size hb.size))
      have hz := B5.size
      have hel := HELN.out
      clear CC r0 r1 r2 r3 r4 r5 r6 hb bq
      go_wp2_with (at_builtin; refine wpList_append_own_at _ rfl (.tmp 74) (.tmp 77) 30 rfl w2.heap.size 32 iN (.agg #[.int .i64 0, .int .i64 0, .int .i64 0, .int .i64 0, .slice none 0 0, .slice none 0 0, .slice none 0 0]) 7 104 Tryz.underlying30 hiN hN0 hN1 hN2 rfl (by decide) _ es.length (kC es) rfl L5.row ⟨w5.heap.size, 0, none⟩ 1 _ (kC [((z1, z2, z3, z4), (t1, m1, d1), (t2, m2, d2), (none, 0, 0))]) rfl rfl NW (kC_ones _) (by unfold maxLen; omega) (by omega) hz ?_; intro v7 w7 R8 G7 nil7 A7; replace R8 := RowK.snoc R8; clear nil7)
      have L9 : Hid (LvE w2.heap.size 0 w7 v7 (es ++ [((z1, z2, z3, z4), (t1, m1, d1), (t2, m2, d2), (none, 0, 0))]) (lfK obs ois (q + 1))) := by show LvE _ _ _ _ _ _; rw [HEB.out]; exact L5.snoc G7 R8 A7 (by rw [clS_b]; exact uz.out.symm) N5
      have B9 : Hid (Below w2.heap.size w2 w7) := B5.grown G7 B5.size (fun k e => (World.ownsRow.lt L5.row k e).1)
      clear NW R8 G7 A7 L5 N5 B5 HLE HND HBW HEB
      have HI4 : Hid (i + 4 = 4 * (q + 1) ∧ q + 1 ≤ (bs.length + 3) / 4) := by have := HIQ.out; exact ⟨by omega, by omega⟩
      go_wp2
      go_roundw
      case rel => exact ⟨q + 1, i + 4, _, HI4.out.1, HI4.out.2, by go_num, L9, B9⟩
      case measure => simp [intOf]; omega
  ·have hlt' : ¬ (i : Int) < (bs.length : Int) := by omega
   have HQ : Hid (q = (bs.length + 3) / 4) := by show q = _; omega
   have HLL : Hid (lfK obs ois q = lfs obs ois) := by show _ = _; unfold lfs; rw [HOB.out.1, HQ.out]
   obtain ⟨a7, c7, e7, hf7, hm7, _⟩ := RowK.sees LH.out.row
   have hle7 : es.length = (lfs obs ois).length := by rw [LH.out.len, HLL.out]
   rw [hle7] at e7 hf7
   unfold maxLen at hm7
   subst e7
   have HL0 : Hid (LvE w2.heap.size 0 wi (.slice a7 (lfs obs ois).length c7) es (lfs obs ois)) := by have h := LH.out; rw [HLL.out] at h; exact h
   have HLN : Hid ((lfs obs ois).length ≤ 600 ∧ topOf (lfs obs ois) = tbT is bs) := ⟨by rw [lfs_len, HOB.out.1]; omega, by rw [HOB.out.2.2.1]; rfl⟩
   generalize lfs obs ois = L0 at *
   have hln0 := HLN.out.1
   clear LH hle7 HLL HQ hiq hq
   go_wp2
   go_loopw [7, 11, 12] (fun s7 _ _ wr => ∃ (rb2 : Nat) (a c : Option Addr × Nat) (es : List Ke) (L : List Nd), s7 = .slice a.1 L.length a.2 ∧ L.length ≤ a.2 ∧ a.2 ≤ 9223372036854775807 ∧ Hid (LvE rb2 0 wr s7 es L) ∧ Hid (L.length ≤ 600 ∧ topOf L = tbT is bs) ∧ c = a ∧ Hid (Below w2.heap.size w2 wr)) (fun s7 _ _ _ => lenOf s7)
   case atStart => exact ⟨_, (a7, c7), _, _, _, rfl, hf7, hm7, HL0, HLN, rfl, BH⟩
   case round =>
    clear HL0 HLN BH hf7 hm7
    obtain ⟨rb2, ⟨al, cl⟩, _, es, L, rfl, hfl, hml, LH, HL, _, BH⟩ := hrel
    rename World => wl
    dsimp only at hfl hml
    have hl6 := HL.out.1
    by_cases hgt : 1 < L.length
    ·have hgt' : (1 : Int) < (L.length : Int) := by omega
     have R7 := RowK.empty wl (base := wl.heap.size) (Nat.le_refl _)
     have q7 := below1 wl (.cells #[] 32)
     have L7 : Hid (LvE wl.heap.size 0 (wl.alloc (.cells #[] 32)) (.slice (some ⟨wl.heap.size, 0, none⟩) 0 0) [] (upK L 0)) := LvE.nil _ _ _ R7
     obtain ⟨g, HG⟩ : ∃ g, al = some ⟨g, 0, none⟩ := by
      obtain ⟨a8, c8, e8, _, _, h8⟩ := RowK.sees LH.out.row
      obtain ⟨g, e9, _⟩ := h8 (by intro e; have h9 := LH.out.len; rw [e] at h9; simp at h9; omega)
      injection e8 with e81
      exact ⟨g, by rw [← e9]; exact e81⟩
     subst HG
     go_wp2
     go_loopw [11, 12] (fun s11 s12 wr => ∃ (q i : Nat) (es' : List Ke), i = 4 * q ∧ q ≤ (L.length + 3) / 4 ∧ s12 = .int .i64 (i : Int) ∧ Hid (LvE wl.heap.size 0 wr s11 es' (upK L q)) ∧ Hid (Below wl.heap.size wl wr)) (fun _ s12 _ => L.length + 4 - (intOf s12).toNat)
     case atStart => exact ⟨0, 0, [], rfl, Nat.zero_le _, rfl, L7, q7⟩
     case round =>
      clear L7 R7 q7
      obtain ⟨q, i, es', hiq, hq, rfl, LU, BU⟩ := hrel
      rename World => wr
      by_cases hlt2 : i < L.length
      ·have hlt2' : (i : Int) < (L.length : Int) := by omega
       have HIQ : Hid (i = 4 * q ∧ q < (L.length + 3) / 4) := ⟨hiq, by omega⟩
       have hil2 : i ≤ 600 := by omega
       clear hiq hq
       go_wp2_with fail
       refine (l4Min_any _ _ _).mono ?_
       rintro e w5 ⟨rfl, rfl⟩
       obtain ⟨mn, hmn⟩ : ∃ mn : Nat, min ((i : Int) + 4) (L.length : Int) = (mn : Int) := ⟨min (i + 4) L.length, by omega⟩
       have hmn1 : i ≤ mn ∧ mn ≤ L.length ∧ mn - i = (ch4 L q).length ∧ mn ≤ 600 := by have h1 := ch4_len' L q; have h2 := HIQ.out; omega
       rw [hmn]
       obtain ⟨hm1, hm2, hm3, hm4⟩ := hmn1
       clear hmn
       have hmc : mn ≤ cl := by omega
       have him : (i : Int) ≤ (mn : Int) := by omega
       have hmc' : (mn : Int) ≤ (cl : Int) := by omega
       have hown : Hid (∀ k, (Value.ownBlock _) = some k → wl.heap.size ≤ k) := fun k e => (World.ownsRow.lt LU.out.row k e).1
       have HND0 := LvE.kids LH.out BU.out hown.out q (by have := HIQ.out; omega) hfl (by unfold maxLen; exact hml)
       rw [← HIQ.out.1] at HND0
       have CC := l15Closed_any (.mk (0, 0, 0, 0) [] [] (ch4 L q)) (slV (none, 0, 0)) (slV (none, 0, 0)) (slV (some ⟨g, i * 7, none⟩, (ch4 L q).length, cl - i)) _ (NdP.toIn _ HND0) (by have := ch4_len L q; show (ch4 L q).length ≤ 1000; omega)
       unfold ndV at CC
       dsimp only [Nd.b, slV] at CC
       have HEB : Hid (upK L (q + 1) = upK L q ++ [clS (.mk (0, 0, 0, 0) [] [] (ch4 L q))]) := upK_succ L q
       obtain ⟨⟨z1, z2, z3, z4⟩, uz⟩ : ∃ z, Hid (bxS (.mk (0, 0, 0, 0) [] [] (ch4 L q)) = z) := ⟨_, rfl⟩
       have HND : Hid (NdP (fun q => 0 ≤ q ∧ _ ≠ some q) w5 (clS (.mk (0, 0, 0, 0) [] [] (ch4 L q))) (slV (none, 0, 0)) (slV (none, 0, 0)) (slV (some ⟨g, i * 7, none⟩, (ch4 L q).length, cl - i))) := NdP.rebox HND0
       have HELN : Hid (es'.length ≤ 1048576) := by have e := LU.out.len; rw [upK_len] at e; have := HIQ.out.2; show _ ≤ _; omega
       have hcb : (clS (.mk (0, 0, 0, 0) [] [] (ch4 L q))) = .mk (z1, z2, z3, z4) [] [] (ch4 L q) := by show Nd.mk (bxS _) _ _ _ = _; rw [uz.out]; rfl
       rw [hcb] at CC
       dsimp only at CC
       clear hcb HND0 hown
       go_wp2_with fail
       refine CC.mono ?_
       rintro e w6 ⟨rfl, hb⟩
       have bq := below1 w6 (.cells #[.int .i64 z1, .int .i64 z2, .int .i64 z3, .int .i64 z4, .slice none 0 0, .slice none 0 0, .slice (some ⟨g, i * 7, none⟩) (ch4 L q).length (cl - i)] 32)
       have NW := k_new w6 32 ((z1, z2, z3, z4), (none, 0, 0), (none, 0, 0), (some ⟨g, i * 7, none⟩, (ch4 L q).length, cl - i))
       dsimp only [slV] at NW
       have L5 := (LU.out.below hb).below bq
       have N5 := (HND.out.keep hb).keep bq
       have B5 := (BU.out.trans (hb.mono BU.out.size)).trans (bq.mono (Nat.le_trans BU.out.size hb.size))
       have hz := B5.size
       have hel := HELN.out
       clear CC hb bq
       go_wp2_with (at_builtin; refine wpList_append_own_at _ rfl (.tmp 89) (.tmp 100) 30 rfl wl.heap.size 32 iN (.agg #[.int .i64 0, .int .i64 0, .int .i64 0, .int .i64 0, .slice none 0 0, .slice none 0 0, .slice none 0 0]) 7 104 Tryz.underlying30 hiN hN0 hN1 hN2 rfl (by decide) _ es'.length (kC es') rfl L5.row ⟨w6.heap.size, 0, none⟩ 1 _ (kC [((z1, z2, z3, z4), (none, 0, 0), (none, 0, 0), (some ⟨g, i * 7, none⟩, (ch4 L q).length, cl - i))]) rfl rfl NW (kC_ones _) (by unfold maxLen; omega) (by omega) hz ?_; intro v7 w7 R8 G7 nil7 A7; replace R8 := RowK.snoc R8; clear nil7)
       have L9 : Hid (LvE wl.heap.size 0 w7 v7 (es' ++ [((z1, z2, z3, z4), (none, 0, 0), (none, 0, 0), (some ⟨g, i * 7, none⟩, (ch4 L q).length, cl - i))]) (upK L (q + 1))) := by show LvE _ _ _ _ _ _; rw [HEB.out]; exact L5.snoc G7 R8 A7 (by rw [clS_b]; exact uz.out.symm) N5
       have B9 : Hid (Below wl.heap.size wl w7) := B5.grown G7 B5.size (fun k e => (World.ownsRow.lt L5.row k e).1)
       clear NW R8 G7 A7 L5 N5 B5 HND HEB LU BU
       have HI4 : Hid (i + 4 = 4 * (q + 1) ∧ q + 1 ≤ (L.length + 3) / 4) := by have := HIQ.out; exact ⟨by omega, by omega⟩
       go_wp2
       go_roundw
       case rel => exact ⟨q + 1, i + 4, _, HI4.out.1, HI4.out.2, by go_num, L9, B9⟩
       case measure => simp [intOf]; omega
      ·have hlt2' : ¬ (i : Int) < (L.length : Int) := by omega
       have HQ : Hid (q = (L.length + 3) / 4) := by show q = _; omega
       have HLL : Hid (upK L q = ups L) := by show _ = _; unfold ups; rw [HQ.out]
       obtain ⟨a9, c9, e9, hf9, hm9, _⟩ := RowK.sees LU.out.row
       have hle9 : es'.length = (ups L).length := by rw [LU.out.len, HLL.out]
       rw [hle9] at e9 hf9
       unfold maxLen at hm9
       subst e9
       have HLU : Hid (LvE wl.heap.size 0 wr (.slice a9 (ups L).length c9) es' (ups L)) := by have h := LU.out; rw [HLL.out] at h; exact h
       have HLN2 : Hid ((ups L).length ≤ 600 ∧ topOf (ups L) = tbT is bs) := ⟨by rw [ups_len]; omega, by rw [← topOf_up hgt]; exact HL.out.2⟩
       have HMS : Hid ((ups L).length < L.length) := by show _ < _; rw [ups_len]; omega
       have HBW : Hid (Below w2.heap.size w2 wr) := BH.out.trans (BU.out.mono BH.out.size)
       generalize ups L = L2 at *
       clear LU hle9 HLL HQ hiq hq BU BH LH HL
       go_wp2
       go_roundw
       case rel => exact ⟨_, (a9, c9), _, _, _, rfl, hf9, hm9, HLU, HLN2, rfl, HBW⟩
       case measure => have := HMS.out; simp [lenOf]; omega
    ·have hgt' : ¬ (1 : Int) < (L.length : Int) := by omega
     have HT : Hid (tbT is bs = ndA L 0) := by show _ = _; rw [← HL.out.2]; exact topOf_one (by omega)
     have HB : Hid (Below w.heap.size w wl) := HB2.out.trans (BH.out.mono HB2.out.size)
     have V := HV2.out.below BH.out
     obtain ⟨r0, r1, r2, r3, r4, r5, r6, rf⟩ := id V
     by_cases h0 : L.length = 0
     ·have HT0 : tbT is bs = .mk (0, 0, 0, 0) [] [] [] := by rw [HT.out]; unfold ndA; rw [List.getElem?_eq_none (by omega)]; rfl
      have R3 := ((((((V.set0 (.int .i64 0)).set1 (.int .i64 0)).set2 (.int .i64 0)).set3 (.int .i64 0)).set4 (.slice none 0 0)).set5 (.slice none 0 0)).set6 (.slice none 0 0)
      have B3 := (((((((HB.out.setCell (p := ⟨w.heap.size, 0, none⟩) (Nat.le_refl _) (.int .i64 0)).setCell (p := ⟨w.heap.size, 1, none⟩) (Nat.le_refl _) (.int .i64 0)).setCell (p := ⟨w.heap.size, 2, none⟩) (Nat.le_refl _) (.int .i64 0)).setCell (p := ⟨w.heap.size, 3, none⟩) (Nat.le_refl _) (.int .i64 0)).setCell (p := ⟨w.heap.size, 4, none⟩) (Nat.le_refl _) (.slice none 0 0)).setCell (p := ⟨w.heap.size, 5, none⟩) (Nat.le_refl _) (.slice none 0 0)).setCell (p := ⟨w.heap.size, 6, none⟩) (Nat.le_refl _) (.slice none 0 0))
      have HB3 : Hid _ := B3
      obtain ⟨q0, q1, q2, q3, q4, q5, q6, _⟩ := R3
      rw [HT0]
      clear B3 HT HB HL LH BH V
      go_wp2
      exact bodyPost_ret (v := .agg #[.int .i64 0, .int .i64 0, .int .i64 0, .int .i64 0, .slice none 0 0, .slice none 0 0, .slice none 0 0]) (by simp [results, Tryz.results39, go_sem, q0, q1, q2, q3, q4, q5, q6]) rfl ⟨.slice none 0 0, .slice none 0 0, .slice none 0 0, rfl, .mk (ks := []) (p := 0) (o := 0) (g1 := fun _ => undef) (g2 := fun _ => undef) (g3 := fun _ => undef) ⟨Nat.zero_le _, by simp [maxLen], fun e => absurd rfl e⟩ (fun _ _ e _ => by cases e) ⟨Nat.zero_le _, by simp [maxLen], fun e => absurd rfl e⟩ (fun _ _ e _ => by cases e) (Nat.le_refl _) (by simp [maxLen]) (fun _ _ e _ => by cases e) (fun e => absurd rfl e) (fun i hi => absurd hi (Nat.not_lt_zero _)) (fun i hi => absurd hi (Nat.not_lt_zero _)), HB3.out⟩
     ·have hpos : (0 : Int) < (L.length : Int) := by omega
      have h0' : ¬ (L.length : Int) = 0 := by omega
      obtain ⟨g, HG, X⟩ : ∃ g, al = some ⟨g, 0, none⟩ ∧ Sev wl g (0 * 7) (keAt es 0).1 (slV (keAt es 0).2.1) (slV (keAt es 0).2.2.1) (slV (keAt es 0).2.2.2) := by
       obtain ⟨a8, c8, e8, _, _, h8⟩ := RowK.sees LH.out.row
       obtain ⟨g, e9, _, h9⟩ := h8 (by intro e; have h9 := LH.out.len; rw [e] at h9; simp at h9; omega)
       injection e8 with e81
       exact ⟨g, by rw [← e9]; exact e81, h9 0 (by rw [LH.out.len]; omega)⟩
      subst HG
      obtain ⟨N1, N2⟩ := LH.out.nd 0 (by omega)
      have hsz : ndSz (ndA L 0) ≤ 1048576 := by
       have h := sz_bld (bs := obs) (is := ois) (by rw [HOB.out.1, HOB.out.2.1])
       rw [← HOB.out.2.2.1, HT.out, HOB.out.1] at h
       omega
      have CC := l15Copy_any (ndA L 0) _ _ _ wl (NdP.toIn _ N2) hsz
      generalize keAt es 0 = ke at *
      obtain ⟨kx, ⟨f1, o1, d1⟩, ⟨f2, o2, d2⟩, ⟨f3, o3, d3⟩⟩ := ke
      generalize ndA L 0 = t at *
      obtain ⟨⟨x1, x2, x3, x4⟩, bs', is', ks'⟩ := t
      dsimp only [Nd.b] at N1
      subst N1
      obtain ⟨⟨y0, y1, y2, y3⟩, y4, y5, y6⟩ := X
      simp only [Nat.zero_mul, Nat.zero_add] at y0 y1 y2 y3 y4 y5 y6
      dsimp only [slV] at y4 y5 y6 CC
      unfold ndV at CC
      dsimp only [Nd.b] at CC
      have HV : Hid (Bx7 wl w.heap.size (.int .i64 0) (.int .i64 0) (.int .i64 0) (.int .i64 0) (.slice none 0 0) (.slice none 0 0) (.slice none 0 0)) := V
      clear N2 hsz V r0 r1 r2 r3 r4 r5 r6 rf LH HL BH HOB
      go_wp2_with fail
      refine CC.mono ?_
      rintro e w5 ⟨u1, u2, u3, rfl, N, hb⟩
      have V := HV.out.below hb
      have hwl := HV.out.lt
      obtain ⟨p1, d1', p2, d2', p3, d3', rfl, rfl, rfl, _⟩ := (NdP.toIn _ N).open
      dsimp only [Nd.bs, Nd.is, Nd.ks] at *
      obtain ⟨r0, r1, r2, r3, r4, r5, r6, rf⟩ := id V
      have B5 := HB.out.trans (hb.mono HB.out.size)
      have R3 := ((((((V.set0 (.int .i64 x1)).set1 (.int .i64 x2)).set2 (.int .i64 x3)).set3 (.int .i64 x4)).set4 (.slice p1 bs'.length d1')).set5 (.slice p2 is'.length d2')).set6 (.slice p3 ks'.length d3')
      have B3 : Hid _ := (((((((B5.setCell (p := ⟨w.heap.size, 0, none⟩) (Nat.le_refl _) (.int .i64 x1)).setCell (p := ⟨w.heap.size, 1, none⟩) (Nat.le_refl _) (.int .i64 x2)).setCell (p := ⟨w.heap.size, 2, none⟩) (Nat.le_refl _) (.int .i64 x3)).setCell (p := ⟨w.heap.size, 3, none⟩) (Nat.le_refl _) (.int .i64 x4)).setCell (p := ⟨w.heap.size, 4, none⟩) (Nat.le_refl _) (.slice p1 bs'.length d1')).setCell (p := ⟨w.heap.size, 5, none⟩) (Nat.le_refl _) (.slice p2 is'.length d2')).setCell (p := ⟨w.heap.size, 6, none⟩) (Nat.le_refl _) (.slice p3 ks'.length d3'))
      have C3 : ChC (fun q => q = w.heap.size) w5 _ := fun b' k' z nb e => ((cell_other (o := 6) (.inl (fun e2 => nb e2.symm)) (.slice p3 ks'.length d3')).trans ((cell_other (o := 5) (.inl (fun e2 => nb e2.symm)) (.slice p2 is'.length d2')).trans ((cell_other (o := 4) (.inl (fun e2 => nb e2.symm)) (.slice p1 bs'.length d1')).trans ((cell_other (o := 3) (.inl (fun e2 => nb e2.symm)) (.int .i64 x4)).trans ((cell_other (o := 2) (.inl (fun e2 => nb e2.symm)) (.int .i64 x3)).trans ((cell_other (o := 1) (.inl (fun e2 => nb e2.symm)) (.int .i64 x2)).trans ((cell_other (o := 0) (.inl (fun e2 => nb e2.symm)) (.int .i64 x1)).trans e)))))))
      have N3 : Hid _ := NdP.mono (P' := fun q => w.heap.size ≤ q) (fun q hq => by omega) _ (NdP.chg C3 (fun q hq e => by omega) _ N)
      obtain ⟨q0, q1, q2, q3, q4, q5, q6, _⟩ := R3
      clear C3 N B5 V CC hb
      go_wp2
      exact bodyPost_ret (v := .agg #[.int .i64 x1, .int .i64 x2, .int .i64 x3, .int .i64 x4, .slice p1 bs'.length d1', .slice p2 is'.length d2', .slice p3 ks'.length d3']) (by simp [results, Tryz.results39, go_sem, q0, q1, q2, q3, q4, q5, q6]) rfl ⟨.slice p1 bs'.length d1', .slice p2 is'.length d2', .slice p3 ks'.length d3', by rw [HT.out]; rfl, by rw [HT.out]; exact N3.out, B3.out⟩
end Go.Proofs.YtinlomcaagdbiaaGreat
