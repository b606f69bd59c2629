/- TreeBuild of the program: the order, the items, the levels, the Node that tells it. -/
import Derived.Test.YtinlomcaagdbiaaGreatTbP
import Derived.Test.YtinlomcaagdbiaaGreatTbN
import Derived.Test.YtinlomcaagdbiaaGreatCsZ
namespace Go.Proofs.YtinlomcaagdbiaaGreat
open Go.RowKit

noncomputable def csL (bs : List Bx) : List Nat := Classical.epsilon (csOk bs)
theorem csL_one {bs : List Bx} {l : List Nat} (h : csOk bs l) : l = csL bs := by
 have k : csOk bs (csL bs) := Classical.epsilon_spec ⟨l, h⟩
 unfold csOk at h k
 split at h
 ·rename_i c; rw [if_pos c] at k; exact h.one k
 ·rename_i c; rw [if_neg c] at k; rw [h, k]
noncomputable def ordN (bs : List Bx) : List Nat := if bs.length ≤ 500 then csL bs else List.range bs.length
def ordOk (bs : List Bx) (l : List Nat) : Prop := l = ordN bs ∧ l.length = bs.length ∧ ∀ i ∈ l, i < bs.length
theorem ordOk_cs {bs : List Bx} {l : List Nat} (h : csOk bs l) (hl : bs.length ≤ 500) : ordOk bs l := by
 have e := csL_one h
 unfold csOk at h
 rw [if_pos hl] at h
 refine ⟨?_, h.len, fun i hi => h.lt hi⟩
 unfold ordN
 rw [if_pos hl]
 exact e
theorem ordOk_all {bs : List Bx} (hl : ¬ bs.length ≤ 500) : ordOk bs (List.range bs.length) := by
 refine ⟨?_, List.length_range, fun i hi => List.mem_range.1 hi⟩
 unfold ordN
 rw [if_neg hl]
def itK (bs : List Bx) (is : List Int) (l : List Nat) : List It := l.map fun i => (bxAt bs i, is[i]?.getD 0)
theorem itK_len (bs : List Bx) (is : List Int) (l : List Nat) : (itK bs is l).length = l.length := by simp [itK]
noncomputable def tbT (is : List Int) (bs : List Bx) : Nd := bldT ((itK bs is (ordN bs)).map Prod.fst) ((itK bs is (ordN bs)).map Prod.snd)
def tbOk (is : List Int) (bs : List Bx) : Bool := decide (is.length = bs.length) && (decide (is.length ≤ 600) && allOk bs bs.length)
noncomputable def tbV (is : List Int) (bs : List Bx) : Nd := if tbOk is bs = true then tbT is bs else .mk (0, 0, 0, 0) [] [] []
theorem itK_ok {bs : List Bx} (is : List Int) {l : List Nat} (h : allOk bs bs.length = true) (hl : ∀ i ∈ l, i < bs.length) : ∀ b ∈ (itK bs is l).map Prod.fst, okX b = true := by
 intro b hb
 obtain ⟨x, hx, rfl⟩ := List.mem_map.1 hb
 unfold itK at hx
 obtain ⟨i, hi, rfl⟩ := List.mem_map.1 hx
 exact (allOk_iff _ _).1 h i (hl i hi)
theorem sz_tbT {is : List Int} {bs : List Bx} (hl : bs.length ≤ 600) (h : ordOk bs (ordN bs)) : ndSz (tbT is bs) ≤ 1048576 := by
 have := @sz_bld ((itK bs is (ordN bs)).map Prod.fst) ((itK bs is (ordN bs)).map Prod.snd) (by simp)
 rw [List.length_map, itK_len, h.2.1] at this
 unfold tbT
 omega
def lenOf : Value → Nat
 | .slice _ n _ => n
 | _ => 0
theorem wk_none {w : World} {p : Nat} (h : Wk6 w p (0, 0, 0, 0) (.slice none 0 0) (.slice none 0 0)) : WkAt w p (.mk (0, 0, 0, 0) [] [] []) :=
 .mk (qs := []) (bs := []) (ks := []) h ⟨rfl, Nat.le_refl _, by simp [maxLen], fun h => absurd rfl h⟩ ⟨by simp, by simp [maxLen], fun h => absurd rfl h⟩ rfl (fun _ => ⟨rfl, rfl⟩) (fun i hi => absurd hi (Nat.not_lt_zero _)) (fun i hi => absurd hi (Nat.not_lt_zero _)) (fun i hi => absurd hi (Nat.not_lt_zero _))

set_option maxRecDepth 100000 in
set_option maxHeartbeats 1000000 in
theorem built_any (a : Option Addr) (c : Nat) (bs : List Bx) (is : List Int) (w : World) (h : SeesIt w a c bs is) (hok : ∀ b ∈ bs, okX b = true) (hl : bs.length ≤ 1048576) :
  Calls Tryz.prog 64 #[.slice a bs.length c] w fun e w' => ∃ p, e = .returned (.pointer (some ⟨p, 0, none⟩)) ∧ WkAt w' p (bldT bs is) ∧ Below w.heap.size w w' := by
 have C0 := partedIt_any a c bs is w h hok hl
 have HLF : Hid (okN (lfs bs is) ∧ (lfs bs is).length ≤ 1048576) := ⟨okN_lfK is hok (Nat.le_refl _), by rw [lfs_len]; omega⟩
 clear h
 go_enter Tryz.func64, Tryz.ntmps64
 go_wp2_with fail
 refine C0.mono ?_
 rintro e w1 ⟨v, qs, rfl, R1, W1, B1⟩
 obtain ⟨a1, c1, ev1, S1, _⟩ := RowWp.sees R1
 subst ev1
 have HS1 : Hid (SeesTp w1 a1 c1 qs) := S1
 have HW1 : Hid (WkL w1 qs (lfs bs is)) := W1
 clear C0 R1 S1 W1
 go_wp2
 go_loopw [3] (fun s3 wr => ∃ (a : Option Addr) (c : Nat) (qs : List Ptr) (L : List Nd), s3 = .slice a qs.length c ∧ Hid (SeesTp wr a c qs) ∧ Hid (WkL wr qs L) ∧ Hid (okN L ∧ L.length ≤ 1048576 ∧ topOf L = bldT bs is) ∧ Below w.heap.size w wr) (fun s3 _ => lenOf s3)
 case atStart => exact ⟨a1, c1, qs, _, rfl, HS1, HW1, ⟨HLF.out.1, HLF.out.2, rfl⟩, B1⟩
 case round =>
  clear HS1 HW1 B1
  obtain ⟨a2, c2, q2, L, rfl, HS, HW, HL, B⟩ := hrel
  rename World => wr
  have hle : Hid (q2.length = L.length) := HW.out.1
  have hm := HS.out.max
  have hf := HS.out.fits
  have hl2 := HL.out.2.1
  unfold maxLen at hm
  by_cases hlt : 1 < q2.length
  ·have hlt' : (1 : Int) < (q2.length : Int) := by omega
   have C := partedWp_any a2 c2 q2 L wr HS.out HW.out HL.out.1 hl2
   rw [← hle.out] at C
   have hle2 := hle.out
   clear hle2
   go_wp2_with fail
   refine C.mono ?_
   rintro e w5 ⟨v5, q5, rfl, R5, W5, hb⟩
   obtain ⟨a5, c5, ev5, S5, _⟩ := RowWp.sees R5
   subst ev5
   have HS5 : Hid (SeesTp w5 a5 c5 q5) := S5
   have HW5 : Hid (WkL w5 q5 (ups L)) := W5
   have HL5 : Hid (okN (ups L) ∧ (ups L).length ≤ 1048576 ∧ topOf (ups L) = bldT bs is) := ⟨okN_upK HL.out.1 (Nat.le_refl _), by rw [ups_len]; omega, by rw [← topOf_up (by have := hle.out; omega)]; exact HL.out.2.2⟩
   have hl5 : q5.length = (q2.length + 3) / 4 := by rw [hle.out, ← ups_len]; exact HW5.out.1
   have B5 := B.trans (hb.mono B.size)
   have hms : lenOf (.slice a5 q5.length c5) < lenOf (.slice a2 q2.length c2) := by show q5.length < q2.length; omega
   clear C R5 S5 W5 hb HS HW HL hl5
   go_wp2
   go_roundw
   case rel => exact ⟨a5, c5, q5, ups L, rfl, HS5, HW5, HL5, B5⟩
   case measure => exact hms
  ·have hlt' : ¬ (1 : Int) < (q2.length : Int) := by omega
   have HT : Hid (ndA L 0 = bldT bs is) := by show _ = _; rw [← HL.out.2.2, topOf_one (by have := hle.out; omega)]
   by_cases h0 : q2.length = 0
   ·have e0 : L = [] := List.eq_nil_of_length_eq_zero (by have := hle.out; omega)
    have e1 : ((q2.length : Int) == 0) = true := by simp; exact List.eq_nil_of_length_eq_zero h0
    have HT2 : Hid (bldT bs is = .mk (0, 0, 0, 0) [] [] []) := by show _ = _; rw [← HT.out, e0]; rfl
    clear hle hf e0 HL HT
    go_wp2_with fail
    refine (leafOf_any none 0 [] [] _ ⟨rfl, Nat.le_refl _, by simp [maxLen], fun h => absurd rfl h⟩).mono ?_
    rintro e w5 ⟨rfl, K5, hb⟩
    have HK : Hid (WkAt w5 wr.heap.size (bldT bs is)) := by show WkAt _ _ _; rw [HT2.out]; exact wk_none K5
    have B5 := B.trans (hb.mono B.size)
    clear K5 hb
    go_wp2
    go_ret
    exact ⟨_, rfl, HK.out, B5⟩
   ·have e1 : ((q2.length : Int) == 0) = false := by simp; intro e; exact h0 (by rw [e]; rfl)
    obtain ⟨b, o, ea, hc⟩ := HS.out.cells (by intro e; rw [e] at h0; exact h0 rfl)
    subst ea
    have g0 := hc 0 (by omega)
    obtain ⟨e20, K⟩ := HW.out.2 0 (by have := hle.out; omega)
    rw [HT.out] at K
    unfold ptV at g0
    rw [e20] at g0
    simp only [Nat.add_zero] at g0
    have HK : Hid (WkAt wr (ptAt q2 0).1 (bldT bs is)) := K
    clear hc K HL HT
    have hp0 : (0 : Int) < (q2.length : Int) := by omega
    go_wp2
    go_ret
    exact ⟨_, rfl, HK.out, B⟩

set_option maxRecDepth 100000 in
set_option maxHeartbeats 1000000 in
theorem buildOrder_any (a : Option Addr) (c : Nat) (bs : List Bx) (w : World) (h : SeesX w a c bs) (hl : bs.length ≤ 1048576) :
  Calls Tryz.prog 63 #[.slice a bs.length c] w fun e w' => ∃ v, e = .returned v ∧ RowI w.heap.size w' v ((ordN bs).map Int.ofNat) ∧ ordOk bs (ordN bs) ∧ Below w.heap.size w w' := by
 have C0 := implCurveSort a c bs w h
 have hm := h.max
 have hf := h.fits
 unfold maxLen at hm
 clear h
 by_cases h5 : bs.length ≤ 500
 ·have h5' : (bs.length : Int) ≤ 500 := by omega
  go_enter Tryz.func63, Tryz.ntmps63
  go_wp2_with fail
  refine C0.mono ?_
  rintro e w1 ⟨v, rfl, l, R, hc, B⟩
  have ho := ordOk_cs hc h5
  have HR : Hid (RowI w.heap.size w1 v ((ordN bs).map Int.ofNat)) := by show RowI _ _ _ _; rw [← ho.1]; exact R
  have HO : Hid (ordOk bs (ordN bs)) := by have := ho; rw [ho.1] at this; exact this
  clear C0 R hc ho
  go_wp2
  go_ret
  exact ⟨_, rfl, HR.out, HO.out, B⟩
 ·have h5' : ¬ (bs.length : Int) ≤ 500 := by omega
  obtain ⟨iI, hiI, hI0, hI1, hI2⟩ := info_parts infoI
  have R0 := RowI.nil w.heap.size w
  have HO : Hid (ordOk bs (List.range bs.length)) := ordOk_all h5
  clear C0
  go_enter Tryz.func63, Tryz.ntmps63
  go_wp2
  go_loopw [3, 4, 12] (fun s3 _ s12 wr => ∃ j : Nat, j ≤ bs.length ∧ s12 = .int .i64 j ∧ Hid (RowI w.heap.size wr s3 ((List.range j).map Int.ofNat)) ∧ Below w.heap.size w wr) (fun _ _ s12 _ => bs.length - (intOf s12).toNat)
  case atStart => exact ⟨0, Nat.zero_le _, rfl, R0, Below.refl _ _⟩
  case round =>
   clear R0
   obtain ⟨j, hj, rfl, RR, B⟩ := hrel
   rename World => wr
   by_cases hlt : j < bs.length
   ·have hlt' : (j : Int) < (bs.length : Int) := by omega
    have hb := below1 wr (.cells #[.int .i64 (j : Int)] 3)
    have NW := one_newI wr 3 (j : Int)
    have R2 : RowI w.heap.size (wr.alloc (.cells #[.int .i64 (j : Int)] 3)) _ ((List.range j).map Int.ofNat) := RR.out.below hb
    have HE : Hid ((List.range (j + 1)).map Int.ofNat = (List.range j).map Int.ofNat ++ [(j : Int)]) := by show _ = _; rw [List.range_succ, List.map_append]; rfl
    have hlj : ((List.range j).map Int.ofNat).length ≤ 1048576 := by simp; omega
    have B3 := B.trans (hb.mono B.size)
    generalize (List.range j).map Int.ofNat = dj at *
    have hz : w.heap.size ≤ (wr.alloc (.cells #[.int .i64 (j : Int)] 3)).heap.size := B3.size
    clear RR hb B
    go_wp2_with (at_builtin; refine wpList_append_own_at _ rfl (.tmp 15) (.tmp 17) 29 rfl w.heap.size 3 iI (.int .i64 0) 1 8 Tryz.underlying29 hiI hI0 hI1 hI2 rfl (by decide) _ dj.length (dj.map (Value.int .i64)) rfl R2 ⟨wr.heap.size, 0, none⟩ 1 _ ([(j : Int)].map (Value.int .i64)) rfl rfl NW (onesI _) (by unfold maxLen; omega) (by omega) hz ?_; intro v7 w7 R8 G7 nil7 _; replace R8 := RowI.snoc R8 rfl; clear nil7)
    have B8 := B3.grown G7 B3.size (fun k e => (World.ownsRow.lt R2 _ e).1)
    have R9 : Hid (RowI w.heap.size w7 v7 ((List.range (j + 1)).map Int.ofNat)) := by show RowI _ _ _ _; rw [HE.out]; exact R8
    clear R8 G7 R2 B3 HE
    go_roundw
    case rel => exact ⟨j + 1, by omega, by go_num, R9, B8⟩
    case measure => simp [intOf]; omega
   ·obtain rfl : j = bs.length := by omega
    have hr := RR.out
    rw [HO.out.1] at hr
    have HO2 : Hid (ordOk bs (ordN bs)) := by have := HO.out; rw [this.1] at this; exact this
    clear RR HO
    go_wp2
    go_ret
    exact ⟨_, rfl, hr, HO2.out, B⟩

set_option maxRecDepth 100000 in
set_option maxHeartbeats 1000000 in
theorem builtOf_any (a1 a2 : Option Addr) (c1 c2 : Nat) (is : List Int) (bs : List Bx) (w : World) (h1 : SeesI w a1 c1 is) (h2 : SeesX w a2 c2 bs) (hl : bs.length ≤ 600) (he : is.length = bs.length) (hok : allOk bs bs.length = true) :
  Calls Tryz.prog 46 #[.slice a1 is.length c1, .slice a2 bs.length c2] w fun e w' => ∃ p, e = .returned (.pointer (some ⟨p, 0, none⟩)) ∧ WkAt w' p (tbT is bs) ∧ ordOk bs (ordN bs) ∧ Below w.heap.size w w' := by
 obtain ⟨iT, hiT, hT0, hT1, hT2⟩ := info_parts infoIt
 have C0 := buildOrder_any a2 c2 bs w h2 (by omega)
 have hm1 := h1.max
 have hf1 := h1.fits
 have hm2 := h2.max
 have hf2 := h2.fits
 unfold maxLen at hm1 hm2
 go_enter Tryz.func46, Tryz.ntmps46
 go_wp2_with fail
 refine C0.mono ?_
 rintro e w1 ⟨v, rfl, R1, ho, B1⟩
 obtain ⟨a3, c3, ev3, hf3, hm3⟩ := R1.shape'
 have hll : ((ordN bs).map Int.ofNat).length = bs.length := by rw [List.length_map]; exact ho.2.1
 rw [hll] at ev3 hf3
 subst ev3
 unfold maxLen at hm3
 have HO : Hid (ordOk bs (ordN bs)) := ho
 have HR1 : Hid (RowI w.heap.size w1 (.slice a3 bs.length c3) ((ordN bs).map Int.ofNat)) := R1
 have HI1 : Hid (SeesI w1 a1 c1 is) := h1.below B1
 have HX1 : Hid (SeesX w1 a2 c2 bs) := h2.below B1
 have HIX : Hid (∀ i, i < bs.length → ∃ k, (ordN bs)[i]? = some k ∧ k < bs.length) := fun i hi => by
  have hi2 : i < (ordN bs).length := by rw [ho.2.1]; exact hi
  exact ⟨_, List.getElem?_eq_getElem hi2, ho.2.2 _ (List.getElem_mem hi2)⟩
 have R0 := RowIt.nil w1.heap.size w1
 generalize hol : ordN bs = l at *
 have HOL : Hid (ordN bs = l) := hol
 clear C0 R1 ho h1 h2 hll hol
 go_wp2
 go_loopw [5, 7, 11] (fun s5 _ s11 wr => ∃ j : Nat, j ≤ bs.length ∧ s11 = .int .i64 j ∧ Hid (RowIt w1.heap.size wr s5 (itK bs is (l.take j))) ∧ Hid (Below w1.heap.size w1 wr)) (fun _ _ s11 _ => bs.length - (intOf s11).toNat)
 case atStart => exact ⟨0, Nat.zero_le _, rfl, R0, Below.refl _ _⟩
 case round =>
  clear R0
  obtain ⟨j, hj, rfl, RH, BH⟩ := hrel
  rename World => wr
  by_cases hlt : j < bs.length
  ·have hlt' : (j : Int) < (bs.length : Int) := by omega
   obtain ⟨k, ek, hk⟩ := HIX.out j hlt
   obtain ⟨q3, ea3, g3, _⟩ := RowI.at2 (j := j) (by have h := HR1.out; have e : bs.length = (l.map Int.ofNat).length := (by rw [List.length_map]; exact HO.out.2.1.symm); rw [e] at h; exact h) (by rw [List.length_map, HO.out.2.1]; exact hlt)
   have gk : (l.map Int.ofNat)[j]?.getD 0 = (k : Int) := by rw [List.getElem?_map, ek]; rfl
   rw [gk] at g3
   replace g3 := bat BH.out g3
   obtain ⟨b1, o1, ea1, hc1⟩ := HI1.out.cells (by intro e; rw [e] at he; simp at he; omega)
   obtain ⟨b2, o2, ea2, hc2⟩ := HX1.out.cells (by intro e; rw [e] at hk; simp at hk)
   have xi := hc1 k (by omega)
   obtain ⟨x0, x1, x2, x3⟩ := hc2 k hk
   have HXS : Hid (itK bs is (l.take (j + 1)) = itK bs is (l.take j) ++ [(bxAt bs k, is[k]?.getD 0)]) := by
    show _ = _
    rw [List.take_add_one, ek]
    simp [itK]
   obtain ⟨⟨y1, y2, y3, y4⟩, uy⟩ : ∃ x, Hid (bxAt bs k = x) := ⟨_, rfl⟩
   obtain ⟨m, um⟩ : ∃ x, Hid (is[k]?.getD 0 = x) := ⟨_, rfl⟩
   rw [uy.out] at x0 x1 x2 x3 HXS
   rw [um.out] at xi HXS
   dsimp only at x0 x1 x2 x3
   have HXL : Hid ((itK bs is (l.take j)).length ≤ 1048576) := by show _ ≤ _; rw [itK_len, List.length_take]; omega
   have RH2 := RH.out
   generalize itK bs is (l.take j) = xs at *
   subst ea1 ea2 ea3
   have hki : (k : Int) < (is.length : Int) := by omega
   have hkb : (k : Int) < (bs.length : Int) := by omega
   have hki' : k < is.length := by omega
   clear hc1 hc2 gk RH
   go_upto_region 5 with fail
   have NT : Below w1.heap.size w1 wr.drew := BH.out.trans ((Below.refl wr.heap.size wr).drew.mono BH.out.size)
   have RR : RowIt w1.heap.size wr.drew _ xs := owns_below RH2 (Below.refl wr.heap.size wr).drew
   have NL : True := trivial
   clear g3 RH2 BH
   refine wp_region_M 11 (fun _ => True) (fun W => Below w1.heap.size w1 W) (by kernel_rfl) ?_
   generalize wr.drew = ww0 at *
   refine takeT (i := 0) (by simp only [List.getElem?_toArray, List.getElem?_cons_zero]; exact rfl) (by kernel_rfl) (by kernel_rfl) (by kernel_rfl) (by exact fun _ _ _ h => h) (by decide) (by rfl) (by intro wq hSw; go_simp <;> with_reducible rfl) ⟨NT, .inr NL⟩ ?_
   try simp only [Act.put, pA, pB, pC]
   refine takeT (i := 1) (by simp only [List.getElem?_toArray, List.getElem?_cons_succ, List.getElem?_cons_zero]; exact rfl) (by kernel_rfl) (by kernel_rfl) (by kernel_rfl) (by exact fun _ _ _ h => h) (by decide) (by rfl) (by intro wq hSw; go_simp <;> with_reducible rfl) ⟨NT, .inr NL⟩ ?_
   try simp only [Act.put, pA, pB, pC]
   refine takeT (i := 2) (by simp only [List.getElem?_toArray, List.getElem?_cons_succ, List.getElem?_cons_zero]; exact rfl) (by kernel_rfl) (by kernel_rfl) (by kernel_rfl) (by exact fun _ _ _ h => h) (by decide) (by rfl) (by intro wq hSw; go_simp <;> with_reducible rfl) ⟨NT, .inr NL⟩ ?_
   try simp only [Act.put, pA, pB, pC]
   refine takeT (i := 3) (by simp only [List.getElem?_toArray, List.getElem?_cons_succ, List.getElem?_cons_zero]; exact rfl) (by kernel_rfl) (by kernel_rfl) (by kernel_rfl) (by exact fun _ _ _ h => h) (by decide) (by rfl) (by intro wq hSw; go_simp <;> with_reducible rfl) ⟨NT, .inr NL⟩ ?_
   try simp only [Act.put, pA, pB, pC]
   refine takeT (i := 4) (by simp only [List.getElem?_toArray, List.getElem?_cons_succ, List.getElem?_cons_zero]; exact rfl) (by kernel_rfl) (by kernel_rfl) (by kernel_rfl) (by exact fun _ _ _ h => h) (by decide) (by rfl) (by intro wq hSw; have y5 := bat hSw x0; have y6 := bat hSw x1; have y7 := bat hSw x2; have y8 := bat hSw x3; have y9 := bat hSw xi; go_simp <;> with_reducible rfl) ⟨NT, .inr NL⟩ ?_
   try simp only [Act.put, pA, pB, pC]
   refine takeT (i := 5) (by simp only [List.getElem?_toArray, List.getElem?_cons_succ, List.getElem?_cons_zero]; exact rfl) (by kernel_rfl) (by kernel_rfl) (by kernel_rfl) (by exact fun _ _ _ h => h) (by decide) (by rfl) (by intro wq hSw; go_simp <;> with_reducible rfl) ⟨NT, .inr NL⟩ ?_
   try simp only [Act.put, pA, pB, pC]
   refine takeT (i := 6) (by simp only [List.getElem?_toArray, List.getElem?_cons_succ, List.getElem?_cons_zero]; exact rfl) (by kernel_rfl) (by kernel_rfl) (by kernel_rfl) (by exact fun _ _ _ h => h) (by decide) (by rfl) (by intro wq hSw; go_simp <;> with_reducible rfl) ⟨NT, .inr NL⟩ ?_
   try simp only [Act.put, pA, pB, pC]
   refine takeT (i := 7) (by simp only [List.getElem?_toArray, List.getElem?_cons_succ, List.getElem?_cons_zero]; exact rfl) (by kernel_rfl) (by kernel_rfl) (by kernel_rfl) (by exact fun _ _ _ h => h) (by decide) (by rfl) (by intro wq hSw; go_simp <;> with_reducible rfl) ⟨NT, .inr NL⟩ ?_
   try simp only [Act.put, pA, pB, pC]
   refine takeT (i := 8) (by simp only [List.getElem?_toArray, List.getElem?_cons_succ, List.getElem?_cons_zero]; exact rfl) (by kernel_rfl) (by kernel_rfl) (by kernel_rfl) (by exact fun _ _ _ h => h) (by decide) (by rfl) (by intro wq hSw; have y5 := bat hSw x0; have y6 := bat hSw x1; have y7 := bat hSw x2; have y8 := bat hSw x3; have y9 := bat hSw xi; go_simp <;> with_reducible rfl) ⟨NT, .inr NL⟩ ?_
   try simp only [Act.put, pA, pB, pC]
   refine takeT (i := 9) (by simp only [List.getElem?_toArray, List.getElem?_cons_succ, List.getElem?_cons_zero]; exact rfl) (by kernel_rfl) (by kernel_rfl) (by kernel_rfl) (by exact fun _ _ _ h => h) (by decide) (by rfl) (by intro wq hSw; go_simp <;> with_reducible rfl) ⟨NT, .inr NL⟩ ?_
   try simp only [Act.put, pA, pB, pC]
   refine wpAnyM_ready (rs := [10]) (by kernel_rfl) (by simp) (AllReadyM.cons (by simp only [List.getElem?_toArray, List.getElem?_cons_succ, List.getElem?_cons_zero]; exact rfl) (fun K hK => ?_) AllReadyM.nil)
   go_simp
   have bq := below1 ww0 (.cells #[.int .i64 y1, .int .i64 y2, .int .i64 y3, .int .i64 y4, .int .i64 m] 112)
   have NW := it_new ww0 112 y1 y2 y3 y4 m
   replace RR := owns_below RR bq
   replace NT := NT.trans (bq.mono NT.size)
   refine hK.out _ _ ⟨NT, .inr NL⟩ ?_
   clear hK K
   try simp only [Act.put, pA, pB, pC]
   generalize hzA : ww0.heap.size = zA at *
   generalize ww0.alloc (.cells #[.int .i64 y1, .int .i64 y2, .int .i64 y3, .int .i64 y4, .int .i64 m] 112) = w6 at *
   clear bq
   refine wpAnyM_ready (rs := [11]) (by kernel_rfl) (by simp) (AllReadyM.cons (by simp only [List.getElem?_toArray, List.getElem?_cons_succ, List.getElem?_cons_zero]; exact rfl) (fun K hK => ?_) AllReadyM.nil)
   refine wp_append_at (.tmp 15) (.tmp 25) 107 rfl w1.heap.size 112 iT (.agg #[.int .i64 0, .int .i64 0, .int .i64 0, .int .i64 0, .int .i64 0]) 5 40 Tryz.underlying107 hiT hT0 hT1 hT2 rfl (by decide) _ xs.length (itC xs) rfl RR ⟨zA, 0, none⟩ 1 _ (itC [((y1, y2, y3, y4), m)]) rfl rfl NW (itC_ones _) (by have := HXL.out; unfold maxLen; omega) (by have := HXL.out; omega) NT.size ?_
   intro v7 w7 R7 G7 _
   have R8 : Hid (RowIt w1.heap.size w7 v7 (itK bs is (l.take (j + 1)))) := by show RowIt _ _ _ _; rw [HXS.out]; exact RowIt.snoc R7
   replace NT := NT.grown G7 NT.size (fun k e => (World.ownsRow.lt RR k e).1)
   have HB7 : Hid (Below w1.heap.size w1 w7) := NT
   refine hK.out _ _ ⟨NT, .inl (by kernel_rfl)⟩ ?_
   clear hK K
   try simp only [Act.put, pA, pB, pC]
   clear RR R7 G7 NW
   refine takeT (i := 12) (by simp only [List.getElem?_toArray, List.getElem?_cons_succ, List.getElem?_cons_zero]; exact rfl) (by kernel_rfl) (by kernel_rfl) (by kernel_rfl) (by exact fun _ _ _ h => h) (by decide) (by rfl) (by intro wq hSw; go_simp <;> with_reducible rfl) ⟨NT, .inl (by kernel_rfl)⟩ ?_
   try simp only [Act.put, pA, pB, pC]
   refine wpAnyM_done (by kernel_rfl) ?_ _
   clear NT NL HXS HXL
   go_wp2
   go_roundw
   case rel => exact ⟨j + 1, by omega, by go_num, R8, HB7⟩
   case measure => simp [intOf]; omega
  ·obtain rfl : j = bs.length := by omega
   obtain ⟨a5, c5, ev5, S5, _⟩ := RowIt.sees RH.out
   have ht : l.take bs.length = l := List.take_of_length_le (by have := HO.out.2.1; omega)
   rw [ht] at S5 ev5
   have hn5 : (itK bs is l).length = ((itK bs is l).map Prod.fst).length := by rw [List.length_map]
   rw [hn5] at ev5
   subst ev5
   have C := built_any a5 c5 ((itK bs is l).map Prod.fst) ((itK bs is l).map Prod.snd) wr S5 (itK_ok is hok HO.out.2.2) (by rw [List.length_map, itK_len, HO.out.2.1]; omega)
   have HT : Hid (tbT is bs = bldT ((itK bs is l).map Prod.fst) ((itK bs is l).map Prod.snd)) := by show _ = _; unfold tbT; rw [HOL.out]
   have B := B1.trans (BH.out.mono B1.size)
   clear S5 RH BH ht hn5
   generalize ((itK bs is l).map Prod.fst).length = n5 at *
   go_wp2_with fail
   refine C.mono ?_
   rintro e w5 ⟨p, rfl, K5, hb⟩
   have HK : Hid (WkAt w5 p (tbT is bs)) := by show WkAt _ _ _; rw [HT.out]; exact K5
   have B5 := B.trans (hb.mono B.size)
   have HO5 : Hid (ordOk bs l) := HO.out
   clear C K5 hb HT
   go_wp2
   go_ret
   exact ⟨p, rfl, HK.out, by rw [HOL.out]; exact HO5.out, B5⟩

end Go.Proofs.YtinlomcaagdbiaaGreat
