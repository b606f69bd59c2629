/- Numbers by limbs that are chosen ahead: the contracts on numbers in this form, of the program and of the specification. -/
import Derived.Deep.RegionHeld3
import Derived.Test.YthafgldgidmnlaaGreatL2Mul
import Derived.Test.YthafgldgidmnlaaGreatSubI
import Derived.Test.YthafgldgidmnlaaGreatCmp
import Derived.Test.YthafgldgidmnlaaGreatLimbs
import Derived.Test.YthafgldgidmnlaaGreatPtG
import Derived.Test.YthafgldgidmnlaaGreatBase
namespace Go.Proofs.YthafgldgidmnlaaGreat
open Go.RowKit

def Lm (zs : List Int) (z : Int) : Prop := Lim zs ∧ Nrm zs ∧ val zs = mg z
theorem Lm.ex (z : Int) : ∃ zs, Lm zs z := limbs_mg z
theorem Lm.sg {zs : List Int} {z : Int} (h : Lm zs z) {g : Bool} (hg : decide (z < 0) = g) : sg g (val zs) = z := by rw [← hg, h.2.2]; exact sg_of_mg z
theorem Lm.none {zs : List Int} {z : Int} {g : Bool} (h : Lm zs z) (hg : decide (z < 0) = g) : zs = [] → g = false := fun e => by rw [← hg]; exact flag_nil h.2.2 e
theorem Lm.zero {zs : List Int} {z : Int} (h : Lm zs z) : zs.length = 0 ↔ z = 0 := by
 constructor
 ·intro e
  have := h.2.2
  rw [List.eq_nil_of_length_eq_zero e] at this
  unfold mg at this
  simp only [val] at this
  split at this <;> omega
 ·intro e
  subst e
  rcases Nat.eq_zero_or_pos zs.length with c | c
  ·exact c
  ·have := val_pos h.1 h.2.1 (by intro q; rw [q] at c; simp at c)
   rw [h.2.2] at this
   unfold mg at this
   simp at this
theorem Lm.mul {us vs zs : List Int} {x y : Int} (h : Lm us x) (k : Lm vs y) (m : Lm zs (x * y)) : zs.length ≤ us.length + vs.length := by
 refine len_le m.1 m.2.1 ?_
 rw [m.2.2, mg_mul, ← h.2.2, ← k.2.2, Int.pow_add]
 have a1 := val_lt h.1
 have a2 := val_lt k.1
 have h6 := val_nonneg h.1
 have h5 := p_pos vs.length
 exact Int.lt_of_le_of_lt (Int.mul_le_mul_of_nonneg_left (Int.le_of_lt a2) h6) (Int.mul_lt_mul_of_pos_right a1 h5)
theorem Lm.add {us vs zs : List Int} {x y z : Int} (h : Lm us x) (k : Lm vs y) (m : Lm zs z) (e : mg z ≤ mg x + mg y) {L : Nat} (l1 : us.length ≤ L) (l2 : vs.length ≤ L) : zs.length ≤ L + 1 := by
 refine len_le m.1 m.2.1 ?_
 have a1 := val_lt h.1
 have a2 := val_lt k.1
 have a3 := p_mono us.length (L - us.length)
 have a4 := p_mono vs.length (L - vs.length)
 rw [show us.length + (L - us.length) = L by omega] at a3
 rw [show vs.length + (L - vs.length) = L by omega] at a4
 rw [← h.2.2, ← k.2.2] at e
 rw [m.2.2, Int.pow_succ]
 have h5 := p_pos L
 generalize (4294967296 : Int) ^ L = P at *
 omega
theorem mg_sub_le (x y : Int) : mg (x - y) ≤ mg x + mg y := by unfold mg; split <;> split <;> split <;> omega
theorem mg_add_le (x y : Int) : mg (x + y) ≤ mg x + mg y := by unfold mg; split <;> split <;> split <;> omega
theorem Lm.two {us : List Int} {n : Int} (h : Lm us n) (h1 : -9223372036854775808 ≤ n) (h2 : n ≤ 9223372036854775807) : us.length ≤ 2 := by
 refine len_le h.1 h.2.1 ?_
 rw [h.2.2]
 have : (4294967296 : Int) ^ 2 = 18446744073709551616 := by decide
 rw [this]
 unfold mg
 split <;> omega
theorem IsNum.lm {b : Nat} {w : World} {v : Value} {z : Int} (h : IsNum b w v z) {zs : List Int} {g : Bool} (L : Lm zs z) (G : decide (z < 0) = g) : ∃ a c, v = .agg #[.bool g, .slice a zs.length c] ∧ Own b w a c zs := by
 subst G
 exact h.as L.1 L.2.1 L.2.2
theorem cmpZ_sgn (x y : Int) : cmpZ x y = sgn1 (x - y) := by
 unfold cmpZ sgn1
 split
 ·rw [if_neg (by omega), if_pos (by omega)]
 ·split
  ·rw [if_neg (by omega), if_neg (by omega)]
  ·rw [if_pos (by omega)]
theorem tk_isW {us : List Int} {n : Int} (hl : Lim us) (hn : Nrm us) (l : us.length ≤ 24) (hv : val us = mg n) : tk (decide (n < 0)) us = n := by
 have hk : okB (decide (n < 0)) us = true := by
  unfold okB
  by_cases h0 : us.length = 0
  ·rw [if_pos h0]
   obtain rfl : us = [] := List.eq_nil_of_length_eq_zero h0
   have : mg n = 0 := by rw [← hv]; rfl
   unfold mg at this
   simp
   split at this <;> omega
  ·rw [if_neg h0]
   have hlast : us.getLast? = some (us[us.length - 1]?.getD 0) := by
    rw [List.getLast?_eq_getElem?, List.getElem?_eq_getElem (by omega)]
    rfl
   have := last_of_Nrm hn _ hlast
   simp [l, this]
 unfold tk tkG tkL
 rw [hk, if_pos rfl, Bool.true_and, hv]
 unfold sg mg
 by_cases h : n < 0 <;> simp [h]
theorem okB_isW {us : List Int} {n : Int} (hn : Nrm us) (l : us.length ≤ 24) (hv : val us = mg n) : okB (decide (n < 0)) us = true := by
 unfold okB
 by_cases h0 : us.length = 0
 ·rw [if_pos h0]
  obtain rfl : us = [] := List.eq_nil_of_length_eq_zero h0
  have : mg n = 0 := by rw [← hv]; rfl
  unfold mg at this
  simp
  split at this <;> omega
 ·rw [if_neg h0]
  have hlast : us.getLast? = some (us[us.length - 1]?.getD 0) := by
   rw [List.getLast?_eq_getElem?, List.getElem?_eq_getElem (by omega)]
   rfl
  have := last_of_Nrm hn _ hlast
  simp [l, this]
theorem fND_isW {zs ts : List Int} {n d : Int} (l1 : Lim zs) (n1 : Nrm zs) (s1 : zs.length ≤ 24) (v1 : val zs = mg n) (l2 : Lim ts) (n2 : Nrm ts) (s2 : ts.length ≤ 24) (v2 : val ts = mg d) (hd : 0 < d) :
  fN (decide (n < 0)) zs (decide (d < 0)) ts = n ∧ fD (decide (n < 0)) zs (decide (d < 0)) ts = d := by
 have t1 := tk_isW l1 n1 s1 v1
 have t2 := tk_isW l2 n2 s2 v2
 have e : fOk (decide (n < 0)) zs (decide (d < 0)) ts = true := by
  unfold fOk
  rw [okB_isW n1 s1 v1, okB_isW n2 s2 v2, t2]
  unfold cmpZ
  rw [if_neg (by omega), if_neg (by omega)]
  rfl
 unfold fN fD
 rw [if_pos e, if_pos e]
 exact ⟨t1, t2⟩

theorem ofA (n : Int) (w : World) (h1 : -9223372036854775808 ≤ n) (h2 : n ≤ 9223372036854775807) {us : List Int} {g : Bool} (L : Lm us n) (G : decide (n < 0) = g) :
  Calls Tryz.prog 129 #[.int .i64 n] w fun e w' => ∃ a c, e = .returned (.agg #[.bool g, .slice a us.length c]) ∧ Own w.heap.size w' a c us ∧ Below w.heap.size w w' := by
 refine (implOf n w h1 h2).mono ?_
 rintro e w' ⟨v, rfl, hI, hb⟩
 obtain ⟨a, c, rfl, o⟩ := hI.lm L G
 exact ⟨a, c, rfl, o, hb⟩
theorem ofS (n : Int) (w : World) (h1 : -9223372036854775808 ≤ n) (h2 : n ≤ 9223372036854775807) {us : List Int} {g : Bool} (L : Lm us n) (G : decide (n < 0) = g) :
  Calls Tryz.prog 60 #[.int .i64 n] w fun e w' => ∃ a c, e = .returned (.agg #[.bool g, .slice a us.length c]) ∧ Own w.heap.size w' a c us ∧ Below w.heap.size w w' := by
 refine (specOf n w h1 h2).mono ?_
 rintro e w' ⟨v, rfl, hI, hb⟩
 obtain ⟨a, c, rfl, o⟩ := hI.lm L G
 exact ⟨a, c, rfl, o, hb⟩
theorem mulA {x y : Int} {us vs zs : List Int} {g h f : Bool} (a b : Option Addr) (c d : Nat) (w : World) (s : Sees w a c us) (t : Sees w b d vs) (L1 : Lm us x) (G1 : decide (x < 0) = g) (L2 : Lm vs y) (G2 : decide (y < 0) = h) (L3 : Lm zs (x * y)) (G3 : decide (x * y < 0) = f) (hs : us.length + vs.length ≤ 1048576) :
  Calls Tryz.prog 128 #[.agg #[.bool g, .slice a us.length c], .agg #[.bool h, .slice b vs.length d]] w fun e w' => ∃ a5 c5, e = .returned (.agg #[.bool f, .slice a5 zs.length c5]) ∧ Own w.heap.size w' a5 c5 zs ∧ Below w.heap.size w w' := by
 refine (productC g h a b c d us vs w s t hs).mono ?_
 rintro e w' ⟨v, rfl, hI, hb⟩
 rw [sg_mul, L1.sg G1, L2.sg G2] at hI
 obtain ⟨a5, c5, rfl, o⟩ := hI.lm L3 G3
 exact ⟨a5, c5, rfl, o, hb⟩
theorem mulS {x y : Int} {us vs zs : List Int} {g h f : Bool} (a b : Option Addr) (c d : Nat) (w : World) (s : Sees w a c us) (t : Sees w b d vs) (L1 : Lm us x) (G1 : decide (x < 0) = g) (L2 : Lm vs y) (G2 : decide (y < 0) = h) (L3 : Lm zs (x * y)) (G3 : decide (x * y < 0) = f) (hs : us.length + vs.length ≤ 1048576) :
  Calls Tryz.prog 59 #[.agg #[.bool g, .slice a us.length c], .agg #[.bool h, .slice b vs.length d]] w fun e w' => ∃ a5 c5, e = .returned (.agg #[.bool f, .slice a5 zs.length c5]) ∧ Own w.heap.size w' a5 c5 zs ∧ Below w.heap.size w w' := by
 refine (l2MulC g h a b c d us vs w s t hs).mono ?_
 rintro e w' ⟨v, rfl, hI, hb⟩
 rw [sg_mul, L1.sg G1, L2.sg G2] at hI
 obtain ⟨a5, c5, rfl, o⟩ := hI.lm L3 G3
 exact ⟨a5, c5, rfl, o, hb⟩

set_option maxHeartbeats 1000000 in
theorem l2AddW (g g' : Bool) (a b : Option Addr) (c d : Nat) (xs ys : List Int) (w : World) (h : Sees w a c xs) (k : Sees w b d ys) (nx : Nrm xs) (ny : Nrm ys) (hx : xs.length ≤ 1048576) (hy : ys.length ≤ 1048576) :
  Calls Tryz.prog 58 #[.agg #[.bool g, .slice a xs.length c], .agg #[.bool g', .slice b ys.length d]] w fun e w' => ∃ v, e = .returned v ∧ IsNum w.heap.size w' v (sg g (val xs) + sg g' (val ys)) ∧ Below w.heap.size w w' := by
 have HX : Hid (xs.length ≤ 1048576 ∧ ys.length ≤ 1048576 ∧ Nrm xs ∧ Nrm ys) := ⟨hx, hy, nx, ny⟩
 clear hx hy nx ny
 go_enter Tryz.func58, Tryz.ntmps58
 go_wp2_with fail
 refine (l1AddC g g' a b c d xs ys _ (h.below (below3 _ _ _ _)) (k.below (below3 _ _ _ _)) HX.out.2.2.1 HX.out.2.2.2 HX.out.1 HX.out.2.1).mono ?_
 rintro e w1 ⟨v, rfl, hI, hb⟩
 obtain ⟨q1, q2⟩ := at_block hb (b := w.heap.size + 1 + 1) (by simp)
 have z1 : w.heap.size + 1 + 1 < w1.heap.size := by have := hb.size; simp at this; omega
 have B1 := (below3 w _ _ _).trans (hb.mono (by simp; omega))
 simp only [World.size_alloc] at hI
 obtain ⟨g5, a5, l5, c5, rfl⟩ := hI.shape
 clear hb
 go_wp2
 exact bodyPost_ret (v := .agg #[.bool g5, .slice a5 l5 c5]) (by simp [results, Tryz.results58, go_sem, q1]) rfl ⟨_, rfl, hI.put' (by omega) (by omega), below_put' B1 (by omega) _ _⟩
theorem addS {x y : Int} {us vs zs : List Int} {g h f : Bool} (a b : Option Addr) (c d : Nat) (w : World) (s : Sees w a c us) (t : Sees w b d vs) (L1 : Lm us x) (G1 : decide (x < 0) = g) (L2 : Lm vs y) (G2 : decide (y < 0) = h) (L3 : Lm zs (x + y)) (G3 : decide (x + y < 0) = f) (hs : us.length ≤ 1048576) (ht : vs.length ≤ 1048576) :
  Calls Tryz.prog 58 #[.agg #[.bool g, .slice a us.length c], .agg #[.bool h, .slice b vs.length d]] w fun e w' => ∃ a5 c5, e = .returned (.agg #[.bool f, .slice a5 zs.length c5]) ∧ Own w.heap.size w' a5 c5 zs ∧ Below w.heap.size w w' := by
 refine (l2AddW g h a b c d us vs w s t L1.2.1 L2.2.1 hs ht).mono ?_
 rintro e w' ⟨v, rfl, hI, hb⟩
 rw [L1.sg G1, L2.sg G2] at hI
 obtain ⟨a5, c5, rfl, o⟩ := hI.lm L3 G3
 exact ⟨a5, c5, rfl, o, hb⟩
theorem subS {x y : Int} {us vs zs : List Int} {g h f : Bool} (a b : Option Addr) (c d : Nat) (w : World) (s : Sees w a c us) (t : Sees w b d vs) (L1 : Lm us x) (G1 : decide (x < 0) = g) (L2 : Lm vs y) (G2 : decide (y < 0) = h) (L3 : Lm zs (x - y)) (G3 : decide (x - y < 0) = f) (hs : us.length ≤ 1048576) (ht : vs.length ≤ 1048576) :
  Calls Tryz.prog 61 #[.bool g, .slice a us.length c, .bool (!h), .slice b vs.length d] w fun e w' => ∃ a5 c5, e = .returned (.agg #[.bool f, .slice a5 zs.length c5]) ∧ Own w.heap.size w' a5 c5 zs ∧ Below w.heap.size w w' := by
 refine (l1AddC g (!h) a b c d us vs w s t L1.2.1 L2.2.1 hs ht).mono ?_
 rintro e w' ⟨v, rfl, hI, hb⟩
 have e2 : sg (!h) (val vs) = - y := by
  have := L2.sg G2
  rw [← this]
  cases h <;> simp [sg]
 rw [L1.sg G1, e2, ← Int.sub_eq_add_neg] at hI
 obtain ⟨a5, c5, rfl, o⟩ := hI.lm L3 G3
 exact ⟨a5, c5, rfl, o, hb⟩
set_option maxHeartbeats 1000000 in
theorem wholeA (n : Int) (w : World) (h1 : -9223372036854775808 ≤ n) (h2 : n ≤ 9223372036854775807) {us ts : List Int} {g : Bool} (L : Lm us n) (G : decide (n < 0) = g) (T : Lm ts 1) :
  Calls Tryz.prog 127 #[.int .i64 n] w fun e w' => ∃ a c b d, e = .returned (.agg #[.bool g, .slice a us.length c, .bool false, .slice b ts.length d]) ∧ Sees w' a c us ∧ Sees w' b d ts ∧ Below w.heap.size w w' := by
 have B0 := below1 w (.cells #[.bool false, .slice none 0 0, .bool false, .slice none 0 0] 39)
 have HN : Hid (-9223372036854775808 ≤ n ∧ n ≤ 9223372036854775807) := ⟨h1, h2⟩
 have HL : Hid (Lm us n ∧ decide (n < 0) = g ∧ Lm ts 1) := ⟨L, G, T⟩
 clear h1 h2 L G T
 go_enter Tryz.func127, Tryz.ntmps127
 go_wp2_with fail
 refine (ofA n _ HN.out.1 HN.out.2 HL.out.1 HL.out.2.1).mono ?_
 rintro e w1 ⟨a1, c1, rfl, o1, hb1⟩
 go_wp2_with fail
 refine (ofA 1 _ (by decide) (by decide) HL.out.2.2 (g := false) rfl).mono ?_
 rintro e w2 ⟨a2, c2, rfl, o2, hb2⟩
 obtain ⟨q1, r1⟩ := at_block hb1 (b := w.heap.size) (by simp)
 have z1 : w.heap.size < w1.heap.size := by have := hb1.size; simp at this; omega
 have q2 := fun o => (hb2.cell (p := ⟨w.heap.size, o, none⟩) z1).trans (q1 o)
 have r2 := fun o => (hb2.frozen (p := ⟨w.heap.size, o, none⟩) z1).trans (r1 o)
 have z2 := Nat.lt_of_lt_of_le z1 hb2.size
 have B1 := (B0.trans (hb1.mono (by simp)))
 have B2 := B1.trans (hb2.mono B1.size)
 have n1 := row_ne_low o1 (p := w.heap.size) (by simp)
 have n2 := row_ne_low o2 (p := w.heap.size) z1
 have J1 := (o1.below hb2).put4 n1 (.bool g) (.slice a1 us.length c1) (.bool false) (.slice a2 ts.length c2)
 have J2 := o2.put4 n2 (.bool g) (.slice a1 us.length c1) (.bool false) (.slice a2 ts.length c2)
 have BP := (((B2.setCell (p := ⟨w.heap.size, 0, none⟩) (Nat.le_refl _) (.bool g)).setCell (p := ⟨w.heap.size, 1, none⟩) (Nat.le_refl _) (.slice a1 us.length c1)).setCell (p := ⟨w.heap.size, 2, none⟩) (Nat.le_refl _) (.bool false)).setCell (p := ⟨w.heap.size, 3, none⟩) (Nat.le_refl _) (.slice a2 ts.length c2)
 have J3 : Hid _ := J1.toSees
 have J4 : Hid _ := J2.toSees
 clear hb1 hb2 o1 o2 q1 r1 B0 B1 B2 n1 n2 J1 J2
 go_wp2
 exact bodyPost_ret (v := .agg #[.bool g, .slice a1 us.length c1, .bool false, .slice a2 ts.length c2]) (by simp [results, Tryz.results127, go_sem, q2]) rfl ⟨a1, c1, a2, c2, rfl, J3.out, J4.out, BP⟩
set_option maxHeartbeats 1000000 in
theorem wholeS (n : Int) (w : World) (h1 : -9223372036854775808 ≤ n) (h2 : n ≤ 9223372036854775807) {us ts : List Int} {g : Bool} (L : Lm us n) (G : decide (n < 0) = g) (T : Lm ts 1) :
  Calls Tryz.prog 48 #[.int .i64 n] w fun e w' => ∃ a c b d, e = .returned (.agg #[.bool g, .slice a us.length c, .bool false, .slice b ts.length d]) ∧ Sees w' a c us ∧ Sees w' b d ts ∧ Below w.heap.size w w' := by
 have B0 := below1 w (.cells #[.bool false, .slice none 0 0, .bool false, .slice none 0 0] 39)
 have HN : Hid (-9223372036854775808 ≤ n ∧ n ≤ 9223372036854775807) := ⟨h1, h2⟩
 have HL : Hid (Lm us n ∧ decide (n < 0) = g ∧ Lm ts 1) := ⟨L, G, T⟩
 clear h1 h2 L G T
 go_enter Tryz.func48, Tryz.ntmps48
 go_wp2_with fail
 refine (ofS n _ HN.out.1 HN.out.2 HL.out.1 HL.out.2.1).mono ?_
 rintro e w1 ⟨a1, c1, rfl, o1, hb1⟩
 go_wp2_with fail
 refine (ofS 1 _ (by decide) (by decide) HL.out.2.2 (g := false) rfl).mono ?_
 rintro e w2 ⟨a2, c2, rfl, o2, hb2⟩
 obtain ⟨q1, r1⟩ := at_block hb1 (b := w.heap.size) (by simp)
 have z1 : w.heap.size < w1.heap.size := by have := hb1.size; simp at this; omega
 have q2 := fun o => (hb2.cell (p := ⟨w.heap.size, o, none⟩) z1).trans (q1 o)
 have r2 := fun o => (hb2.frozen (p := ⟨w.heap.size, o, none⟩) z1).trans (r1 o)
 have z2 := Nat.lt_of_lt_of_le z1 hb2.size
 have B1 := (B0.trans (hb1.mono (by simp)))
 have B2 := B1.trans (hb2.mono B1.size)
 have n1 := row_ne_low o1 (p := w.heap.size) (by simp)
 have n2 := row_ne_low o2 (p := w.heap.size) z1
 have J1 := (o1.below hb2).put4 n1 (.bool g) (.slice a1 us.length c1) (.bool false) (.slice a2 ts.length c2)
 have J2 := o2.put4 n2 (.bool g) (.slice a1 us.length c1) (.bool false) (.slice a2 ts.length c2)
 have BP := (((B2.setCell (p := ⟨w.heap.size, 0, none⟩) (Nat.le_refl _) (.bool g)).setCell (p := ⟨w.heap.size, 1, none⟩) (Nat.le_refl _) (.slice a1 us.length c1)).setCell (p := ⟨w.heap.size, 2, none⟩) (Nat.le_refl _) (.bool false)).setCell (p := ⟨w.heap.size, 3, none⟩) (Nat.le_refl _) (.slice a2 ts.length c2)
 have J3 : Hid _ := J1.toSees
 have J4 : Hid _ := J2.toSees
 clear hb1 hb2 o1 o2 q1 r1 B0 B1 B2 n1 n2 J1 J2
 go_wp2
 exact bodyPost_ret (v := .agg #[.bool g, .slice a1 us.length c1, .bool false, .slice a2 ts.length c2]) (by simp [results, Tryz.results48, go_sem, q2]) rfl ⟨a1, c1, a2, c2, rfl, J3.out, J4.out, BP⟩

theorem fcmpA {x d x' d' : Int} {us vs us' vs' : List Int} {g h g' h' : Bool} (a b a' b' : Option Addr) (c e c' e' : Nat) (w : World) (s : Sees w a c us) (t : Sees w b e vs) (s' : Sees w a' c' us') (t' : Sees w b' e' vs') (L1 : Lm us x) (G1 : decide (x < 0) = g) (L2 : Lm vs d) (G2 : decide (d < 0) = h) (M1 : Lm us' x') (K1 : decide (x' < 0) = g') (M2 : Lm vs' d') (K2 : decide (d' < 0) = h') (l1 : us.length ≤ 24) (l2 : vs.length ≤ 24) (l3 : us'.length ≤ 24) (l4 : vs'.length ≤ 24) :
  Calls Tryz.prog 126 #[.agg #[.bool g, .slice a us.length c, .bool h, .slice b vs.length e], .agg #[.bool g', .slice a' us'.length c', .bool h', .slice b' vs'.length e']] w fun r w' => r = .returned (.int .i64 (sgn1 (x * d' - x' * d))) ∧ Below w.heap.size w w' := by
 have := fcomparedC g h g' h' a b a' b' c e c' e' us vs us' vs' w s t s' t' l1 l2 l3 l4
 rw [L1.sg G1, L2.sg G2, M1.sg K1, M2.sg K2, cmpZ_sgn] at this
 exact this
theorem fcmpS {x d x' d' : Int} {us vs us' vs' : List Int} {g h g' h' : Bool} (a b a' b' : Option Addr) (c e c' e' : Nat) (w : World) (s : Sees w a c us) (t : Sees w b e vs) (s' : Sees w a' c' us') (t' : Sees w b' e' vs') (L1 : Lm us x) (G1 : decide (x < 0) = g) (L2 : Lm vs d) (G2 : decide (d < 0) = h) (M1 : Lm us' x') (K1 : decide (x' < 0) = g') (M2 : Lm vs' d') (K2 : decide (d' < 0) = h') (l1 : us.length ≤ 24) (l2 : vs.length ≤ 24) (l3 : us'.length ≤ 24) (l4 : vs'.length ≤ 24) (p1 : 0 < d) (p2 : 0 < d') :
  Calls Tryz.prog 47 #[.agg #[.bool g, .slice a us.length c, .bool h, .slice b vs.length e], .agg #[.bool g', .slice a' us'.length c', .bool h', .slice b' vs'.length e']] w fun r w' => r = .returned (.int .i64 (sgn1 (x * d' - x' * d))) ∧ Below w.heap.size w w' := by
 obtain ⟨q1, q2⟩ := fND_isW L1.1 L1.2.1 l1 L1.2.2 L2.1 L2.2.1 l2 L2.2.2 p1
 obtain ⟨q3, q4⟩ := fND_isW M1.1 M1.2.1 l3 M1.2.2 M2.1 M2.2.1 l4 M2.2.2 p2
 rw [G1, G2] at q1 q2
 rw [K1, K2] at q3 q4
 have := specCmpFrac g h g' h' a b a' b' c e c' e' us vs us' vs' w s t s' t'
 rw [q1, q2, q3, q4, cmpZ_sgn] at this
 exact this
theorem pA {l : List Value} {i : Nat} {a : Value} : l.toArray.setIfInBounds i a = (l.set i a).toArray := List.setIfInBounds_toArray ..
theorem pB {a b : Value} {l : List Value} : (a :: l).set 0 b = b :: l := rfl
theorem pC {a b : Value} {l : List Value} {n : Nat} : (a :: l).set (n + 1) b = a :: l.set n b := rfl
theorem takeA {P : Program} {ops : Array Oper} {Q : Exit → Act → World → Prop} {md : Region.Mode} {S : World → Prop} {i : Nat} {oi : Oper} {v : Value} {fuel : Nat} {listed : Array Bool} {a a' : Act} {w : World} (hi : ops[i]? = some oi := by first | (simp only [List.getElem?_toArray, List.getElem?_cons_succ, List.getElem?_cons_zero]; exact rfl) | (simp only [List.getElem?_toArray, List.getElem?_cons_zero]; exact rfl))
  (hs : Region.noSelect ops = true := by kernel_rfl) (hf : Region.free md ops listed i = true := by kernel_rfl) (hr : (Region.ready md ops listed).contains i = true := by kernel_rfl)
  (hQ : ∀ c a w, Q (.panic c) (a.put oi.dst v) w → Q (.panic c) a w := by exact fun _ _ _ h => h) (hw : Region.wanted oi (yielded ops a.tmps) = true := by rfl)
  (hy : ∀ w, S w → (execOp a.eval oi).run P w = .ok (.value v) w := by (intro wq hSw; go_simp <;> with_reducible rfl)) (hS : S w := by assumption)
  (ha : a.put oi.dst v = a' := by first | (simp only [Act.put, pA, pB, pC]; exact rfl) | (simp only [Act.put, pA, pB, pC]; done) | exact rfl)
  (h : wpAnyH P md ops Q S fuel (listed.setIfInBounds i true) a' w) : wpAnyH P md ops Q S (fuel + 1) listed a w :=
  wpAnyH_take hi hs hf hr hQ (Or.inl ⟨hw, hy⟩) hS (ha ▸ h)
theorem rdA {P : Program} {ops : Array Oper} {Q : Exit → Act → World → Prop} {md : Region.Mode} {S : World → Prop} {fuel : Nat} {listed : Array Bool} {a : Act} {w : World} {i : Nat} {o : Oper} (hr : Region.ready md ops listed = [i] := by kernel_rfl) (ho : ops[i]? = some o := by first | (simp only [List.getElem?_toArray, List.getElem?_cons_succ, List.getElem?_cons_zero]; exact rfl) | (simp only [List.getElem?_toArray, List.getElem?_cons_zero]; exact rfl))
  (h : ∀ K' : Act → World → Prop, Shut (∀ a w, S w → (S w → wpAnyH P md ops Q S fuel (listed.setIfInBounds i true) a w) → K' a w) → if Region.wanted o (yielded ops a.tmps) = true then Oper.wp P o a w K' Q else K' (a.put o.dst undef) w) : wpAnyH P md ops Q S (fuel + 1) listed a w := wpAnyH_ready hr (by simp) (AllReadyH.cons ho h AllReadyH.nil)
theorem gtA {ops : List Oper} {i : Nat} {o : Oper} (h : ops[i]? = some o) : ops.toArray[i]? = some o := by rw [List.getElem?_toArray]; exact h
end Go.Proofs.YthafgldgidmnlaaGreat
