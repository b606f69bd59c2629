/- The program's division of numbers, its rest from 0 up: impl.divided. -/
import Derived.Test.YtnefdfgonolafaaDivI
import Derived.Test.YtnefdfgonolafaaTaken
import Derived.Deep.RegionHeld3
namespace Go.Proofs.Ytnefdfgonolafaa
open Go.RowKit

/-- Two values are numbers, and neither's limbs lie with the other one's. -/
def IsTwo (base : Nat) (w : World) (v u : Value) (z y : Int) : Prop :=
  ∃ a1 c1 qs a2 c2 rs, v = .agg #[.bool (decide (z < 0)), .slice a1 qs.length c1] ∧ u = .agg #[.bool (decide (y < 0)), .slice a2 rs.length c2] ∧
    Own base w a1 c1 qs ∧ Own base w a2 c2 rs ∧ Nrm qs ∧ Nrm rs ∧ val qs = mg z ∧ val rs = mg y ∧ Apart a1 qs a2 rs

theorem IsTwo.base_le {base base' : Nat} {w : World} {v u : Value} {z y : Int} (h : IsTwo base w v u z y) (hb : base' ≤ base) : IsTwo base' w v u z y := by
  obtain ⟨a1, c1, qs, a2, c2, rs, e1, e2, o1, o2, r⟩ := h
  exact ⟨a1, c1, qs, a2, c2, rs, e1, e2, o1.base_le hb, o2.base_le hb, r⟩
theorem IsTwo.below {base : Nat} {w w' : World} {v u : Value} {z y : Int} (h : IsTwo base w v u z y) (hb : Below w.heap.size w w') : IsTwo base w' v u z y := by
  obtain ⟨a1, c1, qs, a2, c2, rs, e1, e2, o1, o2, r⟩ := h
  exact ⟨a1, c1, qs, a2, c2, rs, e1, e2, o1.below hb, o2.below hb, r⟩
theorem IsTwo.setCell {base : Nat} {w : World} {v u : Value} {z y : Int} (h : IsTwo base w v u z y) {p : Addr} (hp : p.block < base) (x : Value) : IsTwo base (w.setCell p x) v u z y := by
  obtain ⟨a1, c1, qs, a2, c2, rs, e1, e2, o1, o2, r⟩ := h
  exact ⟨a1, c1, qs, a2, c2, rs, e1, e2, o1.setCell hp x, o2.setCell hp x, r⟩
theorem IsTwo.eq {base : Nat} {w : World} {v u : Value} {z y z' y' : Int} (h : IsTwo base w v u z y) (e1 : z = z') (e2 : y = y') : IsTwo base w v u z' y' := e1 ▸ e2 ▸ h

/-- What signed answers keeps the limbs that were handed to it. -/
def Kept (a : Option Addr) (xs : List Int) (a' : Option Addr) (zs : List Int) : Prop := zs ≠ [] → a' = a ∧ xs ≠ []
theorem Apart.kept {a1 a2 b1 b2 : Option Addr} {qs rs qs' rs' : List Int} (h : Apart a1 qs a2 rs) (k1 : Kept a1 qs b1 qs') (k2 : Kept a2 rs b2 rs') : Apart b1 qs' b2 rs' := by
  intro b off e hne e2
  obtain ⟨f1, f2⟩ := k1 hne
  unfold rowOf at e2
  split at e2
  · cases e2
  · next hr =>
    obtain ⟨f3, f4⟩ := k2 hr
    refine h b off (by rw [← f1]; exact e) f2 ?_
    unfold rowOf
    rw [if_neg f4, ← f3]
    exact e2

set_option maxHeartbeats 400000 in
theorem signedA (base : Nat) (neg : Bool) (a : Option Addr) (c : Nat) (xs : List Int) (w : World) (h : Own base w a c xs) :
    Calls Try.prog 60 #[.bool neg, .slice a xs.length c] w fun e w' => ∃ a' c' zs, e = .returned (.agg #[.bool (decide (sg neg (val xs) < 0)), .slice a' zs.length c']) ∧ Own base w' a' c' zs ∧ Nrm zs ∧ val zs = val xs ∧ Kept a xs a' zs ∧ Below w.heap.size w w' := by
  go_enter Try.func60, Try.ntmps60
  go_wp2_with fail
  refine (trimmedC base a c xs _ (h.below (below1 _ _))).mono ?_
  rintro e w' ⟨rfl, a', j, rfl, hj, ha, hn, hv⟩
  have hl : (xs.take j).length = j := by simp; omega
  have hm := h.max
  have hf := h.fits
  unfold maxLen at hm
  have key : ∀ o, ∃ a2 c2 zs, (Value.agg #[.bool (neg && decide (0 < j)), .slice a' j j] = .agg #[.bool (decide (sg neg (val xs) < 0)), .slice a2 zs.length c2]) ∧ Own base (w.alloc o) a2 c2 zs ∧ Nrm zs ∧ val zs = val xs ∧ Kept a xs a2 zs := fun o => by
    refine ⟨a', j, xs.take j, ?_, h.below (below1 w o) |>.cut hj ha, hn, hv, ?_⟩
    · have := sg_flag (neg := neg) (h.lim.take j) hn
      rw [hv, hl] at this
      rw [this, hl]
    · intro hne
      have h0 : j ≠ 0 := by intro e; rw [e] at hne; simp at hne
      refine ⟨ha.resolve_left (fun x => h0 x.1), ?_⟩
      rintro rfl
      simp at hj
      exact h0 hj
  clear h hn hv hl ha
  have K : Hid (∀ o, ∃ a2 c2 zs, (Value.agg #[.bool (neg && decide (0 < j)), .slice a' j j] = .agg #[.bool (decide (sg neg (val xs) < 0)), .slice a2 zs.length c2]) ∧ Own base (w.alloc o) a2 c2 zs ∧ Nrm zs ∧ val zs = val xs ∧ Kept a xs a2 zs) := key
  clear key
  cases neg
  · go_wp2
    refine bodyPost_ret (v := .agg #[.bool (false && decide (0 < j)), .slice a' j j]) (by simp [results, Try.results60, go_sem]) rfl ?_
    obtain ⟨a2, c2, zs, e, r1, r2, r3, r4⟩ := K.out (.cells #[.bool (false && decide (0 < j)), .slice a' j j] 36)
    exact ⟨a2, c2, zs, by rw [e], r1, r2, r3, r4, below1 _ _⟩
  · by_cases h0 : 0 < j
    · have hp : (0 : Int) < j := by omega
      go_wp2
      refine bodyPost_ret (v := .agg #[.bool (true && decide (0 < j)), .slice a' j j]) (by simp [results, Try.results60, go_sem, h0]) rfl ?_
      obtain ⟨a2, c2, zs, e, r1, r2, r3, r4⟩ := K.out (.cells #[.bool true, .slice a' j j] 36)
      exact ⟨a2, c2, zs, by rw [e], r1, r2, r3, r4, below1 _ _⟩
    · obtain rfl : j = 0 := by omega
      go_wp2
      refine bodyPost_ret (v := .agg #[.bool (true && decide (0 < 0)), .slice a' 0 0]) (by simp [results, Try.results60, go_sem]) rfl ?_
      obtain ⟨a2, c2, zs, e, r1, r2, r3, r4⟩ := K.out (.cells #[.bool false, .slice a' 0 0] 36)
      exact ⟨a2, c2, zs, by rw [e], r1, r2, r3, r4, below1 _ _⟩

/-! ### What is asked of a quotient and a rest -/
theorem div_pos_case {x y : Int} (g' : Bool) (_hy : 0 < y) : sg g' (x / y) = sg false x / sg g' y ∧ x % y = sg false x % sg g' y := by
  cases g'
  · simp [sg]
  · simp [sg, Int.ediv_neg, Int.emod_neg]
theorem div_neg_zero {x y : Int} (g' : Bool) (_hy : 0 < y) (h : x % y = 0) : sg (!g') (x / y) = sg true x / sg g' y ∧ 0 = sg true x % sg g' y := by
  have hd : y ∣ x := Int.dvd_of_emod_eq_zero h
  have e1 : -x / y = -(x / y) := Int.neg_ediv_of_dvd hd
  have e2 : -x % y = 0 := Int.emod_eq_zero_of_dvd (Int.dvd_neg.2 hd)
  cases g'
  · simp [sg, e1, e2]
  · simp [sg, Int.ediv_neg, Int.emod_neg, e1, e2]
theorem div_neg_up {x y : Int} (g' : Bool) (hy : 0 < y) (h : x % y ≠ 0) : sg (!g') (x / y + 1) = sg true x / sg g' y ∧ y - x % y = sg true x % sg g' y := by
  have r0 := Int.emod_nonneg x (show y ≠ 0 by omega)
  have r1 := Int.emod_lt_of_pos x hy
  have e := Int.mul_ediv_add_emod x y
  have key := (Int.ediv_emod_unique (a := -x) (b := y) (r := y - x % y) (q := -(x / y + 1)) hy).2 ⟨by rw [Int.mul_neg, Int.mul_add, Int.mul_one]; omega, by omega, by omega⟩
  cases g'
  · simp only [sg, Bool.not_false, if_true, Bool.false_eq_true, if_false]
    exact ⟨key.1.symm, key.2.symm⟩
  · simp only [sg, Bool.not_true, if_true, Bool.false_eq_true, if_false, Int.ediv_neg, Int.emod_neg, key.1, key.2]
    exact ⟨by omega, trivial⟩

/-- One limb, laid. -/
theorem Own.lit1 (w : World) (e : TypeId) (x : Int) (hx : 0 ≤ x ∧ x < 4294967296) :
    Own w.heap.size (w.alloc (.cells #[.int .u32 x] e)) (some ⟨w.heap.size, 0, none⟩) 1 [x] := by
  have hh := heap_alloc_new w (.cells #[.int .u32 x] e)
  refine (Own.of_row (n := 1) ⟨rfl, .inr ⟨w.heap.size, 1, #[.int .u32 x], rfl, Nat.le_refl _, hh, Nat.le_refl _, by simp [maxLen], rfl, rfl⟩⟩ (Lim.mk hx Lim.nil)).1

/-- Two results' variables, behind two arguments. -/
structure Var4 (w W : World) (g g' : Bool) (a b : Option Addr) (n m c d : Nat) : Prop where
  size : W.heap.size = w.heap.size + 4
  x0 : W.cell? ⟨w.heap.size, 0, none⟩ = some (.bool g)
  x1 : W.cell? ⟨w.heap.size, 1, none⟩ = some (.slice a n c)
  y0 : W.cell? ⟨w.heap.size + 1, 0, none⟩ = some (.bool g')
  y1 : W.cell? ⟨w.heap.size + 1, 1, none⟩ = some (.slice b m d)
  p0 : W.cell? ⟨w.heap.size + 2, 0, none⟩ = some (.bool false)
  p1 : W.cell? ⟨w.heap.size + 2, 1, none⟩ = some (.slice none 0 0)
  r0 : W.cell? ⟨w.heap.size + 3, 0, none⟩ = some (.bool false)
  r1 : W.cell? ⟨w.heap.size + 3, 1, none⟩ = some (.slice none 0 0)
  f0 : W.frozen? ⟨w.heap.size + 2, 0, none⟩ = false
  f1 : W.frozen? ⟨w.heap.size + 2, 1, none⟩ = false
  e0 : W.frozen? ⟨w.heap.size + 3, 0, none⟩ = false
  e1 : W.frozen? ⟨w.heap.size + 3, 1, none⟩ = false
  s0 : W.frozen? ⟨w.heap.size, 0, none⟩ = false
  s1 : W.frozen? ⟨w.heap.size, 1, none⟩ = false
  t0 : W.frozen? ⟨w.heap.size + 1, 0, none⟩ = false
  t1 : W.frozen? ⟨w.heap.size + 1, 1, none⟩ = false
theorem var4 (w : World) (g g' : Bool) (a b : Option Addr) (n m c d : Nat) (T : TypeId) :
    Var4 w ((((w.alloc (.cells #[.bool g, .slice a n c] T)).alloc (.cells #[.bool g', .slice b m d] T)).alloc (.cells #[.bool false, .slice none 0 0] T)).alloc (.cells #[.bool false, .slice none 0 0] T)) g g' a b n m c d := by
  constructor <;> simp [go_sem]
/-- .. are as they were, behind what only adds blocks. -/
theorem Var4.below {w W W' : World} {g g' : Bool} {a b : Option Addr} {n m c d : Nat} (V : Var4 w W g g' a b n m c d) (hb : Below W.heap.size W W') :
    W'.cell? ⟨w.heap.size, 0, none⟩ = some (.bool g) ∧ W'.cell? ⟨w.heap.size, 1, none⟩ = some (.slice a n c) ∧ W'.cell? ⟨w.heap.size + 1, 0, none⟩ = some (.bool g') ∧ W'.cell? ⟨w.heap.size + 1, 1, none⟩ = some (.slice b m d) :=
  ⟨bat hb V.x0, bat hb V.x1, bat hb V.y0, bat hb V.y1⟩

set_option maxHeartbeats 4000000 in
theorem dividedC (g g' : Bool) (a b : Option Addr) (c d : Nat) (xs ys : List Int) (w : World) (h : Sees w a c xs) (k : Sees w b d ys) (nx : Nrm xs) (ny : Nrm ys) (hy0 : ys ≠ []) (hx : xs.length ≤ 1048575) (hy : ys.length ≤ 1048575) :
    Calls Try.prog 49 #[.agg #[.bool g, .slice a xs.length c], .agg #[.bool g', .slice b ys.length d]] w fun e w' => ∃ vq vr, e = .returned (.tuple #[vq, vr]) ∧ IsTwo w.heap.size w' vq vr (sg g (val xs) / sg g' (val ys)) (sg g (val xs) % sg g' (val ys)) ∧ Below w.heap.size w w' := by
  have HX : Hid (xs.length ≤ 1048575) := hx
  have HY : Hid (ys.length ≤ 1048575) := hy
  have V0 : Hid (0 < val ys) := val_pos k.lim ny hy0
  have NX : Hid (Nrm xs) := nx
  have NY : Hid (Nrm ys) := ny
  clear hx hy nx ny
  go_enter Try.func49, Try.ntmps49
  go_wp2_with fail
  have B0 := below4 w (.cells #[.bool g, .slice a xs.length c] 36) (.cells #[.bool g', .slice b ys.length d] 36) (.cells #[.bool false, .slice none 0 0] 36) (.cells #[.bool false, .slice none 0 0] 36)
  have V := var4 w g g' a b xs.length ys.length c d 36
  have h1 := h.below B0
  have k1 := k.below B0
  clear h k
  generalize ((((w.alloc (.cells #[.bool g, .slice a xs.length c] 36)).alloc (.cells #[.bool g', .slice b ys.length d] 36)).alloc (.cells #[.bool false, .slice none 0 0] 36)).alloc (.cells #[.bool false, .slice none 0 0] 36)) = W at *
  refine (divMagC a b c d xs ys _ h1 k1 NX.out NY.out hy0 (by have := HX.out; omega) (by have := HY.out; omega)).mono ?_
  rintro e w1 ⟨a1, c1, a2, c2, qs, rs, rfl, oq, orr, nq, nr, vq, vr, ap, hb1⟩
  have hlt := Int.emod_lt_of_pos (val xs) V0.out
  have r0 := val_nonneg orr.lim
  have q1 : val xs / val ys ≤ val xs := Int.ediv_le_self _ (val_nonneg h1.lim)
  have HLQ : Hid (qs.length ≤ xs.length) := len_le_of_val h1.lim oq.lim nq (by omega)
  have HLR : Hid (rs.length ≤ ys.length) := len_le_of_val k1.lim orr.lim nr (by omega)
  have HRV : Hid (val rs < val ys) := by show _ < _; omega
  have HVQ : Hid (val qs = val xs / val ys) := vq
  have HVR : Hid (val rs = val xs % val ys) := vr
  have HNR : Hid (Nrm rs) := nr
  have mr : rs.length ≤ 4611686018427387900 := by have := HLR.out; have := HY.out; omega
  obtain ⟨v0, v1, v2, v3⟩ := V.below hb1
  have B1 := B0.trans (hb1.mono B0.size)
  have k2 := k1.below hb1
  clear hlt r0 q1 vq vr nr nq h1 k1
  by_cases hadj : g = true ∧ rs ≠ []
  · obtain ⟨rfl, hrne⟩ := hadj
    have hp : (0 : Int) < rs.length := by have := List.length_pos_iff.2 hrne; omega
    have szw : w.heap.size + 4 ≤ (w1.alloc (.cells #[.int .u32 1] 80)).heap.size := by rw [← V.size]; exact Nat.le_trans hb1.size (below1 w1 _).size
    have L1 := Own.lit1 w1 80 1 (by decide)
    have hbl := below1 w1 (.cells #[.int .u32 1] 80)
    have HLM : Hid (Lim rs) := orr.lim
    go_wp2_with fail
    refine (addMagC a1 (some ⟨w1.heap.size, 0, none⟩) c1 1 qs [1] _ (oq.below hbl).toSees L1.toSees (by have := HLQ.out; have := HX.out; omega) (by decide)).mono ?_
    rintro e w2 ⟨a4, c4, qs4, rfl, o4, n4, e4, _, hb4⟩
    have B4 : Below W.heap.size W w2 := (hb1.trans (hbl.mono hb1.size)).trans (hb4.mono (Nat.le_trans hb1.size hbl.size))
    have k4 := (k2.below hbl).below hb4
    have r4 := (orr.below hbl).below hb4
    have E4 : Hid (val qs4 = val xs / val ys + 1) := by
      show _ = _
      rw [e4, HVQ.out]
      simp [val]
    obtain ⟨v0, v1, v2, v3⟩ := V.below B4
    clear n4 e4 L1 oq hb1 k2
    go_wp2_with fail
    refine (subMagC b a2 d c2 ys rs _ k4 r4.toSees (by have := HY.out; omega) HLR.out (Int.le_of_lt HRV.out)).mono ?_
    rintro e w3 ⟨a5, c5, rs5, rfl, o5, n5, e5, _, hb5⟩
    have B5 := B4.trans (hb5.mono B4.size)
    have E5 : Hid (val rs5 = val ys - val xs % val ys) := by show _ = _; rw [e5, HVR.out]
    have o4' : Own (w.heap.size + 4) w3 a4 c4 qs4 := (o4.below hb5).base_le szw
    have o5' : Own (w.heap.size + 4) w3 a5 c5 rs5 := o5.base_le (by rw [← V.size]; exact B4.size)
    have AP5 : Hid (Apart a4 qs4 a5 rs5) := fun b off e1 e2 e3 => row_ne_low o5 (o4.lt e1 e2) e3.symm
    obtain ⟨v0, v1, v2, v3⟩ := V.below B5
    clear n5 e5 r4 k4 orr o4 o5 hb4 hb5 hbl ap
    go_wp2_with fail
    refine (signedA (w.heap.size + 4) (!g') a4 c4 qs4 _ o4').mono ?_
    rintro e w8 ⟨a8, c8, z8, rfl, o8, n8, e8, kp8, hb8⟩
    have r8 := o5'.below hb8
    have B8 := B5.trans (hb8.mono B5.size)
    have H8 : Hid (Nrm z8 ∧ val z8 = val qs4) := ⟨n8, e8⟩
    clear n8 e8 hb8
    go_wp2_with fail
    refine (signedA (w.heap.size + 4) false a5 c5 rs5 _ r8).mono ?_
    rintro e w9 ⟨a9, c9, z9, rfl, o9, n9, e9, kp9, hb9⟩
    have o8' := o8.below hb9
    have B9 := B8.trans (hb9.mono B8.size)
    have H9 : Hid (Nrm z9 ∧ val z9 = val rs5) := ⟨n9, e9⟩
    have AP : Hid (Apart a8 z8 a9 z9) := (AP5.out).kept kp8 kp9
    have BF := B0.trans (B9.mono B0.size)
    have c0 := bat B9 V.p0
    have c1' := bat B9 V.p1
    have c2' := bat B9 V.r0
    have c3' := bat B9 V.r1
    have f0 := (B9.frozen (p := ⟨w.heap.size + 2, 0, none⟩) (by dsimp only; rw [V.size]; omega)).trans V.f0
    have f1 := (B9.frozen (p := ⟨w.heap.size + 2, 1, none⟩) (by dsimp only; rw [V.size]; omega)).trans V.f1
    have f2 := (B9.frozen (p := ⟨w.heap.size + 3, 0, none⟩) (by dsimp only; rw [V.size]; omega)).trans V.e0
    have f3 := (B9.frozen (p := ⟨w.heap.size + 3, 1, none⟩) (by dsimp only; rw [V.size]; omega)).trans V.e1
    have T9 : IsTwo (w.heap.size + 4) w9 (.agg #[.bool (decide (sg (!g') (val qs4) < 0)), .slice a8 z8.length c8]) (.agg #[.bool (decide (sg false (val rs5) < 0)), .slice a9 z9.length c9]) (sg (!g') (val qs4)) (sg false (val rs5)) :=
      ⟨a8, c8, z8, a9, c9, z9, rfl, rfl, o8', o9, H8.out.1, H9.out.1, by rw [H8.out.2, mg_sg (val_nonneg o4'.lim)], by rw [H9.out.2, mg_sg (val_nonneg o5'.lim)], AP.out⟩
    have EQ : Hid (sg (!g') (val qs4) = sg true (val xs) / sg g' (val ys) ∧ sg false (val rs5) = sg true (val xs) % sg g' (val ys)) := by
      rw [E4.out, E5.out]
      exact div_neg_up g' V0.out (by have := val_pos HLM.out HNR.out hrne; rw [HVR.out] at this; omega)
    have TF := ((((T9.eq EQ.out.1 EQ.out.2).setCell (p := ⟨w.heap.size + 2, 0, none⟩) (by dsimp only; omega) (.bool (decide (sg (!g') (val qs4) < 0)))).setCell (p := ⟨w.heap.size + 2, 1, none⟩) (by dsimp only; omega) (.slice a8 z8.length c8)).setCell (p := ⟨w.heap.size + 3, 0, none⟩) (by dsimp only; omega) (.bool (decide (sg false (val rs5) < 0)))).setCell (p := ⟨w.heap.size + 3, 1, none⟩) (by dsimp only; omega) (.slice a9 z9.length c9)
    have BZ := below_put' (below_put' BF (show w.heap.size ≤ w.heap.size + 2 by omega) (.bool (decide (sg (!g') (val qs4) < 0))) (.slice a8 z8.length c8)) (show w.heap.size ≤ w.heap.size + 3 by omega) (.bool (decide (sg false (val rs5) < 0))) (.slice a9 z9.length c9)
    clear T9 o8 o8' o9 r8 H8 H9 AP kp8 kp9 n9 e9 hb9 B9 B8 BF
    generalize decide (sg (!g') (val qs4) < 0) = d1 at *
    generalize decide (sg false (val rs5) < 0) = d2 at *
    go_wp2
    exact bodyPost_ret (v := .tuple #[.agg #[.bool d1, .slice a8 z8.length c8], .agg #[.bool d2, .slice a9 z9.length c9]]) (by simp [results, Try.results49, go_sem, c0, c1', c2', c3']) rfl ⟨_, _, rfl, TF.base_le (by omega), BZ⟩
  · have hcond : g = false ∨ rs = [] := by
      by_cases e : g = true
      · right
        by_cases e2 : rs = []
        · exact e2
        · exact absurd ⟨e, e2⟩ hadj
      · left; simpa using e
    have oq' : Own (w.heap.size + 4) w1 a1 c1 qs := oq.base_le (Nat.le_of_eq V.size.symm)
    have or' : Own (w.heap.size + 4) w1 a2 c2 rs := orr.base_le (Nat.le_of_eq V.size.symm)
    have HCC : Hid (g = false ∨ rs = []) := hcond
    clear oq orr hadj k2
    rcases hcond with rfl | rfl
    · go_wp2_with fail
      refine (signedA (w.heap.size + 4) g' a1 c1 qs _ oq').mono ?_
      rintro e w8 ⟨a8, c8, z8, rfl, o8, n8, e8, kp8, hb8⟩
      have r8 := or'.below hb8
      have B8 := hb1.trans (hb8.mono hb1.size)
      have H8 : Hid (Nrm z8 ∧ val z8 = val qs) := ⟨n8, e8⟩
      clear n8 e8 hb8
      go_wp2_with fail
      refine (signedA (w.heap.size + 4) false a2 c2 rs _ r8).mono ?_
      rintro e w9 ⟨a9, c9, z9, rfl, o9, n9, e9, kp9, hb9⟩
      have o8' := o8.below hb9
      have B9 := B8.trans (hb9.mono B8.size)
      have H9 : Hid (Nrm z9 ∧ val z9 = val rs) := ⟨n9, e9⟩
      have AP : Hid (Apart a8 z8 a9 z9) := (ap).kept kp8 kp9
      have BF := B0.trans (B9.mono B0.size)
      have c0 := bat B9 V.p0
      have c1' := bat B9 V.p1
      have c2' := bat B9 V.r0
      have c3' := bat B9 V.r1
      have f0 := (B9.frozen (p := ⟨w.heap.size + 2, 0, none⟩) (by dsimp only; rw [V.size]; omega)).trans V.f0
      have f1 := (B9.frozen (p := ⟨w.heap.size + 2, 1, none⟩) (by dsimp only; rw [V.size]; omega)).trans V.f1
      have f2 := (B9.frozen (p := ⟨w.heap.size + 3, 0, none⟩) (by dsimp only; rw [V.size]; omega)).trans V.e0
      have f3 := (B9.frozen (p := ⟨w.heap.size + 3, 1, none⟩) (by dsimp only; rw [V.size]; omega)).trans V.e1
      have T9 : IsTwo (w.heap.size + 4) w9 (.agg #[.bool (decide (sg g' (val qs) < 0)), .slice a8 z8.length c8]) (.agg #[.bool (decide (sg false (val rs) < 0)), .slice a9 z9.length c9]) (sg g' (val qs)) (sg false (val rs)) :=
        ⟨a8, c8, z8, a9, c9, z9, rfl, rfl, o8', o9, H8.out.1, H9.out.1, by rw [H8.out.2, mg_sg (val_nonneg oq'.lim)], by rw [H9.out.2, mg_sg (val_nonneg or'.lim)], AP.out⟩
      have EQ : Hid (sg g' (val qs) = sg false (val xs) / sg g' (val ys) ∧ sg false (val rs) = sg false (val xs) % sg g' (val ys)) := by
        rw [HVQ.out, HVR.out]
        exact div_pos_case g' V0.out
      have TF := ((((T9.eq EQ.out.1 EQ.out.2).setCell (p := ⟨w.heap.size + 2, 0, none⟩) (by dsimp only; omega) (.bool (decide (sg g' (val qs) < 0)))).setCell (p := ⟨w.heap.size + 2, 1, none⟩) (by dsimp only; omega) (.slice a8 z8.length c8)).setCell (p := ⟨w.heap.size + 3, 0, none⟩) (by dsimp only; omega) (.bool (decide (sg false (val rs) < 0)))).setCell (p := ⟨w.heap.size + 3, 1, none⟩) (by dsimp only; omega) (.slice a9 z9.length c9)
      have BZ := below_put' (below_put' BF (show w.heap.size ≤ w.heap.size + 2 by omega) (.bool (decide (sg g' (val qs) < 0))) (.slice a8 z8.length c8)) (show w.heap.size ≤ w.heap.size + 3 by omega) (.bool (decide (sg false (val rs) < 0))) (.slice a9 z9.length c9)
      clear T9 o8 o8' o9 r8 H8 H9 AP kp8 kp9 n9 e9 hb9 B9 B8 BF
      generalize decide (sg g' (val qs) < 0) = d1 at *
      generalize decide (sg false (val rs) < 0) = d2 at *
      go_wp2
      exact bodyPost_ret (v := .tuple #[.agg #[.bool d1, .slice a8 z8.length c8], .agg #[.bool d2, .slice a9 z9.length c9]]) (by simp [results, Try.results49, go_sem, c0, c1', c2', c3']) rfl ⟨_, _, rfl, TF.base_le (by omega), BZ⟩
    · cases g
      · go_wp2_with fail
        refine (signedA (w.heap.size + 4) g' a1 c1 qs _ oq').mono ?_
        rintro e w8 ⟨a8, c8, z8, rfl, o8, n8, e8, kp8, hb8⟩
        have r8 := or'.below hb8
        have B8 := hb1.trans (hb8.mono hb1.size)
        have H8 : Hid (Nrm z8 ∧ val z8 = val qs) := ⟨n8, e8⟩
        clear n8 e8 hb8
        go_wp2_with fail
        refine (signedA (w.heap.size + 4) false a2 c2 ([] : List Int) _ r8).mono ?_
        rintro e w9 ⟨a9, c9, z9, rfl, o9, n9, e9, kp9, hb9⟩
        have o8' := o8.below hb9
        have B9 := B8.trans (hb9.mono B8.size)
        have H9 : Hid (Nrm z9 ∧ val z9 = val ([] : List Int)) := ⟨n9, e9⟩
        have AP : Hid (Apart a8 z8 a9 z9) := (ap).kept kp8 kp9
        have BF := B0.trans (B9.mono B0.size)
        have c0 := bat B9 V.p0
        have c1' := bat B9 V.p1
        have c2' := bat B9 V.r0
        have c3' := bat B9 V.r1
        have f0 := (B9.frozen (p := ⟨w.heap.size + 2, 0, none⟩) (by dsimp only; rw [V.size]; omega)).trans V.f0
        have f1 := (B9.frozen (p := ⟨w.heap.size + 2, 1, none⟩) (by dsimp only; rw [V.size]; omega)).trans V.f1
        have f2 := (B9.frozen (p := ⟨w.heap.size + 3, 0, none⟩) (by dsimp only; rw [V.size]; omega)).trans V.e0
        have f3 := (B9.frozen (p := ⟨w.heap.size + 3, 1, none⟩) (by dsimp only; rw [V.size]; omega)).trans V.e1
        have T9 : IsTwo (w.heap.size + 4) w9 (.agg #[.bool (decide (sg g' (val qs) < 0)), .slice a8 z8.length c8]) (.agg #[.bool (decide (sg false (val ([] : List Int)) < 0)), .slice a9 z9.length c9]) (sg g' (val qs)) (sg false (val ([] : List Int))) :=
          ⟨a8, c8, z8, a9, c9, z9, rfl, rfl, o8', o9, H8.out.1, H9.out.1, by rw [H8.out.2, mg_sg (val_nonneg oq'.lim)], by rw [H9.out.2, mg_sg (val_nonneg or'.lim)], AP.out⟩
        have EQ : Hid (sg g' (val qs) = sg false (val xs) / sg g' (val ys) ∧ sg false (val ([] : List Int)) = sg false (val xs) % sg g' (val ys)) := by
          rw [HVQ.out, HVR.out]
          exact div_pos_case g' V0.out
        have TF := ((((T9.eq EQ.out.1 EQ.out.2).setCell (p := ⟨w.heap.size + 2, 0, none⟩) (by dsimp only; omega) (.bool (decide (sg g' (val qs) < 0)))).setCell (p := ⟨w.heap.size + 2, 1, none⟩) (by dsimp only; omega) (.slice a8 z8.length c8)).setCell (p := ⟨w.heap.size + 3, 0, none⟩) (by dsimp only; omega) (.bool (decide (sg false (val ([] : List Int)) < 0)))).setCell (p := ⟨w.heap.size + 3, 1, none⟩) (by dsimp only; omega) (.slice a9 z9.length c9)
        have BZ := below_put' (below_put' BF (show w.heap.size ≤ w.heap.size + 2 by omega) (.bool (decide (sg g' (val qs) < 0))) (.slice a8 z8.length c8)) (show w.heap.size ≤ w.heap.size + 3 by omega) (.bool (decide (sg false (val ([] : List Int)) < 0))) (.slice a9 z9.length c9)
        clear T9 o8 o8' o9 r8 H8 H9 AP kp8 kp9 n9 e9 hb9 B9 B8 BF
        generalize decide (sg g' (val qs) < 0) = d1 at *
        generalize decide (sg false (val ([] : List Int)) < 0) = d2 at *
        go_wp2
        exact bodyPost_ret (v := .tuple #[.agg #[.bool d1, .slice a8 z8.length c8], .agg #[.bool d2, .slice a9 z9.length c9]]) (by simp [results, Try.results49, go_sem, c0, c1', c2', c3']) rfl ⟨_, _, rfl, TF.base_le (by omega), BZ⟩
      · go_wp2_with fail
        refine (signedA (w.heap.size + 4) (!g') a1 c1 qs _ oq').mono ?_
        rintro e w8 ⟨a8, c8, z8, rfl, o8, n8, e8, kp8, hb8⟩
        have r8 := or'.below hb8
        have B8 := hb1.trans (hb8.mono hb1.size)
        have H8 : Hid (Nrm z8 ∧ val z8 = val qs) := ⟨n8, e8⟩
        clear n8 e8 hb8
        go_wp2_with fail
        refine (signedA (w.heap.size + 4) false a2 c2 ([] : List Int) _ r8).mono ?_
        rintro e w9 ⟨a9, c9, z9, rfl, o9, n9, e9, kp9, hb9⟩
        have o8' := o8.below hb9
        have B9 := B8.trans (hb9.mono B8.size)
        have H9 : Hid (Nrm z9 ∧ val z9 = val ([] : List Int)) := ⟨n9, e9⟩
        have AP : Hid (Apart a8 z8 a9 z9) := (ap).kept kp8 kp9
        have BF := B0.trans (B9.mono B0.size)
        have c0 := bat B9 V.p0
        have c1' := bat B9 V.p1
        have c2' := bat B9 V.r0
        have c3' := bat B9 V.r1
        have f0 := (B9.frozen (p := ⟨w.heap.size + 2, 0, none⟩) (by dsimp only; rw [V.size]; omega)).trans V.f0
        have f1 := (B9.frozen (p := ⟨w.heap.size + 2, 1, none⟩) (by dsimp only; rw [V.size]; omega)).trans V.f1
        have f2 := (B9.frozen (p := ⟨w.heap.size + 3, 0, none⟩) (by dsimp only; rw [V.size]; omega)).trans V.e0
        have f3 := (B9.frozen (p := ⟨w.heap.size + 3, 1, none⟩) (by dsimp only; rw [V.size]; omega)).trans V.e1
        have T9 : IsTwo (w.heap.size + 4) w9 (.agg #[.bool (decide (sg (!g') (val qs) < 0)), .slice a8 z8.length c8]) (.agg #[.bool (decide (sg false (val ([] : List Int)) < 0)), .slice a9 z9.length c9]) (sg (!g') (val qs)) (sg false (val ([] : List Int))) :=
          ⟨a8, c8, z8, a9, c9, z9, rfl, rfl, o8', o9, H8.out.1, H9.out.1, by rw [H8.out.2, mg_sg (val_nonneg oq'.lim)], by rw [H9.out.2, mg_sg (val_nonneg or'.lim)], AP.out⟩
        have EQ : Hid (sg (!g') (val qs) = sg true (val xs) / sg g' (val ys) ∧ sg false (val ([] : List Int)) = sg true (val xs) % sg g' (val ys)) := by
          rw [HVQ.out]
          exact div_neg_zero g' V0.out HVR.out.symm
        have TF := ((((T9.eq EQ.out.1 EQ.out.2).setCell (p := ⟨w.heap.size + 2, 0, none⟩) (by dsimp only; omega) (.bool (decide (sg (!g') (val qs) < 0)))).setCell (p := ⟨w.heap.size + 2, 1, none⟩) (by dsimp only; omega) (.slice a8 z8.length c8)).setCell (p := ⟨w.heap.size + 3, 0, none⟩) (by dsimp only; omega) (.bool (decide (sg false (val ([] : List Int)) < 0)))).setCell (p := ⟨w.heap.size + 3, 1, none⟩) (by dsimp only; omega) (.slice a9 z9.length c9)
        have BZ := below_put' (below_put' BF (show w.heap.size ≤ w.heap.size + 2 by omega) (.bool (decide (sg (!g') (val qs) < 0))) (.slice a8 z8.length c8)) (show w.heap.size ≤ w.heap.size + 3 by omega) (.bool (decide (sg false (val ([] : List Int)) < 0))) (.slice a9 z9.length c9)
        clear T9 o8 o8' o9 r8 H8 H9 AP kp8 kp9 n9 e9 hb9 B9 B8 BF
        generalize decide (sg (!g') (val qs) < 0) = d1 at *
        generalize decide (sg false (val ([] : List Int)) < 0) = d2 at *
        go_wp2
        exact bodyPost_ret (v := .tuple #[.agg #[.bool d1, .slice a8 z8.length c8], .agg #[.bool d2, .slice a9 z9.length c9]]) (by simp [results, Try.results49, go_sem, c0, c1', c2', c3']) rfl ⟨_, _, rfl, TF.base_le (by omega), BZ⟩
end Go.Proofs.Ytnefdfgonolafaa
