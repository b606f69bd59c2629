/- The program's division of numbers, its rest from 0 up: impl.divided. -/
import Derived.Test.YthbobfmjlnlfdaaDivI
import Derived.Test.YthbobfmjlnlfdaaEq
import Derived.Deep.RegionHeld3
namespace Go.Proofs.Ythbobfmjlnlfdaa
open Go.RowKit

/-- Two values are numbers, and neither's limbs lie with the other one's. -/
def IsTwo (base : Nat) (w : World) (v u : Value) (z y : Int) : Prop :=
  ∃ a1 c1 qs a2 c2 rs, v = .agg #[.bool (decide (z < 0)), .slice a1 qs.length c1] ∧ u = .agg #[.bool (decide (y < 0)), .slice a2 rs.length c2] ∧
    Own base w a1 c1 qs ∧ Own base w a2 c2 rs ∧ Nrm qs ∧ Nrm rs ∧ val qs = mg z ∧ val rs = mg y ∧ Apart a1 qs a2 rs

theorem IsTwo.base_le {base base' : Nat} {w : World} {v u : Value} {z y : Int} (h : IsTwo base w v u z y) (hb : base' ≤ base) : IsTwo base' w v u z y := by
  obtain ⟨a1, c1, qs, a2, c2, rs, e1, e2, o1, o2, r⟩ := h
  exact ⟨a1, c1, qs, a2, c2, rs, e1, e2, o1.base_le hb, o2.base_le hb, r⟩
theorem IsTwo.below {base : Nat} {w w' : World} {v u : Value} {z y : Int} (h : IsTwo base w v u z y) (hb : Below w.heap.size w w') : IsTwo base w' v u z y := by
  obtain ⟨a1, c1, qs, a2, c2, rs, e1, e2, o1, o2, r⟩ := h
  exact ⟨a1, c1, qs, a2, c2, rs, e1, e2, o1.below hb, o2.below hb, r⟩
theorem IsTwo.setCell {base : Nat} {w : World} {v u : Value} {z y : Int} (h : IsTwo base w v u z y) {p : Addr} (hp : p.block < base) (x : Value) : IsTwo base (w.setCell p x) v u z y := by
  obtain ⟨a1, c1, qs, a2, c2, rs, e1, e2, o1, o2, r⟩ := h
  exact ⟨a1, c1, qs, a2, c2, rs, e1, e2, o1.setCell hp x, o2.setCell hp x, r⟩
theorem IsTwo.eq {base : Nat} {w : World} {v u : Value} {z y z' y' : Int} (h : IsTwo base w v u z y) (e1 : z = z') (e2 : y = y') : IsTwo base w v u z' y' := e1 ▸ e2 ▸ h

/-- What signed answers keeps the limbs that were handed to it. -/
def Kept (a : Option Addr) (xs : List Int) (a' : Option Addr) (zs : List Int) : Prop := zs ≠ [] → a' = a ∧ xs ≠ []
theorem Apart.kept {a1 a2 b1 b2 : Option Addr} {qs rs qs' rs' : List Int} (h : Apart a1 qs a2 rs) (k1 : Kept a1 qs b1 qs') (k2 : Kept a2 rs b2 rs') : Apart b1 qs' b2 rs' := by
  intro b off e hne e2
  obtain ⟨f1, f2⟩ := k1 hne
  unfold rowOf at e2
  split at e2
  · cases e2
  · next hr =>
    obtain ⟨f3, f4⟩ := k2 hr
    refine h b off (by rw [← f1]; exact e) f2 ?_
    unfold rowOf
    rw [if_neg f4, ← f3]
    exact e2

set_option maxHeartbeats 400000 in
theorem signedA (base : Nat) (neg : Bool) (a : Option Addr) (c : Nat) (xs : List Int) (w : World) (h : Own base w a c xs) :
    Calls Try.prog 42 #[.bool neg, .slice a xs.length c] w fun e w' => ∃ a' c' zs, e = .returned (.agg #[.bool (decide (sg neg (val xs) < 0)), .slice a' zs.length c']) ∧ Own base w' a' c' zs ∧ Nrm zs ∧ val zs = val xs ∧ Kept a xs a' zs ∧ Below w.heap.size w w' := by
  go_enter Try.func42, Try.ntmps42
  go_wp2_with fail
  refine (trimmedC base a c xs _ (h.below (below1 _ _))).mono ?_
  rintro e w' ⟨rfl, a', j, rfl, hj, ha, hn, hv⟩
  have hl : (xs.take j).length = j := by simp; omega
  have hm := h.max
  have hf := h.fits
  unfold maxLen at hm
  have key : ∀ o, ∃ a2 c2 zs, (Value.agg #[.bool (neg && decide (0 < j)), .slice a' j j] = .agg #[.bool (decide (sg neg (val xs) < 0)), .slice a2 zs.length c2]) ∧ Own base (w.alloc o) a2 c2 zs ∧ Nrm zs ∧ val zs = val xs ∧ Kept a xs a2 zs := fun o => by
    refine ⟨a', j, xs.take j, ?_, h.below (below1 w o) |>.cut hj ha, hn, hv, ?_⟩
    · have := sg_flag (neg := neg) (h.lim.take j) hn
      rw [hv, hl] at this
      rw [this, hl]
    · intro hne
      have h0 : j ≠ 0 := by intro e; rw [e] at hne; simp at hne
      refine ⟨ha.resolve_left (fun x => h0 x.1), ?_⟩
      rintro rfl
      simp at hj
      exact h0 hj
  clear h hn hv hl ha
  have K : Hid (∀ o, ∃ a2 c2 zs, (Value.agg #[.bool (neg && decide (0 < j)), .slice a' j j] = .agg #[.bool (decide (sg neg (val xs) < 0)), .slice a2 zs.length c2]) ∧ Own base (w.alloc o) a2 c2 zs ∧ Nrm zs ∧ val zs = val xs ∧ Kept a xs a2 zs) := key
  clear key
  cases neg
  · go_wp2
    refine bodyPost_ret (v := .agg #[.bool (false && decide (0 < j)), .slice a' j j]) (by simp [results, Try.results42, go_sem]) rfl ?_
    obtain ⟨a2, c2, zs, e, r1, r2, r3, r4⟩ := K.out (.cells #[.bool (false && decide (0 < j)), .slice a' j j] 40)
    exact ⟨a2, c2, zs, by rw [e], r1, r2, r3, r4, below1 _ _⟩
  · by_cases h0 : 0 < j
    · have hp : (0 : Int) < j := by omega
      go_wp2
      refine bodyPost_ret (v := .agg #[.bool (true && decide (0 < j)), .slice a' j j]) (by simp [results, Try.results42, go_sem, h0]) rfl ?_
      obtain ⟨a2, c2, zs, e, r1, r2, r3, r4⟩ := K.out (.cells #[.bool true, .slice a' j j] 40)
      exact ⟨a2, c2, zs, by rw [e], r1, r2, r3, r4, below1 _ _⟩
    · obtain rfl : j = 0 := by omega
      go_wp2
      refine bodyPost_ret (v := .agg #[.bool (true && decide (0 < 0)), .slice a' 0 0]) (by simp [results, Try.results42, go_sem]) rfl ?_
      obtain ⟨a2, c2, zs, e, r1, r2, r3, r4⟩ := K.out (.cells #[.bool false, .slice a' 0 0] 40)
      exact ⟨a2, c2, zs, by rw [e], r1, r2, r3, r4, below1 _ _⟩

/-! ### What is asked of a quotient and a rest -/
theorem div_pos_case {x y : Int} (g' : Bool) (_hy : 0 < y) : sg g' (x / y) = sg false x / sg g' y ∧ x % y = sg false x % sg g' y := by
  cases g'
  · simp [sg]
  · simp [sg, Int.ediv_neg, Int.emod_neg]
theorem div_neg_zero {x y : Int} (g' : Bool) (_hy : 0 < y) (h : x % y = 0) : sg (!g') (x / y) = sg true x / sg g' y ∧ 0 = sg true x % sg g' y := by
  have hd : y ∣ x := Int.dvd_of_emod_eq_zero h
  have e1 : -x / y = -(x / y) := Int.neg_ediv_of_dvd hd
  have e2 : -x % y = 0 := Int.emod_eq_zero_of_dvd (Int.dvd_neg.2 hd)
  cases g'
  · simp [sg, e1, e2]
  · simp [sg, Int.ediv_neg, Int.emod_neg, e1, e2]
theorem div_neg_up {x y : Int} (g' : Bool) (hy : 0 < y) (h : x % y ≠ 0) : sg (!g') (x / y + 1) = sg true x / sg g' y ∧ y - x % y = sg true x % sg g' y := by
  have r0 := Int.emod_nonneg x (show y ≠ 0 by omega)
  have r1 := Int.emod_lt_of_pos x hy
  have e := Int.mul_ediv_add_emod x y
  have key := (Int.ediv_emod_unique (a := -x) (b := y) (r := y - x % y) (q := -(x / y + 1)) hy).2 ⟨by rw [Int.mul_neg, Int.mul_add, Int.mul_one]; omega, by omega, by omega⟩
  cases g'
  · simp only [sg, Bool.not_false, if_true, Bool.false_eq_true, if_false]
    exact ⟨key.1.symm, key.2.symm⟩
  · simp only [sg, Bool.not_true, if_true, Bool.false_eq_true, if_false, Int.ediv_neg, Int.emod_neg, key.1, key.2]
    exact ⟨by omega, trivial⟩

/-- One limb, laid. -/
theorem Own.lit1 (w : World) (e : TypeId) (x : Int) (hx : 0 ≤ x ∧ x < 4294967296) :
    Own w.heap.size (w.alloc (.cells #[.int .u32 x] e)) (some ⟨w.heap.size, 0, none⟩) 1 [x] := by
  have hh := heap_alloc_new w (.cells #[.int .u32 x] e)
  refine (Own.of_row (n := 1) ⟨rfl, .inr ⟨w.heap.size, 1, #[.int .u32 x], rfl, Nat.le_refl _, hh, Nat.le_refl _, by simp [maxLen], rfl, rfl⟩⟩ (Lim.mk hx Lim.nil)).1

/-- Two results' variables, behind two arguments. -/
structure Var4 (w W : World) (g g' : Bool) (a b : Option Addr) (n m c d : Nat) : Prop where
  size : W.heap.size = w.heap.size + 4
  x0 : W.cell? ⟨w.heap.size, 0, none⟩ = some (.bool g)
  x1 : W.cell? ⟨w.heap.size, 1, none⟩ = some (.slice a n c)
  y0 : W.cell? ⟨w.heap.size + 1, 0, none⟩ = some (.bool g')
  y1 : W.cell? ⟨w.heap.size + 1, 1, none⟩ = some (.slice b m d)
  p0 : W.cell? ⟨w.heap.size + 2, 0, none⟩ = some (.bool false)
  p1 : W.cell? ⟨w.heap.size + 2, 1, none⟩ = some (.slice none 0 0)
  r0 : W.cell? ⟨w.heap.size + 3, 0, none⟩ = some (.bool false)
  r1 : W.cell? ⟨w.heap.size + 3, 1, none⟩ = some (.slice none 0 0)
  f0 : W.frozen? ⟨w.heap.size + 2, 0, none⟩ = false
  f1 : W.frozen? ⟨w.heap.size + 2, 1, none⟩ = false
  e0 : W.frozen? ⟨w.heap.size + 3, 0, none⟩ = false
  e1 : W.frozen? ⟨w.heap.size + 3, 1, none⟩ = false
  s0 : W.frozen? ⟨w.heap.size, 0, none⟩ = false
  s1 : W.frozen? ⟨w.heap.size, 1, none⟩ = false
  t0 : W.frozen? ⟨w.heap.size + 1, 0, none⟩ = false
  t1 : W.frozen? ⟨w.heap.size + 1, 1, none⟩ = false
theorem var4 (w : World) (g g' : Bool) (a b : Option Addr) (n m c d : Nat) (T : TypeId) :
    Var4 w ((((w.alloc (.cells #[.bool g, .slice a n c] T)).alloc (.cells #[.bool g', .slice b m d] T)).alloc (.cells #[.bool false, .slice none 0 0] T)).alloc (.cells #[.bool false, .slice none 0 0] T)) g g' a b n m c d := by
  constructor <;> simp [go_sem]
/-- .. are as they were, behind what only adds blocks. -/
theorem Var4.below {w W W' : World} {g g' : Bool} {a b : Option Addr} {n m c d : Nat} (V : Var4 w W g g' a b n m c d) (hb : Below W.heap.size W W') :
    W'.cell? ⟨w.heap.size, 0, none⟩ = some (.bool g) ∧ W'.cell? ⟨w.heap.size, 1, none⟩ = some (.slice a n c) ∧ W'.cell? ⟨w.heap.size + 1, 0, none⟩ = some (.bool g') ∧ W'.cell? ⟨w.heap.size + 1, 1, none⟩ = some (.slice b m d) :=
  ⟨bat hb V.x0, bat hb V.x1, bat hb V.y0, bat hb V.y1⟩

end Go.Proofs.Ythbobfmjlnlfdaa
