import Derived.Test.YtinlomcaagdbiaaGreatTbN
import Derived.Test.YtinlomcaagdbiaaGreatPtB
import Derived.Test.YtinlomcaagdbiaaGreatTrG
import Derived.RangeFuncBound
import Derived.Shelf.Abstract
import Derived.Shelf.RegionOpen
import Derived.WalkKit
import Derived.OwnWalkIn
import Derived.TacticsInMore
import Derived.LoopNIn
import Derived.LoopIn
import Derived.Test.YtinlomcaagdbiaaGreatParM
import Derived.Deep.Cut
/- CurveOf of the specification: a point's place on the curve. -/
namespace Go.Proofs.YtinlomcaagdbiaaGreat
open Go.RowKit

def cvOf (x y : Int) : Int := if ptOk x y then hOf 25 (x + 10000000) (y + 10000000) else -1
theorem cvCrd {x y : Int} (h : ptOk x y = true) : (-10000000 ≤ x ∧ x ≤ 10000000) ∧ (-10000000 ≤ y ∧ y ≤ 10000000) := by
 unfold ptOk inB at h
 simp only [Bool.and_eq_true, decide_eq_true_eq] at h
 omega
theorem l10Half_any (n : Int) (w : World) (h : -9223372036854775808 ≤ n ∧ n ≤ 9223372036854775807) :
  Calls Tryz.prog 93 #[.int .i64 n] w fun e w' => e = .returned (.int .i64 (n / 2)) ∧ Below w.heap.size w w' := by
 have wh : wrap64 (n / 2) = n / 2 := by unfold wrap64; omega
 go_enter Tryz.func93, Tryz.ntmps93
 go_wp2
 go_ret
 exact ⟨rfl, Below.refl _ _⟩

set_option maxRecDepth 20000 in
set_option maxHeartbeats 1000000 in
theorem specCurveOf (x y : Int) (w : World) :
  Calls Tryz.prog 92 #[.agg #[.int .i64 x, .int .i64 y]] w fun e w' => e = .returned (.int .i64 (cvOf x y)) ∧ Below w.heap.size w w' := by
 have B0 := below1 w (.cells #[.int .i64 x, .int .i64 y] 25)
 obtain ⟨k0, k1, _, _⟩ := Box2.new w (lo := w.heap.size) (Nat.le_refl _) (.int .i64 x) (.int .i64 y) 25
 cases ok : ptOk x y
 ·have V : Hid (cvOf x y = -1) := by show _ = _; unfold cvOf; rw [ok]; rfl
  go_enter Tryz.func92, Tryz.ntmps92
  go_wp2_with fail
  generalize w.alloc (.cells #[.int .i64 x, .int .i64 y] 25) = W0 at *
  refine (specPtOk x y _).mono ?_
  rintro e w1 ⟨rfl, hb⟩
  rw [ok]
  have B1 := B0.trans (hb.mono B0.size)
  clear hb
  go_wp2
  go_ret
  exact ⟨by rw [V.out]; rfl, B1⟩
 ·have V : Hid (cvOf x y = hOf 25 (x + 10000000) (y + 10000000)) := by show _ = _; unfold cvOf; rw [ok]; rfl
  have C := cvCrd ok
  have wx : wrap64 (x + 10000000) = x + 10000000 := by unfold wrap64; omega
  have wy : wrap64 (y + 10000000) = y + 10000000 := by unfold wrap64; omega
  go_enter Tryz.func92, Tryz.ntmps92
  go_wp2_with fail
  generalize w.alloc (.cells #[.int .i64 x, .int .i64 y] 25) = W0 at *
  refine (specPtOk x y _).mono ?_
  rintro e w1 ⟨rfl, hb⟩
  rw [ok]
  have B1 := B0.trans (hb.mono B0.size)
  replace k0 := bat hb k0
  replace k1 := bat hb k1
  clear hb
  go_wp2_with fail
  refine (l10Of_any (x + 10000000) (y + 10000000) _ (by omega) (by omega)).mono ?_
  rintro e w2 ⟨rfl, hb⟩
  have B2 := B1.trans (hb.mono B1.size)
  clear hb
  go_wp2
  go_ret
  exact ⟨by rw [V.out]; rfl, B2⟩
end Go.Proofs.YtinlomcaagdbiaaGreat

/- CurveOf of the program: the quarters of a cell by an iterator, the highest first. -/
namespace Go.Proofs.YtinlomcaagdbiaaGreat
open Go.RowKit Go.Shelf
attribute [local go_sem] Oper.semAt_some

def cvQd (h u v : Int) : Int := if u < h then (if v < h then 0 else 1) else (if h ≤ v then 2 else 3)
def cvWn (h q u v : Int) : Int × Int := if q = 0 then (v, u) else if q = 1 then (u, v - h) else if q = 2 then (u - h, v - h) else (h - 1 - v, 2 * h - 1 - u)

theorem quarter_any (u v h : Int) (w : World) :
  Calls Tryz.prog 154 #[.agg #[.int .i64 u, .int .i64 v], .int .i64 h] w fun e w' => e = .returned (.int .i64 (cvQd h u v)) ∧ Below w.heap.size w w' := by
 have B0 := below1 w (.cells #[.int .i64 u, .int .i64 v] 200)
 obtain ⟨k0, k1, _, _⟩ := Box2.new w (lo := w.heap.size) (Nat.le_refl _) (.int .i64 u) (.int .i64 v) 200
 by_cases c1 : u < h
 ·by_cases c2 : v < h
  ·have V : Hid (cvQd h u v = 0) := by show _ = _; unfold cvQd; rw [if_pos c1, if_pos c2]
   go_enter Tryz.func154, Tryz.ntmps154
   go_wp2
   go_ret
   exact ⟨by rw [V.out]; first | done | rfl, B0⟩
  ·have V : Hid (cvQd h u v = 1) := by show _ = _; unfold cvQd; rw [if_pos c1, if_neg c2]
   go_enter Tryz.func154, Tryz.ntmps154
   go_wp2
   go_ret
   exact ⟨by rw [V.out]; first | done | rfl, B0⟩
 ·by_cases c2 : h ≤ v
  ·have V : Hid (cvQd h u v = 2) := by show _ = _; unfold cvQd; rw [if_neg c1, if_pos c2]
   go_enter Tryz.func154, Tryz.ntmps154
   go_wp2
   go_ret
   exact ⟨by rw [V.out]; first | done | rfl, B0⟩
  ·have V : Hid (cvQd h u v = 3) := by show _ = _; unfold cvQd; rw [if_neg c1, if_neg c2]
   go_enter Tryz.func154, Tryz.ntmps154
   go_wp2
   go_ret
   exact ⟨by rw [V.out]; first | done | rfl, B0⟩

set_option maxRecDepth 20000 in
set_option maxHeartbeats 1000000 in
theorem within_any (u v h q : Int) (w : World) (hu : 0 ≤ u ∧ u < 2 * h) (hv : 0 ≤ v ∧ v < 2 * h) (hh : 1 ≤ h ∧ h ≤ 16777216) (hq : q = 0 ∨ q = 1 ∨ q = 2 ∨ q = 3) :
  Calls Tryz.prog 155 #[.agg #[.int .i64 u, .int .i64 v], .int .i64 q, .int .i64 h] w fun e w' => e = .returned (.agg #[.int .i64 (cvWn h q u v).1, .int .i64 (cvWn h q u v).2]) ∧ Below w.heap.size w w' := by
 obtain ⟨k0, k1, _, _⟩ := Box2.new w (lo := w.heap.size) (Nat.le_refl _) (.int .i64 u) (.int .i64 v) 200
 obtain ⟨U, hU⟩ : ∃ U, Hid (cvWn h q u v = U) := ⟨_, rfl⟩
 rw [hU.out]
 rcases hq with e | e | e | e <;> subst e
 ·have V : U = (v, u) := by rw [← hU.out]; simp [cvWn]
  subst V
  clear hU
  have e1 : wrap64 (v) = v := by unfold wrap64; omega
  have e2 : wrap64 (u) = u := by unfold wrap64; omega
  have e3 : wrap64 (h - 1) = h - 1 := by unfold wrap64; omega
  have e4 : wrap64 (2 * h) = 2 * h := by unfold wrap64; omega
  have e5 : wrap64 (2 * h - 1) = 2 * h - 1 := by unfold wrap64; omega
  go_enter Tryz.func155, Tryz.ntmps155
  go_wp2
  refine bodyPost_ret (v := .agg #[.int .i64 (v), .int .i64 (u)]) (by simp [results, Tryz.results155, go_sem]) rfl ?_
  exact ⟨rfl, ((Below.refl _ w).alloc (Nat.le_refl _) _).alloc (by simp) _⟩
 ·have V : U = (u, v - h) := by rw [← hU.out]; simp [cvWn]
  subst V
  clear hU
  have e1 : wrap64 (u) = u := by unfold wrap64; omega
  have e2 : wrap64 (v - h) = v - h := by unfold wrap64; omega
  have e3 : wrap64 (h - 1) = h - 1 := by unfold wrap64; omega
  have e4 : wrap64 (2 * h) = 2 * h := by unfold wrap64; omega
  have e5 : wrap64 (2 * h - 1) = 2 * h - 1 := by unfold wrap64; omega
  go_enter Tryz.func155, Tryz.ntmps155
  go_wp2
  refine bodyPost_ret (v := .agg #[.int .i64 (u), .int .i64 (v - h)]) (by simp [results, Tryz.results155, go_sem]) rfl ?_
  exact ⟨rfl, ((Below.refl _ w).alloc (Nat.le_refl _) _).alloc (by simp) _⟩
 ·have V : U = (u - h, v - h) := by rw [← hU.out]; simp [cvWn]
  subst V
  clear hU
  have e1 : wrap64 (u - h) = u - h := by unfold wrap64; omega
  have e2 : wrap64 (v - h) = v - h := by unfold wrap64; omega
  have e3 : wrap64 (h - 1) = h - 1 := by unfold wrap64; omega
  have e4 : wrap64 (2 * h) = 2 * h := by unfold wrap64; omega
  have e5 : wrap64 (2 * h - 1) = 2 * h - 1 := by unfold wrap64; omega
  go_enter Tryz.func155, Tryz.ntmps155
  go_wp2
  refine bodyPost_ret (v := .agg #[.int .i64 (u - h), .int .i64 (v - h)]) (by simp [results, Tryz.results155, go_sem]) rfl ?_
  exact ⟨rfl, ((Below.refl _ w).alloc (Nat.le_refl _) _).alloc (by simp) _⟩
 ·have V : U = (h - 1 - v, 2 * h - 1 - u) := by rw [← hU.out]; simp [cvWn]
  subst V
  clear hU
  have e1 : wrap64 (h - 1 - v) = h - 1 - v := by unfold wrap64; omega
  have e2 : wrap64 (2 * h - 1 - u) = 2 * h - 1 - u := by unfold wrap64; omega
  have e3 : wrap64 (h - 1) = h - 1 := by unfold wrap64; omega
  have e4 : wrap64 (2 * h) = 2 * h := by unfold wrap64; omega
  have e5 : wrap64 (2 * h - 1) = 2 * h - 1 := by unfold wrap64; omega
  go_enter Tryz.func155, Tryz.ntmps155
  go_wp2
  refine bodyPost_ret (v := .agg #[.int .i64 (h - 1 - v), .int .i64 (2 * h - 1 - u)]) (by simp [results, Tryz.results155, go_sem]) rfl ?_
  exact ⟨rfl, ((Below.refl _ w).alloc (Nat.le_refl _) _).alloc (by simp) _⟩

theorem cvQd_in (h u v : Int) : cvQd h u v = 0 ∨ cvQd h u v = 1 ∨ cvQd h u v = 2 ∨ cvQd h u v = 3 := by
 unfold cvQd
 by_cases c1 : u < h
 ·by_cases c2 : v < h <;> simp [c1, c2]
 ·by_cases c2 : h ≤ v <;> simp [c1, c2]
theorem cvWn_in {h u v : Int} (hu : 0 ≤ u ∧ u < 2 * h) (hv : 0 ≤ v ∧ v < 2 * h) : (0 ≤ (cvWn h (cvQd h u v) u v).1 ∧ (cvWn h (cvQd h u v) u v).1 < h) ∧ (0 ≤ (cvWn h (cvQd h u v) u v).2 ∧ (cvWn h (cvQd h u v) u v).2 < h) := by
 unfold cvQd
 by_cases c1 : u < h
 ·by_cases c2 : v < h
  ·rw [if_pos c1, if_pos c2]; simp [cvWn]; omega
  ·rw [if_pos c1, if_neg c2]; simp [cvWn]; omega
 ·by_cases c2 : h ≤ v
  ·rw [if_neg c1, if_pos c2]; simp [cvWn]; omega
  ·rw [if_neg c1, if_neg c2]; simp [cvWn]; omega
theorem Box2.above {lo p B : Nat} {w w' : World} {x0 x1 : Value} (h : Box2 lo w p x0 x1) (hb : Above B w w') (hB : B ≤ p) : Box2 lo w' p x0 x1 :=
 have e := hb.same p hB h.lt
 ⟨(World.cell?_of_block (a := ⟨p, 0, none⟩) e).trans h.c0, (World.cell?_of_block (a := ⟨p, 1, none⟩) e).trans h.c1, fun o => (World.frozen?_of_block (a := ⟨p, o, none⟩) e).trans (h.fr o), h.lo⟩

def inStep (s : Nat × Int × Int) (q : Int) (s' : Nat × Int × Int) : Prop :=
 ∃ (k : Nat) (u v : Int), s = (k + 1, u, v) ∧ k < 25 ∧ (0 ≤ u ∧ u < 2 * 2 ^ k) ∧ (0 ≤ v ∧ v < 2 * 2 ^ k) ∧ q = cvQd (2 ^ k) u v ∧ s' = (k, cvWn (2 ^ k) q u v)

theorem cvLess {p : Int} (h : 1 ≤ p) : (p / 2).toNat < p.toNat := by omega
theorem cvWrapH {p : Int} (h : 1 ≤ p) (h2 : p ≤ 16777216) : wrap64 (p / 2) = p / 2 := by unfold wrap64; omega
theorem cvHalf (k : Nat) : (2 : Int) ^ (k + 1) / 2 = 2 ^ k := by rw [cvTwoS]; omega

set_option maxRecDepth 100000 in
set_option maxHeartbeats 2000000 in
theorem inward_seq (b : Nat) (x y : Int) (w : World) (n : Nat) (hn : 1 ≤ n) (hx : 0 ≤ x ∧ x < 33554432) (hy : 0 ≤ y ∧ y < 33554432) (h0 : w.cell? ⟨b, 0, none⟩ = some (.int .i64 x)) (h1 : w.cell? ⟨b, 1, none⟩ = some (.int .i64 y)) :
  SeqG Fence.wide n Tryz.prog 153 #[.pointer (some ⟨b, 0, none⟩)] (fun q : Int => Value.int .i64 q) inStep (25, x, y) (fun s => s.1 = 0) w := fun l J W hW hJ hY hJ0 => by
 replace h0 := bat hW h0
 replace h1 := bat hW h1
 clear hW
 have B0 := below1 W (.cells #[.int .i64 x, .int .i64 y] 200)
 have X0 := Box2.new W (lo := W.heap.size) (Nat.le_refl _) (.int .i64 x) (.int .i64 y) 200
 refine callsIn_of_wp Tryz.func153 rfl trivial ?_ rfl
 simp only [Tryz.ntmps153, List.size_toArray, List.length_cons, List.length_nil, Nat.reduceAdd, Nat.reduceSub, Array.replicate_succ, Array.replicate_zero, List.push_toArray, List.append_toArray, List.nil_append, List.cons_append]
 gi_wp2
 replace hJ0 := hJ _ _ _ hJ0 B0
 have S0 := B0.size
 generalize W.alloc (.cells #[.int .i64 x, .int .i64 y] 200) = W0 at *
 generalize W.heap.size = B at *
 gi_loopw [4] (fun sh wr => ∃ (k : Nat) (u v : Int), k ≤ 25 ∧ sh = .int .i64 (2 ^ k / 2) ∧ (0 ≤ u ∧ u < 2 ^ k) ∧ (0 ≤ v ∧ v < 2 ^ k) ∧ Box2 B wr B (.int .i64 u) (.int .i64 v) ∧ J (k, u, v) wr ∧ B ≤ wr.heap.size) (fun sh _ => (intOf sh).toNat)
 case atStart => exact ⟨25, x, y, by omega, rfl, hx, hy, X0, hJ0, S0⟩
 case round =>
  obtain ⟨k, u, v, hk, rfl, hu, hv, X, hj, hs⟩ := hrel
  rename World => wr
  clear X0 hJ0 S0
  cases k with
  | zero =>
   rw [show (2 : Int) ^ 0 / 2 = 0 from rfl]
   gi_wp2
   go_end0
   exact ⟨⟨_, rfl⟩, _, rfl, hj⟩
  | succ k =>
   rw [cvHalf]
   rw [cvTwoS] at hu hv
   obtain ⟨P0, P1⟩ := pow25 (show k < 25 by omega)
   have wi := cvWn_in hu hv
   have hS : inStep (k + 1, u, v) (cvQd (2 ^ k) u v) (k, cvWn (2 ^ k) (cvQd (2 ^ k) u v) u v) := ⟨k, u, v, rfl, by omega, hu, hv, rfl, rfl⟩
   have hq := cvQd_in (2 ^ k) u v
   have wD : wrap64 ((2 : Int) ^ k / 2) = 2 ^ k / 2 := cvWrapH P0 P1
   obtain ⟨x0, x1, _, _⟩ := id X
   gi_wp2_with fail
   refine ⟨trivial, ?_⟩
   refine (callsIn_wide.2 (quarter_any u v (2 ^ k) _)).mono ?_
   rintro e w1 ⟨rfl, hb⟩
   have hs1 : B ≤ w1.heap.size := Nat.le_trans hs hb.size
   obtain ⟨fn, tmps, assign, body, hy1, hR⟩ := hY _ _ _ w1 (hJ _ _ _ hj (hb.mono hs)) hS hs1
   replace X := X.below hb
   clear hb hS x0 x1 hj
   generalize cvQd (2 ^ k) u v = q at *
   gi_wp2_with fail
   refine hR.mono ?_
   rintro e w2 ⟨rfl, hj2, ha⟩
   replace X := X.above ha (Nat.le_refl _)
   have hs2 : B ≤ w2.heap.size := Nat.le_trans hs1 ha.size
   clear ha hR hy1
   obtain ⟨x0, x1, xf, _⟩ := id X
   gi_wp2_with fail
   refine ⟨trivial, ?_⟩
   refine (callsIn_wide.2 (within_any u v (2 ^ k) q _ hu hv ⟨P0, P1⟩ hq)).mono ?_
   rintro e w3 ⟨rfl, hb⟩
   replace hj2 := hJ _ _ _ hj2 (hb.mono hs2)
   replace X := X.below hb
   have hs3 : B ≤ w3.heap.size := Nat.le_trans hs2 hb.size
   clear hb x0 x1 xf
   generalize cvWn (2 ^ k) q u v = c at *
   obtain ⟨u', v'⟩ := c
   dsimp only at wi hj2
   obtain ⟨x0, x1, xf, _⟩ := id X
   gi_wp2
   go_roundw
   case rel => exact ⟨k, u', v', by omega, rfl, wi.1, wi.2, X.put _ _, hJ _ _ _ hj2 (Box2.chain (Below.refl _ _) X _ _), by simpa [World.setCell] using hs3⟩
   case measure => exact cvLess P0

theorem cellOf_any (x y : Int) (w : World) (hx : wrap64 (x + 10000000) = x + 10000000) (hy : wrap64 (y + 10000000) = y + 10000000) :
  Calls Tryz.prog 136 #[.agg #[.int .i64 x, .int .i64 y]] w fun e w' => e = .returned (.agg #[.int .i64 (x + 10000000), .int .i64 (y + 10000000)]) ∧ Below w.heap.size w w' := by
 obtain ⟨k0, k1, _, _⟩ := Box2.new w (lo := w.heap.size) (Nat.le_refl _) (.int .i64 x) (.int .i64 y) 25
 go_enter Tryz.func136, Tryz.ntmps136
 go_wp2
 refine bodyPost_ret (v := .agg #[.int .i64 (x + 10000000), .int .i64 (y + 10000000)]) (by simp [results, Tryz.results136, go_sem]) rfl ?_
 exact ⟨rfl, ((Below.refl _ w).alloc (Nat.le_refl _) _).alloc (by simp) _⟩
theorem inward_any (u v : Int) (w : World) :
  Calls Tryz.prog 137 #[.agg #[.int .i64 u, .int .i64 v]] w fun e w' => e = .returned (.func (.func 153) #[] #[.pointer (some ⟨w.heap.size, 0, none⟩)]) ∧ w' = w.alloc (.cells #[.int .i64 u, .int .i64 v] 200) := by
 go_enter Tryz.func137, Tryz.ntmps137
 go_wp2
 go_ret
 exact ⟨rfl, rfl⟩
structure Box1 (lo : Nat) (w : World) (p : Nat) (x0 : Value) : Prop where
 c0 : w.cell? ⟨p, 0, none⟩ = some x0
 fr : w.frozen? ⟨p, 0, none⟩ = false
 lo : lo ≤ p
theorem Box1.lt {lo p : Nat} {w : World} {x0 : Value} (h : Box1 lo w p x0) : p < w.heap.size := World.block_lt_of_cell? _ _ h.c0
theorem Box1.under {lo p B : Nat} {w w' : World} {x0 : Value} (h : Box1 lo w p x0) (hB : p < B) (hb : Below B w w') : Box1 lo w' p x0 :=
 ⟨(hb.cell (p := ⟨p, 0, none⟩) hB).trans h.c0, (hb.frozen (p := ⟨p, 0, none⟩) hB).trans h.fr, h.lo⟩
theorem Box1.below {lo p : Nat} {w w' : World} {x0 : Value} (h : Box1 lo w p x0) (hb : Below w.heap.size w w') : Box1 lo w' p x0 := h.under h.lt hb
theorem Box1.new (w : World) {lo : Nat} (h : lo ≤ w.heap.size) (x0 : Value) (t : TypeId) : Box1 lo (w.alloc (.cells #[x0] t)) w.heap.size x0 :=
 ⟨cell_new w #[x0] t 0 rfl, frozen_new _ _ _ 0, h⟩
theorem Box1.put {lo p : Nat} {w : World} {x0 : Value} (h : Box1 lo w p x0) (u : Value) : Box1 lo (w.setCell ⟨p, 0, none⟩ u) p u :=
 ⟨World.cell?_setCell_same _ _ _ h.c0, by rw [World.frozen?_setCell]; exact h.fr, h.lo⟩

theorem cvGo {k : Nat} {u v m N : Int} (h : cvAt (k + 1) u v m N) : cvAt k (cvWn (2 ^ k) (cvQd (2 ^ k) u v) u v).1 (cvWn (2 ^ k) (cvQd (2 ^ k) u v) u v).2 (m * 4 + cvQd (2 ^ k) u v) N := by
 have S := cvStep h
 unfold cvQd
 by_cases c1 : u < 2 ^ k
 ·by_cases c2 : v < 2 ^ k
  ·rw [if_pos c1, if_pos c2]; simpa [cvWn] using S.1 c1 c2
  ·rw [if_pos c1, if_neg c2]; simpa [cvWn] using S.2.1 c1 c2
 ·by_cases c2 : 2 ^ k ≤ v
  ·rw [if_neg c1, if_pos c2]; simpa [cvWn] using S.2.2.1 c1 c2
  ·rw [if_neg c1, if_neg c2]; simpa [cvWn] using S.2.2.2 c1 c2

set_option maxRecDepth 100000 in
set_option maxHeartbeats 2000000 in
theorem implCurveOf (x y : Int) (w : World) :
  Calls Tryz.prog 123 #[.agg #[.int .i64 x, .int .i64 y]] w fun e w' => e = .returned (.int .i64 (cvOf x y)) ∧ Below w.heap.size w w' := by
 have B0 := below1 w (.cells #[.int .i64 x, .int .i64 y] 25)
 have X0 := Box2.new w (lo := w.heap.size) (Nat.le_refl _) (.int .i64 x) (.int .i64 y) 25
 refine (callsIn_wide (n := 6)).1 ?_
 refine callsIn_of_wp_marks Tryz.func123 rfl trivial ?_ rfl
 simp only [Tryz.ntmps123, List.size_toArray, List.length_cons, List.length_nil, Nat.reduceAdd, Nat.reduceSub, Array.replicate_succ, Array.replicate_zero, List.push_toArray, List.append_toArray, List.nil_append, List.cons_append]
 obtain ⟨x0, x1, _, _⟩ := id X0
 gi_wp2_with fail
 refine ⟨trivial, ?_⟩
 clear x0 x1
 generalize w.alloc (.cells #[.int .i64 x, .int .i64 y] 25) = W0 at *
 refine (callsIn_wide.2 (implPtOk x y _)).mono ?_
 rintro e w1 ⟨rfl, hb⟩
 replace B0 := B0.trans (hb.mono B0.size)
 replace X0 := X0.below hb
 clear hb
 cases ok : ptOk x y
 ·have V : Hid (cvOf x y = -1) := by show _ = _; unfold cvOf; rw [ok]; rfl
  gi_wp2
  exact ⟨_, results_tmp rfl _ _ _, by rw [V.out]; rfl, B0⟩
 ·have V : Hid (cvOf x y = hOf 25 (x + 10000000) (y + 10000000)) := by show _ = _; unfold cvOf; rw [ok]; rfl
  have C := cvCrd ok
  have wx : wrap64 (x + 10000000) = x + 10000000 := by unfold wrap64; omega
  have wy : wrap64 (y + 10000000) = y + 10000000 := by unfold wrap64; omega
  have hx : 0 ≤ x + 10000000 ∧ x + 10000000 < 33554432 := by omega
  have hy : 0 ≤ y + 10000000 ∧ y + 10000000 < 33554432 := by omega
  have N1 := below1 w1 (.cells #[.int .i64 0] 3)
  have Y0 := Box1.new w1 (lo := w.heap.size) B0.size (.int .i64 0) 3
  replace X0 := X0.below N1
  replace B0 := B0.trans (N1.mono B0.size)
  clear N1
  obtain ⟨x0, x1, _, _⟩ := id X0
  gi_wp2_with fail
  refine ⟨trivial, ?_⟩
  clear x0 x1 X0
  generalize hp : w1.heap.size = p at *
  generalize w1.alloc (.cells #[.int .i64 0] 3) = W1 at *
  refine (callsIn_wide.2 (cellOf_any x y _ wx wy)).mono ?_
  rintro e w2 ⟨rfl, hb⟩
  replace B0 := B0.trans (hb.mono B0.size)
  replace Y0 := Y0.below hb
  clear hb
  gi_wp2_with fail
  refine ⟨trivial, ?_⟩
  refine (callsIn_wide.2 (inward_any (x + 10000000) (y + 10000000) _)).mono ?_
  rintro e w3 ⟨rfl, rfl⟩
  have N1 := below1 w2 (.cells #[.int .i64 (x + 10000000), .int .i64 (y + 10000000)] 200)
  have X1 := Box2.new w2 (lo := w.heap.size) B0.size (.int .i64 (x + 10000000)) (.int .i64 (y + 10000000)) 200
  replace Y0 := Y0.below N1
  replace B0 := B0.trans (N1.mono B0.size)
  clear N1
  generalize hq : w2.heap.size = q at *
  generalize w2.alloc (.cells #[.int .i64 (x + 10000000), .int .i64 (y + 10000000)] 200) = W2 at *
  clear hp hq
  gi_wp2
  have H0 : Hid (cvAt 25 (x + 10000000) (y + 10000000) 0 (hOf 25 (x + 10000000) (y + 10000000))) := cvStart hx hy
  have R0 := hOf_room hx hy
  have pl := Y0.lt
  refine wpIn_rangeFunc_seq rfl (by omega) (gf := 153) (lb := #[.pointer (some ⟨q, 0, none⟩)]) rfl trivial (enters_of Tryz.func153 (by kernel_rfl) rfl) (inward_seq q _ _ _ _ (by omega) hx hy X1.c0 X1.c1) rfl
   (fun s W => ∃ m, Box1 w.heap.size W p (.int .i64 m) ∧ Hid (cvAt s.1 s.2.1 s.2.2 m (hOf 25 (x + 10000000) (y + 10000000))) ∧ Hid (Below w.heap.size w W)) ?hI ⟨0, Y0, H0, B0⟩ ?round ?done
  case hI =>
   rintro s A B' ⟨m, hm, hc, hb⟩ hbb
   exact ⟨m, hm.under pl hbb, hc, hb.out.trans (hbb.mono B0.size)⟩
  case round =>
   rintro s c s' W K ⟨m, Y, H, BB⟩ ⟨k, u, v, rfl, hk, hu, hv, hc, rfl⟩ hsz hK
   have H2 : Hid (cvAt k (cvWn (2 ^ k) c u v).1 (cvWn (2 ^ k) c u v).2 (m * 4 + c) (hOf 25 (x + 10000000) (y + 10000000))) := by rw [hc]; exact cvGo H.out
   have m0 := H.out.2.2.2.2.1
   have m5 := cvLe H2.out
   have hq := cvQd_in (2 ^ k) u v
   rw [← hc] at hq
   clear hc H V H0
   generalize hOf 25 (x + 10000000) (y + 10000000) = N at *
   have wm : wrap64 (m * 4) = m * 4 := by unfold wrap64; omega
   have wn : wrap64 (m * 4 + c) = m * 4 + c := by unfold wrap64; omega
   gi_wp2
   refine hK _ _ (Above.refl _ _) ?_
   intro o
   replace Y := Y.under pl (belowPut W (Nat.le_succ _) o)
   have BB2 := BB.out.trans ((belowPut W (Nat.le_succ _) o).mono B0.size)
   clear BB hK
   generalize W.putObj (W2.heap.size + 1) o = W3 at *
   obtain ⟨y0, yf, yl⟩ := id Y
   gi_wp2
   exact ⟨(Above.refl _ _).setCell pl _, m * 4 + c, Y.put _, H2, BB2.setCell (p := ⟨p, 0, none⟩) yl _⟩
  case done =>
   rintro s W hS ⟨m, Y, H, BB⟩ hK
   obtain ⟨k, u, v⟩ := s
   obtain rfl : k = 0 := hS
   obtain rfl := cvEnd H.out
   obtain ⟨y0, yf, yl⟩ := id Y
   have BB2 := BB.out
   gi_wp2
   refine ⟨by simp, .inl ⟨_, _, rfl, run_takeDeferred hK, ?_⟩⟩
   exact ⟨_, results_tmp rfl _ _ _, by rw [V.out]; rfl, BB2.trans (belowPut _ B0.size _)⟩
end Go.Proofs.YtinlomcaagdbiaaGreat

/- CurveKey of the specification: the place of a box's middle. -/
namespace Go.Proofs.YtinlomcaagdbiaaGreat
open Go.RowKit

def cvKey (a b c d : Int) : Int := if boxOk a b c d then cvOf ((a + c) / 2) ((b + d) / 2) else -1

set_option maxRecDepth 20000 in
set_option maxHeartbeats 1000000 in
theorem specCurveKey (a b c d : Int) (w : World) :
  Calls Tryz.prog 69 #[.agg #[.int .i64 a, .int .i64 b, .int .i64 c, .int .i64 d]] w fun e w' => e = .returned (.int .i64 (cvKey a b c d)) ∧ Below w.heap.size w w' := by
 have B0 := below1 w (.cells #[.int .i64 a, .int .i64 b, .int .i64 c, .int .i64 d] 27)
 have V4 := Box4.new w (lo := w.heap.size) (Nat.le_refl _) (.int .i64 a) (.int .i64 b) (.int .i64 c) (.int .i64 d) 27
 obtain ⟨k0, k1, k2, k3, _, _⟩ := id V4
 cases ok : boxOk a b c d
 ·have V : Hid (cvKey a b c d = -1) := by show _ = _; unfold cvKey; rw [ok]; rfl
  go_enter Tryz.func69, Tryz.ntmps69
  go_wp2_with fail
  generalize w.alloc (.cells #[.int .i64 a, .int .i64 b, .int .i64 c, .int .i64 d] 27) = W0 at *
  refine (specBoxOk a b c d _).mono ?_
  rintro e w1 ⟨rfl, hb⟩
  rw [ok]
  have B1 := B0.trans (hb.mono B0.size)
  clear hb
  go_wp2
  go_ret
  exact ⟨by rw [V.out]; rfl, B1⟩
 ·have V : Hid (cvKey a b c d = cvOf ((a + c) / 2) ((b + d) / 2)) := by show _ = _; unfold cvKey; rw [ok]; rfl
  have C : ((-10000000 ≤ a ∧ a ≤ 10000000) ∧ (-10000000 ≤ b ∧ b ≤ 10000000)) ∧ ((-10000000 ≤ c ∧ c ≤ 10000000) ∧ (-10000000 ≤ d ∧ d ≤ 10000000)) := by
   unfold boxOk at ok
   simp only [Bool.and_eq_true] at ok
   exact ⟨cvCrd ok.1, cvCrd ok.2.1⟩
  have wx : wrap64 (a + c) = a + c := by unfold wrap64; omega
  have wy : wrap64 (b + d) = b + d := by unfold wrap64; omega
  have vx : IntKind.i64.wrap (a + c) = a + c := by rw [IntKind.wrap_i64]; omega
  have vy : IntKind.i64.wrap (b + d) = b + d := by rw [IntKind.wrap_i64]; omega
  go_enter Tryz.func69, Tryz.ntmps69
  go_wp2_with fail
  generalize w.alloc (.cells #[.int .i64 a, .int .i64 b, .int .i64 c, .int .i64 d] 27) = W0 at *
  refine (specBoxOk a b c d _).mono ?_
  rintro e W1 ⟨rfl, hb⟩
  rw [ok]
  have B1 := B0.trans (hb.mono B0.size)
  replace V4 := V4.below hb
  clear hb k0 k1 k2 k3
  obtain ⟨k0, k1, k2, k3, _, _⟩ := id V4
  go_upto_region 3 with fail
  refine wp_region_held_drew (S := Below W1.heap.size W1) (by kernel_rfl) ((Below.refl _ _).drew) (fun hHeld => ?_)
  have N : Below W1.heap.size W1 W1.drew := hHeld
  revert hHeld N
  generalize W1.drew = ww0
  intro hHeld N
  refine takeA (i := 0) (h := ?_)
  refine takeA (i := 1) (h := ?_)
  refine takeA (i := 2) (hy := by intro wq hSw; have q0 := bat hSw k0; have q1 := bat hSw k1; have q2 := bat hSw k2; have q3 := bat hSw k3; go_simp <;> with_reducible rfl) (h := ?_)
  refine takeA (i := 3) (h := ?_)
  refine takeA (i := 4) (h := ?_)
  refine takeA (i := 5) (hy := by intro wq hSw; have q0 := bat hSw k0; have q1 := bat hSw k1; have q2 := bat hSw k2; have q3 := bat hSw k3; go_simp <;> with_reducible rfl) (h := ?_)
  refine takeA (i := 6) (h := ?_)
  refine takeA (i := 8) (h := ?_)
  refine takeA (i := 9) (h := ?_)
  refine takeA (i := 10) (hy := by intro wq hSw; have q0 := bat hSw k0; have q1 := bat hSw k1; have q2 := bat hSw k2; have q3 := bat hSw k3; go_simp <;> with_reducible rfl) (h := ?_)
  refine takeA (i := 11) (h := ?_)
  refine takeA (i := 12) (h := ?_)
  refine takeA (i := 13) (hy := by intro wq hSw; have q0 := bat hSw k0; have q1 := bat hSw k1; have q2 := bat hSw k2; have q3 := bat hSw k3; go_simp <;> with_reducible rfl) (h := ?_)
  refine takeA (i := 14) (h := ?_)
  refine rdA (i := 7) (h := fun K hK => ?_)
  go_simp
  refine (l10Half_any (a + c) _ (by omega)).mono ?_
  rintro e1 ww1 ⟨rfl, hb⟩
  replace N := N.trans (hb.mono N.size)
  clear hb
  refine hK.out _ _ N (fun hHeld => ?_)
  clear hK K
  try simp only [Act.put, sA, sB, sC]
  refine rdA (i := 15) (h := fun K hK => ?_)
  go_simp
  refine (l10Half_any (b + d) _ (by omega)).mono ?_
  rintro e1 ww2 ⟨rfl, hb⟩
  replace N := N.trans (hb.mono N.size)
  clear hb
  refine hK.out _ _ N (fun hHeld => ?_)
  clear hK K
  try simp only [Act.put, sA, sB, sC]
  refine takeA (i := 16) (h := ?_)
  refine rdA (i := 17) (h := fun K hK => ?_)
  go_simp
  refine (specCurveOf ((a + c) / 2) ((b + d) / 2) _).mono ?_
  rintro e1 ww3 ⟨rfl, hb⟩
  replace N := N.trans (hb.mono N.size)
  clear hb
  refine hK.out _ _ N (fun hHeld => ?_)
  clear hK K
  try simp only [Act.put, sA, sB, sC]
  refine takeA (i := 18) (h := ?_)
  refine wpAnyH_done (by kernel_rfl) ?_ _
  go_wp2
  go_ret
  exact ⟨by rw [V.out]; rfl, B1.trans (N.mono B1.size)⟩
end Go.Proofs.YtinlomcaagdbiaaGreat

/- CurveKey of the program: the place of a box's middle. -/
namespace Go.Proofs.YtinlomcaagdbiaaGreat
open Go.RowKit

set_option maxRecDepth 20000 in
set_option maxHeartbeats 1000000 in
theorem implCurveKey (a b c d : Int) (w : World) :
  Calls Tryz.prog 104 #[.agg #[.int .i64 a, .int .i64 b, .int .i64 c, .int .i64 d]] w fun e w' => e = .returned (.int .i64 (cvKey a b c d)) ∧ Below w.heap.size w w' := by
 have B0 := below1 w (.cells #[.int .i64 a, .int .i64 b, .int .i64 c, .int .i64 d] 27)
 have V4 := Box4.new w (lo := w.heap.size) (Nat.le_refl _) (.int .i64 a) (.int .i64 b) (.int .i64 c) (.int .i64 d) 27
 obtain ⟨k0, k1, k2, k3, _, _⟩ := id V4
 cases ok : boxOk a b c d
 ·have V : Hid (cvKey a b c d = -1) := by show _ = _; unfold cvKey; rw [ok]; rfl
  go_enter Tryz.func104, Tryz.ntmps104
  go_wp2_with fail
  generalize w.alloc (.cells #[.int .i64 a, .int .i64 b, .int .i64 c, .int .i64 d] 27) = W0 at *
  refine (implBoxOk a b c d _).mono ?_
  rintro e w1 ⟨rfl, hb⟩
  rw [ok]
  have B1 := B0.trans (hb.mono B0.size)
  clear hb
  go_wp2
  go_ret
  exact ⟨by rw [V.out]; rfl, B1⟩
 ·have V : Hid (cvKey a b c d = cvOf ((a + c) / 2) ((b + d) / 2)) := by show _ = _; unfold cvKey; rw [ok]; rfl
  have C : ((-10000000 ≤ a ∧ a ≤ 10000000) ∧ (-10000000 ≤ b ∧ b ≤ 10000000)) ∧ ((-10000000 ≤ c ∧ c ≤ 10000000) ∧ (-10000000 ≤ d ∧ d ≤ 10000000)) := by
   unfold boxOk at ok
   simp only [Bool.and_eq_true] at ok
   exact ⟨cvCrd ok.1, cvCrd ok.2.1⟩
  have wx : wrap64 (a + c) = a + c := by unfold wrap64; omega
  have wy : wrap64 (b + d) = b + d := by unfold wrap64; omega
  have hx : wrap64 ((a + c) / 2) = (a + c) / 2 := by unfold wrap64; omega
  have hy : wrap64 ((b + d) / 2) = (b + d) / 2 := by unfold wrap64; omega
  go_enter Tryz.func104, Tryz.ntmps104
  go_wp2_with fail
  generalize w.alloc (.cells #[.int .i64 a, .int .i64 b, .int .i64 c, .int .i64 d] 27) = W0 at *
  refine (implBoxOk a b c d _).mono ?_
  rintro e W1 ⟨rfl, hb⟩
  rw [ok]
  have B1 := B0.trans (hb.mono B0.size)
  replace V4 := V4.below hb
  clear hb k0 k1 k2 k3
  obtain ⟨k0, k1, k2, k3, _, _⟩ := id V4
  go_wp2_with fail
  refine (implCurveOf ((a + c) / 2) ((b + d) / 2) _).mono ?_
  rintro e w2 ⟨rfl, hb⟩
  replace B1 := B1.trans (hb.mono B1.size)
  clear hb
  go_wp2
  go_ret
  exact ⟨by rw [V.out]; rfl, B1⟩
end Go.Proofs.YtinlomcaagdbiaaGreat
