import Derived.Test.YtinlomcaagdbiaaGreatGoodS
import Derived.Test.YtinlomcaagdbiaaGreatPtsL
import Derived.Test.YtinlomcaagdbiaaGreatSeg
import Derived.Lib.AppendZeros
/- Which shapes are good: of the program (faultOf, good). -/
namespace Go.Proofs.YtinlomcaagdbiaaGreat
open Go.RowKit

theorem good_none {k : Int} (h : ¬ (1 ≤ k ∧ k ≤ 5)) (rs : List (List (Int × Int))) : goodB k rs = false := by
 have e : mostN k = -1 := by
  unfold mostN
  rw [if_neg (by omega), if_neg (by omega), if_neg (by omega), if_neg (by omega), if_neg (by omega)]
 unfold goodB goodTo formB
 rw [e]
 rfl
theorem good_form {k : Int} (h : k ≠ 5) (rs : List (List (Int × Int))) : goodB k rs = formB k rs := by
 unfold goodB goodTo
 rw [decide_eq_false h]
 exact Bool.and_true _
theorem good_area {rs : List (List (Int × Int))} (h : formB 5 rs = true) : goodB 5 rs = ringsI rs rs.length := by
 unfold goodB goodTo
 rw [h, rings_same (fun i hi => by have := (area_row h i hi).2.1; omega) _ (Nat.le_refl _)]
 rfl
theorem form_few {rs : List (List (Int × Int))} (h : formB 5 rs = true) : rs.length ≤ 12 := by
 rw [formB_kind (by omega)] at h
 have e : limR 5 = 12 := rfl
 rw [e] at h
 cases c : decide ((12 : Int) < rs.length)
 ·have := of_decide_eq_false c
  omega
 ·rw [c, Bool.or_true, Bool.true_or] at h
  cases h

set_option maxRecDepth 20000 in
set_option maxHeartbeats 2000000 in
theorem faultOf0 (a : Option Addr) (c : Nat) (rs : List (List (Int × Int))) (w : World) (h : SeesS w a c rs) (k : Int) (hk : ¬ (1 ≤ k ∧ k ≤ 5)) :
  Calls Tryz.prog 60 #[.agg #[.int .i64 k, .slice a rs.length c]] w fun e w' => ∃ z x y : Int, e = .returned (.agg #[.int .i64 z, .int .i64 x, .int .i64 y]) ∧ Hid (decide (z = 0) = goodB k rs) ∧ Below w.heap.size w w' := by
 have bn := below1 w (.cells #[.int .i64 k, .slice a rs.length c] 50)
 have bz := bn.size
 have B0 := bn.trans ((below1 _ (.cells #[.int .i64 0, .int .i64 0, .int .i64 0] 104)).mono bz)
 have V0 := Box3.new (w.alloc (.cells #[.int .i64 k, .slice a rs.length c] 50)) (lo := w.heap.size) bz (.int .i64 0) (.int .i64 0) (.int .i64 0) 104
 have VS := (Box2.new w (lo := w.heap.size) (Nat.le_refl _) (.int .i64 k) (.slice a rs.length c) 50).below (below1 _ (.cells #[.int .i64 0, .int .i64 0, .int .i64 0] 104))
 rw [World.size_alloc] at V0
 clear bn bz
 have SW := h.below B0
 obtain ⟨k0, k1, _, _⟩ := id VS
 have F : Hid (goodB k rs = false) := good_none hk rs
 have hv : figV k (.slice a rs.length c) = .nilIface := if_neg hk
 clear hk
 go_enter Tryz.func60, Tryz.ntmps60
 go_wp2_with fail
 generalize (w.alloc (.cells #[.int .i64 k, .slice a rs.length c] 50)).alloc (.cells #[.int .i64 0, .int .i64 0, .int .i64 0] 104) = W at *
 refine (figureOf_any k a rs.length c _).mono ?_
 rintro e w1 ⟨rfl, hb⟩
 rw [hv]
 have RB := V0.below hb
 have RN := B0.trans (hb.mono B0.size)
 clear hb hv
 have RC := Box3.chain RN RB (.int .i64 1) (.int .i64 0) (.int .i64 0)
 obtain ⟨r0, r1, r2⟩ := RB.reads (.int .i64 1) (.int .i64 0) (.int .i64 0)
 obtain ⟨o0, o1, o2, of, _⟩ := id RB
 go_wp2
 refine bodyPost_ret (v := .agg #[.int .i64 1, .int .i64 0, .int .i64 0]) (by simp [results, Tryz.results60, go_sem, r0, r1, r2]) rfl ?_
 first
 | exact ⟨_, _, _, rfl, (by show _ = _; rw [F.out]; rfl), RC⟩
 | exact ⟨_, ⟨_, _, rfl⟩, (by show _ = _; rw [F.out]; rfl), RC⟩

set_option maxRecDepth 20000 in
set_option maxHeartbeats 2000000 in
theorem faultOf1 (a : Option Addr) (c : Nat) (rs : List (List (Int × Int))) (w : World) (h : SeesS w a c rs) :
  Calls Tryz.prog 60 #[.agg #[.int .i64 1, .slice a rs.length c]] w fun e w' => ∃ z x y : Int, e = .returned (.agg #[.int .i64 z, .int .i64 x, .int .i64 y]) ∧ Hid (decide (z = 0) = goodB 1 rs) ∧ Below w.heap.size w w' := by
 have bn := below1 w (.cells #[.int .i64 1, .slice a rs.length c] 50)
 have bz := bn.size
 have B0 := bn.trans ((below1 _ (.cells #[.int .i64 0, .int .i64 0, .int .i64 0] 104)).mono bz)
 have V0 := Box3.new (w.alloc (.cells #[.int .i64 1, .slice a rs.length c] 50)) (lo := w.heap.size) bz (.int .i64 0) (.int .i64 0) (.int .i64 0) 104
 have VS := (Box2.new w (lo := w.heap.size) (Nat.le_refl _) (.int .i64 1) (.slice a rs.length c) 50).below (below1 _ (.cells #[.int .i64 0, .int .i64 0, .int .i64 0] 104))
 rw [World.size_alloc] at V0
 clear bn bz
 have SW := h.below B0
 obtain ⟨k0, k1, _, _⟩ := id VS
 have hv : figV 1 (.slice a rs.length c) = .iface 150 (.agg #[.slice a rs.length c]) := rfl
 have q5 := as15 (.slice a rs.length c)
 go_enter Tryz.func60, Tryz.ntmps60
 go_wp2_with fail
 generalize (w.alloc (.cells #[.int .i64 1, .slice a rs.length c] 50)).alloc (.cells #[.int .i64 0, .int .i64 0, .int .i64 0] 104) = W at *
 refine (figureOf_any 1 a rs.length c _).mono ?_
 rintro e w1 ⟨rfl, hb⟩
 rw [hv]
 replace V0 := V0.below hb
 replace B0 := B0.trans (hb.mono B0.size)
 replace SW := SW.below hb
 clear hb hv k0 k1
 go_wp2_with fail
 refine (formFault1 a c rs _ SW).mono ?_
 rintro e w2 ⟨z, x, y, rfl, HZ, hb⟩
 replace V0 := V0.below hb
 replace B0 := B0.trans (hb.mono B0.size)
 replace SW := SW.below hb
 clear hb
 have bn := below1 w2 (.cells #[.int .i64 z, .int .i64 x, .int .i64 y] 104)
 have V1 := Box3.new w2 (lo := w.heap.size) B0.size (.int .i64 z) (.int .i64 x) (.int .i64 y) 104
 replace V0 := V0.below bn
 replace B0 := B0.trans (bn.mono B0.size)
 replace SW := SW.below bn
 clear bn
 go_upto_region 5 with fail
 generalize w2.alloc (.cells #[.int .i64 z, .int .i64 x, .int .i64 y] 104) = W3 at *
 generalize w2.heap.size = q3 at *
 have bn := below1 W3 (.cells #[.slice none 0 0] 130)
 replace V0 := V0.below bn
 replace V1 := V1.below bn
 replace B0 := B0.trans (bn.mono B0.size)
 replace SW := SW.below bn
 have c4 := cell_new W3 #[.slice none 0 0] 130 0 rfl
 clear bn
 go_upto_region 6 with fail
 generalize W3.alloc (.cells #[.slice none 0 0] 130) = W4 at *
 generalize W3.heap.size = q4 at *
 obtain ⟨j0, j1, j2, _, _⟩ := id V1
 have F : Hid (decide (z = 0) = goodB 1 rs) := by
  show _ = _
  rw [good_form (by omega), HZ.out]
 clear HZ
 have RB := V0
 have RN := B0
 have RC := Box3.chain RN RB (.int .i64 z) (.int .i64 x) (.int .i64 y)
 obtain ⟨r0, r1, r2⟩ := RB.reads (.int .i64 z) (.int .i64 x) (.int .i64 y)
 obtain ⟨o0, o1, o2, of, _⟩ := id RB
 go_wp2
 refine bodyPost_ret (v := .agg #[.int .i64 z, .int .i64 x, .int .i64 y]) (by simp [results, Tryz.results60, go_sem, r0, r1, r2]) rfl ?_
 first
 | exact ⟨_, _, _, rfl, F, RC⟩
 | exact ⟨_, ⟨_, _, rfl⟩, F, RC⟩

set_option maxRecDepth 20000 in
set_option maxHeartbeats 2000000 in
theorem faultOf2 (a : Option Addr) (c : Nat) (rs : List (List (Int × Int))) (w : World) (h : SeesS w a c rs) :
  Calls Tryz.prog 60 #[.agg #[.int .i64 2, .slice a rs.length c]] w fun e w' => ∃ z x y : Int, e = .returned (.agg #[.int .i64 z, .int .i64 x, .int .i64 y]) ∧ Hid (decide (z = 0) = goodB 2 rs) ∧ Below w.heap.size w w' := by
 have bn := below1 w (.cells #[.int .i64 2, .slice a rs.length c] 50)
 have bz := bn.size
 have B0 := bn.trans ((below1 _ (.cells #[.int .i64 0, .int .i64 0, .int .i64 0] 104)).mono bz)
 have V0 := Box3.new (w.alloc (.cells #[.int .i64 2, .slice a rs.length c] 50)) (lo := w.heap.size) bz (.int .i64 0) (.int .i64 0) (.int .i64 0) 104
 have VS := (Box2.new w (lo := w.heap.size) (Nat.le_refl _) (.int .i64 2) (.slice a rs.length c) 50).below (below1 _ (.cells #[.int .i64 0, .int .i64 0, .int .i64 0] 104))
 rw [World.size_alloc] at V0
 clear bn bz
 have SW := h.below B0
 obtain ⟨k0, k1, _, _⟩ := id VS
 have hv : figV 2 (.slice a rs.length c) = .iface 151 (.agg #[.slice a rs.length c]) := rfl
 have q5 := as25 (.slice a rs.length c)
 go_enter Tryz.func60, Tryz.ntmps60
 go_wp2_with fail
 generalize (w.alloc (.cells #[.int .i64 2, .slice a rs.length c] 50)).alloc (.cells #[.int .i64 0, .int .i64 0, .int .i64 0] 104) = W at *
 refine (figureOf_any 2 a rs.length c _).mono ?_
 rintro e w1 ⟨rfl, hb⟩
 rw [hv]
 replace V0 := V0.below hb
 replace B0 := B0.trans (hb.mono B0.size)
 replace SW := SW.below hb
 clear hb hv k0 k1
 go_wp2_with fail
 refine (formFault2 a c rs _ SW).mono ?_
 rintro e w2 ⟨z, x, y, rfl, HZ, hb⟩
 replace V0 := V0.below hb
 replace B0 := B0.trans (hb.mono B0.size)
 replace SW := SW.below hb
 clear hb
 have bn := below1 w2 (.cells #[.int .i64 z, .int .i64 x, .int .i64 y] 104)
 have V1 := Box3.new w2 (lo := w.heap.size) B0.size (.int .i64 z) (.int .i64 x) (.int .i64 y) 104
 replace V0 := V0.below bn
 replace B0 := B0.trans (bn.mono B0.size)
 replace SW := SW.below bn
 clear bn
 go_upto_region 5 with fail
 generalize w2.alloc (.cells #[.int .i64 z, .int .i64 x, .int .i64 y] 104) = W3 at *
 generalize w2.heap.size = q3 at *
 have bn := below1 W3 (.cells #[.slice none 0 0] 130)
 replace V0 := V0.below bn
 replace V1 := V1.below bn
 replace B0 := B0.trans (bn.mono B0.size)
 replace SW := SW.below bn
 have c4 := cell_new W3 #[.slice none 0 0] 130 0 rfl
 clear bn
 go_upto_region 6 with fail
 generalize W3.alloc (.cells #[.slice none 0 0] 130) = W4 at *
 generalize W3.heap.size = q4 at *
 obtain ⟨j0, j1, j2, _, _⟩ := id V1
 have F : Hid (decide (z = 0) = goodB 2 rs) := by
  show _ = _
  rw [good_form (by omega), HZ.out]
 clear HZ
 have RB := V0
 have RN := B0
 have RC := Box3.chain RN RB (.int .i64 z) (.int .i64 x) (.int .i64 y)
 obtain ⟨r0, r1, r2⟩ := RB.reads (.int .i64 z) (.int .i64 x) (.int .i64 y)
 obtain ⟨o0, o1, o2, of, _⟩ := id RB
 go_wp2
 refine bodyPost_ret (v := .agg #[.int .i64 z, .int .i64 x, .int .i64 y]) (by simp [results, Tryz.results60, go_sem, r0, r1, r2]) rfl ?_
 first
 | exact ⟨_, _, _, rfl, F, RC⟩
 | exact ⟨_, ⟨_, _, rfl⟩, F, RC⟩

set_option maxRecDepth 20000 in
set_option maxHeartbeats 2000000 in
theorem faultOf3 (a : Option Addr) (c : Nat) (rs : List (List (Int × Int))) (w : World) (h : SeesS w a c rs) :
  Calls Tryz.prog 60 #[.agg #[.int .i64 3, .slice a rs.length c]] w fun e w' => ∃ z x y : Int, e = .returned (.agg #[.int .i64 z, .int .i64 x, .int .i64 y]) ∧ Hid (decide (z = 0) = goodB 3 rs) ∧ Below w.heap.size w w' := by
 have bn := below1 w (.cells #[.int .i64 3, .slice a rs.length c] 50)
 have bz := bn.size
 have B0 := bn.trans ((below1 _ (.cells #[.int .i64 0, .int .i64 0, .int .i64 0] 104)).mono bz)
 have V0 := Box3.new (w.alloc (.cells #[.int .i64 3, .slice a rs.length c] 50)) (lo := w.heap.size) bz (.int .i64 0) (.int .i64 0) (.int .i64 0) 104
 have VS := (Box2.new w (lo := w.heap.size) (Nat.le_refl _) (.int .i64 3) (.slice a rs.length c) 50).below (below1 _ (.cells #[.int .i64 0, .int .i64 0, .int .i64 0] 104))
 rw [World.size_alloc] at V0
 clear bn bz
 have SW := h.below B0
 obtain ⟨k0, k1, _, _⟩ := id VS
 have hv : figV 3 (.slice a rs.length c) = .iface 152 (.agg #[.slice a rs.length c]) := rfl
 have q5 := as35 (.slice a rs.length c)
 go_enter Tryz.func60, Tryz.ntmps60
 go_wp2_with fail
 generalize (w.alloc (.cells #[.int .i64 3, .slice a rs.length c] 50)).alloc (.cells #[.int .i64 0, .int .i64 0, .int .i64 0] 104) = W at *
 refine (figureOf_any 3 a rs.length c _).mono ?_
 rintro e w1 ⟨rfl, hb⟩
 rw [hv]
 replace V0 := V0.below hb
 replace B0 := B0.trans (hb.mono B0.size)
 replace SW := SW.below hb
 clear hb hv k0 k1
 go_wp2_with fail
 refine (formFault3 a c rs _ SW).mono ?_
 rintro e w2 ⟨z, x, y, rfl, HZ, hb⟩
 replace V0 := V0.below hb
 replace B0 := B0.trans (hb.mono B0.size)
 replace SW := SW.below hb
 clear hb
 have bn := below1 w2 (.cells #[.int .i64 z, .int .i64 x, .int .i64 y] 104)
 have V1 := Box3.new w2 (lo := w.heap.size) B0.size (.int .i64 z) (.int .i64 x) (.int .i64 y) 104
 replace V0 := V0.below bn
 replace B0 := B0.trans (bn.mono B0.size)
 replace SW := SW.below bn
 clear bn
 go_upto_region 5 with fail
 generalize w2.alloc (.cells #[.int .i64 z, .int .i64 x, .int .i64 y] 104) = W3 at *
 generalize w2.heap.size = q3 at *
 have bn := below1 W3 (.cells #[.slice none 0 0] 130)
 replace V0 := V0.below bn
 replace V1 := V1.below bn
 replace B0 := B0.trans (bn.mono B0.size)
 replace SW := SW.below bn
 have c4 := cell_new W3 #[.slice none 0 0] 130 0 rfl
 clear bn
 go_upto_region 6 with fail
 generalize W3.alloc (.cells #[.slice none 0 0] 130) = W4 at *
 generalize W3.heap.size = q4 at *
 obtain ⟨j0, j1, j2, _, _⟩ := id V1
 have F : Hid (decide (z = 0) = goodB 3 rs) := by
  show _ = _
  rw [good_form (by omega), HZ.out]
 clear HZ
 have RB := V0
 have RN := B0
 have RC := Box3.chain RN RB (.int .i64 z) (.int .i64 x) (.int .i64 y)
 obtain ⟨r0, r1, r2⟩ := RB.reads (.int .i64 z) (.int .i64 x) (.int .i64 y)
 obtain ⟨o0, o1, o2, of, _⟩ := id RB
 go_wp2
 refine bodyPost_ret (v := .agg #[.int .i64 z, .int .i64 x, .int .i64 y]) (by simp [results, Tryz.results60, go_sem, r0, r1, r2]) rfl ?_
 first
 | exact ⟨_, _, _, rfl, F, RC⟩
 | exact ⟨_, ⟨_, _, rfl⟩, F, RC⟩

set_option maxRecDepth 20000 in
set_option maxHeartbeats 2000000 in
theorem faultOf4 (a : Option Addr) (c : Nat) (rs : List (List (Int × Int))) (w : World) (h : SeesS w a c rs) :
  Calls Tryz.prog 60 #[.agg #[.int .i64 4, .slice a rs.length c]] w fun e w' => ∃ z x y : Int, e = .returned (.agg #[.int .i64 z, .int .i64 x, .int .i64 y]) ∧ Hid (decide (z = 0) = goodB 4 rs) ∧ Below w.heap.size w w' := by
 have bn := below1 w (.cells #[.int .i64 4, .slice a rs.length c] 50)
 have bz := bn.size
 have B0 := bn.trans ((below1 _ (.cells #[.int .i64 0, .int .i64 0, .int .i64 0] 104)).mono bz)
 have V0 := Box3.new (w.alloc (.cells #[.int .i64 4, .slice a rs.length c] 50)) (lo := w.heap.size) bz (.int .i64 0) (.int .i64 0) (.int .i64 0) 104
 have VS := (Box2.new w (lo := w.heap.size) (Nat.le_refl _) (.int .i64 4) (.slice a rs.length c) 50).below (below1 _ (.cells #[.int .i64 0, .int .i64 0, .int .i64 0] 104))
 rw [World.size_alloc] at V0
 clear bn bz
 have SW := h.below B0
 obtain ⟨k0, k1, _, _⟩ := id VS
 have hv : figV 4 (.slice a rs.length c) = .iface 153 (.agg #[.slice a rs.length c]) := rfl
 have q5 := as45 (.slice a rs.length c)
 go_enter Tryz.func60, Tryz.ntmps60
 go_wp2_with fail
 generalize (w.alloc (.cells #[.int .i64 4, .slice a rs.length c] 50)).alloc (.cells #[.int .i64 0, .int .i64 0, .int .i64 0] 104) = W at *
 refine (figureOf_any 4 a rs.length c _).mono ?_
 rintro e w1 ⟨rfl, hb⟩
 rw [hv]
 replace V0 := V0.below hb
 replace B0 := B0.trans (hb.mono B0.size)
 replace SW := SW.below hb
 clear hb hv k0 k1
 go_wp2_with fail
 refine (formFault4 a c rs _ SW).mono ?_
 rintro e w2 ⟨z, x, y, rfl, HZ, hb⟩
 replace V0 := V0.below hb
 replace B0 := B0.trans (hb.mono B0.size)
 replace SW := SW.below hb
 clear hb
 have bn := below1 w2 (.cells #[.int .i64 z, .int .i64 x, .int .i64 y] 104)
 have V1 := Box3.new w2 (lo := w.heap.size) B0.size (.int .i64 z) (.int .i64 x) (.int .i64 y) 104
 replace V0 := V0.below bn
 replace B0 := B0.trans (bn.mono B0.size)
 replace SW := SW.below bn
 clear bn
 go_upto_region 5 with fail
 generalize w2.alloc (.cells #[.int .i64 z, .int .i64 x, .int .i64 y] 104) = W3 at *
 generalize w2.heap.size = q3 at *
 have bn := below1 W3 (.cells #[.slice none 0 0] 130)
 replace V0 := V0.below bn
 replace V1 := V1.below bn
 replace B0 := B0.trans (bn.mono B0.size)
 replace SW := SW.below bn
 have c4 := cell_new W3 #[.slice none 0 0] 130 0 rfl
 clear bn
 go_upto_region 6 with fail
 generalize W3.alloc (.cells #[.slice none 0 0] 130) = W4 at *
 generalize W3.heap.size = q4 at *
 obtain ⟨j0, j1, j2, _, _⟩ := id V1
 have F : Hid (decide (z = 0) = goodB 4 rs) := by
  show _ = _
  rw [good_form (by omega), HZ.out]
 clear HZ
 have RB := V0
 have RN := B0
 have RC := Box3.chain RN RB (.int .i64 z) (.int .i64 x) (.int .i64 y)
 obtain ⟨r0, r1, r2⟩ := RB.reads (.int .i64 z) (.int .i64 x) (.int .i64 y)
 obtain ⟨o0, o1, o2, of, _⟩ := id RB
 go_wp2
 refine bodyPost_ret (v := .agg #[.int .i64 z, .int .i64 x, .int .i64 y]) (by simp [results, Tryz.results60, go_sem, r0, r1, r2]) rfl ?_
 first
 | exact ⟨_, _, _, rfl, F, RC⟩
 | exact ⟨_, ⟨_, _, rfl⟩, F, RC⟩

set_option maxRecDepth 20000 in
set_option maxHeartbeats 2000000 in
theorem faultOf5 (a : Option Addr) (c : Nat) (rs : List (List (Int × Int))) (w : World) (h : SeesS w a c rs) :
  Calls Tryz.prog 60 #[.agg #[.int .i64 5, .slice a rs.length c]] w fun e w' => ∃ z x y : Int, e = .returned (.agg #[.int .i64 z, .int .i64 x, .int .i64 y]) ∧ Hid (decide (z = 0) = goodB 5 rs) ∧ Below w.heap.size w w' := by
 have bn := below1 w (.cells #[.int .i64 5, .slice a rs.length c] 50)
 have bz := bn.size
 have B0 := bn.trans ((below1 _ (.cells #[.int .i64 0, .int .i64 0, .int .i64 0] 104)).mono bz)
 have V0 := Box3.new (w.alloc (.cells #[.int .i64 5, .slice a rs.length c] 50)) (lo := w.heap.size) bz (.int .i64 0) (.int .i64 0) (.int .i64 0) 104
 have VS := (Box2.new w (lo := w.heap.size) (Nat.le_refl _) (.int .i64 5) (.slice a rs.length c) 50).below (below1 _ (.cells #[.int .i64 0, .int .i64 0, .int .i64 0] 104))
 rw [World.size_alloc] at V0
 clear bn bz
 have SW := h.below B0
 obtain ⟨k0, k1, _, _⟩ := id VS
 have hv : figV 5 (.slice a rs.length c) = .iface 130 (.agg #[.slice a rs.length c]) := rfl
 have q5 := as55 (.slice a rs.length c)
 go_enter Tryz.func60, Tryz.ntmps60
 go_wp2_with fail
 generalize (w.alloc (.cells #[.int .i64 5, .slice a rs.length c] 50)).alloc (.cells #[.int .i64 0, .int .i64 0, .int .i64 0] 104) = W at *
 refine (figureOf_any 5 a rs.length c _).mono ?_
 rintro e w1 ⟨rfl, hb⟩
 rw [hv]
 replace V0 := V0.below hb
 replace B0 := B0.trans (hb.mono B0.size)
 replace SW := SW.below hb
 clear hb hv k0 k1
 go_wp2_with fail
 refine (formFault5 a c rs _ SW).mono ?_
 rintro e w2 ⟨z, x, y, rfl, HZ, hb⟩
 replace V0 := V0.below hb
 replace B0 := B0.trans (hb.mono B0.size)
 replace SW := SW.below hb
 clear hb
 have bn := below1 w2 (.cells #[.int .i64 z, .int .i64 x, .int .i64 y] 104)
 have V1 := Box3.new w2 (lo := w.heap.size) B0.size (.int .i64 z) (.int .i64 x) (.int .i64 y) 104
 replace V0 := V0.below bn
 replace B0 := B0.trans (bn.mono B0.size)
 replace SW := SW.below bn
 clear bn
 go_upto_region 5 with fail
 generalize w2.alloc (.cells #[.int .i64 z, .int .i64 x, .int .i64 y] 104) = W3 at *
 generalize w2.heap.size = q3 at *
 have bn := below1 W3 (.cells #[.slice a rs.length c] 130)
 replace V0 := V0.below bn
 replace V1 := V1.below bn
 replace B0 := B0.trans (bn.mono B0.size)
 replace SW := SW.below bn
 have c4 := cell_new W3 #[.slice a rs.length c] 130 0 rfl
 clear bn
 go_upto_region 6 with fail
 generalize W3.alloc (.cells #[.slice a rs.length c] 130) = W4 at *
 generalize W3.heap.size = q4 at *
 obtain ⟨j0, j1, j2, _, _⟩ := id V1
 by_cases hz : z = 0
 ·subst hz
  have hform : formB 5 rs = true := HZ.out.symm
  have HG : Hid (goodB 5 rs = ringsI rs rs.length) := good_area hform
  have hle := form_few hform
  have hrow := area_row hform
  clear HZ
  go_wp2_with fail
  refine (fault_any a c rs _ SW hle hrow).mono ?_
  rintro e w5 ⟨z2, x2, y2, rfl, HZ2, hb⟩
  have RB := V0.below hb
  have RN := B0.trans (hb.mono B0.size)
  have F : Hid (decide (z2 = 0) = goodB 5 rs) := HZ2.out.trans HG.out.symm
  clear hb HZ2 HG hrow j0 j1 j2 c4
  have RC := Box3.chain RN RB (.int .i64 z2) (.int .i64 x2) (.int .i64 y2)
  obtain ⟨r0, r1, r2⟩ := RB.reads (.int .i64 z2) (.int .i64 x2) (.int .i64 y2)
  obtain ⟨o0, o1, o2, of, _⟩ := id RB
  go_wp2
  refine bodyPost_ret (v := .agg #[.int .i64 z2, .int .i64 x2, .int .i64 y2]) (by simp [results, Tryz.results60, go_sem, r0, r1, r2]) rfl ?_
  first
  | exact ⟨_, _, _, rfl, F, RC⟩
  | exact ⟨_, ⟨_, _, rfl⟩, F, RC⟩
 ·have bz : (z == 0) = false := by simp [hz]
  have F : Hid (decide (z = 0) = goodB 5 rs) := by
   show _ = _
   have e := HZ.out
   unfold goodB goodTo
   rw [← e, decide_eq_false hz]
   rfl
  clear HZ
  have RB := V0
  have RN := B0
  have RC := Box3.chain RN RB (.int .i64 z) (.int .i64 x) (.int .i64 y)
  obtain ⟨r0, r1, r2⟩ := RB.reads (.int .i64 z) (.int .i64 x) (.int .i64 y)
  obtain ⟨o0, o1, o2, of, _⟩ := id RB
  go_wp2
  refine bodyPost_ret (v := .agg #[.int .i64 z, .int .i64 x, .int .i64 y]) (by simp [results, Tryz.results60, go_sem, r0, r1, r2]) rfl ?_
  first
  | exact ⟨_, _, _, rfl, F, RC⟩
  | exact ⟨_, ⟨_, _, rfl⟩, F, RC⟩

theorem faultOf_any (k : Int) (a : Option Addr) (c : Nat) (rs : List (List (Int × Int))) (w : World) (h : SeesS w a c rs) :
  Calls Tryz.prog 60 #[.agg #[.int .i64 k, .slice a rs.length c]] w fun e w' => ∃ z x y : Int, e = .returned (.agg #[.int .i64 z, .int .i64 x, .int .i64 y]) ∧ Hid (decide (z = 0) = goodB k rs) ∧ Below w.heap.size w w' := by
 by_cases hk : 1 ≤ k ∧ k ≤ 5
 ·rcases kinds hk with rfl | rfl | rfl | rfl | rfl
  ·exact faultOf1 a c rs w h
  ·exact faultOf2 a c rs w h
  ·exact faultOf3 a c rs w h
  ·exact faultOf4 a c rs w h
  ·exact faultOf5 a c rs w h
 ·exact faultOf0 a c rs w h k hk
theorem field_code (z x y : Int) (W : World) : (Instr.field 104 (.agg #[.int .i64 z, .int .i64 x, .int .i64 y]) 0).run Tryz.prog W = .ok (.int .i64 z) W := by kernel_rfl
set_option maxRecDepth 20000 in
theorem good_any (n : Int) (a : Option Addr) (c : Nat) (rs : List (List (Int × Int))) (w : World) (h : SeesS w a c rs) :
  Calls Tryz.prog 42 #[.agg #[.int .i64 n, .slice a rs.length c]] w fun e w' => e = .returned (.bool (goodB n rs)) ∧ Below w.heap.size w w' := by
 have B0 := below1 w (.cells #[.int .i64 n, .slice a rs.length c] 50)
 have SW := h.below B0
 go_enter Tryz.func42, Tryz.ntmps42
 go_wp2_with fail
 refine (faultOf_any n a c rs _ SW).mono ?_
 rintro e w1 ⟨z, x, y, rfl, HZ, hb⟩
 replace B0 := B0.trans (hb.mono B0.size)
 clear hb SW h
 have hfl := field_code z x y
 by_cases hz : z = 0
 ·subst hz
  have F : Hid (goodB n rs = true) := HZ.out.symm
  clear HZ
  go_wp2
  go_ret
  exact ⟨by rw [F.out]; rfl, B0⟩
 ·have bz : (z == 0) = false := by simp [hz]
  have F : Hid (goodB n rs = false) := by
   show _ = _
   rw [← HZ.out, decide_eq_false hz]
  clear HZ
  go_wp2
  go_ret
  exact ⟨by rw [F.out]; rfl, B0⟩
end Go.Proofs.YtinlomcaagdbiaaGreat

/- Rows of points put behind each other: slices.Grow of nil, slices.Concat. -/
namespace Go.Proofs.YtinlomcaagdbiaaGreat
open Go.RowKit

theorem SeesP.news {w : World} {ad : Addr} {cap : Nat} {ps : List (Int × Int)} (h : SeesP w (some ad) cap ps) : ∀ j u, (ptC ps)[j]? = some u → w.cell? (ad.add j) = some u := by
 intro j u hu
 have hj : j < ps.length * 2 := by have := (List.getElem?_eq_some_iff.mp hu).1; rwa [ptC_len] at this
 have hi : j / 2 < ps.length := by omega
 obtain ⟨b, off, ha, hc⟩ := h.cells (by intro e; simp [e] at hi)
 simp only [Option.some.injEq] at ha
 subst ha
 obtain ⟨c0, c1⟩ := hc _ hi
 obtain ⟨s0, s1⟩ := ptC_at ps _ hi
 rw [show (⟨b, off, none⟩ : Addr).add j = ⟨b, off + j, none⟩ by simp [Addr.add]]
 have hm : j % 2 = 0 ∨ j % 2 = 1 := by omega
 rcases hm with m | m
 ·rw [show j / 2 * 2 = j by omega] at c0 s0
  rw [s0] at hu
  rw [c0, hu]
 ·rw [show j / 2 * 2 + 1 = j by omega] at s1
  rw [show off + j / 2 * 2 + 1 = off + j by omega] at c1
  rw [s1] at hu
  rw [c1, hu]

set_option maxRecDepth 20000 in
theorem growP (n : Nat) (hn : n ≤ 1000) (w : World) :
  Calls Tryz.prog 80 #[.slice none 0 0, .int .i64 n] w fun e w' => ∃ v, e = .returned v ∧ RowPt w.heap.size w' v [] ∧ Below w.heap.size w w' := by
 obtain ⟨i0, hi, hz0, hz1, hz2⟩ := info_parts infoPt
 by_cases h0 : n = 0
 ·subst h0
  go_enter Tryz.func80, Tryz.ntmps80
  go_wp2
  go_ret
  exact ⟨_, rfl, RowPt.nil _ _, Below.refl _ _⟩
 ·have hrz : ∀ ty (W : World), (Builtin.append_ #[78, 3] ty #[.slice none 0 0, .int .i64 (n : Int)]).run Tryz.prog W = .ok (.slice (some ⟨W.heap.size, 0, none⟩) n (grownCap W n 0 25)) (W.drew.alloc (.cells (Builtin.zeroCells (.agg #[.int .i64 0, .int .i64 0] : Value).cells n ++ Builtin.zeroCells (.agg #[.int .i64 0, .int .i64 0] : Value).cells (grownCap W n 0 25 - n)) 25)) := fun ty W =>
   Lib.run_append_nil_zeros W 78 3 ty 25 i0 (.agg #[.int .i64 0, .int .i64 0]) .i64 .i64 Tryz.underlying78 Tryz.underlying3 hi hz0 n (by omega) (by rw [hz1]; omega) (by omega) (by rw [hz2]; omega)
  have hge := grownCap_ge w n 0 25
  have hle := grownCap_le_maxLen w n 0 25 (by unfold maxLen; omega)
  have hrun := fun ty => hrz ty w
  clear hrz
  generalize grownCap w n 0 25 = G at *
  have HM : Hid (G ≤ maxLen) := hle
  unfold maxLen at hle
  have hcz : (Builtin.zeroCells (.agg #[.int .i64 0, .int .i64 0] : Value).cells n ++ Builtin.zeroCells (.agg #[.int .i64 0, .int .i64 0] : Value).cells (G - n)).size = G * 2 := by
   rw [Array.size_append, size_zeroCells, size_zeroCells]
   show n * 2 + (G - n) * 2 = G * 2
   omega
  generalize Builtin.zeroCells (.agg #[.int .i64 0, .int .i64 0] : Value).cells n ++ Builtin.zeroCells (.agg #[.int .i64 0, .int .i64 0] : Value).cells (G - n) = cur at *
  have h1 : (0 : Int) < n := by omega
  go_enter Tryz.func80, Tryz.ntmps80
  go_wp2_with (at_builtin; refine Lib.wpList_append_run _ rfl _ _ _ _ rfl _ _ rfl rfl _ _ (hrun _) ?_)
  go_ret
  refine ⟨_, rfl, ⟨rfl, .inr ⟨w.heap.size, G, cur, rfl, Nat.le_refl _, ?_, Nat.zero_le _, HM.out, hcz, ?_⟩⟩, ?_⟩
  ·exact heap_alloc_new w.drew _
  ·simp [ptC]
  ·exact (Below.refl _ _).drew.trans (below1 w.drew _)

def lenToP (rs : List (List (Int × Int))) : Nat → Nat
 | 0 => 0
 | j + 1 => lenToP rs j + (rowA rs j).length
theorem flat_takeP (rs : List (List (Int × Int))) : ∀ j, j < rs.length → (rs.take (j + 1)).flatten = (rs.take j).flatten ++ rowA rs j := by
 intro j hj
 rw [List.take_add_one, List.getElem?_eq_getElem hj, List.flatten_append]
 unfold rowA
 rw [List.getElem?_eq_getElem hj]
 simp
theorem lenToP_flat (rs : List (List (Int × Int))) : ∀ j, j ≤ rs.length → (rs.take j).flatten.length = lenToP rs j
 | 0, _ => by simp [lenToP]
 | j + 1, h => by
  rw [flat_takeP rs j (by omega), List.length_append, lenToP_flat rs j (by omega)]
  rfl
theorem lenToP_le (rs : List (List (Int × Int))) (hl : ∀ i, i < rs.length → (rowA rs i).length ≤ 60) : ∀ j, j ≤ rs.length → lenToP rs j ≤ 60 * j
 | 0, _ => by simp [lenToP]
 | j + 1, h => by
  have := lenToP_le rs hl j (by omega)
  have := hl j (by omega)
  simp only [lenToP]
  omega

set_option maxRecDepth 20000 in
set_option maxHeartbeats 1000000 in
theorem concatP (a : Option Addr) (c : Nat) (rs : List (List (Int × Int))) (w : World) (h : SeesS w a c rs) (hn : rs.length ≤ 12) (hl : ∀ i, i < rs.length → 0 < (rowA rs i).length ∧ (rowA rs i).length ≤ 60) :
  Calls Tryz.prog 62 #[.slice a rs.length c] w fun e w' => ∃ v, e = .returned v ∧ RowPt w.heap.size w' v rs.flatten ∧ Below w.heap.size w w' := by
 obtain ⟨i0, hi, hz0, hz1, hz2⟩ := info_parts infoPt
 have hm := h.max
 have hf := h.fits
 unfold maxLen at hm
 have LB := lenToP_le rs (fun i q => (hl i q).2)
 have LF := lenToP_flat rs
 have HL : Hid (∀ i, i < rs.length → 0 < (rowA rs i).length ∧ (rowA rs i).length ≤ 60) := hl
 have HB : Hid (∀ j, j ≤ rs.length → lenToP rs j ≤ 60 * j) := LB
 have HF : Hid (∀ j, j ≤ rs.length → (rs.take j).flatten.length = lenToP rs j) := LF
 clear hl LB LF
 go_enter Tryz.func62, Tryz.ntmps62
 go_wp2
 go_loopw [3, 11] (fun s3 s11 wr => ∃ j : Nat, j ≤ rs.length ∧ s11 = .int .i64 j ∧ s3 = .int .i64 (lenToP rs j : Nat) ∧ Below w.heap.size w wr) (fun _ s11 _ => rs.length - (intOf s11).toNat)
 case atStart => exact ⟨0, Nat.zero_le _, rfl, rfl, Below.refl _ _⟩
 case round =>
  obtain ⟨j, hj, rfl, rfl, B0⟩ := hrel
  rename World => wq
  have b0 := HB.out j hj
  by_cases hlt : j < rs.length
  ·obtain ⟨b, off, rfl, hc⟩ := (h.below B0).cells (by intro e; simp [e] at hlt)
   obtain ⟨a', c', g, _⟩ := hc j hlt
   obtain ⟨_, b2⟩ := HL.out j hlt
   have E : Hid (lenToP rs (j + 1) = lenToP rs j + (rowA rs j).length) := (rfl : lenToP rs (j + 1) = _)
   clear hc
   generalize (rowA rs j).length = m at *
   generalize lenToP rs j = l at *
   have hneg : ¬ ((l : Int) + (m : Int) < 0) := by omega
   go_wp2
   go_roundw
   case rel => exact ⟨j + 1, by omega, by go_num, (by rw [E.out]; go_num), B0⟩
   case measure => simp [intOf]; omega
  ·obtain rfl : j = rs.length := by omega
   generalize lenToP rs rs.length = l at *
   go_wp2_with fail
   refine (growP l (by omega) _).mono ?_
   rintro e w1 ⟨v, rfl, R, hb⟩
   have B := B0.trans (hb.mono B0.size)
   replace R : RowPt w.heap.size w1 v [] := row_base R B0.size
   clear hb B0
   go_wp2
   go_loopw [6, 27] (fun s6 s27 wr => ∃ j : Nat, j ≤ rs.length ∧ s27 = .int .i64 j ∧ RowPt w.heap.size wr s6 (rs.take j).flatten ∧ Below w.heap.size w wr) (fun _ s27 _ => rs.length - (intOf s27).toNat)
   case atStart => exact ⟨0, Nat.zero_le _, rfl, R, B⟩
   case round =>
    clear R B
    obtain ⟨i, hi', rfl, R, B⟩ := hrel
    rename World => wr
    by_cases hli : i < rs.length
    ·obtain ⟨b, off, rfl, hc⟩ := (h.below B).cells (by intro e; simp [e] at hli)
     obtain ⟨a', c', g, S⟩ := hc i hli
     obtain ⟨b1, b2⟩ := HL.out i hli
     have FT := flat_takeP rs i hli
     have b3 : ((rs.take i).flatten).length ≤ 60 * i := by rw [HF.out i (by omega)]; exact HB.out i (by omega)
     obtain ⟨b5, o5, rfl, _⟩ := S.cells (by intro e; simp [e] at b1)
     have NW := S.news
     obtain ⟨ts, hts⟩ : ∃ z, Hid ((rs.take i).flatten = z) := ⟨_, rfl⟩
     rw [hts.out] at FT R b3
     have HFT : Hid ((rs.take (i + 1)).flatten = ts ++ rowA rs i) := FT
     clear hc FT hts S
     generalize rowA rs i = qs at *
     have bz := B.size
     go_wp2_with (at_builtin; refine wpList_append_own _ rfl (.tmp 31) (.tmp 32) 78 rfl w.heap.size 25 i0 (.agg #[.int .i64 0, .int .i64 0]) 2 16 Tryz.underlying78 hi hz0 hz1 hz2 rfl (by decide) u6 ts.length (ptC ts) rfl R ⟨b5, o5, none⟩ qs.length _ (ptC qs) rfl (ptC_len _) NW (ptC_ones _) (by unfold maxLen; omega) (by omega) bz ?_)
     intro v7 w7 R7 G7 _
     rw [← ptC_append, ← List.length_append] at R7
     have B7 := B.grown G7 bz (fun k hk => (World.ownsRow.lt R k hk).1)
     go_wp2
     go_roundw
     case rel => exact ⟨i + 1, by omega, by go_num, (by rw [HFT.out]; exact R7), B7⟩
     case measure => simp [intOf]; omega
    ·obtain rfl : i = rs.length := by omega
     rw [List.take_length] at R
     go_wp2
     go_ret
     exact ⟨_, rfl, R, B⟩
end Go.Proofs.YtinlomcaagdbiaaGreat
