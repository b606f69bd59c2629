/- Which shapes are good: of the program (faultOf, good). -/
import Derived.Test.YthafhfdhahbdoaaGoodM
namespace Go.Proofs.Ythafhfdhahbdoaa
open Go.RowKit

theorem good_none {k : Int} (h : ¬ (1 ≤ k ∧ k ≤ 5)) (rs : List (List (Int × Int))) : goodB k rs = false := by
  have e : mostN k = -1 := by
    unfold mostN
    rw [if_neg (by omega), if_neg (by omega), if_neg (by omega), if_neg (by omega), if_neg (by omega)]
  unfold goodB goodTo formB
  rw [e]
  rfl
theorem good_form {k : Int} (h : k ≠ 5) (rs : List (List (Int × Int))) : goodB k rs = formB k rs := by
  unfold goodB goodTo
  rw [decide_eq_false h]
  exact Bool.and_true _
theorem good_area {rs : List (List (Int × Int))} (h : formB 5 rs = true) : goodB 5 rs = ringsI rs rs.length := by
  unfold goodB goodTo
  rw [h, rings_same (fun i hi => by have := (area_row h i hi).2.1; omega) _ (Nat.le_refl _)]
  rfl
theorem form_few {rs : List (List (Int × Int))} (h : formB 5 rs = true) : rs.length ≤ 12 := by
  rw [formB_kind (by omega)] at h
  have e : limR 5 = 12 := rfl
  rw [e] at h
  cases c : decide ((12 : Int) < rs.length)
  · have := of_decide_eq_false c
    omega
  · rw [c, Bool.or_true, Bool.true_or] at h
    cases h

set_option maxRecDepth 20000 in
set_option maxHeartbeats 2000000 in
theorem faultOf0 (a : Option Addr) (c : Nat) (rs : List (List (Int × Int))) (w : World) (h : SeesS w a c rs) (k : Int) (hk : ¬ (1 ≤ k ∧ k ≤ 5)) :
    Calls Try.prog 42 #[.agg #[.int .i64 k, .slice a rs.length c]] w fun e w' => ∃ z x y : Int, e = .returned (.agg #[.int .i64 z, .int .i64 x, .int .i64 y]) ∧ Hid (decide (z = 0) = goodB k rs) ∧ Below w.heap.size w w' := by
  have bn := below1 w (.cells #[.int .i64 k, .slice a rs.length c] 33)
  have bz := bn.size
  have B0 := bn.trans ((below1 _ (.cells #[.int .i64 0, .int .i64 0, .int .i64 0] 71)).mono bz)
  have V0 := Box3.new (w.alloc (.cells #[.int .i64 k, .slice a rs.length c] 33)) (lo := w.heap.size) bz (.int .i64 0) (.int .i64 0) (.int .i64 0) 71
  have VS := (Box2.new w (lo := w.heap.size) (Nat.le_refl _) (.int .i64 k) (.slice a rs.length c) 33).below (below1 _ (.cells #[.int .i64 0, .int .i64 0, .int .i64 0] 71))
  rw [World.size_alloc] at V0
  clear bn bz
  have SW := h.below B0
  obtain ⟨k0, k1, _, _⟩ := id VS
  have F : Hid (goodB k rs = false) := good_none hk rs
  have hv : figV k (.slice a rs.length c) = .nilIface := if_neg hk
  clear hk
  go_enter Try.func42, Try.ntmps42
  go_wp2_with fail
  generalize (w.alloc (.cells #[.int .i64 k, .slice a rs.length c] 33)).alloc (.cells #[.int .i64 0, .int .i64 0, .int .i64 0] 71) = W at *
  refine (figureOf_any k a rs.length c _).mono ?_
  rintro e w1 ⟨rfl, hb⟩
  rw [hv]
  have RB := V0.below hb
  have RN := B0.trans (hb.mono B0.size)
  clear hb hv
  have RC := Box3.chain RN RB (.int .i64 1) (.int .i64 0) (.int .i64 0)
  obtain ⟨r0, r1, r2⟩ := RB.reads (.int .i64 1) (.int .i64 0) (.int .i64 0)
  obtain ⟨o0, o1, o2, of, _⟩ := id RB
  go_wp2
  refine bodyPost_ret (v := .agg #[.int .i64 1, .int .i64 0, .int .i64 0]) (by simp [results, Try.results42, go_sem, r0, r1, r2]) rfl ?_
  first
  | exact ⟨_, _, _, rfl, (by show _ = _; rw [F.out]; rfl), RC⟩
  | exact ⟨_, ⟨_, _, rfl⟩, (by show _ = _; rw [F.out]; rfl), RC⟩

set_option maxRecDepth 20000 in
set_option maxHeartbeats 2000000 in
theorem faultOf1 (a : Option Addr) (c : Nat) (rs : List (List (Int × Int))) (w : World) (h : SeesS w a c rs) :
    Calls Try.prog 42 #[.agg #[.int .i64 1, .slice a rs.length c]] w fun e w' => ∃ z x y : Int, e = .returned (.agg #[.int .i64 z, .int .i64 x, .int .i64 y]) ∧ Hid (decide (z = 0) = goodB 1 rs) ∧ Below w.heap.size w w' := by
  have bn := below1 w (.cells #[.int .i64 1, .slice a rs.length c] 33)
  have bz := bn.size
  have B0 := bn.trans ((below1 _ (.cells #[.int .i64 0, .int .i64 0, .int .i64 0] 71)).mono bz)
  have V0 := Box3.new (w.alloc (.cells #[.int .i64 1, .slice a rs.length c] 33)) (lo := w.heap.size) bz (.int .i64 0) (.int .i64 0) (.int .i64 0) 71
  have VS := (Box2.new w (lo := w.heap.size) (Nat.le_refl _) (.int .i64 1) (.slice a rs.length c) 33).below (below1 _ (.cells #[.int .i64 0, .int .i64 0, .int .i64 0] 71))
  rw [World.size_alloc] at V0
  clear bn bz
  have SW := h.below B0
  obtain ⟨k0, k1, _, _⟩ := id VS
  have hv : figV 1 (.slice a rs.length c) = .iface 102 (.agg #[.slice a rs.length c]) := rfl
  have q5 := as15 (.slice a rs.length c)
  go_enter Try.func42, Try.ntmps42
  go_wp2_with fail
  generalize (w.alloc (.cells #[.int .i64 1, .slice a rs.length c] 33)).alloc (.cells #[.int .i64 0, .int .i64 0, .int .i64 0] 71) = W at *
  refine (figureOf_any 1 a rs.length c _).mono ?_
  rintro e w1 ⟨rfl, hb⟩
  rw [hv]
  replace V0 := V0.below hb
  replace B0 := B0.trans (hb.mono B0.size)
  replace SW := SW.below hb
  clear hb hv k0 k1
  go_wp2_with fail
  refine (formFault1 a c rs _ SW).mono ?_
  rintro e w2 ⟨z, x, y, rfl, HZ, hb⟩
  replace V0 := V0.below hb
  replace B0 := B0.trans (hb.mono B0.size)
  replace SW := SW.below hb
  clear hb
  have bn := below1 w2 (.cells #[.int .i64 z, .int .i64 x, .int .i64 y] 71)
  have V1 := Box3.new w2 (lo := w.heap.size) B0.size (.int .i64 z) (.int .i64 x) (.int .i64 y) 71
  replace V0 := V0.below bn
  replace B0 := B0.trans (bn.mono B0.size)
  replace SW := SW.below bn
  clear bn
  go_upto_region 5 with fail
  generalize w2.alloc (.cells #[.int .i64 z, .int .i64 x, .int .i64 y] 71) = W3 at *
  generalize w2.heap.size = q3 at *
  have bn := below1 W3 (.cells #[.slice none 0 0] 96)
  replace V0 := V0.below bn
  replace V1 := V1.below bn
  replace B0 := B0.trans (bn.mono B0.size)
  replace SW := SW.below bn
  have c4 := cell_new W3 #[.slice none 0 0] 96 0 rfl
  clear bn
  go_upto_region 6 with fail
  generalize W3.alloc (.cells #[.slice none 0 0] 96) = W4 at *
  generalize W3.heap.size = q4 at *
  obtain ⟨j0, j1, j2, _, _⟩ := id V1
  have F : Hid (decide (z = 0) = goodB 1 rs) := by
    show _ = _
    rw [good_form (by omega), HZ.out]
  clear HZ
  have RB := V0
  have RN := B0
  have RC := Box3.chain RN RB (.int .i64 z) (.int .i64 x) (.int .i64 y)
  obtain ⟨r0, r1, r2⟩ := RB.reads (.int .i64 z) (.int .i64 x) (.int .i64 y)
  obtain ⟨o0, o1, o2, of, _⟩ := id RB
  go_wp2
  refine bodyPost_ret (v := .agg #[.int .i64 z, .int .i64 x, .int .i64 y]) (by simp [results, Try.results42, go_sem, r0, r1, r2]) rfl ?_
  first
  | exact ⟨_, _, _, rfl, F, RC⟩
  | exact ⟨_, ⟨_, _, rfl⟩, F, RC⟩

set_option maxRecDepth 20000 in
set_option maxHeartbeats 2000000 in
theorem faultOf2 (a : Option Addr) (c : Nat) (rs : List (List (Int × Int))) (w : World) (h : SeesS w a c rs) :
    Calls Try.prog 42 #[.agg #[.int .i64 2, .slice a rs.length c]] w fun e w' => ∃ z x y : Int, e = .returned (.agg #[.int .i64 z, .int .i64 x, .int .i64 y]) ∧ Hid (decide (z = 0) = goodB 2 rs) ∧ Below w.heap.size w w' := by
  have bn := below1 w (.cells #[.int .i64 2, .slice a rs.length c] 33)
  have bz := bn.size
  have B0 := bn.trans ((below1 _ (.cells #[.int .i64 0, .int .i64 0, .int .i64 0] 71)).mono bz)
  have V0 := Box3.new (w.alloc (.cells #[.int .i64 2, .slice a rs.length c] 33)) (lo := w.heap.size) bz (.int .i64 0) (.int .i64 0) (.int .i64 0) 71
  have VS := (Box2.new w (lo := w.heap.size) (Nat.le_refl _) (.int .i64 2) (.slice a rs.length c) 33).below (below1 _ (.cells #[.int .i64 0, .int .i64 0, .int .i64 0] 71))
  rw [World.size_alloc] at V0
  clear bn bz
  have SW := h.below B0
  obtain ⟨k0, k1, _, _⟩ := id VS
  have hv : figV 2 (.slice a rs.length c) = .iface 103 (.agg #[.slice a rs.length c]) := rfl
  have q5 := as25 (.slice a rs.length c)
  go_enter Try.func42, Try.ntmps42
  go_wp2_with fail
  generalize (w.alloc (.cells #[.int .i64 2, .slice a rs.length c] 33)).alloc (.cells #[.int .i64 0, .int .i64 0, .int .i64 0] 71) = W at *
  refine (figureOf_any 2 a rs.length c _).mono ?_
  rintro e w1 ⟨rfl, hb⟩
  rw [hv]
  replace V0 := V0.below hb
  replace B0 := B0.trans (hb.mono B0.size)
  replace SW := SW.below hb
  clear hb hv k0 k1
  go_wp2_with fail
  refine (formFault2 a c rs _ SW).mono ?_
  rintro e w2 ⟨z, x, y, rfl, HZ, hb⟩
  replace V0 := V0.below hb
  replace B0 := B0.trans (hb.mono B0.size)
  replace SW := SW.below hb
  clear hb
  have bn := below1 w2 (.cells #[.int .i64 z, .int .i64 x, .int .i64 y] 71)
  have V1 := Box3.new w2 (lo := w.heap.size) B0.size (.int .i64 z) (.int .i64 x) (.int .i64 y) 71
  replace V0 := V0.below bn
  replace B0 := B0.trans (bn.mono B0.size)
  replace SW := SW.below bn
  clear bn
  go_upto_region 5 with fail
  generalize w2.alloc (.cells #[.int .i64 z, .int .i64 x, .int .i64 y] 71) = W3 at *
  generalize w2.heap.size = q3 at *
  have bn := below1 W3 (.cells #[.slice none 0 0] 96)
  replace V0 := V0.below bn
  replace V1 := V1.below bn
  replace B0 := B0.trans (bn.mono B0.size)
  replace SW := SW.below bn
  have c4 := cell_new W3 #[.slice none 0 0] 96 0 rfl
  clear bn
  go_upto_region 6 with fail
  generalize W3.alloc (.cells #[.slice none 0 0] 96) = W4 at *
  generalize W3.heap.size = q4 at *
  obtain ⟨j0, j1, j2, _, _⟩ := id V1
  have F : Hid (decide (z = 0) = goodB 2 rs) := by
    show _ = _
    rw [good_form (by omega), HZ.out]
  clear HZ
  have RB := V0
  have RN := B0
  have RC := Box3.chain RN RB (.int .i64 z) (.int .i64 x) (.int .i64 y)
  obtain ⟨r0, r1, r2⟩ := RB.reads (.int .i64 z) (.int .i64 x) (.int .i64 y)
  obtain ⟨o0, o1, o2, of, _⟩ := id RB
  go_wp2
  refine bodyPost_ret (v := .agg #[.int .i64 z, .int .i64 x, .int .i64 y]) (by simp [results, Try.results42, go_sem, r0, r1, r2]) rfl ?_
  first
  | exact ⟨_, _, _, rfl, F, RC⟩
  | exact ⟨_, ⟨_, _, rfl⟩, F, RC⟩

set_option maxRecDepth 20000 in
set_option maxHeartbeats 2000000 in
theorem faultOf3 (a : Option Addr) (c : Nat) (rs : List (List (Int × Int))) (w : World) (h : SeesS w a c rs) :
    Calls Try.prog 42 #[.agg #[.int .i64 3, .slice a rs.length c]] w fun e w' => ∃ z x y : Int, e = .returned (.agg #[.int .i64 z, .int .i64 x, .int .i64 y]) ∧ Hid (decide (z = 0) = goodB 3 rs) ∧ Below w.heap.size w w' := by
  have bn := below1 w (.cells #[.int .i64 3, .slice a rs.length c] 33)
  have bz := bn.size
  have B0 := bn.trans ((below1 _ (.cells #[.int .i64 0, .int .i64 0, .int .i64 0] 71)).mono bz)
  have V0 := Box3.new (w.alloc (.cells #[.int .i64 3, .slice a rs.length c] 33)) (lo := w.heap.size) bz (.int .i64 0) (.int .i64 0) (.int .i64 0) 71
  have VS := (Box2.new w (lo := w.heap.size) (Nat.le_refl _) (.int .i64 3) (.slice a rs.length c) 33).below (below1 _ (.cells #[.int .i64 0, .int .i64 0, .int .i64 0] 71))
  rw [World.size_alloc] at V0
  clear bn bz
  have SW := h.below B0
  obtain ⟨k0, k1, _, _⟩ := id VS
  have hv : figV 3 (.slice a rs.length c) = .iface 104 (.agg #[.slice a rs.length c]) := rfl
  have q5 := as35 (.slice a rs.length c)
  go_enter Try.func42, Try.ntmps42
  go_wp2_with fail
  generalize (w.alloc (.cells #[.int .i64 3, .slice a rs.length c] 33)).alloc (.cells #[.int .i64 0, .int .i64 0, .int .i64 0] 71) = W at *
  refine (figureOf_any 3 a rs.length c _).mono ?_
  rintro e w1 ⟨rfl, hb⟩
  rw [hv]
  replace V0 := V0.below hb
  replace B0 := B0.trans (hb.mono B0.size)
  replace SW := SW.below hb
  clear hb hv k0 k1
  go_wp2_with fail
  refine (formFault3 a c rs _ SW).mono ?_
  rintro e w2 ⟨z, x, y, rfl, HZ, hb⟩
  replace V0 := V0.below hb
  replace B0 := B0.trans (hb.mono B0.size)
  replace SW := SW.below hb
  clear hb
  have bn := below1 w2 (.cells #[.int .i64 z, .int .i64 x, .int .i64 y] 71)
  have V1 := Box3.new w2 (lo := w.heap.size) B0.size (.int .i64 z) (.int .i64 x) (.int .i64 y) 71
  replace V0 := V0.below bn
  replace B0 := B0.trans (bn.mono B0.size)
  replace SW := SW.below bn
  clear bn
  go_upto_region 5 with fail
  generalize w2.alloc (.cells #[.int .i64 z, .int .i64 x, .int .i64 y] 71) = W3 at *
  generalize w2.heap.size = q3 at *
  have bn := below1 W3 (.cells #[.slice none 0 0] 96)
  replace V0 := V0.below bn
  replace V1 := V1.below bn
  replace B0 := B0.trans (bn.mono B0.size)
  replace SW := SW.below bn
  have c4 := cell_new W3 #[.slice none 0 0] 96 0 rfl
  clear bn
  go_upto_region 6 with fail
  generalize W3.alloc (.cells #[.slice none 0 0] 96) = W4 at *
  generalize W3.heap.size = q4 at *
  obtain ⟨j0, j1, j2, _, _⟩ := id V1
  have F : Hid (decide (z = 0) = goodB 3 rs) := by
    show _ = _
    rw [good_form (by omega), HZ.out]
  clear HZ
  have RB := V0
  have RN := B0
  have RC := Box3.chain RN RB (.int .i64 z) (.int .i64 x) (.int .i64 y)
  obtain ⟨r0, r1, r2⟩ := RB.reads (.int .i64 z) (.int .i64 x) (.int .i64 y)
  obtain ⟨o0, o1, o2, of, _⟩ := id RB
  go_wp2
  refine bodyPost_ret (v := .agg #[.int .i64 z, .int .i64 x, .int .i64 y]) (by simp [results, Try.results42, go_sem, r0, r1, r2]) rfl ?_
  first
  | exact ⟨_, _, _, rfl, F, RC⟩
  | exact ⟨_, ⟨_, _, rfl⟩, F, RC⟩

set_option maxRecDepth 20000 in
set_option maxHeartbeats 2000000 in
theorem faultOf4 (a : Option Addr) (c : Nat) (rs : List (List (Int × Int))) (w : World) (h : SeesS w a c rs) :
    Calls Try.prog 42 #[.agg #[.int .i64 4, .slice a rs.length c]] w fun e w' => ∃ z x y : Int, e = .returned (.agg #[.int .i64 z, .int .i64 x, .int .i64 y]) ∧ Hid (decide (z = 0) = goodB 4 rs) ∧ Below w.heap.size w w' := by
  have bn := below1 w (.cells #[.int .i64 4, .slice a rs.length c] 33)
  have bz := bn.size
  have B0 := bn.trans ((below1 _ (.cells #[.int .i64 0, .int .i64 0, .int .i64 0] 71)).mono bz)
  have V0 := Box3.new (w.alloc (.cells #[.int .i64 4, .slice a rs.length c] 33)) (lo := w.heap.size) bz (.int .i64 0) (.int .i64 0) (.int .i64 0) 71
  have VS := (Box2.new w (lo := w.heap.size) (Nat.le_refl _) (.int .i64 4) (.slice a rs.length c) 33).below (below1 _ (.cells #[.int .i64 0, .int .i64 0, .int .i64 0] 71))
  rw [World.size_alloc] at V0
  clear bn bz
  have SW := h.below B0
  obtain ⟨k0, k1, _, _⟩ := id VS
  have hv : figV 4 (.slice a rs.length c) = .iface 105 (.agg #[.slice a rs.length c]) := rfl
  have q5 := as45 (.slice a rs.length c)
  go_enter Try.func42, Try.ntmps42
  go_wp2_with fail
  generalize (w.alloc (.cells #[.int .i64 4, .slice a rs.length c] 33)).alloc (.cells #[.int .i64 0, .int .i64 0, .int .i64 0] 71) = W at *
  refine (figureOf_any 4 a rs.length c _).mono ?_
  rintro e w1 ⟨rfl, hb⟩
  rw [hv]
  replace V0 := V0.below hb
  replace B0 := B0.trans (hb.mono B0.size)
  replace SW := SW.below hb
  clear hb hv k0 k1
  go_wp2_with fail
  refine (formFault4 a c rs _ SW).mono ?_
  rintro e w2 ⟨z, x, y, rfl, HZ, hb⟩
  replace V0 := V0.below hb
  replace B0 := B0.trans (hb.mono B0.size)
  replace SW := SW.below hb
  clear hb
  have bn := below1 w2 (.cells #[.int .i64 z, .int .i64 x, .int .i64 y] 71)
  have V1 := Box3.new w2 (lo := w.heap.size) B0.size (.int .i64 z) (.int .i64 x) (.int .i64 y) 71
  replace V0 := V0.below bn
  replace B0 := B0.trans (bn.mono B0.size)
  replace SW := SW.below bn
  clear bn
  go_upto_region 5 with fail
  generalize w2.alloc (.cells #[.int .i64 z, .int .i64 x, .int .i64 y] 71) = W3 at *
  generalize w2.heap.size = q3 at *
  have bn := below1 W3 (.cells #[.slice none 0 0] 96)
  replace V0 := V0.below bn
  replace V1 := V1.below bn
  replace B0 := B0.trans (bn.mono B0.size)
  replace SW := SW.below bn
  have c4 := cell_new W3 #[.slice none 0 0] 96 0 rfl
  clear bn
  go_upto_region 6 with fail
  generalize W3.alloc (.cells #[.slice none 0 0] 96) = W4 at *
  generalize W3.heap.size = q4 at *
  obtain ⟨j0, j1, j2, _, _⟩ := id V1
  have F : Hid (decide (z = 0) = goodB 4 rs) := by
    show _ = _
    rw [good_form (by omega), HZ.out]
  clear HZ
  have RB := V0
  have RN := B0
  have RC := Box3.chain RN RB (.int .i64 z) (.int .i64 x) (.int .i64 y)
  obtain ⟨r0, r1, r2⟩ := RB.reads (.int .i64 z) (.int .i64 x) (.int .i64 y)
  obtain ⟨o0, o1, o2, of, _⟩ := id RB
  go_wp2
  refine bodyPost_ret (v := .agg #[.int .i64 z, .int .i64 x, .int .i64 y]) (by simp [results, Try.results42, go_sem, r0, r1, r2]) rfl ?_
  first
  | exact ⟨_, _, _, rfl, F, RC⟩
  | exact ⟨_, ⟨_, _, rfl⟩, F, RC⟩

set_option maxRecDepth 20000 in
set_option maxHeartbeats 2000000 in
theorem faultOf5 (a : Option Addr) (c : Nat) (rs : List (List (Int × Int))) (w : World) (h : SeesS w a c rs) :
    Calls Try.prog 42 #[.agg #[.int .i64 5, .slice a rs.length c]] w fun e w' => ∃ z x y : Int, e = .returned (.agg #[.int .i64 z, .int .i64 x, .int .i64 y]) ∧ Hid (decide (z = 0) = goodB 5 rs) ∧ Below w.heap.size w w' := by
  have bn := below1 w (.cells #[.int .i64 5, .slice a rs.length c] 33)
  have bz := bn.size
  have B0 := bn.trans ((below1 _ (.cells #[.int .i64 0, .int .i64 0, .int .i64 0] 71)).mono bz)
  have V0 := Box3.new (w.alloc (.cells #[.int .i64 5, .slice a rs.length c] 33)) (lo := w.heap.size) bz (.int .i64 0) (.int .i64 0) (.int .i64 0) 71
  have VS := (Box2.new w (lo := w.heap.size) (Nat.le_refl _) (.int .i64 5) (.slice a rs.length c) 33).below (below1 _ (.cells #[.int .i64 0, .int .i64 0, .int .i64 0] 71))
  rw [World.size_alloc] at V0
  clear bn bz
  have SW := h.below B0
  obtain ⟨k0, k1, _, _⟩ := id VS
  have hv : figV 5 (.slice a rs.length c) = .iface 96 (.agg #[.slice a rs.length c]) := rfl
  have q5 := as55 (.slice a rs.length c)
  go_enter Try.func42, Try.ntmps42
  go_wp2_with fail
  generalize (w.alloc (.cells #[.int .i64 5, .slice a rs.length c] 33)).alloc (.cells #[.int .i64 0, .int .i64 0, .int .i64 0] 71) = W at *
  refine (figureOf_any 5 a rs.length c _).mono ?_
  rintro e w1 ⟨rfl, hb⟩
  rw [hv]
  replace V0 := V0.below hb
  replace B0 := B0.trans (hb.mono B0.size)
  replace SW := SW.below hb
  clear hb hv k0 k1
  go_wp2_with fail
  refine (formFault5 a c rs _ SW).mono ?_
  rintro e w2 ⟨z, x, y, rfl, HZ, hb⟩
  replace V0 := V0.below hb
  replace B0 := B0.trans (hb.mono B0.size)
  replace SW := SW.below hb
  clear hb
  have bn := below1 w2 (.cells #[.int .i64 z, .int .i64 x, .int .i64 y] 71)
  have V1 := Box3.new w2 (lo := w.heap.size) B0.size (.int .i64 z) (.int .i64 x) (.int .i64 y) 71
  replace V0 := V0.below bn
  replace B0 := B0.trans (bn.mono B0.size)
  replace SW := SW.below bn
  clear bn
  go_upto_region 5 with fail
  generalize w2.alloc (.cells #[.int .i64 z, .int .i64 x, .int .i64 y] 71) = W3 at *
  generalize w2.heap.size = q3 at *
  have bn := below1 W3 (.cells #[.slice a rs.length c] 96)
  replace V0 := V0.below bn
  replace V1 := V1.below bn
  replace B0 := B0.trans (bn.mono B0.size)
  replace SW := SW.below bn
  have c4 := cell_new W3 #[.slice a rs.length c] 96 0 rfl
  clear bn
  go_upto_region 6 with fail
  generalize W3.alloc (.cells #[.slice a rs.length c] 96) = W4 at *
  generalize W3.heap.size = q4 at *
  obtain ⟨j0, j1, j2, _, _⟩ := id V1
  by_cases hz : z = 0
  · subst hz
    have hform : formB 5 rs = true := HZ.out.symm
    have HG : Hid (goodB 5 rs = ringsI rs rs.length) := good_area hform
    have hle := form_few hform
    have hrow := area_row hform
    clear HZ
    go_wp2_with fail
    refine (fault_any a c rs _ SW hle hrow).mono ?_
    rintro e w5 ⟨z2, x2, y2, rfl, HZ2, hb⟩
    have RB := V0.below hb
    have RN := B0.trans (hb.mono B0.size)
    have F : Hid (decide (z2 = 0) = goodB 5 rs) := HZ2.out.trans HG.out.symm
    clear hb HZ2 HG hrow j0 j1 j2 c4
    have RC := Box3.chain RN RB (.int .i64 z2) (.int .i64 x2) (.int .i64 y2)
    obtain ⟨r0, r1, r2⟩ := RB.reads (.int .i64 z2) (.int .i64 x2) (.int .i64 y2)
    obtain ⟨o0, o1, o2, of, _⟩ := id RB
    go_wp2
    refine bodyPost_ret (v := .agg #[.int .i64 z2, .int .i64 x2, .int .i64 y2]) (by simp [results, Try.results42, go_sem, r0, r1, r2]) rfl ?_
    first
    | exact ⟨_, _, _, rfl, F, RC⟩
    | exact ⟨_, ⟨_, _, rfl⟩, F, RC⟩
  · have bz : (z == 0) = false := by simp [hz]
    have F : Hid (decide (z = 0) = goodB 5 rs) := by
      show _ = _
      have e := HZ.out
      unfold goodB goodTo
      rw [← e, decide_eq_false hz]
      rfl
    clear HZ
    have RB := V0
    have RN := B0
    have RC := Box3.chain RN RB (.int .i64 z) (.int .i64 x) (.int .i64 y)
    obtain ⟨r0, r1, r2⟩ := RB.reads (.int .i64 z) (.int .i64 x) (.int .i64 y)
    obtain ⟨o0, o1, o2, of, _⟩ := id RB
    go_wp2
    refine bodyPost_ret (v := .agg #[.int .i64 z, .int .i64 x, .int .i64 y]) (by simp [results, Try.results42, go_sem, r0, r1, r2]) rfl ?_
    first
    | exact ⟨_, _, _, rfl, F, RC⟩
    | exact ⟨_, ⟨_, _, rfl⟩, F, RC⟩

theorem faultOf_any (k : Int) (a : Option Addr) (c : Nat) (rs : List (List (Int × Int))) (w : World) (h : SeesS w a c rs) :
    Calls Try.prog 42 #[.agg #[.int .i64 k, .slice a rs.length c]] w fun e w' => ∃ z x y : Int, e = .returned (.agg #[.int .i64 z, .int .i64 x, .int .i64 y]) ∧ Hid (decide (z = 0) = goodB k rs) ∧ Below w.heap.size w w' := by
  by_cases hk : 1 ≤ k ∧ k ≤ 5
  · rcases kinds hk with rfl | rfl | rfl | rfl | rfl
    · exact faultOf1 a c rs w h
    · exact faultOf2 a c rs w h
    · exact faultOf3 a c rs w h
    · exact faultOf4 a c rs w h
    · exact faultOf5 a c rs w h
  · exact faultOf0 a c rs w h k hk
theorem field_code (z x y : Int) (W : World) : (Instr.field 71 (.agg #[.int .i64 z, .int .i64 x, .int .i64 y]) 0).run Try.prog W = .ok (.int .i64 z) W := by kernel_rfl
set_option maxRecDepth 20000 in
theorem good_any (n : Int) (a : Option Addr) (c : Nat) (rs : List (List (Int × Int))) (w : World) (h : SeesS w a c rs) :
    Calls Try.prog 30 #[.agg #[.int .i64 n, .slice a rs.length c]] w fun e w' => e = .returned (.bool (goodB n rs)) ∧ Below w.heap.size w w' := by
  have B0 := below1 w (.cells #[.int .i64 n, .slice a rs.length c] 33)
  have SW := h.below B0
  go_enter Try.func30, Try.ntmps30
  go_wp2_with fail
  refine (faultOf_any n a c rs _ SW).mono ?_
  rintro e w1 ⟨z, x, y, rfl, HZ, hb⟩
  replace B0 := B0.trans (hb.mono B0.size)
  clear hb SW h
  have hfl := field_code z x y
  by_cases hz : z = 0
  · subst hz
    have F : Hid (goodB n rs = true) := HZ.out.symm
    clear HZ
    go_wp2
    go_ret
    exact ⟨by rw [F.out]; rfl, B0⟩
  · have bz : (z == 0) = false := by simp [hz]
    have F : Hid (goodB n rs = false) := by
      show _ = _
      rw [← HZ.out, decide_eq_false hz]
    clear HZ
    go_wp2
    go_ret
    exact ⟨by rw [F.out]; rfl, B0⟩
end Go.Proofs.Ythafhfdhahbdoaa
