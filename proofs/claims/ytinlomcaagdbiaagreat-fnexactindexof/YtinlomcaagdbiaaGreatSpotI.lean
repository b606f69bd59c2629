/- A place as it is seen from rings, of the program: above, leftOf of a point; around. -/
import Derived.Test.YtinlomcaagdbiaaGreatSeg
import Derived.Test.YtinlomcaagdbiaaGreatPtM
import Derived.Test.YtinlomcaagdbiaaGreatParM
import Derived.Deep.DeepCutAuto
namespace Go.Proofs.YtinlomcaagdbiaaGreat
open Go.RowKit

theorem compareA (m n : Int) (w : World) :
  Calls Tryz.prog 108 #[.int .i64 m, .int .i64 n] w fun e w' => e = .returned (.int .i64 (sgn1 (m - n))) ∧ w' = w := by
 rcases Int.lt_trichotomy m n with h | h | h
 ·have h' : ¬ n < m := by omega
  rw [sgn1_neg (show m - n < 0 by omega)]
  go_enter Tryz.func108, Tryz.ntmps108
  go_wp2_with (go_at_call 126; refine (isNaN_any _ _).mono ?_; rintro e w' ⟨rfl, rfl⟩)
  go_ret
  exact ⟨rfl, rfl⟩
 ·subst h
  rw [Int.sub_self]
  go_enter Tryz.func108, Tryz.ntmps108
  go_wp2_with (go_at_call 126; refine (isNaN_any _ _).mono ?_; rintro e w' ⟨rfl, rfl⟩)
  go_ret
  exact ⟨rfl, rfl⟩
 ·have h' : ¬ m < n := by omega
  rw [sgn1_pos (show 0 < m - n by omega)]
  go_enter Tryz.func108, Tryz.ntmps108
  go_wp2_with (go_at_call 126; refine (isNaN_any _ _).mono ?_; rintro e w' ⟨rfl, rfl⟩)
  go_ret
  exact ⟨rfl, rfl⟩
theorem above_any (px py y : Int) (w : World) :
  Calls Tryz.prog 178 #[.agg #[.int .i64 px, .int .i64 py], .int .i64 y] w fun e w' => e = .returned (.int .i64 (sgn1 (py - y))) ∧ Below w.heap.size w w' := by
 have B := below1 w (.cells #[.int .i64 px, .int .i64 py] 25)
 go_enter Tryz.func178, Tryz.ntmps178
 go_wp2_with (go_at_call 108; refine (compareA _ _ _).mono ?_; rintro e w' ⟨rfl, rfl⟩)
 go_ret
 exact ⟨rfl, B⟩
theorem leftOf_any (px py ax ay bx bz : Int) (w : World) (c1 : Crd ax) (d1 : Crd ay) (c2 : Crd bx) (d2 : Crd bz) (c3 : Crd px) (d3 : Crd py) :
  Calls Tryz.prog 179 #[.agg #[.int .i64 px, .int .i64 py], .agg #[.int .i64 ax, .int .i64 ay], .agg #[.int .i64 bx, .int .i64 bz]] w fun e w' => e = .returned (.int .i64 (sgn1 (ar ax ay bx bz px py))) ∧ Below w.heap.size w w' := by
 have B := ptbelow3 w px py ax ay bx bz 25
 go_enter Tryz.func179, Tryz.ntmps179
 go_wp2_with (go_at_call 151; refine (turn_any _ _ _ _ _ _ _ c1 d1 c2 d2 c3 d3).mono ?_; rintro e w' ⟨rfl, hb⟩; replace B := B.trans (hb.mono B.size); clear hb)
 go_ret
 exact ⟨rfl, B⟩

theorem sgn1_pos_iff (n : Int) : 0 < sgn1 n ↔ 0 < n := by
 unfold sgn1
 split <;> rename_i h
 ·omega
 ·split <;> omega
theorem sgn1_neg_iff (n : Int) : sgn1 n < 0 ↔ n < 0 := by
 unfold sgn1
 split <;> rename_i h
 ·omega
 ·split <;> omega
def okQ (es : List Sg) : Bool := es.all fun e => ptOk e.1.1 e.1.2 && ptOk e.2.1 e.2.2
theorem okQ_at {es : List Sg} (h : okQ es = true) {i : Nat} (hi : i < es.length) : (Crd (sgA es i).1.1 ∧ Crd (sgA es i).1.2) ∧ (Crd (sgA es i).2.1 ∧ Crd (sgA es i).2.2) := by
 have := List.all_eq_true.mp h (es[i]) (List.getElem_mem hi)
 have e : sgA es i = es[i] := by unfold sgA; rw [List.getElem?_eq_getElem hi]; rfl
 rw [e]
 rw [Bool.and_eq_true] at this
 simp only [ptOk, Bool.and_eq_true, inB_true] at this
 exact this
def hqE (es : List Sg) (px py : Int) (i : Nat) : Bool := hitI (sgA es i).1.1 (sgA es i).1.2 (sgA es i).2.1 (sgA es i).2.2 px py

set_option maxRecDepth 20000 in
set_option maxHeartbeats 4000000 in
theorem around_any (a : Option Addr) (c : Nat) (es : List Sg) (px py : Int) (w : World) (h : SeesQ w a c es) (ok : okQ es = true) (cx : Crd px) (cy : Crd py) :
  Calls Tryz.prog 120 #[.slice a es.length c, .iface 25 (.agg #[.int .i64 px, .int .i64 py])] w fun e w' => e = .returned (.bool (par (hqE es px py) es.length)) ∧ Below w.heap.size w w' := by
 have hm := h.max
 have hf := h.fits
 unfold maxLen at hm
 go_enter Tryz.func120, Tryz.ntmps120
 go_wp2
 go_loopw [5, 14] (fun s5 s14 wr => ∃ j : Nat, j ≤ es.length ∧ s14 = .int .i64 j ∧ s5 = .bool (par (hqE es px py) j) ∧ Below w.heap.size w wr) (fun _ s14 _ => es.length - (intOf s14).toNat)
 case atStart => exact ⟨0, Nat.zero_le _, rfl, rfl, Below.refl _ _⟩
 case round =>
  obtain ⟨j, hj, rfl, rfl, B⟩ := hrel
  rename World => wr
  by_cases hlt : j < es.length
  ·obtain ⟨⟨a1, a2⟩, ⟨a3, a4⟩⟩ := okQ_at ok hlt
   obtain ⟨b, off, rfl, hc⟩ := (h.below B).cells (by intro e; simp [e] at hlt)
   obtain ⟨g1, g2, g3, g4⟩ := hc j hlt
   clear hc
   obtain ⟨od, Hod⟩ : ∃ b, Hid (par (hqE es px py) j = b) := ⟨_, rfl⟩
   rw [Hod.out]
   have E2 : Hid (par (hqE es px py) (j + 1) = (od ^^ hitI (sgA es j).1.1 (sgA es j).1.2 (sgA es j).2.1 (sgA es j).2.2 px py)) := by
    show _ = _
    rw [← Hod.out]
    rfl
   clear Hod
   generalize (sgA es j).1.1 = x at *
   generalize (sgA es j).1.2 = y at *
   generalize (sgA es j).2.1 = u at *
   generalize (sgA es j).2.2 = v at *
   have K0 := Box4.new wr (lo := w.heap.size) B.size (.int .i64 x) (.int .i64 y) (.int .i64 u) (.int .i64 v) 182
   have bn := below1 wr (.cells #[.int .i64 x, .int .i64 y, .int .i64 u, .int .i64 v] 182)
   replace B := B.trans (bn.mono B.size)
   clear bn
   go_upto_region 5 with fail
   clear g1 g2 g3 g4
   generalize wr.alloc (.cells #[.int .i64 x, .int .i64 y, .int .i64 u, .int .i64 v] 182) = W0 at *
   generalize wr.heap.size = qe at *
   obtain ⟨k0, k1, k2, k3, _, _⟩ := id K0
   go_cut [8, 9] (fun s8 s9 W => ∃ p q, s8 = .pointer (some ⟨p, 0, none⟩) ∧ s9 = .pointer (some ⟨q, 0, none⟩) ∧ Box2 W0.heap.size W p (.int .i64 x) (.int .i64 y) ∧ Box2 W0.heap.size W q (.int .i64 u) (.int .i64 v) ∧ Below W0.heap.size W0 W)
   case first =>
    refine wp_region_held_drew (S := Below W0.heap.size W0) (by kernel_rfl) ((Below.refl _ _).drew) (fun hHeld => ?_)
    have N : Below W0.heap.size W0 W0.drew := hHeld
    revert hHeld N
    generalize W0.drew = ww0
    intro hHeld N
    refine takeA (i := 0) (h := ?_)
    refine takeA (i := 1) (hy := by intro wq hSw; have q0 := bat hSw k0; have q1 := bat hSw k1; have q2 := bat hSw k2; have q3 := bat hSw k3; go_simp <;> with_reducible rfl) (h := ?_)
    refine takeA (i := 2) (h := ?_)
    refine takeA (i := 3) (hy := by intro wq hSw; have q0 := bat hSw k0; have q1 := bat hSw k1; have q2 := bat hSw k2; have q3 := bat hSw k3; go_simp <;> with_reducible rfl) (h := ?_)
    refine wpAnyH_ready (rs := [4, 5]) (by kernel_rfl) (by simp) (AllReadyH.cons (gt rfl) (fun K hK => ?_) (AllReadyH.cons (gt rfl) (fun K hK => ?_) AllReadyH.nil))
    ·skip
     go_simp
     have kP := Box2.new ww0 N.size (.int .i64 0) (.int .i64 0) 25
     have hb := below1 ww0 (.cells #[.int .i64 0, .int .i64 0] 25)
     replace N := N.trans (hb.mono N.size)
     clear hb
     generalize ww0.alloc (.cells #[.int .i64 0, .int .i64 0] 25) = ww1 at *
     refine hK.out _ _ N (fun hHeld => ?_)
     clear hK K
     try simp only [Act.put, sA, sB, sC]
     refine rdA (i := 5) (h := fun K hK => ?_)
     go_simp
     have kQ := Box2.new ww1 N.size (.int .i64 0) (.int .i64 0) 25
     have hb := below1 ww1 (.cells #[.int .i64 0, .int .i64 0] 25)
     have ne_kQ_kP := Nat.ne_of_gt kP.lt
     have ne_kP_kQ := ne_kQ_kP.symm
     replace kP := kP.below hb
     replace N := N.trans (hb.mono N.size)
     clear hb
     generalize ww1.alloc (.cells #[.int .i64 0, .int .i64 0] 25) = ww2 at *
     refine hK.out _ _ N (fun hHeld => ?_)
     clear hK K
     try simp only [Act.put, sA, sB, sC]
     refine rdA (i := 6) (h := fun K hK => ?_)
     have z0 := kP.c0
     have z1 := kP.c1
     have zf := kP.fr
     go_simp
     clear z0 z1 zf
     replace N := Box2.chain N kP (.int .i64 x) (.int .i64 y)
     replace kQ := kQ.old ne_kQ_kP (.int .i64 x) (.int .i64 y)
     replace kP := kP.put (.int .i64 x) (.int .i64 y)
     refine hK.out _ _ N (fun hHeld => ?_)
     clear hK K
     try simp only [Act.put, sA, sB, sC]
     refine rdA (i := 7) (h := fun K hK => ?_)
     have z0 := kQ.c0
     have z1 := kQ.c1
     have zf := kQ.fr
     go_simp
     clear z0 z1 zf
     replace N := Box2.chain N kQ (.int .i64 u) (.int .i64 v)
     replace kP := kP.old ne_kP_kQ (.int .i64 u) (.int .i64 v)
     replace kQ := kQ.put (.int .i64 u) (.int .i64 v)
     refine hK.out _ _ N (fun hHeld => ?_)
     clear hK K
     try simp only [Act.put, sA, sB, sC]
     refine wpAnyH_done (by kernel_rfl) ?_ _
     go_wp2
     go_meet
     case rel => exact ⟨_, _, rfl, rfl, kP, kQ, N⟩
    ·skip
     go_simp
     have kQ := Box2.new ww0 N.size (.int .i64 0) (.int .i64 0) 25
     have hb := below1 ww0 (.cells #[.int .i64 0, .int .i64 0] 25)
     replace N := N.trans (hb.mono N.size)
     clear hb
     generalize ww0.alloc (.cells #[.int .i64 0, .int .i64 0] 25) = ww5 at *
     refine hK.out _ _ N (fun hHeld => ?_)
     clear hK K
     try simp only [Act.put, sA, sB, sC]
     refine rdA (i := 4) (h := fun K hK => ?_)
     go_simp
     have kP := Box2.new ww5 N.size (.int .i64 0) (.int .i64 0) 25
     have hb := below1 ww5 (.cells #[.int .i64 0, .int .i64 0] 25)
     have ne_kP_kQ := Nat.ne_of_gt kQ.lt
     have ne_kQ_kP := ne_kP_kQ.symm
     replace kQ := kQ.below hb
     replace N := N.trans (hb.mono N.size)
     clear hb
     generalize ww5.alloc (.cells #[.int .i64 0, .int .i64 0] 25) = ww6 at *
     refine hK.out _ _ N (fun hHeld => ?_)
     clear hK K
     try simp only [Act.put, sA, sB, sC]
     refine rdA (i := 6) (h := fun K hK => ?_)
     have z0 := kP.c0
     have z1 := kP.c1
     have zf := kP.fr
     go_simp
     clear z0 z1 zf
     replace N := Box2.chain N kP (.int .i64 x) (.int .i64 y)
     replace kQ := kQ.old ne_kQ_kP (.int .i64 x) (.int .i64 y)
     replace kP := kP.put (.int .i64 x) (.int .i64 y)
     refine hK.out _ _ N (fun hHeld => ?_)
     clear hK K
     try simp only [Act.put, sA, sB, sC]
     refine rdA (i := 7) (h := fun K hK => ?_)
     have z0 := kQ.c0
     have z1 := kQ.c1
     have zf := kQ.fr
     go_simp
     clear z0 z1 zf
     replace N := Box2.chain N kQ (.int .i64 u) (.int .i64 v)
     replace kP := kP.old ne_kP_kQ (.int .i64 u) (.int .i64 v)
     replace kQ := kQ.put (.int .i64 u) (.int .i64 v)
     refine hK.out _ _ N (fun hHeld => ?_)
     clear hK K
     try simp only [Act.put, sA, sB, sC]
     refine wpAnyH_done (by kernel_rfl) ?_ _
     go_wp2
     go_meet
     case rel => exact ⟨_, _, rfl, rfl, kP, kQ, N⟩
   obtain ⟨p, q, rfl, rfl, VP, VQ, hb⟩ := hcut
   rename World => W1
   clear k0 k1 k2 k3 K0
   replace B := B.trans (hb.mono B.size)
   clear hb
   obtain ⟨s1, hs1⟩ : ∃ s, Hid (sgn1 (py - y) = s) := ⟨_, rfl⟩
   obtain ⟨s2, hs2⟩ : ∃ s, Hid (sgn1 (py - v) = s) := ⟨_, rfl⟩
   obtain ⟨tt, htt⟩ : ∃ s, Hid (sgn1 (ar x y u v px py) = s) := ⟨_, rfl⟩
   have e1 : (0 < s1 ↔ y < py) := by
    rw [← hs1.out]
    exact (sgn1_pos_iff _).trans (by omega)
   have e2 : (0 < s2 ↔ v < py) := by
    rw [← hs2.out]
    exact (sgn1_pos_iff _).trans (by omega)
   have e3 : (0 < tt ↔ 0 < ar x y u v px py) := by rw [← htt.out]; exact sgn1_pos_iff _
   have e4 : (tt < 0 ↔ ar x y u v px py < 0) := by rw [← htt.out]; exact sgn1_neg_iff _
   have E3 : Hid (par (hqE es px py) (j + 1) = (od ^^ ((decide (0 < s1) && (decide (¬ 0 < s2) && decide (0 < tt))) || (decide (0 < s2) && (decide (¬ 0 < s1) && decide (tt < 0)))))) := by
    show _ = _
    rw [E2.out]
    unfold hitI
    have d1 : decide (py ≤ v) = decide (¬ 0 < s2) := by simp [e2]
    have d2 : decide (py ≤ y) = decide (¬ 0 < s1) := by simp [e1]
    rw [d1, d2]
    simp only [e1, e2, e3, e4]
   clear E2 e1 e2 e3 e4
   obtain ⟨n0, n1, _, _⟩ := id VP
   obtain ⟨m0, m1, _, _⟩ := id VQ
   by_cases q1 : 0 < s1
   ·have r1 : ¬ s1 ≤ 0 := by omega
    by_cases q2 : 0 < s2
    ·have r2 : ¬ s2 ≤ 0 := by omega
     have F : Hid (par (hqE es px py) (j + 1) = od) := by
      show _ = _
      rw [E3.out]
      simp [q1, q2]
     clear E3
     go_wp2_with (first
     | (go_at_call 178; refine (above_any _ _ _ _).mono ?_; rintro e w9 ⟨rfl, hb⟩; (first | rw [hs1.out] | rw [hs2.out]); replace B := B.trans (hb.mono B.size); replace n0 := bat hb n0; replace n1 := bat hb n1; replace m0 := bat hb m0; replace m1 := bat hb m1; clear hb)
     | (go_at_call 179; refine (leftOf_any _ _ _ _ _ _ _ a1 a2 a3 a4 cx cy).mono ?_; rintro e w9 ⟨rfl, hb⟩; rw [htt.out]; replace B := B.trans (hb.mono B.size); replace n0 := bat hb n0; replace n1 := bat hb n1; replace m0 := bat hb m0; replace m1 := bat hb m1; clear hb))
     go_roundw
     case rel => exact ⟨j + 1, by omega, by go_num, by rw [F.out], B⟩
     case measure => simp [intOf]; omega
    ·have r2 : s2 ≤ 0 := by omega
     by_cases q3 : 0 < tt
     ·skip
      have F : Hid (par (hqE es px py) (j + 1) = !od) := by
       show _ = _
       rw [E3.out]
       simp [q1, q2, q3]
      clear E3
      go_wp2_with (first
      | (go_at_call 178; refine (above_any _ _ _ _).mono ?_; rintro e w9 ⟨rfl, hb⟩; (first | rw [hs1.out] | rw [hs2.out]); replace B := B.trans (hb.mono B.size); replace n0 := bat hb n0; replace n1 := bat hb n1; replace m0 := bat hb m0; replace m1 := bat hb m1; clear hb)
      | (go_at_call 179; refine (leftOf_any _ _ _ _ _ _ _ a1 a2 a3 a4 cx cy).mono ?_; rintro e w9 ⟨rfl, hb⟩; rw [htt.out]; replace B := B.trans (hb.mono B.size); replace n0 := bat hb n0; replace n1 := bat hb n1; replace m0 := bat hb m0; replace m1 := bat hb m1; clear hb))
      go_roundw
      case rel => exact ⟨j + 1, by omega, by go_num, by rw [F.out], B⟩
      case measure => simp [intOf]; omega
     ·skip
      have F : Hid (par (hqE es px py) (j + 1) = od) := by
       show _ = _
       rw [E3.out]
       simp [q1, q2, q3]
      clear E3
      go_wp2_with (first
      | (go_at_call 178; refine (above_any _ _ _ _).mono ?_; rintro e w9 ⟨rfl, hb⟩; (first | rw [hs1.out] | rw [hs2.out]); replace B := B.trans (hb.mono B.size); replace n0 := bat hb n0; replace n1 := bat hb n1; replace m0 := bat hb m0; replace m1 := bat hb m1; clear hb)
      | (go_at_call 179; refine (leftOf_any _ _ _ _ _ _ _ a1 a2 a3 a4 cx cy).mono ?_; rintro e w9 ⟨rfl, hb⟩; rw [htt.out]; replace B := B.trans (hb.mono B.size); replace n0 := bat hb n0; replace n1 := bat hb n1; replace m0 := bat hb m0; replace m1 := bat hb m1; clear hb))
      go_roundw
      case rel => exact ⟨j + 1, by omega, by go_num, by rw [F.out], B⟩
      case measure => simp [intOf]; omega
   ·have r1 : s1 ≤ 0 := by omega
    by_cases q2 : 0 < s2
    ·have r2 : ¬ s2 ≤ 0 := by omega
     by_cases q3 : tt < 0
     ·skip
      have F : Hid (par (hqE es px py) (j + 1) = !od) := by
       show _ = _
       rw [E3.out]
       simp [q1, q2, q3]
      clear E3
      go_wp2_with (first
      | (go_at_call 178; refine (above_any _ _ _ _).mono ?_; rintro e w9 ⟨rfl, hb⟩; (first | rw [hs1.out] | rw [hs2.out]); replace B := B.trans (hb.mono B.size); replace n0 := bat hb n0; replace n1 := bat hb n1; replace m0 := bat hb m0; replace m1 := bat hb m1; clear hb)
      | (go_at_call 179; refine (leftOf_any _ _ _ _ _ _ _ a1 a2 a3 a4 cx cy).mono ?_; rintro e w9 ⟨rfl, hb⟩; rw [htt.out]; replace B := B.trans (hb.mono B.size); replace n0 := bat hb n0; replace n1 := bat hb n1; replace m0 := bat hb m0; replace m1 := bat hb m1; clear hb))
      go_roundw
      case rel => exact ⟨j + 1, by omega, by go_num, by rw [F.out], B⟩
      case measure => simp [intOf]; omega
     ·skip
      have F : Hid (par (hqE es px py) (j + 1) = od) := by
       show _ = _
       rw [E3.out]
       simp [q1, q2, q3]
      clear E3
      go_wp2_with (first
      | (go_at_call 178; refine (above_any _ _ _ _).mono ?_; rintro e w9 ⟨rfl, hb⟩; (first | rw [hs1.out] | rw [hs2.out]); replace B := B.trans (hb.mono B.size); replace n0 := bat hb n0; replace n1 := bat hb n1; replace m0 := bat hb m0; replace m1 := bat hb m1; clear hb)
      | (go_at_call 179; refine (leftOf_any _ _ _ _ _ _ _ a1 a2 a3 a4 cx cy).mono ?_; rintro e w9 ⟨rfl, hb⟩; rw [htt.out]; replace B := B.trans (hb.mono B.size); replace n0 := bat hb n0; replace n1 := bat hb n1; replace m0 := bat hb m0; replace m1 := bat hb m1; clear hb))
      go_roundw
      case rel => exact ⟨j + 1, by omega, by go_num, by rw [F.out], B⟩
      case measure => simp [intOf]; omega
    ·have r2 : s2 ≤ 0 := by omega
     have F : Hid (par (hqE es px py) (j + 1) = od) := by
      show _ = _
      rw [E3.out]
      simp [q1, q2]
     clear E3
     go_wp2_with (first
     | (go_at_call 178; refine (above_any _ _ _ _).mono ?_; rintro e w9 ⟨rfl, hb⟩; (first | rw [hs1.out] | rw [hs2.out]); replace B := B.trans (hb.mono B.size); replace n0 := bat hb n0; replace n1 := bat hb n1; replace m0 := bat hb m0; replace m1 := bat hb m1; clear hb)
     | (go_at_call 179; refine (leftOf_any _ _ _ _ _ _ _ a1 a2 a3 a4 cx cy).mono ?_; rintro e w9 ⟨rfl, hb⟩; rw [htt.out]; replace B := B.trans (hb.mono B.size); replace n0 := bat hb n0; replace n1 := bat hb n1; replace m0 := bat hb m0; replace m1 := bat hb m1; clear hb))
     go_roundw
     case rel => exact ⟨j + 1, by omega, by go_num, by rw [F.out], B⟩
     case measure => simp [intOf]; omega
  ·obtain rfl : j = es.length := by omega
   go_wp2
   go_ret
   exact ⟨rfl, B⟩
end Go.Proofs.YtinlomcaagdbiaaGreat
