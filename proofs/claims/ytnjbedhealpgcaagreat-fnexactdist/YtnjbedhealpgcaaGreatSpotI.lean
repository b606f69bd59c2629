import Derived.Test.YtnjbedhealpgcaaGreatSeg
import Derived.Test.YtnjbedhealpgcaaGreatPtM
import Derived.Test.YtnjbedhealpgcaaGreatParM
import Derived.Test.YtnjbedhealpgcaaGreatHeldQ
import Derived.Deep.DeepCutAuto
import Derived.Test.YtnjbedhealpgcaaGreatRing
import Derived.Test.YtnjbedhealpgcaaGreatConQ
import Derived.Test.YtnjbedhealpgcaaGreatConR
import Derived.Test.YtnjbedhealpgcaaGreatHeld
/- A place as it is seen from rings, of the program: above, leftOf of a point; around. -/
namespace Go.Proofs.YtnjbedhealpgcaaGreat
open Go.RowKit

theorem compareA (m n : Int) (w : World) :
    Calls Tryz.prog 154 #[.int .i64 m, .int .i64 n] w fun e w' => e = .returned (.int .i64 (sgn1 (m - n))) ∧ w' = w := by
  rcases Int.lt_trichotomy m n with h | h | h
  · have h' : ¬ n < m := by omega
    rw [sgn1_neg (show m - n < 0 by omega)]
    go_enter Tryz.func154, Tryz.ntmps154
    go_wp2_with (go_at_call 156; refine (isNaN_any _ _).mono ?_; rintro e w' ⟨rfl, rfl⟩)
    go_ret
    exact ⟨rfl, rfl⟩
  · subst h
    rw [Int.sub_self]
    go_enter Tryz.func154, Tryz.ntmps154
    go_wp2_with (go_at_call 156; refine (isNaN_any _ _).mono ?_; rintro e w' ⟨rfl, rfl⟩)
    go_ret
    exact ⟨rfl, rfl⟩
  · have h' : ¬ m < n := by omega
    rw [sgn1_pos (show 0 < m - n by omega)]
    go_enter Tryz.func154, Tryz.ntmps154
    go_wp2_with (go_at_call 156; refine (isNaN_any _ _).mono ?_; rintro e w' ⟨rfl, rfl⟩)
    go_ret
    exact ⟨rfl, rfl⟩
theorem above_any (px py y : Int) (w : World) :
    Calls Tryz.prog 174 #[.agg #[.int .i64 px, .int .i64 py], .int .i64 y] w fun e w' => e = .returned (.int .i64 (sgn1 (py - y))) ∧ Below w.heap.size w w' := by
  have B := below1 w (.cells #[.int .i64 px, .int .i64 py] 38)
  go_enter Tryz.func174, Tryz.ntmps174
  go_wp2_with (go_at_call 154; refine (compareA _ _ _).mono ?_; rintro e w' ⟨rfl, rfl⟩)
  go_ret
  exact ⟨rfl, B⟩
theorem leftOf_any (px py ax ay bx bz : Int) (w : World) (c1 : Crd ax) (d1 : Crd ay) (c2 : Crd bx) (d2 : Crd bz) (c3 : Crd px) (d3 : Crd py) :
    Calls Tryz.prog 175 #[.agg #[.int .i64 px, .int .i64 py], .agg #[.int .i64 ax, .int .i64 ay], .agg #[.int .i64 bx, .int .i64 bz]] w fun e w' => e = .returned (.int .i64 (sgn1 (ar ax ay bx bz px py))) ∧ Below w.heap.size w w' := by
  have B := ptbelow3 w px py ax ay bx bz 38
  go_enter Tryz.func175, Tryz.ntmps175
  go_wp2_with (go_at_call 150; refine (turn_any _ _ _ _ _ _ _ c1 d1 c2 d2 c3 d3).mono ?_; rintro e w' ⟨rfl, hb⟩; replace B := B.trans (hb.mono B.size); clear hb)
  go_ret
  exact ⟨rfl, B⟩

theorem sgn1_pos_iff (n : Int) : 0 < sgn1 n ↔ 0 < n := by
  unfold sgn1
  split <;> rename_i h
  · omega
  · split <;> omega
theorem sgn1_neg_iff (n : Int) : sgn1 n < 0 ↔ n < 0 := by
  unfold sgn1
  split <;> rename_i h
  · omega
  · split <;> omega
def okQ (es : List Sg) : Bool := es.all fun e => ptOk e.1.1 e.1.2 && ptOk e.2.1 e.2.2
theorem okQ_at {es : List Sg} (h : okQ es = true) {i : Nat} (hi : i < es.length) : (Crd (sgA es i).1.1 ∧ Crd (sgA es i).1.2) ∧ (Crd (sgA es i).2.1 ∧ Crd (sgA es i).2.2) := by
  have := List.all_eq_true.mp h (es[i]) (List.getElem_mem hi)
  have e : sgA es i = es[i] := by unfold sgA; rw [List.getElem?_eq_getElem hi]; rfl
  rw [e]
  rw [Bool.and_eq_true] at this
  simp only [ptOk, Bool.and_eq_true, inB_true] at this
  exact this
def hqE (es : List Sg) (px py : Int) (i : Nat) : Bool := hitI (sgA es i).1.1 (sgA es i).1.2 (sgA es i).2.1 (sgA es i).2.2 px py

set_option maxRecDepth 20000 in
set_option maxHeartbeats 4000000 in
theorem around_any (a : Option Addr) (c : Nat) (es : List Sg) (px py : Int) (w : World) (h : SeesQ w a c es) (ok : okQ es = true) (cx : Crd px) (cy : Crd py) :
    Calls Tryz.prog 130 #[.slice a es.length c, .iface 38 (.agg #[.int .i64 px, .int .i64 py])] w fun e w' => e = .returned (.bool (par (hqE es px py) es.length)) ∧ Below w.heap.size w w' := by
  have hm := h.max
  have hf := h.fits
  unfold maxLen at hm
  go_enter Tryz.func130, Tryz.ntmps130
  go_wp2
  go_loopw [5, 14] (fun s5 s14 wr => ∃ j : Nat, j ≤ es.length ∧ s14 = .int .i64 j ∧ s5 = .bool (par (hqE es px py) j) ∧ Below w.heap.size w wr) (fun _ s14 _ => es.length - (intOf s14).toNat)
  case atStart => exact ⟨0, Nat.zero_le _, rfl, rfl, Below.refl _ _⟩
  case round =>
    obtain ⟨j, hj, rfl, rfl, B⟩ := hrel
    rename World => wr
    by_cases hlt : j < es.length
    · obtain ⟨⟨a1, a2⟩, ⟨a3, a4⟩⟩ := okQ_at ok hlt
      obtain ⟨b, off, rfl, hc⟩ := (h.below B).cells (by intro e; simp [e] at hlt)
      obtain ⟨g1, g2, g3, g4⟩ := hc j hlt
      clear hc
      obtain ⟨od, Hod⟩ : ∃ b, Hid (par (hqE es px py) j = b) := ⟨_, rfl⟩
      rw [Hod.out]
      have E2 : Hid (par (hqE es px py) (j + 1) = (od ^^ hitI (sgA es j).1.1 (sgA es j).1.2 (sgA es j).2.1 (sgA es j).2.2 px py)) := by
        show _ = _
        rw [← Hod.out]
        rfl
      clear Hod
      generalize (sgA es j).1.1 = x at *
      generalize (sgA es j).1.2 = y at *
      generalize (sgA es j).2.1 = u at *
      generalize (sgA es j).2.2 = v at *
      have K0 := Box4.new wr (lo := w.heap.size) B.size (.int .i64 x) (.int .i64 y) (.int .i64 u) (.int .i64 v) 59
      have bn := below1 wr (.cells #[.int .i64 x, .int .i64 y, .int .i64 u, .int .i64 v] 59)
      replace B := B.trans (bn.mono B.size)
      clear bn
      go_upto_region 5 with fail
      clear g1 g2 g3 g4
      generalize wr.alloc (.cells #[.int .i64 x, .int .i64 y, .int .i64 u, .int .i64 v] 59) = W0 at *
      generalize wr.heap.size = qe at *
      obtain ⟨k0, k1, k2, k3, _, _⟩ := id K0
      go_cut [8, 9] (fun s8 s9 W => ∃ p q, s8 = .pointer (some ⟨p, 0, none⟩) ∧ s9 = .pointer (some ⟨q, 0, none⟩) ∧ Box2 W0.heap.size W p (.int .i64 x) (.int .i64 y) ∧ Box2 W0.heap.size W q (.int .i64 u) (.int .i64 v) ∧ Below W0.heap.size W0 W)
      case first =>
        refine wp_region_held_drew (S := Below W0.heap.size W0) (by kernel_rfl) ((Below.refl _ _).drew) (fun hHeld => ?_)
        have N : Below W0.heap.size W0 W0.drew := hHeld
        revert hHeld N
        generalize W0.drew = ww0
        intro hHeld N
        refine takeA (i := 0) (h := ?_)
        refine takeA (i := 1) (hy := by intro wq hSw; have q0 := bat hSw k0; have q1 := bat hSw k1; have q2 := bat hSw k2; have q3 := bat hSw k3; go_simp <;> with_reducible rfl) (h := ?_)
        refine takeA (i := 2) (h := ?_)
        refine takeA (i := 3) (hy := by intro wq hSw; have q0 := bat hSw k0; have q1 := bat hSw k1; have q2 := bat hSw k2; have q3 := bat hSw k3; go_simp <;> with_reducible rfl) (h := ?_)
        refine wpAnyH_ready (rs := [4, 5]) (by kernel_rfl) (by simp) (AllReadyH.cons (gt rfl) (fun K hK => ?_) (AllReadyH.cons (gt rfl) (fun K hK => ?_) AllReadyH.nil))
        · skip
          go_simp
          have kP := Box2.new ww0 N.size (.int .i64 0) (.int .i64 0) 38
          have hb := below1 ww0 (.cells #[.int .i64 0, .int .i64 0] 38)
          replace N := N.trans (hb.mono N.size)
          clear hb
          generalize ww0.alloc (.cells #[.int .i64 0, .int .i64 0] 38) = ww1 at *
          refine hK.out _ _ N (fun hHeld => ?_)
          clear hK K
          try simp only [Act.put, sA, sB, sC]
          refine rdA (i := 5) (h := fun K hK => ?_)
          go_simp
          have kQ := Box2.new ww1 N.size (.int .i64 0) (.int .i64 0) 38
          have hb := below1 ww1 (.cells #[.int .i64 0, .int .i64 0] 38)
          have ne_kQ_kP := Nat.ne_of_gt kP.lt
          have ne_kP_kQ := ne_kQ_kP.symm
          replace kP := kP.below hb
          replace N := N.trans (hb.mono N.size)
          clear hb
          generalize ww1.alloc (.cells #[.int .i64 0, .int .i64 0] 38) = ww2 at *
          refine hK.out _ _ N (fun hHeld => ?_)
          clear hK K
          try simp only [Act.put, sA, sB, sC]
          refine rdA (i := 6) (h := fun K hK => ?_)
          have z0 := kP.c0
          have z1 := kP.c1
          have zf := kP.fr
          go_simp
          clear z0 z1 zf
          replace N := Box2.chain N kP (.int .i64 x) (.int .i64 y)
          replace kQ := kQ.old ne_kQ_kP (.int .i64 x) (.int .i64 y)
          replace kP := kP.put (.int .i64 x) (.int .i64 y)
          refine hK.out _ _ N (fun hHeld => ?_)
          clear hK K
          try simp only [Act.put, sA, sB, sC]
          refine rdA (i := 7) (h := fun K hK => ?_)
          have z0 := kQ.c0
          have z1 := kQ.c1
          have zf := kQ.fr
          go_simp
          clear z0 z1 zf
          replace N := Box2.chain N kQ (.int .i64 u) (.int .i64 v)
          replace kP := kP.old ne_kP_kQ (.int .i64 u) (.int .i64 v)
          replace kQ := kQ.put (.int .i64 u) (.int .i64 v)
          refine hK.out _ _ N (fun hHeld => ?_)
          clear hK K
          try simp only [Act.put, sA, sB, sC]
          refine wpAnyH_done (by kernel_rfl) ?_ _
          go_wp2
          go_meet
          case rel => exact ⟨_, _, rfl, rfl, kP, kQ, N⟩
        · skip
          go_simp
          have kQ := Box2.new ww0 N.size (.int .i64 0) (.int .i64 0) 38
          have hb := below1 ww0 (.cells #[.int .i64 0, .int .i64 0] 38)
          replace N := N.trans (hb.mono N.size)
          clear hb
          generalize ww0.alloc (.cells #[.int .i64 0, .int .i64 0] 38) = ww5 at *
          refine hK.out _ _ N (fun hHeld => ?_)
          clear hK K
          try simp only [Act.put, sA, sB, sC]
          refine rdA (i := 4) (h := fun K hK => ?_)
          go_simp
          have kP := Box2.new ww5 N.size (.int .i64 0) (.int .i64 0) 38
          have hb := below1 ww5 (.cells #[.int .i64 0, .int .i64 0] 38)
          have ne_kP_kQ := Nat.ne_of_gt kQ.lt
          have ne_kQ_kP := ne_kP_kQ.symm
          replace kQ := kQ.below hb
          replace N := N.trans (hb.mono N.size)
          clear hb
          generalize ww5.alloc (.cells #[.int .i64 0, .int .i64 0] 38) = ww6 at *
          refine hK.out _ _ N (fun hHeld => ?_)
          clear hK K
          try simp only [Act.put, sA, sB, sC]
          refine rdA (i := 6) (h := fun K hK => ?_)
          have z0 := kP.c0
          have z1 := kP.c1
          have zf := kP.fr
          go_simp
          clear z0 z1 zf
          replace N := Box2.chain N kP (.int .i64 x) (.int .i64 y)
          replace kQ := kQ.old ne_kQ_kP (.int .i64 x) (.int .i64 y)
          replace kP := kP.put (.int .i64 x) (.int .i64 y)
          refine hK.out _ _ N (fun hHeld => ?_)
          clear hK K
          try simp only [Act.put, sA, sB, sC]
          refine rdA (i := 7) (h := fun K hK => ?_)
          have z0 := kQ.c0
          have z1 := kQ.c1
          have zf := kQ.fr
          go_simp
          clear z0 z1 zf
          replace N := Box2.chain N kQ (.int .i64 u) (.int .i64 v)
          replace kP := kP.old ne_kP_kQ (.int .i64 u) (.int .i64 v)
          replace kQ := kQ.put (.int .i64 u) (.int .i64 v)
          refine hK.out _ _ N (fun hHeld => ?_)
          clear hK K
          try simp only [Act.put, sA, sB, sC]
          refine wpAnyH_done (by kernel_rfl) ?_ _
          go_wp2
          go_meet
          case rel => exact ⟨_, _, rfl, rfl, kP, kQ, N⟩
      obtain ⟨p, q, rfl, rfl, VP, VQ, hb⟩ := hcut
      rename World => W1
      clear k0 k1 k2 k3 K0
      replace B := B.trans (hb.mono B.size)
      clear hb
      obtain ⟨s1, hs1⟩ : ∃ s, Hid (sgn1 (py - y) = s) := ⟨_, rfl⟩
      obtain ⟨s2, hs2⟩ : ∃ s, Hid (sgn1 (py - v) = s) := ⟨_, rfl⟩
      obtain ⟨tt, htt⟩ : ∃ s, Hid (sgn1 (ar x y u v px py) = s) := ⟨_, rfl⟩
      have e1 : (0 < s1 ↔ y < py) := by
        rw [← hs1.out]
        exact (sgn1_pos_iff _).trans (by omega)
      have e2 : (0 < s2 ↔ v < py) := by
        rw [← hs2.out]
        exact (sgn1_pos_iff _).trans (by omega)
      have e3 : (0 < tt ↔ 0 < ar x y u v px py) := by rw [← htt.out]; exact sgn1_pos_iff _
      have e4 : (tt < 0 ↔ ar x y u v px py < 0) := by rw [← htt.out]; exact sgn1_neg_iff _
      have E3 : Hid (par (hqE es px py) (j + 1) = (od ^^ ((decide (0 < s1) && (decide (¬ 0 < s2) && decide (0 < tt))) || (decide (0 < s2) && (decide (¬ 0 < s1) && decide (tt < 0)))))) := by
        show _ = _
        rw [E2.out]
        unfold hitI
        have d1 : decide (py ≤ v) = decide (¬ 0 < s2) := by simp [e2]
        have d2 : decide (py ≤ y) = decide (¬ 0 < s1) := by simp [e1]
        rw [d1, d2]
        simp only [e1, e2, e3, e4]
      clear E2 e1 e2 e3 e4
      obtain ⟨n0, n1, _, _⟩ := id VP
      obtain ⟨m0, m1, _, _⟩ := id VQ
      by_cases q1 : 0 < s1
      · have r1 : ¬ s1 ≤ 0 := by omega
        by_cases q2 : 0 < s2
        · have r2 : ¬ s2 ≤ 0 := by omega
          have F : Hid (par (hqE es px py) (j + 1) = od) := by
            show _ = _
            rw [E3.out]
            simp [q1, q2]
          clear E3
          go_wp2_with (first
          | (go_at_call 174; refine (above_any _ _ _ _).mono ?_; rintro e w9 ⟨rfl, hb⟩; (first | rw [hs1.out] | rw [hs2.out]); replace B := B.trans (hb.mono B.size); replace n0 := bat hb n0; replace n1 := bat hb n1; replace m0 := bat hb m0; replace m1 := bat hb m1; clear hb)
          | (go_at_call 175; refine (leftOf_any _ _ _ _ _ _ _ a1 a2 a3 a4 cx cy).mono ?_; rintro e w9 ⟨rfl, hb⟩; rw [htt.out]; replace B := B.trans (hb.mono B.size); replace n0 := bat hb n0; replace n1 := bat hb n1; replace m0 := bat hb m0; replace m1 := bat hb m1; clear hb))
          go_roundw
          case rel => exact ⟨j + 1, by omega, by go_num, by rw [F.out], B⟩
          case measure => simp [intOf]; omega
        · have r2 : s2 ≤ 0 := by omega
          by_cases q3 : 0 < tt
          · skip
            have F : Hid (par (hqE es px py) (j + 1) = !od) := by
              show _ = _
              rw [E3.out]
              simp [q1, q2, q3]
            clear E3
            go_wp2_with (first
            | (go_at_call 174; refine (above_any _ _ _ _).mono ?_; rintro e w9 ⟨rfl, hb⟩; (first | rw [hs1.out] | rw [hs2.out]); replace B := B.trans (hb.mono B.size); replace n0 := bat hb n0; replace n1 := bat hb n1; replace m0 := bat hb m0; replace m1 := bat hb m1; clear hb)
            | (go_at_call 175; refine (leftOf_any _ _ _ _ _ _ _ a1 a2 a3 a4 cx cy).mono ?_; rintro e w9 ⟨rfl, hb⟩; rw [htt.out]; replace B := B.trans (hb.mono B.size); replace n0 := bat hb n0; replace n1 := bat hb n1; replace m0 := bat hb m0; replace m1 := bat hb m1; clear hb))
            go_roundw
            case rel => exact ⟨j + 1, by omega, by go_num, by rw [F.out], B⟩
            case measure => simp [intOf]; omega
          · skip
            have F : Hid (par (hqE es px py) (j + 1) = od) := by
              show _ = _
              rw [E3.out]
              simp [q1, q2, q3]
            clear E3
            go_wp2_with (first
            | (go_at_call 174; refine (above_any _ _ _ _).mono ?_; rintro e w9 ⟨rfl, hb⟩; (first | rw [hs1.out] | rw [hs2.out]); replace B := B.trans (hb.mono B.size); replace n0 := bat hb n0; replace n1 := bat hb n1; replace m0 := bat hb m0; replace m1 := bat hb m1; clear hb)
            | (go_at_call 175; refine (leftOf_any _ _ _ _ _ _ _ a1 a2 a3 a4 cx cy).mono ?_; rintro e w9 ⟨rfl, hb⟩; rw [htt.out]; replace B := B.trans (hb.mono B.size); replace n0 := bat hb n0; replace n1 := bat hb n1; replace m0 := bat hb m0; replace m1 := bat hb m1; clear hb))
            go_roundw
            case rel => exact ⟨j + 1, by omega, by go_num, by rw [F.out], B⟩
            case measure => simp [intOf]; omega
      · have r1 : s1 ≤ 0 := by omega
        by_cases q2 : 0 < s2
        · have r2 : ¬ s2 ≤ 0 := by omega
          by_cases q3 : tt < 0
          · skip
            have F : Hid (par (hqE es px py) (j + 1) = !od) := by
              show _ = _
              rw [E3.out]
              simp [q1, q2, q3]
            clear E3
            go_wp2_with (first
            | (go_at_call 174; refine (above_any _ _ _ _).mono ?_; rintro e w9 ⟨rfl, hb⟩; (first | rw [hs1.out] | rw [hs2.out]); replace B := B.trans (hb.mono B.size); replace n0 := bat hb n0; replace n1 := bat hb n1; replace m0 := bat hb m0; replace m1 := bat hb m1; clear hb)
            | (go_at_call 175; refine (leftOf_any _ _ _ _ _ _ _ a1 a2 a3 a4 cx cy).mono ?_; rintro e w9 ⟨rfl, hb⟩; rw [htt.out]; replace B := B.trans (hb.mono B.size); replace n0 := bat hb n0; replace n1 := bat hb n1; replace m0 := bat hb m0; replace m1 := bat hb m1; clear hb))
            go_roundw
            case rel => exact ⟨j + 1, by omega, by go_num, by rw [F.out], B⟩
            case measure => simp [intOf]; omega
          · skip
            have F : Hid (par (hqE es px py) (j + 1) = od) := by
              show _ = _
              rw [E3.out]
              simp [q1, q2, q3]
            clear E3
            go_wp2_with (first
            | (go_at_call 174; refine (above_any _ _ _ _).mono ?_; rintro e w9 ⟨rfl, hb⟩; (first | rw [hs1.out] | rw [hs2.out]); replace B := B.trans (hb.mono B.size); replace n0 := bat hb n0; replace n1 := bat hb n1; replace m0 := bat hb m0; replace m1 := bat hb m1; clear hb)
            | (go_at_call 175; refine (leftOf_any _ _ _ _ _ _ _ a1 a2 a3 a4 cx cy).mono ?_; rintro e w9 ⟨rfl, hb⟩; rw [htt.out]; replace B := B.trans (hb.mono B.size); replace n0 := bat hb n0; replace n1 := bat hb n1; replace m0 := bat hb m0; replace m1 := bat hb m1; clear hb))
            go_roundw
            case rel => exact ⟨j + 1, by omega, by go_num, by rw [F.out], B⟩
            case measure => simp [intOf]; omega
        · have r2 : s2 ≤ 0 := by omega
          have F : Hid (par (hqE es px py) (j + 1) = od) := by
            show _ = _
            rw [E3.out]
            simp [q1, q2]
          clear E3
          go_wp2_with (first
          | (go_at_call 174; refine (above_any _ _ _ _).mono ?_; rintro e w9 ⟨rfl, hb⟩; (first | rw [hs1.out] | rw [hs2.out]); replace B := B.trans (hb.mono B.size); replace n0 := bat hb n0; replace n1 := bat hb n1; replace m0 := bat hb m0; replace m1 := bat hb m1; clear hb)
          | (go_at_call 175; refine (leftOf_any _ _ _ _ _ _ _ a1 a2 a3 a4 cx cy).mono ?_; rintro e w9 ⟨rfl, hb⟩; rw [htt.out]; replace B := B.trans (hb.mono B.size); replace n0 := bat hb n0; replace n1 := bat hb n1; replace m0 := bat hb m0; replace m1 := bat hb m1; clear hb))
          go_roundw
          case rel => exact ⟨j + 1, by omega, by go_num, by rw [F.out], B⟩
          case measure => simp [intOf]; omega
    · obtain rfl : j = es.length := by omega
      go_wp2
      go_ret
      exact ⟨rfl, B⟩
open Go.RowKit

def mtE (ps qs : List (Int × Int)) (i k : Nat) : Bool := metI (ptA ps i).1 (ptA ps i).2 (ptA ps (nx ps.length i)).1 (ptA ps (nx ps.length i)).2 (ptA qs k).1 (ptA qs k).2 (ptA qs (nx qs.length k)).1 (ptA qs (nx qs.length k)).2
def mtR (ps qs : List (Int × Int)) (i : Nat) : Nat → Bool
  | 0 => false
  | k + 1 => mtR ps qs i k || mtE ps qs i k
def tch (ps qs : List (Int × Int)) : Nat → Bool
  | 0 => false
  | i + 1 => tch ps qs i || mtR ps qs i qs.length
theorem mtR_mono {ps qs : List (Int × Int)} {i : Nat} : ∀ {k m : Nat}, k ≤ m → mtR ps qs i k = true → mtR ps qs i m = true
  | k, 0, h, e => by obtain rfl : k = 0 := by omega
                     exact e
  | k, m + 1, h, e => by
    rcases Nat.lt_or_ge m k with c | c
    · obtain rfl : k = m + 1 := by omega
      exact e
    · simp only [mtR]
      rw [mtR_mono c e]
      rfl
theorem tch_mono {ps qs : List (Int × Int)} : ∀ {k m : Nat}, k ≤ m → tch ps qs k = true → tch ps qs m = true
  | k, 0, h, e => by obtain rfl : k = 0 := by omega
                     exact e
  | k, m + 1, h, e => by
    rcases Nat.lt_or_ge m k with c | c
    · obtain rfl : k = m + 1 := by omega
      exact e
    · simp only [tch]
      rw [tch_mono c e]
      rfl

set_option maxRecDepth 20000 in
set_option maxHeartbeats 1500000 in
theorem l5Touch_any (a b : Option Addr) (c d : Nat) (ps qs : List (Int × Int)) (w : World) (h : SeesP w a c ps) (k : SeesP w b d qs) (ok : okL ps = true) (oq : okL qs = true) :
    Calls Tryz.prog 94 #[.slice a ps.length c, .slice b qs.length d] w fun e w' => ∃ z : Int, e = .returned (.int .i64 z) ∧ Hid (decide (0 ≤ z) = tch ps qs ps.length ∧ -1 ≤ z ∧ z < ps.length + 1) ∧ Below w.heap.size w w' := by
  have hm := h.max
  have hf := h.fits
  unfold maxLen at hm
  have km := k.max
  have kf := k.fits
  unfold maxLen at km
  go_enter Tryz.func94, Tryz.ntmps94
  go_wp2
  go_loopw [5, 6, 7, 8, 9, 10] (fun s5 _ _ _ _ _ wr => ∃ j : Nat, j ≤ ps.length ∧ s5 = .int .i64 j ∧ Hid (tch ps qs j = false) ∧ Below w.heap.size w wr) (fun s5 _ _ _ _ _ _ => ps.length - (intOf s5).toNat)
  case atStart => exact ⟨0, Nat.zero_le _, rfl, rfl, Below.refl _ _⟩
  case round =>
    obtain ⟨j, hj, rfl, T, B⟩ := hrel
    rename World => wr
    by_cases hlt : j < ps.length
    · obtain ⟨a1, a2⟩ := okL_at ok hlt
      obtain ⟨a3, a4⟩ := okL_at ok (nx_lt hlt)
      go_wp2_with fail
      refine (l5Edge_any a c ps j _ (h.below B) hlt).mono ?_
      rintro e w1 ⟨rfl, hb⟩
      replace B := B.trans (hb.mono B.size)
      clear hb
      obtain ⟨x, hx⟩ : ∃ z, Hid ((ptA ps j).1 = z) := ⟨_, rfl⟩
      obtain ⟨y, hy⟩ : ∃ z, Hid ((ptA ps j).2 = z) := ⟨_, rfl⟩
      obtain ⟨u, hu⟩ : ∃ z, Hid ((ptA ps (nx ps.length j)).1 = z) := ⟨_, rfl⟩
      obtain ⟨v, hv⟩ : ∃ z, Hid ((ptA ps (nx ps.length j)).2 = z) := ⟨_, rfl⟩
      rw [hx.out, hy.out, hu.out, hv.out]
      rw [hx.out] at a1
      rw [hy.out] at a2
      rw [hu.out] at a3
      rw [hv.out] at a4
      have V1 := (Box2.new w1 (lo := w.heap.size) B.size (.int .i64 x) (.int .i64 y) 38).below (below1 _ (.cells #[.int .i64 u, .int .i64 v] 38))
      have V2 := Box2.new (w1.alloc (.cells #[.int .i64 x, .int .i64 y] 38)) (lo := w.heap.size) (by have := B.size; simp; omega) (.int .i64 u) (.int .i64 v) 38
      rw [World.size_alloc] at V2
      have bn := below2 w1 (.cells #[.int .i64 x, .int .i64 y] 38) (.cells #[.int .i64 u, .int .i64 v] 38)
      replace B := B.trans (bn.mono B.size)
      clear bn
      go_wp2_with fail
      generalize (w1.alloc (.cells #[.int .i64 x, .int .i64 y] 38)).alloc (.cells #[.int .i64 u, .int .i64 v] 38) = W1 at *
      generalize w1.heap.size = q1 at *
      go_loopw [8, 9, 10] (fun s8 _ _ wi => ∃ i : Nat, i ≤ qs.length ∧ s8 = .int .i64 i ∧ Hid (mtR ps qs j i = false) ∧ Below W1.heap.size W1 wi) (fun s8 _ _ _ => qs.length - (intOf s8).toNat)
      case atStart => exact ⟨0, Nat.zero_le _, rfl, rfl, Below.refl _ _⟩
      case round =>
        obtain ⟨i, hi, rfl, M, Bi⟩ := hrel
        rename World => wi
        by_cases hli : i < qs.length
        · obtain ⟨c1, c2⟩ := okL_at oq hli
          obtain ⟨c3, c4⟩ := okL_at oq (nx_lt hli)
          go_wp2_with fail
          refine (l5Edge_any b d qs i _ ((k.below B).below Bi) hli).mono ?_
          rintro e w2 ⟨rfl, hb⟩
          replace Bi := Bi.trans (hb.mono Bi.size)
          clear hb
          have E : Hid (mtE ps qs j i = metI x y u v (ptA qs i).1 (ptA qs i).2 (ptA qs (nx qs.length i)).1 (ptA qs (nx qs.length i)).2) := by
            show _ = _
            unfold mtE
            rw [hx.out, hy.out, hu.out, hv.out]
          generalize (ptA qs i).1 = x2 at *
          generalize (ptA qs i).2 = y2 at *
          generalize (ptA qs (nx qs.length i)).1 = u2 at *
          generalize (ptA qs (nx qs.length i)).2 = v2 at *
          have V3 := (Box2.new w2 (lo := w.heap.size) (Nat.le_trans B.size Bi.size) (.int .i64 x2) (.int .i64 y2) 38).below (below1 _ (.cells #[.int .i64 u2, .int .i64 v2] 38))
          have V4 := Box2.new (w2.alloc (.cells #[.int .i64 x2, .int .i64 y2] 38)) (lo := w.heap.size) (by have := Nat.le_trans B.size Bi.size; simp; omega) (.int .i64 u2) (.int .i64 v2) 38
          rw [World.size_alloc] at V4
          have bn := below2 w2 (.cells #[.int .i64 x2, .int .i64 y2] 38) (.cells #[.int .i64 u2, .int .i64 v2] 38)
          replace Bi := Bi.trans (bn.mono Bi.size)
          clear bn
          obtain ⟨g0, g1, _, _⟩ := V1.below Bi
          obtain ⟨g2, g3, _, _⟩ := V2.below Bi
          obtain ⟨g4, g5, _, _⟩ := id V3
          obtain ⟨g6, g7, _, _⟩ := id V4
          go_wp2_with fail
          generalize (w2.alloc (.cells #[.int .i64 x2, .int .i64 y2] 38)).alloc (.cells #[.int .i64 u2, .int .i64 v2] 38) = W2 at *
          refine (l3Meet_any x y u v x2 y2 u2 v2 _ a1 a2 a3 a4 c1 c2 c3 c4).mono ?_
          rintro e w3 ⟨rfl, hb⟩
          rw [← met_same]
          replace Bi := Bi.trans (hb.mono Bi.size)
          clear hb g0 g1 g2 g3 g4 g5 g6 g7 V3 V4
          cases hq : metI x y u v x2 y2 u2 v2
          · rw [hq] at E
            go_wp2
            go_roundw
            case rel => exact ⟨i + 1, by omega, by go_num, (by show _ = _; simp only [mtR]; rw [M.out, E.out]; rfl), Bi⟩
            case measure => simp [intOf]; omega
          · rw [hq] at E
            have R1 : mtR ps qs j (i + 1) = true := by simp only [mtR]; rw [E.out]; simp
            have R2 := mtR_mono (show i + 1 ≤ qs.length by omega) R1
            have R3 : tch ps qs (j + 1) = true := by simp only [tch]; rw [R2]; simp
            have R4 : Hid (decide (0 ≤ (j : Int)) = tch ps qs ps.length ∧ -1 ≤ (j : Int) ∧ (j : Int) < ps.length + 1) := ⟨by rw [tch_mono (show j + 1 ≤ ps.length by omega) R3]; simp, by omega, by omega⟩
            clear R1 R2 R3
            go_wp2
            go_ret
            exact ⟨_, rfl, R4, B.trans (Bi.mono B.size)⟩
        · obtain rfl : i = qs.length := by omega
          go_wp2
          go_roundw
          case rel => exact ⟨j + 1, by omega, by go_num, (by show _ = _; simp only [tch]; rw [T.out, M.out]; rfl), B.trans (Bi.mono B.size)⟩
          case measure => simp [intOf]; omega
    · obtain rfl : j = ps.length := by omega
      go_wp2
      go_ret
      exact ⟨-1, rfl, ⟨by rw [T.out]; rfl, by omega, by omega⟩, B⟩
open Go.RowKit

def mtS (e f : Sg) : Bool := metI e.1.1 e.1.2 e.2.1 e.2.2 f.1.1 f.1.2 f.2.1 f.2.2
def anyE (e : Sg) (fs : List Sg) : Bool := fs.any (mtS e)
def anyQ (es fs : List Sg) : Bool := es.any fun e => anyE e fs
theorem take_sg {es : List Sg} {j : Nat} (h : j < es.length) : es.take (j + 1) = es.take j ++ [sgA es j] := by
  rw [List.take_add_one, List.getElem?_eq_getElem h]
  unfold sgA
  rw [List.getElem?_eq_getElem h]
  rfl
theorem anyE_step {e : Sg} {fs : List Sg} {j : Nat} (h : j < fs.length) (k : anyE e (fs.take j) = false) : anyE e (fs.take (j + 1)) = mtS e (sgA fs j) := by
  unfold anyE at *
  rw [take_sg h, List.any_append, k]
  simp
theorem anyE_found {e : Sg} {fs : List Sg} {j : Nat} (h : j < fs.length) (k : mtS e (sgA fs j) = true) : anyE e fs = true := by
  unfold anyE
  rw [List.any_eq_true]
  refine ⟨sgA fs j, ?_, k⟩
  unfold sgA
  rw [List.getElem?_eq_getElem h]
  exact List.getElem_mem h
theorem anyQ_step {es fs : List Sg} {j : Nat} (h : j < es.length) (k : anyQ (es.take j) fs = false) : anyQ (es.take (j + 1)) fs = anyE (sgA es j) fs := by
  unfold anyQ at *
  rw [take_sg h, List.any_append, k]
  simp
theorem anyQ_found {es fs : List Sg} {j : Nat} (h : j < es.length) (k : anyE (sgA es j) fs = true) : anyQ es fs = true := by
  unfold anyQ
  rw [List.any_eq_true]
  refine ⟨sgA es j, ?_, k⟩
  unfold sgA
  rw [List.getElem?_eq_getElem h]
  exact List.getElem_mem h

set_option maxRecDepth 20000 in
set_option maxHeartbeats 2500000 in
theorem firstMeeting_any (a b : Option Addr) (c d : Nat) (es : List Sg) (rs : List (List Sg)) (w : World) (h : SeesQ w a c es) (k : SeesR w b d rs) (ok : okQ es = true) (oq : okQ rs.flatten = true) (hn : rs.length ≤ 12) (hl : ∀ i, i < rs.length → 0 < (rowQ rs i).length ∧ (rowQ rs i).length ≤ 60) :
    Calls Tryz.prog 113 #[.slice a es.length c, .slice b rs.length d] w fun e w' => ∃ z : Int, e = .returned (.int .i64 z) ∧ Hid (decide (0 ≤ z) = anyQ es rs.flatten ∧ -1 ≤ z ∧ z < es.length + 1) ∧ Below w.heap.size w w' := by
  have hm := h.max
  have hf := h.fits
  unfold maxLen at hm
  obtain ⟨fs, hfs⟩ : ∃ z, Hid (rs.flatten = z) := ⟨_, rfl⟩
  rw [hfs.out] at oq ⊢
  go_enter Tryz.func113, Tryz.ntmps113
  go_wp2_with fail
  refine (concatQ b d rs _ k hn hl).mono ?_
  rintro e w1 ⟨v, rfl, R, B0⟩
  rw [hfs.out] at R
  clear hl k hfs
  obtain ⟨a2, c2, rfl, f2, m2⟩ := R.shape
  have S := R.sees
  replace h := h.below B0
  unfold maxLen at m2
  clear R
  go_wp2
  go_loopw [14] (fun s14 wr => ∃ j : Nat, j ≤ es.length ∧ s14 = .int .i64 j ∧ Hid (anyQ (es.take j) fs = false) ∧ Below w1.heap.size w1 wr) (fun s14 _ => es.length - (intOf s14).toNat)
  case atStart => exact ⟨0, Nat.zero_le _, rfl, rfl, Below.refl _ _⟩
  case round =>
    obtain ⟨j, hj, rfl, T, B⟩ := hrel
    rename World => wr
    by_cases hlt : j < es.length
    · obtain ⟨⟨a1, a2⟩, ⟨a3, a4⟩⟩ := okQ_at ok hlt
      obtain ⟨b0, off, rfl, hc⟩ := (h.below B).cells (by intro e; simp [e] at hlt)
      obtain ⟨g1, g2, g3, g4⟩ := hc j hlt
      clear hc
      have RF : Hid (anyE (sgA es j) fs = true → decide (0 ≤ (j : Int)) = anyQ es fs ∧ -1 ≤ (j : Int) ∧ (j : Int) < es.length + 1) := fun q => ⟨by rw [anyQ_found hlt q]; simp, by omega, by omega⟩
      have RN : Hid (anyE (sgA es j) fs = false → anyQ (es.take (j + 1)) fs = false) := fun q => by rw [anyQ_step hlt T.out]; exact q
      clear T
      generalize sgA es j = e0 at *
      obtain ⟨⟨x, y⟩, ⟨u, v⟩⟩ := e0
      dsimp only at a1 a2 a3 a4 g1 g2 g3 g4
      have K0 := Box4.new wr (lo := w.heap.size) (Nat.le_trans B0.size B.size) (.int .i64 x) (.int .i64 y) (.int .i64 u) (.int .i64 v) 59
      have bn := below1 wr (.cells #[.int .i64 x, .int .i64 y, .int .i64 u, .int .i64 v] 59)
      replace B := B.trans (bn.mono B.size)
      clear bn
      go_wp2
      clear g1 g2 g3 g4
      generalize wr.alloc (.cells #[.int .i64 x, .int .i64 y, .int .i64 u, .int .i64 v] 59) = W0 at *
      generalize wr.heap.size = qe at *
      go_loopw [21] (fun s21 wi => ∃ i : Nat, i ≤ fs.length ∧ s21 = .int .i64 i ∧ Hid (anyE ((x, y), (u, v)) (fs.take i) = false) ∧ Below W0.heap.size W0 wi) (fun s21 _ => fs.length - (intOf s21).toNat)
      case atStart => exact ⟨0, Nat.zero_le _, rfl, rfl, Below.refl _ _⟩
      case round =>
        obtain ⟨i, hi, rfl, M, Bi⟩ := hrel
        rename World => wi
        by_cases hli : i < fs.length
        · obtain ⟨⟨c1, c2⟩, ⟨c3, c4⟩⟩ := okQ_at oq hli
          obtain ⟨b2, off2, rfl, hc2⟩ := ((S.below B).below Bi).cells (by intro e; simp [e] at hli)
          obtain ⟨g1, g2, g3, g4⟩ := hc2 i hli
          clear hc2
          have MF : Hid (mtS ((x, y), (u, v)) (sgA fs i) = true → decide (0 ≤ (j : Int)) = anyQ es fs ∧ -1 ≤ (j : Int) ∧ (j : Int) < es.length + 1) := fun q => RF.out (anyE_found hli q)
          have MN : Hid (mtS ((x, y), (u, v)) (sgA fs i) = false → anyE ((x, y), (u, v)) (fs.take (i + 1)) = false) := fun q => by rw [anyE_step hli M.out]; exact q
          clear M
          generalize sgA fs i = f0 at *
          obtain ⟨⟨x2, y2⟩, ⟨u2, v2⟩⟩ := f0
          dsimp only at c1 c2 c3 c4 g1 g2 g3 g4
          have E : Hid (mtS ((x, y), (u, v)) ((x2, y2), (u2, v2)) = metI x y u v x2 y2 u2 v2) := (rfl : mtS _ _ = _)
          rw [E.out] at MF MN
          have K1 := Box4.new wi (lo := w.heap.size) (Nat.le_trans B0.size (Nat.le_trans B.size Bi.size)) (.int .i64 x2) (.int .i64 y2) (.int .i64 u2) (.int .i64 v2) 59
          have bn := below1 wi (.cells #[.int .i64 x2, .int .i64 y2, .int .i64 u2, .int .i64 v2] 59)
          replace Bi := Bi.trans (bn.mono Bi.size)
          clear bn E
          obtain ⟨n0, n1, n2, n3, _, _⟩ := K0.below Bi
          obtain ⟨m0, m1, m2', m3, _, _⟩ := id K1
          go_wp2_with fail
          refine (meet_any x y u v x2 y2 u2 v2 _ a1 a2 a3 a4 c1 c2 c3 c4).mono ?_
          rintro e w3 ⟨rfl, hb⟩
          replace Bi := Bi.trans (hb.mono Bi.size)
          clear hb n0 n1 n2 n3 m0 m1 m2' m3 K1 g1 g2 g3 g4
          cases o1 : metI x y u v x2 y2 u2 v2
          · have R := MN.out o1
            clear MN MF o1
            go_wp2
            go_roundw
            case rel => exact ⟨i + 1, by omega, by go_num, R, Bi⟩
            case measure => simp [intOf]; omega
          · have R4 : Hid (decide (0 ≤ (j : Int)) = anyQ es fs ∧ -1 ≤ (j : Int) ∧ (j : Int) < es.length + 1) := MF.out o1
            clear MN MF o1
            go_wp2
            go_ret
            exact ⟨_, rfl, R4, B0.trans ((B.trans (Bi.mono B.size)).mono B0.size)⟩
        · obtain rfl : i = fs.length := by omega
          have M2 := M.out
          rw [List.take_length] at M2
          have R := RN.out M2
          clear RN RF M M2
          go_wp2
          go_roundw
          case rel => exact ⟨j + 1, by omega, by go_num, R, B.trans (Bi.mono B.size)⟩
          case measure => simp [intOf]; omega
    · obtain rfl : j = es.length := by omega
      have T2 : Hid (anyQ es fs = false) := by have := T.out; rwa [List.take_length] at this
      clear T
      go_wp2
      go_ret
      exact ⟨-1, rfl, ⟨by rw [T2.out]; rfl, by omega, by omega⟩, B0.trans (B.mono B0.size)⟩
open Go.RowKit

set_option maxRecDepth 20000 in
set_option maxHeartbeats 2500000 in
theorem firstMeetingR (a b : Option Addr) (c d : Nat) (es : List Sg) (rs : List (List Sg)) (w : World) (h : SeesQ w a c es) (k : SeesR w b d rs) (ok : okQ es = true) (oq : okQ rs.flatten = true) (hn : rs.length ≤ 12) (hl : ∀ i, i < rs.length → 0 < (rowQ rs i).length ∧ (rowQ rs i).length ≤ 1000) :
    Calls Tryz.prog 113 #[.slice a es.length c, .slice b rs.length d] w fun e w' => ∃ z : Int, e = .returned (.int .i64 z) ∧ Hid (decide (0 ≤ z) = anyQ es rs.flatten ∧ -1 ≤ z ∧ z < es.length + 1) ∧ Below w.heap.size w w' := by
  have hm := h.max
  have hf := h.fits
  unfold maxLen at hm
  obtain ⟨fs, hfs⟩ : ∃ z, Hid (rs.flatten = z) := ⟨_, rfl⟩
  rw [hfs.out] at oq ⊢
  go_enter Tryz.func113, Tryz.ntmps113
  go_wp2_with fail
  refine (concatR b d rs _ k hn hl).mono ?_
  rintro e w1 ⟨v, rfl, R, B0⟩
  rw [hfs.out] at R
  clear hl k hfs
  obtain ⟨a2, c2, rfl, f2, m2⟩ := R.shape
  have S := R.sees
  replace h := h.below B0
  unfold maxLen at m2
  clear R
  go_wp2
  go_loopw [14] (fun s14 wr => ∃ j : Nat, j ≤ es.length ∧ s14 = .int .i64 j ∧ Hid (anyQ (es.take j) fs = false) ∧ Below w1.heap.size w1 wr) (fun s14 _ => es.length - (intOf s14).toNat)
  case atStart => exact ⟨0, Nat.zero_le _, rfl, rfl, Below.refl _ _⟩
  case round =>
    obtain ⟨j, hj, rfl, T, B⟩ := hrel
    rename World => wr
    by_cases hlt : j < es.length
    · obtain ⟨⟨a1, a2⟩, ⟨a3, a4⟩⟩ := okQ_at ok hlt
      obtain ⟨b0, off, rfl, hc⟩ := (h.below B).cells (by intro e; simp [e] at hlt)
      obtain ⟨g1, g2, g3, g4⟩ := hc j hlt
      clear hc
      have RF : Hid (anyE (sgA es j) fs = true → decide (0 ≤ (j : Int)) = anyQ es fs ∧ -1 ≤ (j : Int) ∧ (j : Int) < es.length + 1) := fun q => ⟨by rw [anyQ_found hlt q]; simp, by omega, by omega⟩
      have RN : Hid (anyE (sgA es j) fs = false → anyQ (es.take (j + 1)) fs = false) := fun q => by rw [anyQ_step hlt T.out]; exact q
      clear T
      generalize sgA es j = e0 at *
      obtain ⟨⟨x, y⟩, ⟨u, v⟩⟩ := e0
      dsimp only at a1 a2 a3 a4 g1 g2 g3 g4
      have K0 := Box4.new wr (lo := w.heap.size) (Nat.le_trans B0.size B.size) (.int .i64 x) (.int .i64 y) (.int .i64 u) (.int .i64 v) 59
      have bn := below1 wr (.cells #[.int .i64 x, .int .i64 y, .int .i64 u, .int .i64 v] 59)
      replace B := B.trans (bn.mono B.size)
      clear bn
      go_wp2
      clear g1 g2 g3 g4
      generalize wr.alloc (.cells #[.int .i64 x, .int .i64 y, .int .i64 u, .int .i64 v] 59) = W0 at *
      generalize wr.heap.size = qe at *
      go_loopw [21] (fun s21 wi => ∃ i : Nat, i ≤ fs.length ∧ s21 = .int .i64 i ∧ Hid (anyE ((x, y), (u, v)) (fs.take i) = false) ∧ Below W0.heap.size W0 wi) (fun s21 _ => fs.length - (intOf s21).toNat)
      case atStart => exact ⟨0, Nat.zero_le _, rfl, rfl, Below.refl _ _⟩
      case round =>
        obtain ⟨i, hi, rfl, M, Bi⟩ := hrel
        rename World => wi
        by_cases hli : i < fs.length
        · obtain ⟨⟨c1, c2⟩, ⟨c3, c4⟩⟩ := okQ_at oq hli
          obtain ⟨b2, off2, rfl, hc2⟩ := ((S.below B).below Bi).cells (by intro e; simp [e] at hli)
          obtain ⟨g1, g2, g3, g4⟩ := hc2 i hli
          clear hc2
          have MF : Hid (mtS ((x, y), (u, v)) (sgA fs i) = true → decide (0 ≤ (j : Int)) = anyQ es fs ∧ -1 ≤ (j : Int) ∧ (j : Int) < es.length + 1) := fun q => RF.out (anyE_found hli q)
          have MN : Hid (mtS ((x, y), (u, v)) (sgA fs i) = false → anyE ((x, y), (u, v)) (fs.take (i + 1)) = false) := fun q => by rw [anyE_step hli M.out]; exact q
          clear M
          generalize sgA fs i = f0 at *
          obtain ⟨⟨x2, y2⟩, ⟨u2, v2⟩⟩ := f0
          dsimp only at c1 c2 c3 c4 g1 g2 g3 g4
          have E : Hid (mtS ((x, y), (u, v)) ((x2, y2), (u2, v2)) = metI x y u v x2 y2 u2 v2) := (rfl : mtS _ _ = _)
          rw [E.out] at MF MN
          have K1 := Box4.new wi (lo := w.heap.size) (Nat.le_trans B0.size (Nat.le_trans B.size Bi.size)) (.int .i64 x2) (.int .i64 y2) (.int .i64 u2) (.int .i64 v2) 59
          have bn := below1 wi (.cells #[.int .i64 x2, .int .i64 y2, .int .i64 u2, .int .i64 v2] 59)
          replace Bi := Bi.trans (bn.mono Bi.size)
          clear bn E
          obtain ⟨n0, n1, n2, n3, _, _⟩ := K0.below Bi
          obtain ⟨m0, m1, m2', m3, _, _⟩ := id K1
          go_wp2_with fail
          refine (meet_any x y u v x2 y2 u2 v2 _ a1 a2 a3 a4 c1 c2 c3 c4).mono ?_
          rintro e w3 ⟨rfl, hb⟩
          replace Bi := Bi.trans (hb.mono Bi.size)
          clear hb n0 n1 n2 n3 m0 m1 m2' m3 K1 g1 g2 g3 g4
          cases o1 : metI x y u v x2 y2 u2 v2
          · have R := MN.out o1
            clear MN MF o1
            go_wp2
            go_roundw
            case rel => exact ⟨i + 1, by omega, by go_num, R, Bi⟩
            case measure => simp [intOf]; omega
          · have R4 : Hid (decide (0 ≤ (j : Int)) = anyQ es fs ∧ -1 ≤ (j : Int) ∧ (j : Int) < es.length + 1) := MF.out o1
            clear MN MF o1
            go_wp2
            go_ret
            exact ⟨_, rfl, R4, B0.trans ((B.trans (Bi.mono B.size)).mono B0.size)⟩
        · obtain rfl : i = fs.length := by omega
          have M2 := M.out
          rw [List.take_length] at M2
          have R := RN.out M2
          clear RN RF M M2
          go_wp2
          go_roundw
          case rel => exact ⟨j + 1, by omega, by go_num, R, B.trans (Bi.mono B.size)⟩
          case measure => simp [intOf]; omega
    · obtain rfl : j = es.length := by omega
      have T2 : Hid (anyQ es fs = false) := by have := T.out; rwa [List.take_length] at this
      clear T
      go_wp2
      go_ret
      exact ⟨-1, rfl, ⟨by rw [T2.out]; rfl, by omega, by omega⟩, B0.trans (B.mono B0.size)⟩
open Go.RowKit

def onE (ps : List (Int × Int)) (px py : Int) (i : Nat) : Bool := onB (ptA ps i).1 (ptA ps i).2 (ptA ps (nx ps.length i)).1 (ptA ps (nx ps.length i)).2 px py
def onR (ps : List (Int × Int)) (px py : Int) : Nat → Bool
  | 0 => false
  | i + 1 => onR ps px py i || onE ps px py i
def hsE (ps : List (Int × Int)) (px py : Int) (i : Nat) : Bool := hitS (ptA ps i).1 (ptA ps i).2 (ptA ps (nx ps.length i)).1 (ptA ps (nx ps.length i)).2 px py
def inV (ps : List (Int × Int)) (px py : Int) : Int := if onR ps px py ps.length then 1 else if par (hsE ps px py) ps.length then 2 else 0
theorem onR_mono {ps : List (Int × Int)} {px py : Int} : ∀ {k m : Nat}, k ≤ m → onR ps px py k = true → onR ps px py m = true
  | k, 0, h, e => by obtain rfl : k = 0 := by omega
                     exact e
  | k, m + 1, h, e => by
    rcases Nat.lt_or_ge m k with c | c
    · obtain rfl : k = m + 1 := by omega
      exact e
    · simp only [onR]
      rw [onR_mono c e]
      rfl
theorem hitS_val {ax ay bx bz px py : Int} {b1 b2 b3 b4 b5 b6 : Bool} (h1 : decide (py < ay) = b1) (h2 : decide (py < bz) = b2) (h3 : decide (ay < bz) = b3) (h4 : decide (0 < ar ax ay bx bz px py) = b4) (h5 : decide (bz < ay) = b5) (h6 : decide (ar ax ay bx bz px py < 0) = b6) : hitS ax ay bx bz px py = ((b1 != b2) && ((b3 && b4) || (b5 && b6))) := by unfold hitS; rw [h1, h2, h3, h4, h5, h6]

set_option maxRecDepth 20000 in
set_option maxHeartbeats 4000000 in
theorem l5In_any (a : Option Addr) (c : Nat) (ps : List (Int × Int)) (px py : Int) (w : World) (h : SeesP w a c ps) (ok : okL ps = true) (cx : Crd px) (cy : Crd py) :
    Calls Tryz.prog 95 #[.slice a ps.length c, .agg #[.int .i64 px, .int .i64 py]] w fun e w' => e = .returned (.int .i64 (inV ps px py)) ∧ Below w.heap.size w w' := by
  have hm := h.max
  have hf := h.fits
  unfold maxLen at hm
  have V0 := Box2.new w (lo := w.heap.size) (Nat.le_refl _) (.int .i64 px) (.int .i64 py) 38
  have B0 := below1 w (.cells #[.int .i64 px, .int .i64 py] 38)
  go_enter Tryz.func95, Tryz.ntmps95
  go_wp2
  generalize w.alloc (.cells #[.int .i64 px, .int .i64 py] 38) = W at *
  go_loopw [5, 6, 7, 8, 9] (fun s5 s6 _ _ _ wr => ∃ j : Nat, j ≤ ps.length ∧ s6 = .int .i64 j ∧ s5 = .bool (par (hsE ps px py) j) ∧ Hid (onR ps px py j = false) ∧ Below W.heap.size W wr) (fun _ s6 _ _ _ _ => ps.length - (intOf s6).toNat)
  case atStart => exact ⟨0, Nat.zero_le _, rfl, rfl, rfl, Below.refl _ _⟩
  case round =>
    obtain ⟨j, hj, rfl, rfl, T, B⟩ := hrel
    rename World => wr
    by_cases hlt : j < ps.length
    · obtain ⟨a1, a2⟩ := okL_at ok hlt
      obtain ⟨a3, a4⟩ := okL_at ok (nx_lt hlt)
      obtain ⟨od, Hod⟩ : ∃ b, Hid (par (hsE ps px py) j = b) := ⟨_, rfl⟩
      rw [Hod.out]
      go_wp2_with fail
      refine (l5Edge_any a c ps j _ ((h.below B0).below B) hlt).mono ?_
      rintro e w1 ⟨rfl, hb⟩
      replace B := B.trans (hb.mono B.size)
      clear hb
      have E1 : Hid (onE ps px py j = onB (ptA ps j).1 (ptA ps j).2 (ptA ps (nx ps.length j)).1 (ptA ps (nx ps.length j)).2 px py) := (rfl : onE ps px py j = _)
      have E2 : Hid (hsE ps px py j = hitS (ptA ps j).1 (ptA ps j).2 (ptA ps (nx ps.length j)).1 (ptA ps (nx ps.length j)).2 px py) := (rfl : hsE ps px py j = _)
      generalize (ptA ps j).1 = x at *
      generalize (ptA ps j).2 = y at *
      generalize (ptA ps (nx ps.length j)).1 = u at *
      generalize (ptA ps (nx ps.length j)).2 = v at *
      have V1 := (Box2.new w1 (lo := w.heap.size) (Nat.le_trans B0.size B.size) (.int .i64 x) (.int .i64 y) 38).below (below1 _ (.cells #[.int .i64 u, .int .i64 v] 38))
      have V2 := Box2.new (w1.alloc (.cells #[.int .i64 x, .int .i64 y] 38)) (lo := w.heap.size) (by have := Nat.le_trans B0.size B.size; simp; omega) (.int .i64 u) (.int .i64 v) 38
      rw [World.size_alloc] at V2
      have bn := below2 w1 (.cells #[.int .i64 x, .int .i64 y] 38) (.cells #[.int .i64 u, .int .i64 v] 38)
      replace B := B.trans (bn.mono B.size)
      clear bn
      obtain ⟨g0, g1, _, _⟩ := id V1
      obtain ⟨g2, g3, _, _⟩ := id V2
      obtain ⟨g4, g5, _, _⟩ := V0.below B
      go_wp2_with fail
      clear g0 g1 g2 g3 g4 g5
      generalize (w1.alloc (.cells #[.int .i64 x, .int .i64 y] 38)).alloc (.cells #[.int .i64 u, .int .i64 v] 38) = W1 at *
      generalize w1.heap.size = q1 at *
      refine (l3On_any x y u v px py _ a1 a2 a3 a4 cx cy).mono ?_
      rintro e w2 ⟨rfl, hb⟩
      replace B := B.trans (hb.mono B.size)
      replace V1 := V1.below hb
      replace V2 := V2.below hb
      clear hb
      cases ho : onB x y u v px py
      · rw [ho] at E1
        have T2 : Hid (onR ps px py (j + 1) = false) := by show _ = _; simp only [onR]; rw [T.out, E1.out]; rfl
        clear T E1
        obtain ⟨g0, g1, _, _⟩ := id V1
        obtain ⟨g2, g3, _, _⟩ := id V2
        obtain ⟨g4, g5, _, _⟩ := V0.below B
        cases h1 : decide (py < y) <;> cases h2 : decide (py < v)
        · have P : Hid (par (hsE ps px py) (j + 1) = od) := by show _ = _; simp only [par]; rw [Hod.out, E2.out, hitS_val h1 h2 rfl rfl rfl rfl]; simp
          go_wp2
          go_roundw
          case rel => exact ⟨j + 1, by omega, by go_num, by rw [P.out], T2, B⟩
          case measure => simp [intOf]; omega
        · go_wp2_with fail
          clear g0 g1 g2 g3 g4 g5
          refine (l3Area_any x y u v px py _ a1 a2 a3 a4 cx cy).mono ?_
          rintro e w3 ⟨rfl, hb⟩
          replace B := B.trans (hb.mono B.size)
          replace V1 := V1.below hb
          replace V2 := V2.below hb
          clear hb
          have P0 : Hid (par (hsE ps px py) (j + 1) = (od ^^ hitS x y u v px py)) := by show _ = _; simp only [par]; rw [Hod.out, E2.out]
          cases h3 : decide (y < v) <;> cases h4 : decide (0 < ar x y u v px py) <;> cases h5 : decide (v < y) <;> cases h6 : decide (ar x y u v px py < 0)
          all_goals
            have P := P0
            rw [hitS_val h1 h2 h3 h4 h5 h6] at P
            clear P0 E2 Hod
            obtain ⟨g0, g1, _, _⟩ := id V1
            obtain ⟨g2, g3, _, _⟩ := id V2
            obtain ⟨g4, g5, _, _⟩ := V0.below B
            go_wp2
            go_roundw
            case rel => exact ⟨j + 1, by omega, by go_num, by rw [P.out]; cases od <;> rfl, T2, B⟩
            case measure => simp [intOf]; omega
        · go_wp2_with fail
          clear g0 g1 g2 g3 g4 g5
          refine (l3Area_any x y u v px py _ a1 a2 a3 a4 cx cy).mono ?_
          rintro e w3 ⟨rfl, hb⟩
          replace B := B.trans (hb.mono B.size)
          replace V1 := V1.below hb
          replace V2 := V2.below hb
          clear hb
          have P0 : Hid (par (hsE ps px py) (j + 1) = (od ^^ hitS x y u v px py)) := by show _ = _; simp only [par]; rw [Hod.out, E2.out]
          cases h3 : decide (y < v) <;> cases h4 : decide (0 < ar x y u v px py) <;> cases h5 : decide (v < y) <;> cases h6 : decide (ar x y u v px py < 0)
          all_goals
            have P := P0
            rw [hitS_val h1 h2 h3 h4 h5 h6] at P
            clear P0 E2 Hod
            obtain ⟨g0, g1, _, _⟩ := id V1
            obtain ⟨g2, g3, _, _⟩ := id V2
            obtain ⟨g4, g5, _, _⟩ := V0.below B
            go_wp2
            go_roundw
            case rel => exact ⟨j + 1, by omega, by go_num, by rw [P.out]; cases od <;> rfl, T2, B⟩
            case measure => simp [intOf]; omega
        · have P : Hid (par (hsE ps px py) (j + 1) = od) := by show _ = _; simp only [par]; rw [Hod.out, E2.out, hitS_val h1 h2 rfl rfl rfl rfl]; simp
          go_wp2
          go_roundw
          case rel => exact ⟨j + 1, by omega, by go_num, by rw [P.out], T2, B⟩
          case measure => simp [intOf]; omega
      · rw [ho] at E1
        have R : onR ps px py (j + 1) = true := by simp only [onR]; rw [E1.out]; simp
        have Z : Hid (inV ps px py = 1) := by show _ = _; unfold inV; rw [onR_mono (show j + 1 ≤ ps.length by omega) R]; rfl
        clear R
        go_wp2
        go_ret
        exact ⟨by rw [Z.out] <;> rfl, B0.trans (B.mono B0.size)⟩
    · obtain rfl : j = ps.length := by omega
      cases hp : par (hsE ps px py) ps.length
      · have Z : Hid (inV ps px py = 0) := by show _ = _; unfold inV; rw [T.out, hp]; rfl
        go_wp2
        go_ret
        exact ⟨by rw [Z.out] <;> rfl, B0.trans (B.mono B0.size)⟩
      · have Z : Hid (inV ps px py = 2) := by show _ = _; unfold inV; rw [T.out, hp]; rfl
        go_wp2
        go_ret
        exact ⟨by rw [Z.out] <;> rfl, B0.trans (B.mono B0.size)⟩
open Go.RowKit

theorem startQ (a : Option Addr) (c : Nat) (es : List Sg) (w : World) (h : SeesQ w a c es) (h0 : 0 < es.length) :
    Calls Tryz.prog 131 #[.slice a es.length c] w fun e w' => e = .returned (.agg #[.int .i64 (sgA es 0).1.1, .int .i64 (sgA es 0).1.2]) ∧ Below w.heap.size w w' := by
  have bn := below1 w (.cells #[.int .i64 0, .int .i64 0] 38)
  obtain ⟨b, off, rfl, hc⟩ := (h.below bn).cells (by intro e; simp [e] at h0)
  obtain ⟨g1, g2, _, _⟩ := hc 0 h0
  have hlt : b < w.heap.size := by
    obtain ⟨b', off', e', hc'⟩ := h.cells (by intro e; simp [e] at h0)
    simp only [Option.some.injEq, Addr.mk.injEq] at e'
    obtain ⟨rfl, rfl, _⟩ := e'
    exact World.block_lt_of_cell? _ _ (hc' 0 h0).1
  simp only [Nat.zero_mul, Nat.add_zero] at g1 g2
  clear hc
  generalize (sgA es 0).1.1 = x at *
  generalize (sgA es 0).1.2 = y at *
  have hne : b ≠ w.heap.size := Nat.ne_of_lt hlt
  go_enter Tryz.func131, Tryz.ntmps131
  go_wp2
  go_returns
  exact ⟨rfl, below1 _ _⟩

def arQ (es : List Sg) (p : Int × Int) : Bool := par (hqE es p.1 p.2) es.length
def nestI (ps q : List (Int × Int)) : Bool := arQ (edL q) (ptA ps 0) || arQ (edL ps) (ptA q 0)
def holeI (ps : List (Int × Int)) : List (List (Int × Int)) → Bool
  | [] => true
  | q :: t => !anyQ (edL ps) (edL q) && (arQ (edL q) (ptA ps 0) && (!anyQ (edL ps) (t.map edL).flatten && !t.any (nestI ps)))
theorem okQ_edL {ps : List (Int × Int)} (h : okL ps = true) : okQ (edL ps) = true := by
  unfold okQ edL
  rw [List.all_eq_true]
  intro e he
  simp only [List.mem_map, List.mem_range] at he
  obtain ⟨i, hi, rfl⟩ := he
  have h1 := okL_at h hi
  have h2 := okL_at h (nx_lt hi)
  unfold Crd at h1 h2
  simp only [ptOk, Bool.and_eq_true, inB_true]
  exact ⟨h1, h2⟩
theorem okQ_flat {t : List (List (Int × Int))} (h : ∀ q ∈ t, okL q = true) : okQ (t.map edL).flatten = true := by
  unfold okQ
  rw [List.all_flatten, List.all_map, List.all_eq_true]
  intro q hq
  exact okQ_edL (h q hq)
theorem edL_start {ps : List (Int × Int)} (h : 0 < ps.length) : (sgA (edL ps) 0).1 = ptA ps 0 := by rw [edL_at h]
theorem rowQ_map {t : List (List (Int × Int))} {i : Nat} (h : i < t.length) : rowQ (t.map edL) i = edL (t[i]) := by
  unfold rowQ
  rw [List.getElem?_map, List.getElem?_eq_getElem h]
  rfl

theorem SeesR.tail {w : World} {b off c : Nat} {e : List Sg} {t : List (List Sg)} (h : SeesR w (some ⟨b, off, none⟩) c (e :: t)) : SeesR w (if c = 1 then some ⟨b, off, none⟩ else some ⟨b, off + 1, none⟩) (c - 1) t := by
  have hf := h.fits
  have hm := h.max
  simp only [List.length_cons] at hf
  refine ⟨by omega, by omega, fun hn => ?_⟩
  have ht : 0 < t.length := List.length_pos_iff.mpr hn
  rw [if_neg (by omega)]
  obtain ⟨b', off', he, hc⟩ := h.cells (by simp)
  simp only [Option.some.injEq, Addr.mk.injEq] at he
  obtain ⟨rfl, rfl, _⟩ := he
  refine ⟨b, off + 1, rfl, fun i hi => ?_⟩
  obtain ⟨a', c', g, S⟩ := hc (i + 1) (by simp; omega)
  rw [show rowQ (e :: t) (i + 1) = rowQ t i by simp [rowQ]] at g S
  rw [show off + (i + 1) = off + 1 + i by omega] at g
  exact ⟨a', c', g, S⟩
theorem SeesR.one {w : World} {a : Option Addr} {c : Nat} {es : List Sg} (h : SeesQ w a c es) (t : TypeId) : SeesR (w.alloc (.cells #[.slice a es.length c] t)) (some ⟨w.heap.size, 0, none⟩) 1 [es] :=
  ⟨by simp, by simp [maxLen], fun _ => ⟨w.heap.size, 0, rfl, fun i hi => by
    obtain rfl : i = 0 := by simp at hi; omega
    exact ⟨a, c, cell_new w #[.slice a es.length c] t 0 rfl, h.below (below1 _ _)⟩⟩⟩

set_option maxRecDepth 20000 in
set_option maxHeartbeats 4000000 in
theorem holeFault_any (a1 : Option Addr) (c1 : Nat) (ps : List (Int × Int)) (a2 : Option Addr) (c2 : Nat) (qs : List (List (Int × Int))) (w : World) (h : SeesQ w a1 c1 (edL ps)) (k : SeesR w a2 c2 (qs.map edL)) (okp : okL ps = true) (np : 0 < ps.length) (okq : ∀ q ∈ qs, okL q = true ∧ 0 < q.length ∧ q.length ≤ 60) (hn : qs.length ≤ 12) :
    Calls Tryz.prog 109 #[.slice a1 ps.length c1, .slice a2 qs.length c2] w fun e w' => ∃ z x : Int, e = .returned (.tuple #[.int .i64 z, .int .i64 x]) ∧ Hid (decide (z = 0) = holeI ps qs) ∧ Below w.heap.size w w' := by
  cases qs with
  | nil =>
    go_enter Tryz.func109, Tryz.ntmps109
    go_wp2
    exact bodyPost_ret (v := .tuple #[.int .i64 0, .int .i64 0]) (by simp [results, Tryz.results109, go_sem]) rfl ⟨_, _, rfl, rfl, Below.refl _ _⟩
  | cons q t =>
  have km := k.max
  have kf := k.fits
  unfold maxLen at km
  obtain ⟨b, off, rfl, hc⟩ := k.cells (by simp)
  obtain ⟨aq, cq, g0, Q⟩ := hc 0 (by simp)
  rw [Nat.add_zero] at g0
  rw [show rowQ (List.map edL (q :: t)) 0 = edL q from rfl, edL_len] at g0
  replace Q : SeesQ w aq cq (edL q) := Q
  obtain ⟨oq, nq, sq⟩ := okq q (by simp)
  have ot : ∀ r ∈ t, okL r = true ∧ 0 < r.length ∧ r.length ≤ 60 := fun r hr => okq r (by simp [hr])
  have hl : (q :: t).length = t.length + 1 := rfl
  have kf2 : t.length + 1 ≤ c2 := by simpa using kf
  rw [hl]
  rw [hl] at hn
  have hl1 : (1 : Int) ≤ (t.length : Int) + 1 := by omega
  go_enter Tryz.func109, Tryz.ntmps109
  go_wp2_with fail
  have N := (Below.refl w.heap.size w).drew
  refine wp_region_held_drew (S := Below w.heap.size w) (by kernel_rfl) N (fun hHeld => ?_)
  clear hHeld
  refine takeA (i := 0) (h := ?_)
  refine takeA (i := 1) (h := ?_)
  refine takeA (i := 2) (hy := by intro wq hSw; have z0 := bat hSw g0; go_simp <;> with_reducible rfl) (h := ?_)
  refine takeA (i := 3) (h := ?_)
  refine takeA (i := 4) (h := ?_)
  refine takeA (i := 5) (h := ?_)
  refine takeA (i := 6) (h := ?_)
  refine wpAnyH_done (by kernel_rfl) ?_ _
  have HH : Hid (holeI ps (q :: t) = (!anyQ (edL ps) (edL q) && (arQ (edL q) (ptA ps 0) && (!anyQ (edL ps) (t.map edL).flatten && !t.any (nestI ps))))) := (rfl : holeI ps (q :: t) = _)
  have T := k.tail
  replace T : SeesR w _ (c2 - 1) (t.map edL) := T
  clear hc k
  replace h := h.below N
  replace Q := Q.below N
  replace T := T.below N
  generalize (if c2 = 1 then some (⟨b, off, none⟩ : Addr) else some ⟨b, off + 1, none⟩) = aT at *
  have B : Below w.heap.size w w.drew := N
  clear N g0
  generalize w.drew = w0 at *
  have OP := okQ_edL okp
  have OQ := okQ_edL oq
  have OT := okQ_flat (fun r hr => (ot r hr).1)
  have TL : ∀ i, i < (t.map edL).length → 0 < (rowQ (t.map edL) i).length ∧ (rowQ (t.map edL) i).length ≤ 60 := by
    intro i hi
    rw [List.length_map] at hi
    rw [rowQ_map hi, edL_len]
    exact (ot _ (List.getElem_mem hi)).2
  have TL1 : ∀ i, i < [edL q].length → 0 < (rowQ [edL q] i).length ∧ (rowQ [edL q] i).length ≤ 60 := by
    intro i hi
    obtain rfl : i = 0 := by simp at hi; omega
    rw [show rowQ [edL q] 0 = edL q from rfl, edL_len]
    exact ⟨nq, sq⟩
  have S1 := SeesR.one Q 54
  have bn := below1 w0 (.cells #[.slice aq (edL q).length cq] 54)
  have M1 := firstMeeting_any a1 _ c1 _ (edL ps) [edL q] _ (h.below bn) S1 OP (by simpa using OQ) (by simp) TL1
  rw [edL_len] at M1 bn
  rw [edL_len] at M1
  simp only [List.length_cons, List.length_nil, List.flatten_cons, List.flatten_nil, List.append_nil] at M1
  replace h := h.below bn
  replace Q := Q.below bn
  replace T := T.below bn
  replace B := B.trans (bn.mono B.size)
  clear bn S1 TL1
  go_wp2_with fail
  generalize w0.alloc (.cells #[.slice aq q.length cq] 54) = W1 at *
  refine M1.mono ?_
  rintro e w1 ⟨z1, rfl, HZ, hb⟩
  replace h := h.below hb
  replace Q := Q.below hb
  replace T := T.below hb
  replace B := B.trans (hb.mono B.size)
  clear hb M1
  by_cases hz : 0 ≤ z1
  · have F : Hid (holeI ps (q :: t) = false) := by
      show _ = _
      have := HZ.out.1
      rw [decide_eq_true hz] at this
      rw [HH.out, ← this]
      rfl
    clear HZ HH
    go_wp2
    exact bodyPost_ret (v := .tuple #[.int .i64 _, .int .i64 _]) (by simp [results, Tryz.results109, go_sem]; exact ⟨rfl, rfl⟩) rfl ⟨_, _, rfl, (by show _ = _; rw [F.out]; rfl), B⟩
  replace HH : Hid (holeI ps (q :: t) = (arQ (edL q) (ptA ps 0) && (!anyQ (edL ps) (t.map edL).flatten && !t.any (nestI ps)))) := by
    show _ = _
    have := HZ.out.1
    rw [decide_eq_false hz] at this
    rw [HH.out, ← this]
    rfl
  clear HZ
  have ST := startQ a1 c1 (edL ps) _ h (by rw [edL_len]; exact np)
  rw [edL_len, edL_start np] at ST
  obtain ⟨cx, cy⟩ := okL_at okp np
  obtain ⟨p0, hp0⟩ : ∃ z, Hid (ptA ps 0 = z) := ⟨_, rfl⟩
  rw [hp0.out] at ST cx cy HH
  have HN : Hid (∀ r, nestI ps r = (arQ (edL r) p0 || arQ (edL ps) (ptA r 0))) := by
    show ∀ r, _ = _
    intro r
    unfold nestI
    rw [hp0.out]
  obtain ⟨px, py⟩ := p0
  dsimp only at ST cx cy
  go_wp2_with fail
  refine ST.mono ?_
  rintro e w2 ⟨rfl, hb⟩
  replace h := h.below hb
  replace Q := Q.below hb
  replace T := T.below hb
  replace B := B.trans (hb.mono B.size)
  clear hb ST
  have AR := around_any aq cq (edL q) px py _ Q OQ cx cy
  rw [edL_len] at AR
  have EA : Hid (par (hqE (edL q) px py) q.length = arQ (edL q) (px, py)) := by
    show _ = _
    unfold arQ
    rw [edL_len]
  rw [EA.out] at AR
  go_wp2_with fail
  refine AR.mono ?_
  rintro e w3 ⟨rfl, hb⟩
  replace h := h.below hb
  replace T := T.below hb
  replace B := B.trans (hb.mono B.size)
  clear hb AR EA Q
  cases ha : arQ (edL q) (px, py)
  · have F : Hid (holeI ps (q :: t) = false) := by
      show _ = _
      rw [HH.out, ha]
      rfl
    clear HH HN
    go_wp2
    exact bodyPost_ret (v := .tuple #[.int .i64 _, .int .i64 _]) (by simp [results, Tryz.results109, go_sem]; exact ⟨rfl, rfl⟩) rfl ⟨_, _, rfl, (by show _ = _; rw [F.out]; rfl), B⟩
  replace HH : Hid (holeI ps (q :: t) = (!anyQ (edL ps) (t.map edL).flatten && !t.any (nestI ps))) := by
    show _ = _
    rw [HH.out, ha]
    rfl
  clear ha
  have M2 := firstMeeting_any a1 aT c1 (c2 - 1) (edL ps) (t.map edL) _ h T OP OT (by rw [List.length_map]; omega) TL
  rw [edL_len, List.length_map] at M2
  go_wp2_with fail
  refine M2.mono ?_
  rintro e w4 ⟨z2, rfl, HZ, hb⟩
  replace h := h.below hb
  replace T := T.below hb
  replace B := B.trans (hb.mono B.size)
  clear hb M2
  by_cases hz2 : 0 ≤ z2
  · have F : Hid (holeI ps (q :: t) = false) := by
      show _ = _
      have := HZ.out.1
      rw [decide_eq_true hz2] at this
      rw [HH.out, ← this]
      rfl
    clear HZ HH HN
    go_wp2
    exact bodyPost_ret (v := .tuple #[.int .i64 _, .int .i64 _]) (by simp [results, Tryz.results109, go_sem]; exact ⟨rfl, rfl⟩) rfl ⟨_, _, rfl, (by show _ = _; rw [F.out]; rfl), B⟩
  replace HH : Hid (holeI ps (q :: t) = !t.any (nestI ps)) := by
    show _ = _
    have := HZ.out.1
    rw [decide_eq_false hz2] at this
    rw [HH.out, ← this]
    rfl
  clear HZ
  go_wp2
  go_loopw [41] (fun s41 wr => ∃ j : Nat, j ≤ t.length ∧ s41 = .int .i64 j ∧ Hid ((t.take j).any (nestI ps) = false) ∧ Below w4.heap.size w4 wr) (fun s41 _ => t.length - (intOf s41).toNat)
  case atStart => exact ⟨0, Nat.zero_le _, rfl, rfl, Below.refl _ _⟩
  case round =>
    obtain ⟨j, hj, rfl, G, N⟩ := hrel
    rename World => wr
    by_cases hlt : j < t.length
    · have TJ := T.below N
      have hJ := h.below N
      obtain ⟨bT, oT, rfl, hc⟩ := TJ.cells (by intro e; simp [List.map_eq_nil_iff] at e; simp [e] at hlt)
      obtain ⟨a', c', g, S⟩ := hc j (by rw [List.length_map]; exact hlt)
      rw [rowQ_map hlt] at g S
      rw [edL_len] at g
      have hmem := List.getElem_mem hlt
      obtain ⟨o1, n1, s1⟩ := ot _ hmem
      have HT : Hid (nestI ps (t[j]) = true → holeI ps (q :: t) = false) := fun e => by
        rw [HH.out, List.any_eq_true.mpr ⟨_, hmem, e⟩]
        rfl
      have HF : Hid (nestI ps (t[j]) = false → (t.take (j + 1)).any (nestI ps) = false) := fun e => by
        rw [List.take_add_one, List.getElem?_eq_getElem hlt, List.any_append, G.out]
        simp [e]
      have HE := HN.out (t[j])
      clear G hc hmem
      generalize t[j] = r at *
      have O1 := okQ_edL o1
      have ST := startQ a1 c1 (edL ps) _ hJ (by rw [edL_len]; exact np)
      rw [edL_len, edL_start np, hp0.out] at ST
      dsimp only at ST
      go_wp2_with fail
      refine ST.mono ?_
      rintro e w5 ⟨rfl, hb⟩
      replace hJ := hJ.below hb
      replace S := S.below hb
      replace N := N.trans (hb.mono N.size)
      clear hb ST g
      have AR := around_any a' c' (edL r) px py _ S O1 cx cy
      rw [edL_len] at AR
      rw [show par (hqE (edL r) px py) r.length = arQ (edL r) (px, py) by unfold arQ; rw [edL_len]] at AR
      go_wp2_with fail
      refine AR.mono ?_
      rintro e w6 ⟨rfl, hb⟩
      replace hJ := hJ.below hb
      replace S := S.below hb
      replace N := N.trans (hb.mono N.size)
      clear hb AR
      cases h1 : arQ (edL r) (px, py)
      · have S2 := startQ a' c' (edL r) _ S (by rw [edL_len]; exact n1)
        rw [edL_len, edL_start n1] at S2
        obtain ⟨dx, dy⟩ := okL_at o1 n1
        rw [h1, Bool.false_or] at HE
        replace HE : Hid (nestI ps r = arQ (edL ps) (ptA r 0)) := HE
        clear h1
        generalize ptA r 0 = r0 at *
        obtain ⟨rx, ry⟩ := r0
        dsimp only at S2 dx dy
        go_wp2_with fail
        refine S2.mono ?_
        rintro e w7 ⟨rfl, hb⟩
        replace hJ := hJ.below hb
        replace N := N.trans (hb.mono N.size)
        clear hb S2
        have A2 := around_any a1 c1 (edL ps) rx ry _ hJ OP dx dy
        rw [edL_len] at A2
        rw [show par (hqE (edL ps) rx ry) ps.length = arQ (edL ps) (rx, ry) by unfold arQ; rw [edL_len]] at A2
        go_wp2_with fail
        refine A2.mono ?_
        rintro e w8 ⟨rfl, hb⟩
        replace N := N.trans (hb.mono N.size)
        clear hb A2
        cases h2 : arQ (edL ps) (rx, ry)
        · rw [h2] at HE
          have G' := HF.out HE.out
          clear HE HT HF h2
          go_wp2
          go_roundw
          case rel => exact ⟨j + 1, by omega, by go_num, G', N⟩
          case measure => simp [intOf]; omega
        · rw [h2] at HE
          have F : Hid (holeI ps (q :: t) = false) := HT.out HE.out
          have B' := B.trans (N.mono B.size)
          clear HE HT HF HH HN h2 B
          have B := B'
          clear B'
          go_wp2
          exact bodyPost_ret (v := .tuple #[.int .i64 _, .int .i64 _]) (by simp [results, Tryz.results109, go_sem]; exact ⟨rfl, rfl⟩) rfl ⟨_, _, rfl, (by show _ = _; rw [F.out]; rfl), B⟩
      · have F : Hid (holeI ps (q :: t) = false) := HT.out (by rw [HE, h1]; rfl)
        have B' := B.trans (N.mono B.size)
        clear HE HT HF HH HN h1 B
        have B := B'
        clear B'
        go_wp2
        exact bodyPost_ret (v := .tuple #[.int .i64 _, .int .i64 _]) (by simp [results, Tryz.results109, go_sem]; exact ⟨rfl, rfl⟩) rfl ⟨_, _, rfl, (by show _ = _; rw [F.out]; rfl), B⟩
    · obtain rfl : j = t.length := by omega
      have F : Hid (holeI ps (q :: t) = true) := by
        show _ = _
        have := G.out
        rw [List.take_length] at this
        rw [HH.out, this]
        rfl
      have B' := B.trans (N.mono B.size)
      clear G HH HN B
      have B := B'
      clear B'
      go_wp2
      exact bodyPost_ret (v := .tuple #[.int .i64 _, .int .i64 _]) (by simp [results, Tryz.results109, go_sem]; exact ⟨rfl, rfl⟩) rfl ⟨_, _, rfl, (by show _ = _; rw [F.out]; rfl), B⟩
end Go.Proofs.YtnjbedhealpgcaaGreat
