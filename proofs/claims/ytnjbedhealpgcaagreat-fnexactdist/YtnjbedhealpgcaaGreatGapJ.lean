/- impl.gap: the square of the gap of a point to a segment, not in lowest terms. -/
import Derived.Test.YtnjbedhealpgcaaGreatPtSh
import Derived.Test.YtnjbedhealpgcaaGreatFTake
import Derived.Deep.DeepCutAuto
namespace Go.Proofs.YtnjbedhealpgcaaGreat
open Go.RowKit

set_option maxRecDepth 20000 in
set_option maxHeartbeats 32000000 in
theorem gap_any (X1 Y1 X2 Y2 X3 Y3 : Int) (w : World) (c1 : Crd X1) (d1 : Crd Y1) (c2 : Crd X2) (d2 : Crd Y2) (c3 : Crd X3) (d3 : Crd Y3) :
    Calls Tryz.prog 50 #[.agg #[.int .i64 X1, .int .i64 Y1], .agg #[.int .i64 X2, .int .i64 Y2], .agg #[.int .i64 X3, .int .i64 Y3]] w fun e w' => ∃ v, e = .returned v ∧ IsFrac w.heap.size w' v (rN (X3 - X2) (Y3 - Y2) (X1 - X2) (Y1 - Y2)) (rD (X3 - X2) (Y3 - Y2) (X1 - X2) (Y1 - Y2)) ∧ Below w.heap.size w w' := by
  obtain ⟨kp', ka', kb', kR', N'⟩ := gboxes X1 Y1 X2 Y2 X3 Y3 w
  obtain ⟨ux, hux⟩ : ∃ z, Hid (X3 - X2 = z) := ⟨_, rfl⟩
  obtain ⟨uy, huy⟩ : ∃ z, Hid (Y3 - Y2 = z) := ⟨_, rfl⟩
  obtain ⟨vx, hvx⟩ : ∃ z, Hid (X1 - X2 = z) := ⟨_, rfl⟩
  obtain ⟨vy, hvy⟩ : ∃ z, Hid (Y1 - Y2 = z) := ⟨_, rfl⟩
  obtain ⟨tx, htx⟩ : ∃ z, Hid (X1 - X3 = z) := ⟨_, rfl⟩
  obtain ⟨ty, hty⟩ : ∃ z, Hid (Y1 - Y3 = z) := ⟨_, rfl⟩
  rw [hux.out, huy.out, hvx.out, hvy.out]
  go_enter Tryz.func50, Tryz.ntmps50
  go_wp2_with fail
  generalize (((w.alloc (.cells #[.int .i64 X1, .int .i64 Y1] 38)).alloc (.cells #[.int .i64 X2, .int .i64 Y2] 38)).alloc (.cells #[.int .i64 X3, .int .i64 Y3] 38)).alloc (.cells #[.bool false, .slice none 0 0, .bool false, .slice none 0 0] 32) = W1 at *
  go_cut [6, 7, 8, 9] (fun s6 s7 s8 s9 W => ∃ p q r, s6 = .pointer (some ⟨w.heap.size + 1 + 1 + 1, 0, none⟩) ∧ s7 = .pointer (some ⟨p, 0, none⟩) ∧ s8 = .pointer (some ⟨q, 0, none⟩) ∧ s9 = .pointer (some ⟨r, 0, none⟩) ∧ Box2 W1.heap.size W p (.int .i64 (X3 - X2)) (.int .i64 (Y3 - Y2)) ∧ Box2 W1.heap.size W q (.int .i64 (X1 - X2)) (.int .i64 (Y1 - Y2)) ∧ Box2 W1.heap.size W r (.int .i64 (X1 - X3)) (.int .i64 (Y1 - Y3)) ∧ Below W1.heap.size W1 W)
  case first =>
   as_aux_lemma =>
    have kp0 := kp'.c0
    have kp1 := kp'.c1
    have ka0 := ka'.c0
    have ka1 := ka'.c1
    have kb0 := kb'.c0
    have kb1 := kb'.c1
    refine wp_region_held_drew (S := Below W1.heap.size W1) (by kernel_rfl) ((Below.refl _ _).drew) (fun hHeld => ?_)
    have N : Below W1.heap.size W1 W1.drew := hHeld
    revert hHeld N
    generalize W1.drew = ww0
    intro hHeld N
    refine takeA (i := 0) (hy := by intro wq hSw; have q0 := bat hSw kp0; have q1 := bat hSw kp1; have q2 := bat hSw ka0; have q3 := bat hSw ka1; have q4 := bat hSw kb0; have q5 := bat hSw kb1; go_simp <;> with_reducible rfl) (h := ?_)
    refine takeA (i := 1) (hy := by intro wq hSw; have q0 := bat hSw kp0; have q1 := bat hSw kp1; have q2 := bat hSw ka0; have q3 := bat hSw ka1; have q4 := bat hSw kb0; have q5 := bat hSw kb1; go_simp <;> with_reducible rfl) (h := ?_)
    refine takeA (i := 3) (hy := by intro wq hSw; have q0 := bat hSw kp0; have q1 := bat hSw kp1; have q2 := bat hSw ka0; have q3 := bat hSw ka1; have q4 := bat hSw kb0; have q5 := bat hSw kb1; go_simp <;> with_reducible rfl) (h := ?_)
    refine takeA (i := 4) (hy := by intro wq hSw; have q0 := bat hSw kp0; have q1 := bat hSw kp1; have q2 := bat hSw ka0; have q3 := bat hSw ka1; have q4 := bat hSw kb0; have q5 := bat hSw kb1; go_simp <;> with_reducible rfl) (h := ?_)
    refine takeA (i := 6) (hy := by intro wq hSw; have q0 := bat hSw kp0; have q1 := bat hSw kp1; have q2 := bat hSw ka0; have q3 := bat hSw ka1; have q4 := bat hSw kb0; have q5 := bat hSw kb1; go_simp <;> with_reducible rfl) (h := ?_)
    refine takeA (i := 7) (hy := by intro wq hSw; have q0 := bat hSw kp0; have q1 := bat hSw kp1; have q2 := bat hSw ka0; have q3 := bat hSw ka1; have q4 := bat hSw kb0; have q5 := bat hSw kb1; go_simp <;> with_reducible rfl) (h := ?_)
    refine capture (fun wp hwp => ?_)
    have H3_pqr : ∀ (p q r : Nat) (V : World), Box2 W1.heap.size V p (.int .i64 0) (.int .i64 0) → Box2 W1.heap.size V q (.int .i64 0) (.int .i64 0) → Box2 W1.heap.size V r (.int .i64 0) (.int .i64 0) → p ≠ q → p ≠ r → q ≠ r → Below W1.heap.size W1 V → wp 3 #[true, true, true, true, true, true, true, true, true, true, true, true, false, false, false] ⟨#[.agg #[.int .i64 X1, .int .i64 Y1], .agg #[.int .i64 X2, .int .i64 Y2], .agg #[.int .i64 X3, .int .i64 Y3], .pointer (some ⟨w.heap.size, 0, none⟩), .pointer (some ⟨w.heap.size + 1, 0, none⟩), .pointer (some ⟨w.heap.size + 1 + 1, 0, none⟩), .pointer (some ⟨w.heap.size + 1 + 1 + 1, 0, none⟩), .pointer (some ⟨p, 0, none⟩), .pointer (some ⟨q, 0, none⟩), .pointer (some ⟨r, 0, none⟩), undef, .agg #[.int .i64 X2, .int .i64 Y2], .agg #[.int .i64 X3, .int .i64 Y3], .agg #[.int .i64 (X3 - X2), .int .i64 (Y3 - Y2)], .agg #[.int .i64 X2, .int .i64 Y2], .agg #[.int .i64 X1, .int .i64 Y1], .agg #[.int .i64 (X1 - X2), .int .i64 (Y1 - Y2)], .agg #[.int .i64 X3, .int .i64 Y3], .agg #[.int .i64 X1, .int .i64 Y1], .agg #[.int .i64 (X1 - X3), .int .i64 (Y1 - Y3)], undef, undef, undef, undef, undef, undef, undef, undef, undef, undef, undef, undef, undef, undef, undef, undef, undef, undef, undef, undef, undef, undef, undef, undef, undef, undef, undef, undef, undef, undef, undef, undef, undef], []⟩ V := by
     as_aux_lemma =>
      intro p q r V k7 k8 k9 n_pq n_pr n_qr N
      have hHeld : Below W1.heap.size W1 V := N
      rw [hwp]
      refine rdA (i := 12) (h := fun K hK => ?_)
      have z0 := k7.c0
      have z1 := k7.c1
      have zf := k7.fr
      go_simp
      clear z0 z1 zf
      replace N := Box2.chain N k7 (.int .i64 (X3 - X2)) (.int .i64 (Y3 - Y2))
      replace k8 := k8.old n_pq.symm (.int .i64 (X3 - X2)) (.int .i64 (Y3 - Y2))
      replace k9 := k9.old n_pr.symm (.int .i64 (X3 - X2)) (.int .i64 (Y3 - Y2))
      replace k7 := k7.put (.int .i64 (X3 - X2)) (.int .i64 (Y3 - Y2))
      refine hK.out _ _ N (fun hHeld => ?_)
      clear hK K
      try simp only [Act.put, sA, sB, sC]
      refine rdA (i := 13) (h := fun K hK => ?_)
      have z0 := k8.c0
      have z1 := k8.c1
      have zf := k8.fr
      go_simp
      clear z0 z1 zf
      replace N := Box2.chain N k8 (.int .i64 (X1 - X2)) (.int .i64 (Y1 - Y2))
      replace k7 := k7.old n_pq (.int .i64 (X1 - X2)) (.int .i64 (Y1 - Y2))
      replace k9 := k9.old n_qr.symm (.int .i64 (X1 - X2)) (.int .i64 (Y1 - Y2))
      replace k8 := k8.put (.int .i64 (X1 - X2)) (.int .i64 (Y1 - Y2))
      refine hK.out _ _ N (fun hHeld => ?_)
      clear hK K
      try simp only [Act.put, sA, sB, sC]
      refine rdA (i := 14) (h := fun K hK => ?_)
      have z0 := k9.c0
      have z1 := k9.c1
      have zf := k9.fr
      go_simp
      clear z0 z1 zf
      replace N := Box2.chain N k9 (.int .i64 (X1 - X3)) (.int .i64 (Y1 - Y3))
      replace k7 := k7.old n_pr (.int .i64 (X1 - X3)) (.int .i64 (Y1 - Y3))
      replace k8 := k8.old n_qr (.int .i64 (X1 - X3)) (.int .i64 (Y1 - Y3))
      replace k9 := k9.put (.int .i64 (X1 - X3)) (.int .i64 (Y1 - Y3))
      refine hK.out _ _ N (fun hHeld => ?_)
      clear hK K
      try simp only [Act.put, sA, sB, sC]
      refine wpAnyH_done (by kernel_rfl) ?_ _
      go_wp2
      go_meet
      case rel => exact ⟨p, q, r, rfl, rfl, rfl, rfl, k7, k8, k9, N⟩
    have H3_pq : ∀ (p q : Nat) (V : World), Box2 W1.heap.size V p (.int .i64 0) (.int .i64 0) → Box2 W1.heap.size V q (.int .i64 0) (.int .i64 0) → p ≠ q → Below W1.heap.size W1 V → wp 4 #[true, true, true, true, true, true, true, true, true, true, true, false, false, false, false] ⟨#[.agg #[.int .i64 X1, .int .i64 Y1], .agg #[.int .i64 X2, .int .i64 Y2], .agg #[.int .i64 X3, .int .i64 Y3], .pointer (some ⟨w.heap.size, 0, none⟩), .pointer (some ⟨w.heap.size + 1, 0, none⟩), .pointer (some ⟨w.heap.size + 1 + 1, 0, none⟩), .pointer (some ⟨w.heap.size + 1 + 1 + 1, 0, none⟩), .pointer (some ⟨p, 0, none⟩), .pointer (some ⟨q, 0, none⟩), undef, undef, .agg #[.int .i64 X2, .int .i64 Y2], .agg #[.int .i64 X3, .int .i64 Y3], .agg #[.int .i64 (X3 - X2), .int .i64 (Y3 - Y2)], .agg #[.int .i64 X2, .int .i64 Y2], .agg #[.int .i64 X1, .int .i64 Y1], .agg #[.int .i64 (X1 - X2), .int .i64 (Y1 - Y2)], .agg #[.int .i64 X3, .int .i64 Y3], .agg #[.int .i64 X1, .int .i64 Y1], .agg #[.int .i64 (X1 - X3), .int .i64 (Y1 - Y3)], undef, undef, undef, undef, undef, undef, undef, undef, undef, undef, undef, undef, undef, undef, undef, undef, undef, undef, undef, undef, undef, undef, undef, undef, undef, undef, undef, undef, undef, undef, undef, undef, undef], []⟩ V := by
     as_aux_lemma =>
      intro p q V k7 k8 n_pq N
      have hHeld : Below W1.heap.size W1 V := N
      rw [hwp]
      refine rdA (i := 11) (h := fun K hK => ?_)
      · go_simp
        have k9 := Box2.new V N.size (.int .i64 0) (.int .i64 0) 38
        have hb := below1 V (.cells #[.int .i64 0, .int .i64 0] 38)
        have g_p := Nat.ne_of_lt k7.lt
        replace k7 := k7.below hb
        have g_q := Nat.ne_of_lt k8.lt
        replace k8 := k8.below hb
        replace N := N.trans (hb.mono N.size)
        refine hK.out _ _ N (fun hHeld => ?_)
        clear hK K
        try simp only [Act.put, sA, sB, sC]
        rw [← hwp]
        exact met (H3_pqr p q _ _ k7 k8 k9 n_pq g_p g_q N) (by kernel_rfl)
    have H3_pr : ∀ (p r : Nat) (V : World), Box2 W1.heap.size V p (.int .i64 0) (.int .i64 0) → Box2 W1.heap.size V r (.int .i64 0) (.int .i64 0) → p ≠ r → Below W1.heap.size W1 V → wp 4 #[true, true, true, true, true, true, true, true, true, true, false, true, false, false, false] ⟨#[.agg #[.int .i64 X1, .int .i64 Y1], .agg #[.int .i64 X2, .int .i64 Y2], .agg #[.int .i64 X3, .int .i64 Y3], .pointer (some ⟨w.heap.size, 0, none⟩), .pointer (some ⟨w.heap.size + 1, 0, none⟩), .pointer (some ⟨w.heap.size + 1 + 1, 0, none⟩), .pointer (some ⟨w.heap.size + 1 + 1 + 1, 0, none⟩), .pointer (some ⟨p, 0, none⟩), undef, .pointer (some ⟨r, 0, none⟩), undef, .agg #[.int .i64 X2, .int .i64 Y2], .agg #[.int .i64 X3, .int .i64 Y3], .agg #[.int .i64 (X3 - X2), .int .i64 (Y3 - Y2)], .agg #[.int .i64 X2, .int .i64 Y2], .agg #[.int .i64 X1, .int .i64 Y1], .agg #[.int .i64 (X1 - X2), .int .i64 (Y1 - Y2)], .agg #[.int .i64 X3, .int .i64 Y3], .agg #[.int .i64 X1, .int .i64 Y1], .agg #[.int .i64 (X1 - X3), .int .i64 (Y1 - Y3)], undef, undef, undef, undef, undef, undef, undef, undef, undef, undef, undef, undef, undef, undef, undef, undef, undef, undef, undef, undef, undef, undef, undef, undef, undef, undef, undef, undef, undef, undef, undef, undef, undef], []⟩ V := by
     as_aux_lemma =>
      intro p r V k7 k9 n_pr N
      have hHeld : Below W1.heap.size W1 V := N
      rw [hwp]
      refine rdA (i := 10) (h := fun K hK => ?_)
      · go_simp
        have k8 := Box2.new V N.size (.int .i64 0) (.int .i64 0) 38
        have hb := below1 V (.cells #[.int .i64 0, .int .i64 0] 38)
        have g_p := Nat.ne_of_lt k7.lt
        replace k7 := k7.below hb
        have g_r := Nat.ne_of_lt k9.lt
        replace k9 := k9.below hb
        replace N := N.trans (hb.mono N.size)
        refine hK.out _ _ N (fun hHeld => ?_)
        clear hK K
        try simp only [Act.put, sA, sB, sC]
        rw [← hwp]
        exact met (H3_pqr p _ r _ k7 k8 k9 g_p n_pr g_r.symm N) (by kernel_rfl)
    have H3_qr : ∀ (q r : Nat) (V : World), Box2 W1.heap.size V q (.int .i64 0) (.int .i64 0) → Box2 W1.heap.size V r (.int .i64 0) (.int .i64 0) → q ≠ r → Below W1.heap.size W1 V → wp 4 #[true, true, true, true, true, true, true, true, true, false, true, true, false, false, false] ⟨#[.agg #[.int .i64 X1, .int .i64 Y1], .agg #[.int .i64 X2, .int .i64 Y2], .agg #[.int .i64 X3, .int .i64 Y3], .pointer (some ⟨w.heap.size, 0, none⟩), .pointer (some ⟨w.heap.size + 1, 0, none⟩), .pointer (some ⟨w.heap.size + 1 + 1, 0, none⟩), .pointer (some ⟨w.heap.size + 1 + 1 + 1, 0, none⟩), undef, .pointer (some ⟨q, 0, none⟩), .pointer (some ⟨r, 0, none⟩), undef, .agg #[.int .i64 X2, .int .i64 Y2], .agg #[.int .i64 X3, .int .i64 Y3], .agg #[.int .i64 (X3 - X2), .int .i64 (Y3 - Y2)], .agg #[.int .i64 X2, .int .i64 Y2], .agg #[.int .i64 X1, .int .i64 Y1], .agg #[.int .i64 (X1 - X2), .int .i64 (Y1 - Y2)], .agg #[.int .i64 X3, .int .i64 Y3], .agg #[.int .i64 X1, .int .i64 Y1], .agg #[.int .i64 (X1 - X3), .int .i64 (Y1 - Y3)], undef, undef, undef, undef, undef, undef, undef, undef, undef, undef, undef, undef, undef, undef, undef, undef, undef, undef, undef, undef, undef, undef, undef, undef, undef, undef, undef, undef, undef, undef, undef, undef, undef], []⟩ V := by
     as_aux_lemma =>
      intro q r V k8 k9 n_qr N
      have hHeld : Below W1.heap.size W1 V := N
      rw [hwp]
      refine rdA (i := 9) (h := fun K hK => ?_)
      · go_simp
        have k7 := Box2.new V N.size (.int .i64 0) (.int .i64 0) 38
        have hb := below1 V (.cells #[.int .i64 0, .int .i64 0] 38)
        have g_q := Nat.ne_of_lt k8.lt
        replace k8 := k8.below hb
        have g_r := Nat.ne_of_lt k9.lt
        replace k9 := k9.below hb
        replace N := N.trans (hb.mono N.size)
        refine hK.out _ _ N (fun hHeld => ?_)
        clear hK K
        try simp only [Act.put, sA, sB, sC]
        rw [← hwp]
        exact met (H3_pqr _ q r _ k7 k8 k9 g_q.symm g_r.symm n_qr N) (by kernel_rfl)
    have H3_p : ∀ (p : Nat) (V : World), Box2 W1.heap.size V p (.int .i64 0) (.int .i64 0) → Below W1.heap.size W1 V → wp 5 #[true, true, true, true, true, true, true, true, true, true, false, false, false, false, false] ⟨#[.agg #[.int .i64 X1, .int .i64 Y1], .agg #[.int .i64 X2, .int .i64 Y2], .agg #[.int .i64 X3, .int .i64 Y3], .pointer (some ⟨w.heap.size, 0, none⟩), .pointer (some ⟨w.heap.size + 1, 0, none⟩), .pointer (some ⟨w.heap.size + 1 + 1, 0, none⟩), .pointer (some ⟨w.heap.size + 1 + 1 + 1, 0, none⟩), .pointer (some ⟨p, 0, none⟩), undef, undef, undef, .agg #[.int .i64 X2, .int .i64 Y2], .agg #[.int .i64 X3, .int .i64 Y3], .agg #[.int .i64 (X3 - X2), .int .i64 (Y3 - Y2)], .agg #[.int .i64 X2, .int .i64 Y2], .agg #[.int .i64 X1, .int .i64 Y1], .agg #[.int .i64 (X1 - X2), .int .i64 (Y1 - Y2)], .agg #[.int .i64 X3, .int .i64 Y3], .agg #[.int .i64 X1, .int .i64 Y1], .agg #[.int .i64 (X1 - X3), .int .i64 (Y1 - Y3)], undef, undef, undef, undef, undef, undef, undef, undef, undef, undef, undef, undef, undef, undef, undef, undef, undef, undef, undef, undef, undef, undef, undef, undef, undef, undef, undef, undef, undef, undef, undef, undef, undef], []⟩ V := by
     as_aux_lemma =>
      intro p V k7 N
      have hHeld : Below W1.heap.size W1 V := N
      rw [hwp]
      refine wpAnyH_ready (rs := [10, 11]) (by kernel_rfl) (by simp) (AllReadyH.cons (gt rfl) (fun K hK => ?_) (AllReadyH.cons (gt rfl) (fun K hK => ?_) AllReadyH.nil))
      · go_simp
        have k8 := Box2.new V N.size (.int .i64 0) (.int .i64 0) 38
        have hb := below1 V (.cells #[.int .i64 0, .int .i64 0] 38)
        have g_p := Nat.ne_of_lt k7.lt
        replace k7 := k7.below hb
        replace N := N.trans (hb.mono N.size)
        refine hK.out _ _ N (fun hHeld => ?_)
        clear hK K
        try simp only [Act.put, sA, sB, sC]
        rw [← hwp]
        exact met (H3_pq p _ _ k7 k8 g_p N) (by kernel_rfl)
      · go_simp
        have k9 := Box2.new V N.size (.int .i64 0) (.int .i64 0) 38
        have hb := below1 V (.cells #[.int .i64 0, .int .i64 0] 38)
        have g_p := Nat.ne_of_lt k7.lt
        replace k7 := k7.below hb
        replace N := N.trans (hb.mono N.size)
        refine hK.out _ _ N (fun hHeld => ?_)
        clear hK K
        try simp only [Act.put, sA, sB, sC]
        rw [← hwp]
        exact met (H3_pr p _ _ k7 k9 g_p N) (by kernel_rfl)
    have H3_q : ∀ (q : Nat) (V : World), Box2 W1.heap.size V q (.int .i64 0) (.int .i64 0) → Below W1.heap.size W1 V → wp 5 #[true, true, true, true, true, true, true, true, true, false, true, false, false, false, false] ⟨#[.agg #[.int .i64 X1, .int .i64 Y1], .agg #[.int .i64 X2, .int .i64 Y2], .agg #[.int .i64 X3, .int .i64 Y3], .pointer (some ⟨w.heap.size, 0, none⟩), .pointer (some ⟨w.heap.size + 1, 0, none⟩), .pointer (some ⟨w.heap.size + 1 + 1, 0, none⟩), .pointer (some ⟨w.heap.size + 1 + 1 + 1, 0, none⟩), undef, .pointer (some ⟨q, 0, none⟩), undef, undef, .agg #[.int .i64 X2, .int .i64 Y2], .agg #[.int .i64 X3, .int .i64 Y3], .agg #[.int .i64 (X3 - X2), .int .i64 (Y3 - Y2)], .agg #[.int .i64 X2, .int .i64 Y2], .agg #[.int .i64 X1, .int .i64 Y1], .agg #[.int .i64 (X1 - X2), .int .i64 (Y1 - Y2)], .agg #[.int .i64 X3, .int .i64 Y3], .agg #[.int .i64 X1, .int .i64 Y1], .agg #[.int .i64 (X1 - X3), .int .i64 (Y1 - Y3)], undef, undef, undef, undef, undef, undef, undef, undef, undef, undef, undef, undef, undef, undef, undef, undef, undef, undef, undef, undef, undef, undef, undef, undef, undef, undef, undef, undef, undef, undef, undef, undef, undef], []⟩ V := by
     as_aux_lemma =>
      intro q V k8 N
      have hHeld : Below W1.heap.size W1 V := N
      rw [hwp]
      refine wpAnyH_ready (rs := [9, 11]) (by kernel_rfl) (by simp) (AllReadyH.cons (gt rfl) (fun K hK => ?_) (AllReadyH.cons (gt rfl) (fun K hK => ?_) AllReadyH.nil))
      · go_simp
        have k7 := Box2.new V N.size (.int .i64 0) (.int .i64 0) 38
        have hb := below1 V (.cells #[.int .i64 0, .int .i64 0] 38)
        have g_q := Nat.ne_of_lt k8.lt
        replace k8 := k8.below hb
        replace N := N.trans (hb.mono N.size)
        refine hK.out _ _ N (fun hHeld => ?_)
        clear hK K
        try simp only [Act.put, sA, sB, sC]
        rw [← hwp]
        exact met (H3_pq _ q _ k7 k8 g_q.symm N) (by kernel_rfl)
      · go_simp
        have k9 := Box2.new V N.size (.int .i64 0) (.int .i64 0) 38
        have hb := below1 V (.cells #[.int .i64 0, .int .i64 0] 38)
        have g_q := Nat.ne_of_lt k8.lt
        replace k8 := k8.below hb
        replace N := N.trans (hb.mono N.size)
        refine hK.out _ _ N (fun hHeld => ?_)
        clear hK K
        try simp only [Act.put, sA, sB, sC]
        rw [← hwp]
        exact met (H3_qr q _ _ k8 k9 g_q N) (by kernel_rfl)
    have H3_r : ∀ (r : Nat) (V : World), Box2 W1.heap.size V r (.int .i64 0) (.int .i64 0) → Below W1.heap.size W1 V → wp 5 #[true, true, true, true, true, true, true, true, true, false, false, true, false, false, false] ⟨#[.agg #[.int .i64 X1, .int .i64 Y1], .agg #[.int .i64 X2, .int .i64 Y2], .agg #[.int .i64 X3, .int .i64 Y3], .pointer (some ⟨w.heap.size, 0, none⟩), .pointer (some ⟨w.heap.size + 1, 0, none⟩), .pointer (some ⟨w.heap.size + 1 + 1, 0, none⟩), .pointer (some ⟨w.heap.size + 1 + 1 + 1, 0, none⟩), undef, undef, .pointer (some ⟨r, 0, none⟩), undef, .agg #[.int .i64 X2, .int .i64 Y2], .agg #[.int .i64 X3, .int .i64 Y3], .agg #[.int .i64 (X3 - X2), .int .i64 (Y3 - Y2)], .agg #[.int .i64 X2, .int .i64 Y2], .agg #[.int .i64 X1, .int .i64 Y1], .agg #[.int .i64 (X1 - X2), .int .i64 (Y1 - Y2)], .agg #[.int .i64 X3, .int .i64 Y3], .agg #[.int .i64 X1, .int .i64 Y1], .agg #[.int .i64 (X1 - X3), .int .i64 (Y1 - Y3)], undef, undef, undef, undef, undef, undef, undef, undef, undef, undef, undef, undef, undef, undef, undef, undef, undef, undef, undef, undef, undef, undef, undef, undef, undef, undef, undef, undef, undef, undef, undef, undef, undef], []⟩ V := by
     as_aux_lemma =>
      intro r V k9 N
      have hHeld : Below W1.heap.size W1 V := N
      rw [hwp]
      refine wpAnyH_ready (rs := [9, 10]) (by kernel_rfl) (by simp) (AllReadyH.cons (gt rfl) (fun K hK => ?_) (AllReadyH.cons (gt rfl) (fun K hK => ?_) AllReadyH.nil))
      · go_simp
        have k7 := Box2.new V N.size (.int .i64 0) (.int .i64 0) 38
        have hb := below1 V (.cells #[.int .i64 0, .int .i64 0] 38)
        have g_r := Nat.ne_of_lt k9.lt
        replace k9 := k9.below hb
        replace N := N.trans (hb.mono N.size)
        refine hK.out _ _ N (fun hHeld => ?_)
        clear hK K
        try simp only [Act.put, sA, sB, sC]
        rw [← hwp]
        exact met (H3_pr _ r _ k7 k9 g_r.symm N) (by kernel_rfl)
      · go_simp
        have k8 := Box2.new V N.size (.int .i64 0) (.int .i64 0) 38
        have hb := below1 V (.cells #[.int .i64 0, .int .i64 0] 38)
        have g_r := Nat.ne_of_lt k9.lt
        replace k9 := k9.below hb
        replace N := N.trans (hb.mono N.size)
        refine hK.out _ _ N (fun hHeld => ?_)
        clear hK K
        try simp only [Act.put, sA, sB, sC]
        rw [← hwp]
        exact met (H3_qr _ r _ k8 k9 g_r.symm N) (by kernel_rfl)
    have H3_ : ∀ (V : World), Below W1.heap.size W1 V → wp 6 #[true, true, true, true, true, true, true, true, true, false, false, false, false, false, false] ⟨#[.agg #[.int .i64 X1, .int .i64 Y1], .agg #[.int .i64 X2, .int .i64 Y2], .agg #[.int .i64 X3, .int .i64 Y3], .pointer (some ⟨w.heap.size, 0, none⟩), .pointer (some ⟨w.heap.size + 1, 0, none⟩), .pointer (some ⟨w.heap.size + 1 + 1, 0, none⟩), .pointer (some ⟨w.heap.size + 1 + 1 + 1, 0, none⟩), undef, undef, undef, undef, .agg #[.int .i64 X2, .int .i64 Y2], .agg #[.int .i64 X3, .int .i64 Y3], .agg #[.int .i64 (X3 - X2), .int .i64 (Y3 - Y2)], .agg #[.int .i64 X2, .int .i64 Y2], .agg #[.int .i64 X1, .int .i64 Y1], .agg #[.int .i64 (X1 - X2), .int .i64 (Y1 - Y2)], .agg #[.int .i64 X3, .int .i64 Y3], .agg #[.int .i64 X1, .int .i64 Y1], .agg #[.int .i64 (X1 - X3), .int .i64 (Y1 - Y3)], undef, undef, undef, undef, undef, undef, undef, undef, undef, undef, undef, undef, undef, undef, undef, undef, undef, undef, undef, undef, undef, undef, undef, undef, undef, undef, undef, undef, undef, undef, undef, undef, undef], []⟩ V := by
     as_aux_lemma =>
      intro V N
      have hHeld : Below W1.heap.size W1 V := N
      rw [hwp]
      refine wpAnyH_ready (rs := [9, 10, 11]) (by kernel_rfl) (by simp) (AllReadyH.cons (gt rfl) (fun K hK => ?_) (AllReadyH.cons (gt rfl) (fun K hK => ?_) (AllReadyH.cons (gt rfl) (fun K hK => ?_) AllReadyH.nil)))
      · go_simp
        have k7 := Box2.new V N.size (.int .i64 0) (.int .i64 0) 38
        have hb := below1 V (.cells #[.int .i64 0, .int .i64 0] 38)
        replace N := N.trans (hb.mono N.size)
        refine hK.out _ _ N (fun hHeld => ?_)
        clear hK K
        try simp only [Act.put, sA, sB, sC]
        rw [← hwp]
        exact met (H3_p _ _ k7 N) (by kernel_rfl)
      · go_simp
        have k8 := Box2.new V N.size (.int .i64 0) (.int .i64 0) 38
        have hb := below1 V (.cells #[.int .i64 0, .int .i64 0] 38)
        replace N := N.trans (hb.mono N.size)
        refine hK.out _ _ N (fun hHeld => ?_)
        clear hK K
        try simp only [Act.put, sA, sB, sC]
        rw [← hwp]
        exact met (H3_q _ _ k8 N) (by kernel_rfl)
      · go_simp
        have k9 := Box2.new V N.size (.int .i64 0) (.int .i64 0) 38
        have hb := below1 V (.cells #[.int .i64 0, .int .i64 0] 38)
        replace N := N.trans (hb.mono N.size)
        refine hK.out _ _ N (fun hHeld => ?_)
        clear hK K
        try simp only [Act.put, sA, sB, sC]
        rw [← hwp]
        exact met (H3_r _ _ k9 N) (by kernel_rfl)
    have H2_pqr : ∀ (p q r : Nat) (V : World), Box2 W1.heap.size V p (.int .i64 0) (.int .i64 0) → Box2 W1.heap.size V q (.int .i64 0) (.int .i64 0) → Box2 W1.heap.size V r (.int .i64 0) (.int .i64 0) → p ≠ q → p ≠ r → q ≠ r → Below W1.heap.size W1 V → wp 4 #[true, true, true, true, true, true, true, true, false, true, true, true, false, false, false] ⟨#[.agg #[.int .i64 X1, .int .i64 Y1], .agg #[.int .i64 X2, .int .i64 Y2], .agg #[.int .i64 X3, .int .i64 Y3], .pointer (some ⟨w.heap.size, 0, none⟩), .pointer (some ⟨w.heap.size + 1, 0, none⟩), .pointer (some ⟨w.heap.size + 1 + 1, 0, none⟩), .pointer (some ⟨w.heap.size + 1 + 1 + 1, 0, none⟩), .pointer (some ⟨p, 0, none⟩), .pointer (some ⟨q, 0, none⟩), .pointer (some ⟨r, 0, none⟩), undef, .agg #[.int .i64 X2, .int .i64 Y2], .agg #[.int .i64 X3, .int .i64 Y3], .agg #[.int .i64 (X3 - X2), .int .i64 (Y3 - Y2)], .agg #[.int .i64 X2, .int .i64 Y2], .agg #[.int .i64 X1, .int .i64 Y1], .agg #[.int .i64 (X1 - X2), .int .i64 (Y1 - Y2)], .agg #[.int .i64 X3, .int .i64 Y3], .agg #[.int .i64 X1, .int .i64 Y1], undef, undef, undef, undef, undef, undef, undef, undef, undef, undef, undef, undef, undef, undef, undef, undef, undef, undef, undef, undef, undef, undef, undef, undef, undef, undef, undef, undef, undef, undef, undef, undef, undef, undef], []⟩ V := by
     as_aux_lemma =>
      intro p q r V k7 k8 k9 n_pq n_pr n_qr N
      have hHeld : Below W1.heap.size W1 V := N
      rw [hwp]
      refine rdA (i := 8) (h := fun K hK => ?_)
      · go_simp
        refine (way_any X3 Y3 X1 Y1 _ (by assumption) (by assumption) (by assumption) (by assumption)).mono ?_
        rintro e1 V' ⟨rfl, hb⟩
        replace k7 := k7.below hb
        replace k8 := k8.below hb
        replace k9 := k9.below hb
        replace N := N.trans (hb.mono N.size)
        refine hK.out _ _ N (fun hHeld => ?_)
        clear hK K
        try simp only [Act.put, sA, sB, sC]
        rw [← hwp]
        exact met (H3_pqr p q r _ k7 k8 k9 n_pq n_pr n_qr N) (by kernel_rfl)
    have H2_pq : ∀ (p q : Nat) (V : World), Box2 W1.heap.size V p (.int .i64 0) (.int .i64 0) → Box2 W1.heap.size V q (.int .i64 0) (.int .i64 0) → p ≠ q → Below W1.heap.size W1 V → wp 5 #[true, true, true, true, true, true, true, true, false, true, true, false, false, false, false] ⟨#[.agg #[.int .i64 X1, .int .i64 Y1], .agg #[.int .i64 X2, .int .i64 Y2], .agg #[.int .i64 X3, .int .i64 Y3], .pointer (some ⟨w.heap.size, 0, none⟩), .pointer (some ⟨w.heap.size + 1, 0, none⟩), .pointer (some ⟨w.heap.size + 1 + 1, 0, none⟩), .pointer (some ⟨w.heap.size + 1 + 1 + 1, 0, none⟩), .pointer (some ⟨p, 0, none⟩), .pointer (some ⟨q, 0, none⟩), undef, undef, .agg #[.int .i64 X2, .int .i64 Y2], .agg #[.int .i64 X3, .int .i64 Y3], .agg #[.int .i64 (X3 - X2), .int .i64 (Y3 - Y2)], .agg #[.int .i64 X2, .int .i64 Y2], .agg #[.int .i64 X1, .int .i64 Y1], .agg #[.int .i64 (X1 - X2), .int .i64 (Y1 - Y2)], .agg #[.int .i64 X3, .int .i64 Y3], .agg #[.int .i64 X1, .int .i64 Y1], undef, undef, undef, undef, undef, undef, undef, undef, undef, undef, undef, undef, undef, undef, undef, undef, undef, undef, undef, undef, undef, undef, undef, undef, undef, undef, undef, undef, undef, undef, undef, undef, undef, undef], []⟩ V := by
     as_aux_lemma =>
      intro p q V k7 k8 n_pq N
      have hHeld : Below W1.heap.size W1 V := N
      rw [hwp]
      refine wpAnyH_ready (rs := [8, 11]) (by kernel_rfl) (by simp) (AllReadyH.cons (gt rfl) (fun K hK => ?_) (AllReadyH.cons (gt rfl) (fun K hK => ?_) AllReadyH.nil))
      · go_simp
        refine (way_any X3 Y3 X1 Y1 _ (by assumption) (by assumption) (by assumption) (by assumption)).mono ?_
        rintro e1 V' ⟨rfl, hb⟩
        replace k7 := k7.below hb
        replace k8 := k8.below hb
        replace N := N.trans (hb.mono N.size)
        refine hK.out _ _ N (fun hHeld => ?_)
        clear hK K
        try simp only [Act.put, sA, sB, sC]
        rw [← hwp]
        exact met (H3_pq p q _ k7 k8 n_pq N) (by kernel_rfl)
      · go_simp
        have k9 := Box2.new V N.size (.int .i64 0) (.int .i64 0) 38
        have hb := below1 V (.cells #[.int .i64 0, .int .i64 0] 38)
        have g_p := Nat.ne_of_lt k7.lt
        replace k7 := k7.below hb
        have g_q := Nat.ne_of_lt k8.lt
        replace k8 := k8.below hb
        replace N := N.trans (hb.mono N.size)
        refine hK.out _ _ N (fun hHeld => ?_)
        clear hK K
        try simp only [Act.put, sA, sB, sC]
        rw [← hwp]
        exact met (H2_pqr p q _ _ k7 k8 k9 n_pq g_p g_q N) (by kernel_rfl)
    have H2_pr : ∀ (p r : Nat) (V : World), Box2 W1.heap.size V p (.int .i64 0) (.int .i64 0) → Box2 W1.heap.size V r (.int .i64 0) (.int .i64 0) → p ≠ r → Below W1.heap.size W1 V → wp 5 #[true, true, true, true, true, true, true, true, false, true, false, true, false, false, false] ⟨#[.agg #[.int .i64 X1, .int .i64 Y1], .agg #[.int .i64 X2, .int .i64 Y2], .agg #[.int .i64 X3, .int .i64 Y3], .pointer (some ⟨w.heap.size, 0, none⟩), .pointer (some ⟨w.heap.size + 1, 0, none⟩), .pointer (some ⟨w.heap.size + 1 + 1, 0, none⟩), .pointer (some ⟨w.heap.size + 1 + 1 + 1, 0, none⟩), .pointer (some ⟨p, 0, none⟩), undef, .pointer (some ⟨r, 0, none⟩), undef, .agg #[.int .i64 X2, .int .i64 Y2], .agg #[.int .i64 X3, .int .i64 Y3], .agg #[.int .i64 (X3 - X2), .int .i64 (Y3 - Y2)], .agg #[.int .i64 X2, .int .i64 Y2], .agg #[.int .i64 X1, .int .i64 Y1], .agg #[.int .i64 (X1 - X2), .int .i64 (Y1 - Y2)], .agg #[.int .i64 X3, .int .i64 Y3], .agg #[.int .i64 X1, .int .i64 Y1], undef, undef, undef, undef, undef, undef, undef, undef, undef, undef, undef, undef, undef, undef, undef, undef, undef, undef, undef, undef, undef, undef, undef, undef, undef, undef, undef, undef, undef, undef, undef, undef, undef, undef], []⟩ V := by
     as_aux_lemma =>
      intro p r V k7 k9 n_pr N
      have hHeld : Below W1.heap.size W1 V := N
      rw [hwp]
      refine wpAnyH_ready (rs := [8, 10]) (by kernel_rfl) (by simp) (AllReadyH.cons (gt rfl) (fun K hK => ?_) (AllReadyH.cons (gt rfl) (fun K hK => ?_) AllReadyH.nil))
      · go_simp
        refine (way_any X3 Y3 X1 Y1 _ (by assumption) (by assumption) (by assumption) (by assumption)).mono ?_
        rintro e1 V' ⟨rfl, hb⟩
        replace k7 := k7.below hb
        replace k9 := k9.below hb
        replace N := N.trans (hb.mono N.size)
        refine hK.out _ _ N (fun hHeld => ?_)
        clear hK K
        try simp only [Act.put, sA, sB, sC]
        rw [← hwp]
        exact met (H3_pr p r _ k7 k9 n_pr N) (by kernel_rfl)
      · go_simp
        have k8 := Box2.new V N.size (.int .i64 0) (.int .i64 0) 38
        have hb := below1 V (.cells #[.int .i64 0, .int .i64 0] 38)
        have g_p := Nat.ne_of_lt k7.lt
        replace k7 := k7.below hb
        have g_r := Nat.ne_of_lt k9.lt
        replace k9 := k9.below hb
        replace N := N.trans (hb.mono N.size)
        refine hK.out _ _ N (fun hHeld => ?_)
        clear hK K
        try simp only [Act.put, sA, sB, sC]
        rw [← hwp]
        exact met (H2_pqr p _ r _ k7 k8 k9 g_p n_pr g_r.symm N) (by kernel_rfl)
    have H2_qr : ∀ (q r : Nat) (V : World), Box2 W1.heap.size V q (.int .i64 0) (.int .i64 0) → Box2 W1.heap.size V r (.int .i64 0) (.int .i64 0) → q ≠ r → Below W1.heap.size W1 V → wp 5 #[true, true, true, true, true, true, true, true, false, false, true, true, false, false, false] ⟨#[.agg #[.int .i64 X1, .int .i64 Y1], .agg #[.int .i64 X2, .int .i64 Y2], .agg #[.int .i64 X3, .int .i64 Y3], .pointer (some ⟨w.heap.size, 0, none⟩), .pointer (some ⟨w.heap.size + 1, 0, none⟩), .pointer (some ⟨w.heap.size + 1 + 1, 0, none⟩), .pointer (some ⟨w.heap.size + 1 + 1 + 1, 0, none⟩), undef, .pointer (some ⟨q, 0, none⟩), .pointer (some ⟨r, 0, none⟩), undef, .agg #[.int .i64 X2, .int .i64 Y2], .agg #[.int .i64 X3, .int .i64 Y3], .agg #[.int .i64 (X3 - X2), .int .i64 (Y3 - Y2)], .agg #[.int .i64 X2, .int .i64 Y2], .agg #[.int .i64 X1, .int .i64 Y1], .agg #[.int .i64 (X1 - X2), .int .i64 (Y1 - Y2)], .agg #[.int .i64 X3, .int .i64 Y3], .agg #[.int .i64 X1, .int .i64 Y1], undef, undef, undef, undef, undef, undef, undef, undef, undef, undef, undef, undef, undef, undef, undef, undef, undef, undef, undef, undef, undef, undef, undef, undef, undef, undef, undef, undef, undef, undef, undef, undef, undef, undef], []⟩ V := by
     as_aux_lemma =>
      intro q r V k8 k9 n_qr N
      have hHeld : Below W1.heap.size W1 V := N
      rw [hwp]
      refine wpAnyH_ready (rs := [8, 9]) (by kernel_rfl) (by simp) (AllReadyH.cons (gt rfl) (fun K hK => ?_) (AllReadyH.cons (gt rfl) (fun K hK => ?_) AllReadyH.nil))
      · go_simp
        refine (way_any X3 Y3 X1 Y1 _ (by assumption) (by assumption) (by assumption) (by assumption)).mono ?_
        rintro e1 V' ⟨rfl, hb⟩
        replace k8 := k8.below hb
        replace k9 := k9.below hb
        replace N := N.trans (hb.mono N.size)
        refine hK.out _ _ N (fun hHeld => ?_)
        clear hK K
        try simp only [Act.put, sA, sB, sC]
        rw [← hwp]
        exact met (H3_qr q r _ k8 k9 n_qr N) (by kernel_rfl)
      · go_simp
        have k7 := Box2.new V N.size (.int .i64 0) (.int .i64 0) 38
        have hb := below1 V (.cells #[.int .i64 0, .int .i64 0] 38)
        have g_q := Nat.ne_of_lt k8.lt
        replace k8 := k8.below hb
        have g_r := Nat.ne_of_lt k9.lt
        replace k9 := k9.below hb
        replace N := N.trans (hb.mono N.size)
        refine hK.out _ _ N (fun hHeld => ?_)
        clear hK K
        try simp only [Act.put, sA, sB, sC]
        rw [← hwp]
        exact met (H2_pqr _ q r _ k7 k8 k9 g_q.symm g_r.symm n_qr N) (by kernel_rfl)
    have H2_p : ∀ (p : Nat) (V : World), Box2 W1.heap.size V p (.int .i64 0) (.int .i64 0) → Below W1.heap.size W1 V → wp 6 #[true, true, true, true, true, true, true, true, false, true, false, false, false, false, false] ⟨#[.agg #[.int .i64 X1, .int .i64 Y1], .agg #[.int .i64 X2, .int .i64 Y2], .agg #[.int .i64 X3, .int .i64 Y3], .pointer (some ⟨w.heap.size, 0, none⟩), .pointer (some ⟨w.heap.size + 1, 0, none⟩), .pointer (some ⟨w.heap.size + 1 + 1, 0, none⟩), .pointer (some ⟨w.heap.size + 1 + 1 + 1, 0, none⟩), .pointer (some ⟨p, 0, none⟩), undef, undef, undef, .agg #[.int .i64 X2, .int .i64 Y2], .agg #[.int .i64 X3, .int .i64 Y3], .agg #[.int .i64 (X3 - X2), .int .i64 (Y3 - Y2)], .agg #[.int .i64 X2, .int .i64 Y2], .agg #[.int .i64 X1, .int .i64 Y1], .agg #[.int .i64 (X1 - X2), .int .i64 (Y1 - Y2)], .agg #[.int .i64 X3, .int .i64 Y3], .agg #[.int .i64 X1, .int .i64 Y1], undef, undef, undef, undef, undef, undef, undef, undef, undef, undef, undef, undef, undef, undef, undef, undef, undef, undef, undef, undef, undef, undef, undef, undef, undef, undef, undef, undef, undef, undef, undef, undef, undef, undef], []⟩ V := by
     as_aux_lemma =>
      intro p V k7 N
      have hHeld : Below W1.heap.size W1 V := N
      rw [hwp]
      refine wpAnyH_ready (rs := [8, 10, 11]) (by kernel_rfl) (by simp) (AllReadyH.cons (gt rfl) (fun K hK => ?_) (AllReadyH.cons (gt rfl) (fun K hK => ?_) (AllReadyH.cons (gt rfl) (fun K hK => ?_) AllReadyH.nil)))
      · go_simp
        refine (way_any X3 Y3 X1 Y1 _ (by assumption) (by assumption) (by assumption) (by assumption)).mono ?_
        rintro e1 V' ⟨rfl, hb⟩
        replace k7 := k7.below hb
        replace N := N.trans (hb.mono N.size)
        refine hK.out _ _ N (fun hHeld => ?_)
        clear hK K
        try simp only [Act.put, sA, sB, sC]
        rw [← hwp]
        exact met (H3_p p _ k7 N) (by kernel_rfl)
      · go_simp
        have k8 := Box2.new V N.size (.int .i64 0) (.int .i64 0) 38
        have hb := below1 V (.cells #[.int .i64 0, .int .i64 0] 38)
        have g_p := Nat.ne_of_lt k7.lt
        replace k7 := k7.below hb
        replace N := N.trans (hb.mono N.size)
        refine hK.out _ _ N (fun hHeld => ?_)
        clear hK K
        try simp only [Act.put, sA, sB, sC]
        rw [← hwp]
        exact met (H2_pq p _ _ k7 k8 g_p N) (by kernel_rfl)
      · go_simp
        have k9 := Box2.new V N.size (.int .i64 0) (.int .i64 0) 38
        have hb := below1 V (.cells #[.int .i64 0, .int .i64 0] 38)
        have g_p := Nat.ne_of_lt k7.lt
        replace k7 := k7.below hb
        replace N := N.trans (hb.mono N.size)
        refine hK.out _ _ N (fun hHeld => ?_)
        clear hK K
        try simp only [Act.put, sA, sB, sC]
        rw [← hwp]
        exact met (H2_pr p _ _ k7 k9 g_p N) (by kernel_rfl)
    have H2_q : ∀ (q : Nat) (V : World), Box2 W1.heap.size V q (.int .i64 0) (.int .i64 0) → Below W1.heap.size W1 V → wp 6 #[true, true, true, true, true, true, true, true, false, false, true, false, false, false, false] ⟨#[.agg #[.int .i64 X1, .int .i64 Y1], .agg #[.int .i64 X2, .int .i64 Y2], .agg #[.int .i64 X3, .int .i64 Y3], .pointer (some ⟨w.heap.size, 0, none⟩), .pointer (some ⟨w.heap.size + 1, 0, none⟩), .pointer (some ⟨w.heap.size + 1 + 1, 0, none⟩), .pointer (some ⟨w.heap.size + 1 + 1 + 1, 0, none⟩), undef, .pointer (some ⟨q, 0, none⟩), undef, undef, .agg #[.int .i64 X2, .int .i64 Y2], .agg #[.int .i64 X3, .int .i64 Y3], .agg #[.int .i64 (X3 - X2), .int .i64 (Y3 - Y2)], .agg #[.int .i64 X2, .int .i64 Y2], .agg #[.int .i64 X1, .int .i64 Y1], .agg #[.int .i64 (X1 - X2), .int .i64 (Y1 - Y2)], .agg #[.int .i64 X3, .int .i64 Y3], .agg #[.int .i64 X1, .int .i64 Y1], undef, undef, undef, undef, undef, undef, undef, undef, undef, undef, undef, undef, undef, undef, undef, undef, undef, undef, undef, undef, undef, undef, undef, undef, undef, undef, undef, undef, undef, undef, undef, undef, undef, undef], []⟩ V := by
     as_aux_lemma =>
      intro q V k8 N
      have hHeld : Below W1.heap.size W1 V := N
      rw [hwp]
      refine wpAnyH_ready (rs := [8, 9, 11]) (by kernel_rfl) (by simp) (AllReadyH.cons (gt rfl) (fun K hK => ?_) (AllReadyH.cons (gt rfl) (fun K hK => ?_) (AllReadyH.cons (gt rfl) (fun K hK => ?_) AllReadyH.nil)))
      · go_simp
        refine (way_any X3 Y3 X1 Y1 _ (by assumption) (by assumption) (by assumption) (by assumption)).mono ?_
        rintro e1 V' ⟨rfl, hb⟩
        replace k8 := k8.below hb
        replace N := N.trans (hb.mono N.size)
        refine hK.out _ _ N (fun hHeld => ?_)
        clear hK K
        try simp only [Act.put, sA, sB, sC]
        rw [← hwp]
        exact met (H3_q q _ k8 N) (by kernel_rfl)
      · go_simp
        have k7 := Box2.new V N.size (.int .i64 0) (.int .i64 0) 38
        have hb := below1 V (.cells #[.int .i64 0, .int .i64 0] 38)
        have g_q := Nat.ne_of_lt k8.lt
        replace k8 := k8.below hb
        replace N := N.trans (hb.mono N.size)
        refine hK.out _ _ N (fun hHeld => ?_)
        clear hK K
        try simp only [Act.put, sA, sB, sC]
        rw [← hwp]
        exact met (H2_pq _ q _ k7 k8 g_q.symm N) (by kernel_rfl)
      · go_simp
        have k9 := Box2.new V N.size (.int .i64 0) (.int .i64 0) 38
        have hb := below1 V (.cells #[.int .i64 0, .int .i64 0] 38)
        have g_q := Nat.ne_of_lt k8.lt
        replace k8 := k8.below hb
        replace N := N.trans (hb.mono N.size)
        refine hK.out _ _ N (fun hHeld => ?_)
        clear hK K
        try simp only [Act.put, sA, sB, sC]
        rw [← hwp]
        exact met (H2_qr q _ _ k8 k9 g_q N) (by kernel_rfl)
    have H2_r : ∀ (r : Nat) (V : World), Box2 W1.heap.size V r (.int .i64 0) (.int .i64 0) → Below W1.heap.size W1 V → wp 6 #[true, true, true, true, true, true, true, true, false, false, false, true, false, false, false] ⟨#[.agg #[.int .i64 X1, .int .i64 Y1], .agg #[.int .i64 X2, .int .i64 Y2], .agg #[.int .i64 X3, .int .i64 Y3], .pointer (some ⟨w.heap.size, 0, none⟩), .pointer (some ⟨w.heap.size + 1, 0, none⟩), .pointer (some ⟨w.heap.size + 1 + 1, 0, none⟩), .pointer (some ⟨w.heap.size + 1 + 1 + 1, 0, none⟩), undef, undef, .pointer (some ⟨r, 0, none⟩), undef, .agg #[.int .i64 X2, .int .i64 Y2], .agg #[.int .i64 X3, .int .i64 Y3], .agg #[.int .i64 (X3 - X2), .int .i64 (Y3 - Y2)], .agg #[.int .i64 X2, .int .i64 Y2], .agg #[.int .i64 X1, .int .i64 Y1], .agg #[.int .i64 (X1 - X2), .int .i64 (Y1 - Y2)], .agg #[.int .i64 X3, .int .i64 Y3], .agg #[.int .i64 X1, .int .i64 Y1], undef, undef, undef, undef, undef, undef, undef, undef, undef, undef, undef, undef, undef, undef, undef, undef, undef, undef, undef, undef, undef, undef, undef, undef, undef, undef, undef, undef, undef, undef, undef, undef, undef, undef], []⟩ V := by
     as_aux_lemma =>
      intro r V k9 N
      have hHeld : Below W1.heap.size W1 V := N
      rw [hwp]
      refine wpAnyH_ready (rs := [8, 9, 10]) (by kernel_rfl) (by simp) (AllReadyH.cons (gt rfl) (fun K hK => ?_) (AllReadyH.cons (gt rfl) (fun K hK => ?_) (AllReadyH.cons (gt rfl) (fun K hK => ?_) AllReadyH.nil)))
      · go_simp
        refine (way_any X3 Y3 X1 Y1 _ (by assumption) (by assumption) (by assumption) (by assumption)).mono ?_
        rintro e1 V' ⟨rfl, hb⟩
        replace k9 := k9.below hb
        replace N := N.trans (hb.mono N.size)
        refine hK.out _ _ N (fun hHeld => ?_)
        clear hK K
        try simp only [Act.put, sA, sB, sC]
        rw [← hwp]
        exact met (H3_r r _ k9 N) (by kernel_rfl)
      · go_simp
        have k7 := Box2.new V N.size (.int .i64 0) (.int .i64 0) 38
        have hb := below1 V (.cells #[.int .i64 0, .int .i64 0] 38)
        have g_r := Nat.ne_of_lt k9.lt
        replace k9 := k9.below hb
        replace N := N.trans (hb.mono N.size)
        refine hK.out _ _ N (fun hHeld => ?_)
        clear hK K
        try simp only [Act.put, sA, sB, sC]
        rw [← hwp]
        exact met (H2_pr _ r _ k7 k9 g_r.symm N) (by kernel_rfl)
      · go_simp
        have k8 := Box2.new V N.size (.int .i64 0) (.int .i64 0) 38
        have hb := below1 V (.cells #[.int .i64 0, .int .i64 0] 38)
        have g_r := Nat.ne_of_lt k9.lt
        replace k9 := k9.below hb
        replace N := N.trans (hb.mono N.size)
        refine hK.out _ _ N (fun hHeld => ?_)
        clear hK K
        try simp only [Act.put, sA, sB, sC]
        rw [← hwp]
        exact met (H2_qr _ r _ k8 k9 g_r.symm N) (by kernel_rfl)
    have H2_ : ∀ (V : World), Below W1.heap.size W1 V → wp 7 #[true, true, true, true, true, true, true, true, false, false, false, false, false, false, false] ⟨#[.agg #[.int .i64 X1, .int .i64 Y1], .agg #[.int .i64 X2, .int .i64 Y2], .agg #[.int .i64 X3, .int .i64 Y3], .pointer (some ⟨w.heap.size, 0, none⟩), .pointer (some ⟨w.heap.size + 1, 0, none⟩), .pointer (some ⟨w.heap.size + 1 + 1, 0, none⟩), .pointer (some ⟨w.heap.size + 1 + 1 + 1, 0, none⟩), undef, undef, undef, undef, .agg #[.int .i64 X2, .int .i64 Y2], .agg #[.int .i64 X3, .int .i64 Y3], .agg #[.int .i64 (X3 - X2), .int .i64 (Y3 - Y2)], .agg #[.int .i64 X2, .int .i64 Y2], .agg #[.int .i64 X1, .int .i64 Y1], .agg #[.int .i64 (X1 - X2), .int .i64 (Y1 - Y2)], .agg #[.int .i64 X3, .int .i64 Y3], .agg #[.int .i64 X1, .int .i64 Y1], undef, undef, undef, undef, undef, undef, undef, undef, undef, undef, undef, undef, undef, undef, undef, undef, undef, undef, undef, undef, undef, undef, undef, undef, undef, undef, undef, undef, undef, undef, undef, undef, undef, undef], []⟩ V := by
     as_aux_lemma =>
      intro V N
      have hHeld : Below W1.heap.size W1 V := N
      rw [hwp]
      refine wpAnyH_ready (rs := [8, 9, 10, 11]) (by kernel_rfl) (by simp) (AllReadyH.cons (gt rfl) (fun K hK => ?_) (AllReadyH.cons (gt rfl) (fun K hK => ?_) (AllReadyH.cons (gt rfl) (fun K hK => ?_) (AllReadyH.cons (gt rfl) (fun K hK => ?_) AllReadyH.nil))))
      · go_simp
        refine (way_any X3 Y3 X1 Y1 _ (by assumption) (by assumption) (by assumption) (by assumption)).mono ?_
        rintro e1 V' ⟨rfl, hb⟩
        replace N := N.trans (hb.mono N.size)
        refine hK.out _ _ N (fun hHeld => ?_)
        clear hK K
        try simp only [Act.put, sA, sB, sC]
        rw [← hwp]
        exact met (H3_ _ N) (by kernel_rfl)
      · go_simp
        have k7 := Box2.new V N.size (.int .i64 0) (.int .i64 0) 38
        have hb := below1 V (.cells #[.int .i64 0, .int .i64 0] 38)
        replace N := N.trans (hb.mono N.size)
        refine hK.out _ _ N (fun hHeld => ?_)
        clear hK K
        try simp only [Act.put, sA, sB, sC]
        rw [← hwp]
        exact met (H2_p _ _ k7 N) (by kernel_rfl)
      · go_simp
        have k8 := Box2.new V N.size (.int .i64 0) (.int .i64 0) 38
        have hb := below1 V (.cells #[.int .i64 0, .int .i64 0] 38)
        replace N := N.trans (hb.mono N.size)
        refine hK.out _ _ N (fun hHeld => ?_)
        clear hK K
        try simp only [Act.put, sA, sB, sC]
        rw [← hwp]
        exact met (H2_q _ _ k8 N) (by kernel_rfl)
      · go_simp
        have k9 := Box2.new V N.size (.int .i64 0) (.int .i64 0) 38
        have hb := below1 V (.cells #[.int .i64 0, .int .i64 0] 38)
        replace N := N.trans (hb.mono N.size)
        refine hK.out _ _ N (fun hHeld => ?_)
        clear hK K
        try simp only [Act.put, sA, sB, sC]
        rw [← hwp]
        exact met (H2_r _ _ k9 N) (by kernel_rfl)
    have H1_pqr : ∀ (p q r : Nat) (V : World), Box2 W1.heap.size V p (.int .i64 0) (.int .i64 0) → Box2 W1.heap.size V q (.int .i64 0) (.int .i64 0) → Box2 W1.heap.size V r (.int .i64 0) (.int .i64 0) → p ≠ q → p ≠ r → q ≠ r → Below W1.heap.size W1 V → wp 5 #[true, true, true, true, true, false, true, true, false, true, true, true, false, false, false] ⟨#[.agg #[.int .i64 X1, .int .i64 Y1], .agg #[.int .i64 X2, .int .i64 Y2], .agg #[.int .i64 X3, .int .i64 Y3], .pointer (some ⟨w.heap.size, 0, none⟩), .pointer (some ⟨w.heap.size + 1, 0, none⟩), .pointer (some ⟨w.heap.size + 1 + 1, 0, none⟩), .pointer (some ⟨w.heap.size + 1 + 1 + 1, 0, none⟩), .pointer (some ⟨p, 0, none⟩), .pointer (some ⟨q, 0, none⟩), .pointer (some ⟨r, 0, none⟩), undef, .agg #[.int .i64 X2, .int .i64 Y2], .agg #[.int .i64 X3, .int .i64 Y3], .agg #[.int .i64 (X3 - X2), .int .i64 (Y3 - Y2)], .agg #[.int .i64 X2, .int .i64 Y2], .agg #[.int .i64 X1, .int .i64 Y1], undef, .agg #[.int .i64 X3, .int .i64 Y3], .agg #[.int .i64 X1, .int .i64 Y1], undef, undef, undef, undef, undef, undef, undef, undef, undef, undef, undef, undef, undef, undef, undef, undef, undef, undef, undef, undef, undef, undef, undef, undef, undef, undef, undef, undef, undef, undef, undef, undef, undef, undef], []⟩ V := by
     as_aux_lemma =>
      intro p q r V k7 k8 k9 n_pq n_pr n_qr N
      have hHeld : Below W1.heap.size W1 V := N
      rw [hwp]
      refine rdA (i := 5) (h := fun K hK => ?_)
      · go_simp
        refine (way_any X2 Y2 X1 Y1 _ (by assumption) (by assumption) (by assumption) (by assumption)).mono ?_
        rintro e1 V' ⟨rfl, hb⟩
        replace k7 := k7.below hb
        replace k8 := k8.below hb
        replace k9 := k9.below hb
        replace N := N.trans (hb.mono N.size)
        refine hK.out _ _ N (fun hHeld => ?_)
        clear hK K
        try simp only [Act.put, sA, sB, sC]
        rw [← hwp]
        exact met (H2_pqr p q r _ k7 k8 k9 n_pq n_pr n_qr N) (by kernel_rfl)
    have H1_pq : ∀ (p q : Nat) (V : World), Box2 W1.heap.size V p (.int .i64 0) (.int .i64 0) → Box2 W1.heap.size V q (.int .i64 0) (.int .i64 0) → p ≠ q → Below W1.heap.size W1 V → wp 6 #[true, true, true, true, true, false, true, true, false, true, true, false, false, false, false] ⟨#[.agg #[.int .i64 X1, .int .i64 Y1], .agg #[.int .i64 X2, .int .i64 Y2], .agg #[.int .i64 X3, .int .i64 Y3], .pointer (some ⟨w.heap.size, 0, none⟩), .pointer (some ⟨w.heap.size + 1, 0, none⟩), .pointer (some ⟨w.heap.size + 1 + 1, 0, none⟩), .pointer (some ⟨w.heap.size + 1 + 1 + 1, 0, none⟩), .pointer (some ⟨p, 0, none⟩), .pointer (some ⟨q, 0, none⟩), undef, undef, .agg #[.int .i64 X2, .int .i64 Y2], .agg #[.int .i64 X3, .int .i64 Y3], .agg #[.int .i64 (X3 - X2), .int .i64 (Y3 - Y2)], .agg #[.int .i64 X2, .int .i64 Y2], .agg #[.int .i64 X1, .int .i64 Y1], undef, .agg #[.int .i64 X3, .int .i64 Y3], .agg #[.int .i64 X1, .int .i64 Y1], undef, undef, undef, undef, undef, undef, undef, undef, undef, undef, undef, undef, undef, undef, undef, undef, undef, undef, undef, undef, undef, undef, undef, undef, undef, undef, undef, undef, undef, undef, undef, undef, undef, undef], []⟩ V := by
     as_aux_lemma =>
      intro p q V k7 k8 n_pq N
      have hHeld : Below W1.heap.size W1 V := N
      rw [hwp]
      refine wpAnyH_ready (rs := [5, 11]) (by kernel_rfl) (by simp) (AllReadyH.cons (gt rfl) (fun K hK => ?_) (AllReadyH.cons (gt rfl) (fun K hK => ?_) AllReadyH.nil))
      · go_simp
        refine (way_any X2 Y2 X1 Y1 _ (by assumption) (by assumption) (by assumption) (by assumption)).mono ?_
        rintro e1 V' ⟨rfl, hb⟩
        replace k7 := k7.below hb
        replace k8 := k8.below hb
        replace N := N.trans (hb.mono N.size)
        refine hK.out _ _ N (fun hHeld => ?_)
        clear hK K
        try simp only [Act.put, sA, sB, sC]
        rw [← hwp]
        exact met (H2_pq p q _ k7 k8 n_pq N) (by kernel_rfl)
      · go_simp
        have k9 := Box2.new V N.size (.int .i64 0) (.int .i64 0) 38
        have hb := below1 V (.cells #[.int .i64 0, .int .i64 0] 38)
        have g_p := Nat.ne_of_lt k7.lt
        replace k7 := k7.below hb
        have g_q := Nat.ne_of_lt k8.lt
        replace k8 := k8.below hb
        replace N := N.trans (hb.mono N.size)
        refine hK.out _ _ N (fun hHeld => ?_)
        clear hK K
        try simp only [Act.put, sA, sB, sC]
        rw [← hwp]
        exact met (H1_pqr p q _ _ k7 k8 k9 n_pq g_p g_q N) (by kernel_rfl)
    have H1_pr : ∀ (p r : Nat) (V : World), Box2 W1.heap.size V p (.int .i64 0) (.int .i64 0) → Box2 W1.heap.size V r (.int .i64 0) (.int .i64 0) → p ≠ r → Below W1.heap.size W1 V → wp 6 #[true, true, true, true, true, false, true, true, false, true, false, true, false, false, false] ⟨#[.agg #[.int .i64 X1, .int .i64 Y1], .agg #[.int .i64 X2, .int .i64 Y2], .agg #[.int .i64 X3, .int .i64 Y3], .pointer (some ⟨w.heap.size, 0, none⟩), .pointer (some ⟨w.heap.size + 1, 0, none⟩), .pointer (some ⟨w.heap.size + 1 + 1, 0, none⟩), .pointer (some ⟨w.heap.size + 1 + 1 + 1, 0, none⟩), .pointer (some ⟨p, 0, none⟩), undef, .pointer (some ⟨r, 0, none⟩), undef, .agg #[.int .i64 X2, .int .i64 Y2], .agg #[.int .i64 X3, .int .i64 Y3], .agg #[.int .i64 (X3 - X2), .int .i64 (Y3 - Y2)], .agg #[.int .i64 X2, .int .i64 Y2], .agg #[.int .i64 X1, .int .i64 Y1], undef, .agg #[.int .i64 X3, .int .i64 Y3], .agg #[.int .i64 X1, .int .i64 Y1], undef, undef, undef, undef, undef, undef, undef, undef, undef, undef, undef, undef, undef, undef, undef, undef, undef, undef, undef, undef, undef, undef, undef, undef, undef, undef, undef, undef, undef, undef, undef, undef, undef, undef], []⟩ V := by
     as_aux_lemma =>
      intro p r V k7 k9 n_pr N
      have hHeld : Below W1.heap.size W1 V := N
      rw [hwp]
      refine wpAnyH_ready (rs := [5, 10]) (by kernel_rfl) (by simp) (AllReadyH.cons (gt rfl) (fun K hK => ?_) (AllReadyH.cons (gt rfl) (fun K hK => ?_) AllReadyH.nil))
      · go_simp
        refine (way_any X2 Y2 X1 Y1 _ (by assumption) (by assumption) (by assumption) (by assumption)).mono ?_
        rintro e1 V' ⟨rfl, hb⟩
        replace k7 := k7.below hb
        replace k9 := k9.below hb
        replace N := N.trans (hb.mono N.size)
        refine hK.out _ _ N (fun hHeld => ?_)
        clear hK K
        try simp only [Act.put, sA, sB, sC]
        rw [← hwp]
        exact met (H2_pr p r _ k7 k9 n_pr N) (by kernel_rfl)
      · go_simp
        have k8 := Box2.new V N.size (.int .i64 0) (.int .i64 0) 38
        have hb := below1 V (.cells #[.int .i64 0, .int .i64 0] 38)
        have g_p := Nat.ne_of_lt k7.lt
        replace k7 := k7.below hb
        have g_r := Nat.ne_of_lt k9.lt
        replace k9 := k9.below hb
        replace N := N.trans (hb.mono N.size)
        refine hK.out _ _ N (fun hHeld => ?_)
        clear hK K
        try simp only [Act.put, sA, sB, sC]
        rw [← hwp]
        exact met (H1_pqr p _ r _ k7 k8 k9 g_p n_pr g_r.symm N) (by kernel_rfl)
    have H1_qr : ∀ (q r : Nat) (V : World), Box2 W1.heap.size V q (.int .i64 0) (.int .i64 0) → Box2 W1.heap.size V r (.int .i64 0) (.int .i64 0) → q ≠ r → Below W1.heap.size W1 V → wp 6 #[true, true, true, true, true, false, true, true, false, false, true, true, false, false, false] ⟨#[.agg #[.int .i64 X1, .int .i64 Y1], .agg #[.int .i64 X2, .int .i64 Y2], .agg #[.int .i64 X3, .int .i64 Y3], .pointer (some ⟨w.heap.size, 0, none⟩), .pointer (some ⟨w.heap.size + 1, 0, none⟩), .pointer (some ⟨w.heap.size + 1 + 1, 0, none⟩), .pointer (some ⟨w.heap.size + 1 + 1 + 1, 0, none⟩), undef, .pointer (some ⟨q, 0, none⟩), .pointer (some ⟨r, 0, none⟩), undef, .agg #[.int .i64 X2, .int .i64 Y2], .agg #[.int .i64 X3, .int .i64 Y3], .agg #[.int .i64 (X3 - X2), .int .i64 (Y3 - Y2)], .agg #[.int .i64 X2, .int .i64 Y2], .agg #[.int .i64 X1, .int .i64 Y1], undef, .agg #[.int .i64 X3, .int .i64 Y3], .agg #[.int .i64 X1, .int .i64 Y1], undef, undef, undef, undef, undef, undef, undef, undef, undef, undef, undef, undef, undef, undef, undef, undef, undef, undef, undef, undef, undef, undef, undef, undef, undef, undef, undef, undef, undef, undef, undef, undef, undef, undef], []⟩ V := by
     as_aux_lemma =>
      intro q r V k8 k9 n_qr N
      have hHeld : Below W1.heap.size W1 V := N
      rw [hwp]
      refine wpAnyH_ready (rs := [5, 9]) (by kernel_rfl) (by simp) (AllReadyH.cons (gt rfl) (fun K hK => ?_) (AllReadyH.cons (gt rfl) (fun K hK => ?_) AllReadyH.nil))
      · go_simp
        refine (way_any X2 Y2 X1 Y1 _ (by assumption) (by assumption) (by assumption) (by assumption)).mono ?_
        rintro e1 V' ⟨rfl, hb⟩
        replace k8 := k8.below hb
        replace k9 := k9.below hb
        replace N := N.trans (hb.mono N.size)
        refine hK.out _ _ N (fun hHeld => ?_)
        clear hK K
        try simp only [Act.put, sA, sB, sC]
        rw [← hwp]
        exact met (H2_qr q r _ k8 k9 n_qr N) (by kernel_rfl)
      · go_simp
        have k7 := Box2.new V N.size (.int .i64 0) (.int .i64 0) 38
        have hb := below1 V (.cells #[.int .i64 0, .int .i64 0] 38)
        have g_q := Nat.ne_of_lt k8.lt
        replace k8 := k8.below hb
        have g_r := Nat.ne_of_lt k9.lt
        replace k9 := k9.below hb
        replace N := N.trans (hb.mono N.size)
        refine hK.out _ _ N (fun hHeld => ?_)
        clear hK K
        try simp only [Act.put, sA, sB, sC]
        rw [← hwp]
        exact met (H1_pqr _ q r _ k7 k8 k9 g_q.symm g_r.symm n_qr N) (by kernel_rfl)
    have H1_p : ∀ (p : Nat) (V : World), Box2 W1.heap.size V p (.int .i64 0) (.int .i64 0) → Below W1.heap.size W1 V → wp 7 #[true, true, true, true, true, false, true, true, false, true, false, false, false, false, false] ⟨#[.agg #[.int .i64 X1, .int .i64 Y1], .agg #[.int .i64 X2, .int .i64 Y2], .agg #[.int .i64 X3, .int .i64 Y3], .pointer (some ⟨w.heap.size, 0, none⟩), .pointer (some ⟨w.heap.size + 1, 0, none⟩), .pointer (some ⟨w.heap.size + 1 + 1, 0, none⟩), .pointer (some ⟨w.heap.size + 1 + 1 + 1, 0, none⟩), .pointer (some ⟨p, 0, none⟩), undef, undef, undef, .agg #[.int .i64 X2, .int .i64 Y2], .agg #[.int .i64 X3, .int .i64 Y3], .agg #[.int .i64 (X3 - X2), .int .i64 (Y3 - Y2)], .agg #[.int .i64 X2, .int .i64 Y2], .agg #[.int .i64 X1, .int .i64 Y1], undef, .agg #[.int .i64 X3, .int .i64 Y3], .agg #[.int .i64 X1, .int .i64 Y1], undef, undef, undef, undef, undef, undef, undef, undef, undef, undef, undef, undef, undef, undef, undef, undef, undef, undef, undef, undef, undef, undef, undef, undef, undef, undef, undef, undef, undef, undef, undef, undef, undef, undef], []⟩ V := by
     as_aux_lemma =>
      intro p V k7 N
      have hHeld : Below W1.heap.size W1 V := N
      rw [hwp]
      refine wpAnyH_ready (rs := [5, 10, 11]) (by kernel_rfl) (by simp) (AllReadyH.cons (gt rfl) (fun K hK => ?_) (AllReadyH.cons (gt rfl) (fun K hK => ?_) (AllReadyH.cons (gt rfl) (fun K hK => ?_) AllReadyH.nil)))
      · go_simp
        refine (way_any X2 Y2 X1 Y1 _ (by assumption) (by assumption) (by assumption) (by assumption)).mono ?_
        rintro e1 V' ⟨rfl, hb⟩
        replace k7 := k7.below hb
        replace N := N.trans (hb.mono N.size)
        refine hK.out _ _ N (fun hHeld => ?_)
        clear hK K
        try simp only [Act.put, sA, sB, sC]
        rw [← hwp]
        exact met (H2_p p _ k7 N) (by kernel_rfl)
      · go_simp
        have k8 := Box2.new V N.size (.int .i64 0) (.int .i64 0) 38
        have hb := below1 V (.cells #[.int .i64 0, .int .i64 0] 38)
        have g_p := Nat.ne_of_lt k7.lt
        replace k7 := k7.below hb
        replace N := N.trans (hb.mono N.size)
        refine hK.out _ _ N (fun hHeld => ?_)
        clear hK K
        try simp only [Act.put, sA, sB, sC]
        rw [← hwp]
        exact met (H1_pq p _ _ k7 k8 g_p N) (by kernel_rfl)
      · go_simp
        have k9 := Box2.new V N.size (.int .i64 0) (.int .i64 0) 38
        have hb := below1 V (.cells #[.int .i64 0, .int .i64 0] 38)
        have g_p := Nat.ne_of_lt k7.lt
        replace k7 := k7.below hb
        replace N := N.trans (hb.mono N.size)
        refine hK.out _ _ N (fun hHeld => ?_)
        clear hK K
        try simp only [Act.put, sA, sB, sC]
        rw [← hwp]
        exact met (H1_pr p _ _ k7 k9 g_p N) (by kernel_rfl)
    have H1_q : ∀ (q : Nat) (V : World), Box2 W1.heap.size V q (.int .i64 0) (.int .i64 0) → Below W1.heap.size W1 V → wp 7 #[true, true, true, true, true, false, true, true, false, false, true, false, false, false, false] ⟨#[.agg #[.int .i64 X1, .int .i64 Y1], .agg #[.int .i64 X2, .int .i64 Y2], .agg #[.int .i64 X3, .int .i64 Y3], .pointer (some ⟨w.heap.size, 0, none⟩), .pointer (some ⟨w.heap.size + 1, 0, none⟩), .pointer (some ⟨w.heap.size + 1 + 1, 0, none⟩), .pointer (some ⟨w.heap.size + 1 + 1 + 1, 0, none⟩), undef, .pointer (some ⟨q, 0, none⟩), undef, undef, .agg #[.int .i64 X2, .int .i64 Y2], .agg #[.int .i64 X3, .int .i64 Y3], .agg #[.int .i64 (X3 - X2), .int .i64 (Y3 - Y2)], .agg #[.int .i64 X2, .int .i64 Y2], .agg #[.int .i64 X1, .int .i64 Y1], undef, .agg #[.int .i64 X3, .int .i64 Y3], .agg #[.int .i64 X1, .int .i64 Y1], undef, undef, undef, undef, undef, undef, undef, undef, undef, undef, undef, undef, undef, undef, undef, undef, undef, undef, undef, undef, undef, undef, undef, undef, undef, undef, undef, undef, undef, undef, undef, undef, undef, undef], []⟩ V := by
     as_aux_lemma =>
      intro q V k8 N
      have hHeld : Below W1.heap.size W1 V := N
      rw [hwp]
      refine wpAnyH_ready (rs := [5, 9, 11]) (by kernel_rfl) (by simp) (AllReadyH.cons (gt rfl) (fun K hK => ?_) (AllReadyH.cons (gt rfl) (fun K hK => ?_) (AllReadyH.cons (gt rfl) (fun K hK => ?_) AllReadyH.nil)))
      · go_simp
        refine (way_any X2 Y2 X1 Y1 _ (by assumption) (by assumption) (by assumption) (by assumption)).mono ?_
        rintro e1 V' ⟨rfl, hb⟩
        replace k8 := k8.below hb
        replace N := N.trans (hb.mono N.size)
        refine hK.out _ _ N (fun hHeld => ?_)
        clear hK K
        try simp only [Act.put, sA, sB, sC]
        rw [← hwp]
        exact met (H2_q q _ k8 N) (by kernel_rfl)
      · go_simp
        have k7 := Box2.new V N.size (.int .i64 0) (.int .i64 0) 38
        have hb := below1 V (.cells #[.int .i64 0, .int .i64 0] 38)
        have g_q := Nat.ne_of_lt k8.lt
        replace k8 := k8.below hb
        replace N := N.trans (hb.mono N.size)
        refine hK.out _ _ N (fun hHeld => ?_)
        clear hK K
        try simp only [Act.put, sA, sB, sC]
        rw [← hwp]
        exact met (H1_pq _ q _ k7 k8 g_q.symm N) (by kernel_rfl)
      · go_simp
        have k9 := Box2.new V N.size (.int .i64 0) (.int .i64 0) 38
        have hb := below1 V (.cells #[.int .i64 0, .int .i64 0] 38)
        have g_q := Nat.ne_of_lt k8.lt
        replace k8 := k8.below hb
        replace N := N.trans (hb.mono N.size)
        refine hK.out _ _ N (fun hHeld => ?_)
        clear hK K
        try simp only [Act.put, sA, sB, sC]
        rw [← hwp]
        exact met (H1_qr q _ _ k8 k9 g_q N) (by kernel_rfl)
    have H1_r : ∀ (r : Nat) (V : World), Box2 W1.heap.size V r (.int .i64 0) (.int .i64 0) → Below W1.heap.size W1 V → wp 7 #[true, true, true, true, true, false, true, true, false, false, false, true, false, false, false] ⟨#[.agg #[.int .i64 X1, .int .i64 Y1], .agg #[.int .i64 X2, .int .i64 Y2], .agg #[.int .i64 X3, .int .i64 Y3], .pointer (some ⟨w.heap.size, 0, none⟩), .pointer (some ⟨w.heap.size + 1, 0, none⟩), .pointer (some ⟨w.heap.size + 1 + 1, 0, none⟩), .pointer (some ⟨w.heap.size + 1 + 1 + 1, 0, none⟩), undef, undef, .pointer (some ⟨r, 0, none⟩), undef, .agg #[.int .i64 X2, .int .i64 Y2], .agg #[.int .i64 X3, .int .i64 Y3], .agg #[.int .i64 (X3 - X2), .int .i64 (Y3 - Y2)], .agg #[.int .i64 X2, .int .i64 Y2], .agg #[.int .i64 X1, .int .i64 Y1], undef, .agg #[.int .i64 X3, .int .i64 Y3], .agg #[.int .i64 X1, .int .i64 Y1], undef, undef, undef, undef, undef, undef, undef, undef, undef, undef, undef, undef, undef, undef, undef, undef, undef, undef, undef, undef, undef, undef, undef, undef, undef, undef, undef, undef, undef, undef, undef, undef, undef, undef], []⟩ V := by
     as_aux_lemma =>
      intro r V k9 N
      have hHeld : Below W1.heap.size W1 V := N
      rw [hwp]
      refine wpAnyH_ready (rs := [5, 9, 10]) (by kernel_rfl) (by simp) (AllReadyH.cons (gt rfl) (fun K hK => ?_) (AllReadyH.cons (gt rfl) (fun K hK => ?_) (AllReadyH.cons (gt rfl) (fun K hK => ?_) AllReadyH.nil)))
      · go_simp
        refine (way_any X2 Y2 X1 Y1 _ (by assumption) (by assumption) (by assumption) (by assumption)).mono ?_
        rintro e1 V' ⟨rfl, hb⟩
        replace k9 := k9.below hb
        replace N := N.trans (hb.mono N.size)
        refine hK.out _ _ N (fun hHeld => ?_)
        clear hK K
        try simp only [Act.put, sA, sB, sC]
        rw [← hwp]
        exact met (H2_r r _ k9 N) (by kernel_rfl)
      · go_simp
        have k7 := Box2.new V N.size (.int .i64 0) (.int .i64 0) 38
        have hb := below1 V (.cells #[.int .i64 0, .int .i64 0] 38)
        have g_r := Nat.ne_of_lt k9.lt
        replace k9 := k9.below hb
        replace N := N.trans (hb.mono N.size)
        refine hK.out _ _ N (fun hHeld => ?_)
        clear hK K
        try simp only [Act.put, sA, sB, sC]
        rw [← hwp]
        exact met (H1_pr _ r _ k7 k9 g_r.symm N) (by kernel_rfl)
      · go_simp
        have k8 := Box2.new V N.size (.int .i64 0) (.int .i64 0) 38
        have hb := below1 V (.cells #[.int .i64 0, .int .i64 0] 38)
        have g_r := Nat.ne_of_lt k9.lt
        replace k9 := k9.below hb
        replace N := N.trans (hb.mono N.size)
        refine hK.out _ _ N (fun hHeld => ?_)
        clear hK K
        try simp only [Act.put, sA, sB, sC]
        rw [← hwp]
        exact met (H1_qr _ r _ k8 k9 g_r.symm N) (by kernel_rfl)
    have H1_ : ∀ (V : World), Below W1.heap.size W1 V → wp 8 #[true, true, true, true, true, false, true, true, false, false, false, false, false, false, false] ⟨#[.agg #[.int .i64 X1, .int .i64 Y1], .agg #[.int .i64 X2, .int .i64 Y2], .agg #[.int .i64 X3, .int .i64 Y3], .pointer (some ⟨w.heap.size, 0, none⟩), .pointer (some ⟨w.heap.size + 1, 0, none⟩), .pointer (some ⟨w.heap.size + 1 + 1, 0, none⟩), .pointer (some ⟨w.heap.size + 1 + 1 + 1, 0, none⟩), undef, undef, undef, undef, .agg #[.int .i64 X2, .int .i64 Y2], .agg #[.int .i64 X3, .int .i64 Y3], .agg #[.int .i64 (X3 - X2), .int .i64 (Y3 - Y2)], .agg #[.int .i64 X2, .int .i64 Y2], .agg #[.int .i64 X1, .int .i64 Y1], undef, .agg #[.int .i64 X3, .int .i64 Y3], .agg #[.int .i64 X1, .int .i64 Y1], undef, undef, undef, undef, undef, undef, undef, undef, undef, undef, undef, undef, undef, undef, undef, undef, undef, undef, undef, undef, undef, undef, undef, undef, undef, undef, undef, undef, undef, undef, undef, undef, undef, undef], []⟩ V := by
     as_aux_lemma =>
      intro V N
      have hHeld : Below W1.heap.size W1 V := N
      rw [hwp]
      refine wpAnyH_ready (rs := [5, 9, 10, 11]) (by kernel_rfl) (by simp) (AllReadyH.cons (gt rfl) (fun K hK => ?_) (AllReadyH.cons (gt rfl) (fun K hK => ?_) (AllReadyH.cons (gt rfl) (fun K hK => ?_) (AllReadyH.cons (gt rfl) (fun K hK => ?_) AllReadyH.nil))))
      · go_simp
        refine (way_any X2 Y2 X1 Y1 _ (by assumption) (by assumption) (by assumption) (by assumption)).mono ?_
        rintro e1 V' ⟨rfl, hb⟩
        replace N := N.trans (hb.mono N.size)
        refine hK.out _ _ N (fun hHeld => ?_)
        clear hK K
        try simp only [Act.put, sA, sB, sC]
        rw [← hwp]
        exact met (H2_ _ N) (by kernel_rfl)
      · go_simp
        have k7 := Box2.new V N.size (.int .i64 0) (.int .i64 0) 38
        have hb := below1 V (.cells #[.int .i64 0, .int .i64 0] 38)
        replace N := N.trans (hb.mono N.size)
        refine hK.out _ _ N (fun hHeld => ?_)
        clear hK K
        try simp only [Act.put, sA, sB, sC]
        rw [← hwp]
        exact met (H1_p _ _ k7 N) (by kernel_rfl)
      · go_simp
        have k8 := Box2.new V N.size (.int .i64 0) (.int .i64 0) 38
        have hb := below1 V (.cells #[.int .i64 0, .int .i64 0] 38)
        replace N := N.trans (hb.mono N.size)
        refine hK.out _ _ N (fun hHeld => ?_)
        clear hK K
        try simp only [Act.put, sA, sB, sC]
        rw [← hwp]
        exact met (H1_q _ _ k8 N) (by kernel_rfl)
      · go_simp
        have k9 := Box2.new V N.size (.int .i64 0) (.int .i64 0) 38
        have hb := below1 V (.cells #[.int .i64 0, .int .i64 0] 38)
        replace N := N.trans (hb.mono N.size)
        refine hK.out _ _ N (fun hHeld => ?_)
        clear hK K
        try simp only [Act.put, sA, sB, sC]
        rw [← hwp]
        exact met (H1_r _ _ k9 N) (by kernel_rfl)
    have H0_pqr : ∀ (p q r : Nat) (V : World), Box2 W1.heap.size V p (.int .i64 0) (.int .i64 0) → Box2 W1.heap.size V q (.int .i64 0) (.int .i64 0) → Box2 W1.heap.size V r (.int .i64 0) (.int .i64 0) → p ≠ q → p ≠ r → q ≠ r → Below W1.heap.size W1 V → wp 6 #[true, true, false, true, true, false, true, true, false, true, true, true, false, false, false] ⟨#[.agg #[.int .i64 X1, .int .i64 Y1], .agg #[.int .i64 X2, .int .i64 Y2], .agg #[.int .i64 X3, .int .i64 Y3], .pointer (some ⟨w.heap.size, 0, none⟩), .pointer (some ⟨w.heap.size + 1, 0, none⟩), .pointer (some ⟨w.heap.size + 1 + 1, 0, none⟩), .pointer (some ⟨w.heap.size + 1 + 1 + 1, 0, none⟩), .pointer (some ⟨p, 0, none⟩), .pointer (some ⟨q, 0, none⟩), .pointer (some ⟨r, 0, none⟩), undef, .agg #[.int .i64 X2, .int .i64 Y2], .agg #[.int .i64 X3, .int .i64 Y3], undef, .agg #[.int .i64 X2, .int .i64 Y2], .agg #[.int .i64 X1, .int .i64 Y1], undef, .agg #[.int .i64 X3, .int .i64 Y3], .agg #[.int .i64 X1, .int .i64 Y1], undef, undef, undef, undef, undef, undef, undef, undef, undef, undef, undef, undef, undef, undef, undef, undef, undef, undef, undef, undef, undef, undef, undef, undef, undef, undef, undef, undef, undef, undef, undef, undef, undef, undef], []⟩ V := by
     as_aux_lemma =>
      intro p q r V k7 k8 k9 n_pq n_pr n_qr N
      have hHeld : Below W1.heap.size W1 V := N
      rw [hwp]
      refine rdA (i := 2) (h := fun K hK => ?_)
      · go_simp
        refine (way_any X2 Y2 X3 Y3 _ (by assumption) (by assumption) (by assumption) (by assumption)).mono ?_
        rintro e1 V' ⟨rfl, hb⟩
        replace k7 := k7.below hb
        replace k8 := k8.below hb
        replace k9 := k9.below hb
        replace N := N.trans (hb.mono N.size)
        refine hK.out _ _ N (fun hHeld => ?_)
        clear hK K
        try simp only [Act.put, sA, sB, sC]
        rw [← hwp]
        exact met (H1_pqr p q r _ k7 k8 k9 n_pq n_pr n_qr N) (by kernel_rfl)
    have H0_pq : ∀ (p q : Nat) (V : World), Box2 W1.heap.size V p (.int .i64 0) (.int .i64 0) → Box2 W1.heap.size V q (.int .i64 0) (.int .i64 0) → p ≠ q → Below W1.heap.size W1 V → wp 7 #[true, true, false, true, true, false, true, true, false, true, true, false, false, false, false] ⟨#[.agg #[.int .i64 X1, .int .i64 Y1], .agg #[.int .i64 X2, .int .i64 Y2], .agg #[.int .i64 X3, .int .i64 Y3], .pointer (some ⟨w.heap.size, 0, none⟩), .pointer (some ⟨w.heap.size + 1, 0, none⟩), .pointer (some ⟨w.heap.size + 1 + 1, 0, none⟩), .pointer (some ⟨w.heap.size + 1 + 1 + 1, 0, none⟩), .pointer (some ⟨p, 0, none⟩), .pointer (some ⟨q, 0, none⟩), undef, undef, .agg #[.int .i64 X2, .int .i64 Y2], .agg #[.int .i64 X3, .int .i64 Y3], undef, .agg #[.int .i64 X2, .int .i64 Y2], .agg #[.int .i64 X1, .int .i64 Y1], undef, .agg #[.int .i64 X3, .int .i64 Y3], .agg #[.int .i64 X1, .int .i64 Y1], undef, undef, undef, undef, undef, undef, undef, undef, undef, undef, undef, undef, undef, undef, undef, undef, undef, undef, undef, undef, undef, undef, undef, undef, undef, undef, undef, undef, undef, undef, undef, undef, undef, undef], []⟩ V := by
     as_aux_lemma =>
      intro p q V k7 k8 n_pq N
      have hHeld : Below W1.heap.size W1 V := N
      rw [hwp]
      refine wpAnyH_ready (rs := [2, 11]) (by kernel_rfl) (by simp) (AllReadyH.cons (gt rfl) (fun K hK => ?_) (AllReadyH.cons (gt rfl) (fun K hK => ?_) AllReadyH.nil))
      · go_simp
        refine (way_any X2 Y2 X3 Y3 _ (by assumption) (by assumption) (by assumption) (by assumption)).mono ?_
        rintro e1 V' ⟨rfl, hb⟩
        replace k7 := k7.below hb
        replace k8 := k8.below hb
        replace N := N.trans (hb.mono N.size)
        refine hK.out _ _ N (fun hHeld => ?_)
        clear hK K
        try simp only [Act.put, sA, sB, sC]
        rw [← hwp]
        exact met (H1_pq p q _ k7 k8 n_pq N) (by kernel_rfl)
      · go_simp
        have k9 := Box2.new V N.size (.int .i64 0) (.int .i64 0) 38
        have hb := below1 V (.cells #[.int .i64 0, .int .i64 0] 38)
        have g_p := Nat.ne_of_lt k7.lt
        replace k7 := k7.below hb
        have g_q := Nat.ne_of_lt k8.lt
        replace k8 := k8.below hb
        replace N := N.trans (hb.mono N.size)
        refine hK.out _ _ N (fun hHeld => ?_)
        clear hK K
        try simp only [Act.put, sA, sB, sC]
        rw [← hwp]
        exact met (H0_pqr p q _ _ k7 k8 k9 n_pq g_p g_q N) (by kernel_rfl)
    have H0_pr : ∀ (p r : Nat) (V : World), Box2 W1.heap.size V p (.int .i64 0) (.int .i64 0) → Box2 W1.heap.size V r (.int .i64 0) (.int .i64 0) → p ≠ r → Below W1.heap.size W1 V → wp 7 #[true, true, false, true, true, false, true, true, false, true, false, true, false, false, false] ⟨#[.agg #[.int .i64 X1, .int .i64 Y1], .agg #[.int .i64 X2, .int .i64 Y2], .agg #[.int .i64 X3, .int .i64 Y3], .pointer (some ⟨w.heap.size, 0, none⟩), .pointer (some ⟨w.heap.size + 1, 0, none⟩), .pointer (some ⟨w.heap.size + 1 + 1, 0, none⟩), .pointer (some ⟨w.heap.size + 1 + 1 + 1, 0, none⟩), .pointer (some ⟨p, 0, none⟩), undef, .pointer (some ⟨r, 0, none⟩), undef, .agg #[.int .i64 X2, .int .i64 Y2], .agg #[.int .i64 X3, .int .i64 Y3], undef, .agg #[.int .i64 X2, .int .i64 Y2], .agg #[.int .i64 X1, .int .i64 Y1], undef, .agg #[.int .i64 X3, .int .i64 Y3], .agg #[.int .i64 X1, .int .i64 Y1], undef, undef, undef, undef, undef, undef, undef, undef, undef, undef, undef, undef, undef, undef, undef, undef, undef, undef, undef, undef, undef, undef, undef, undef, undef, undef, undef, undef, undef, undef, undef, undef, undef, undef], []⟩ V := by
     as_aux_lemma =>
      intro p r V k7 k9 n_pr N
      have hHeld : Below W1.heap.size W1 V := N
      rw [hwp]
      refine wpAnyH_ready (rs := [2, 10]) (by kernel_rfl) (by simp) (AllReadyH.cons (gt rfl) (fun K hK => ?_) (AllReadyH.cons (gt rfl) (fun K hK => ?_) AllReadyH.nil))
      · go_simp
        refine (way_any X2 Y2 X3 Y3 _ (by assumption) (by assumption) (by assumption) (by assumption)).mono ?_
        rintro e1 V' ⟨rfl, hb⟩
        replace k7 := k7.below hb
        replace k9 := k9.below hb
        replace N := N.trans (hb.mono N.size)
        refine hK.out _ _ N (fun hHeld => ?_)
        clear hK K
        try simp only [Act.put, sA, sB, sC]
        rw [← hwp]
        exact met (H1_pr p r _ k7 k9 n_pr N) (by kernel_rfl)
      · go_simp
        have k8 := Box2.new V N.size (.int .i64 0) (.int .i64 0) 38
        have hb := below1 V (.cells #[.int .i64 0, .int .i64 0] 38)
        have g_p := Nat.ne_of_lt k7.lt
        replace k7 := k7.below hb
        have g_r := Nat.ne_of_lt k9.lt
        replace k9 := k9.below hb
        replace N := N.trans (hb.mono N.size)
        refine hK.out _ _ N (fun hHeld => ?_)
        clear hK K
        try simp only [Act.put, sA, sB, sC]
        rw [← hwp]
        exact met (H0_pqr p _ r _ k7 k8 k9 g_p n_pr g_r.symm N) (by kernel_rfl)
    have H0_qr : ∀ (q r : Nat) (V : World), Box2 W1.heap.size V q (.int .i64 0) (.int .i64 0) → Box2 W1.heap.size V r (.int .i64 0) (.int .i64 0) → q ≠ r → Below W1.heap.size W1 V → wp 7 #[true, true, false, true, true, false, true, true, false, false, true, true, false, false, false] ⟨#[.agg #[.int .i64 X1, .int .i64 Y1], .agg #[.int .i64 X2, .int .i64 Y2], .agg #[.int .i64 X3, .int .i64 Y3], .pointer (some ⟨w.heap.size, 0, none⟩), .pointer (some ⟨w.heap.size + 1, 0, none⟩), .pointer (some ⟨w.heap.size + 1 + 1, 0, none⟩), .pointer (some ⟨w.heap.size + 1 + 1 + 1, 0, none⟩), undef, .pointer (some ⟨q, 0, none⟩), .pointer (some ⟨r, 0, none⟩), undef, .agg #[.int .i64 X2, .int .i64 Y2], .agg #[.int .i64 X3, .int .i64 Y3], undef, .agg #[.int .i64 X2, .int .i64 Y2], .agg #[.int .i64 X1, .int .i64 Y1], undef, .agg #[.int .i64 X3, .int .i64 Y3], .agg #[.int .i64 X1, .int .i64 Y1], undef, undef, undef, undef, undef, undef, undef, undef, undef, undef, undef, undef, undef, undef, undef, undef, undef, undef, undef, undef, undef, undef, undef, undef, undef, undef, undef, undef, undef, undef, undef, undef, undef, undef], []⟩ V := by
     as_aux_lemma =>
      intro q r V k8 k9 n_qr N
      have hHeld : Below W1.heap.size W1 V := N
      rw [hwp]
      refine wpAnyH_ready (rs := [2, 9]) (by kernel_rfl) (by simp) (AllReadyH.cons (gt rfl) (fun K hK => ?_) (AllReadyH.cons (gt rfl) (fun K hK => ?_) AllReadyH.nil))
      · go_simp
        refine (way_any X2 Y2 X3 Y3 _ (by assumption) (by assumption) (by assumption) (by assumption)).mono ?_
        rintro e1 V' ⟨rfl, hb⟩
        replace k8 := k8.below hb
        replace k9 := k9.below hb
        replace N := N.trans (hb.mono N.size)
        refine hK.out _ _ N (fun hHeld => ?_)
        clear hK K
        try simp only [Act.put, sA, sB, sC]
        rw [← hwp]
        exact met (H1_qr q r _ k8 k9 n_qr N) (by kernel_rfl)
      · go_simp
        have k7 := Box2.new V N.size (.int .i64 0) (.int .i64 0) 38
        have hb := below1 V (.cells #[.int .i64 0, .int .i64 0] 38)
        have g_q := Nat.ne_of_lt k8.lt
        replace k8 := k8.below hb
        have g_r := Nat.ne_of_lt k9.lt
        replace k9 := k9.below hb
        replace N := N.trans (hb.mono N.size)
        refine hK.out _ _ N (fun hHeld => ?_)
        clear hK K
        try simp only [Act.put, sA, sB, sC]
        rw [← hwp]
        exact met (H0_pqr _ q r _ k7 k8 k9 g_q.symm g_r.symm n_qr N) (by kernel_rfl)
    have H0_p : ∀ (p : Nat) (V : World), Box2 W1.heap.size V p (.int .i64 0) (.int .i64 0) → Below W1.heap.size W1 V → wp 8 #[true, true, false, true, true, false, true, true, false, true, false, false, false, false, false] ⟨#[.agg #[.int .i64 X1, .int .i64 Y1], .agg #[.int .i64 X2, .int .i64 Y2], .agg #[.int .i64 X3, .int .i64 Y3], .pointer (some ⟨w.heap.size, 0, none⟩), .pointer (some ⟨w.heap.size + 1, 0, none⟩), .pointer (some ⟨w.heap.size + 1 + 1, 0, none⟩), .pointer (some ⟨w.heap.size + 1 + 1 + 1, 0, none⟩), .pointer (some ⟨p, 0, none⟩), undef, undef, undef, .agg #[.int .i64 X2, .int .i64 Y2], .agg #[.int .i64 X3, .int .i64 Y3], undef, .agg #[.int .i64 X2, .int .i64 Y2], .agg #[.int .i64 X1, .int .i64 Y1], undef, .agg #[.int .i64 X3, .int .i64 Y3], .agg #[.int .i64 X1, .int .i64 Y1], undef, undef, undef, undef, undef, undef, undef, undef, undef, undef, undef, undef, undef, undef, undef, undef, undef, undef, undef, undef, undef, undef, undef, undef, undef, undef, undef, undef, undef, undef, undef, undef, undef, undef], []⟩ V := by
     as_aux_lemma =>
      intro p V k7 N
      have hHeld : Below W1.heap.size W1 V := N
      rw [hwp]
      refine wpAnyH_ready (rs := [2, 10, 11]) (by kernel_rfl) (by simp) (AllReadyH.cons (gt rfl) (fun K hK => ?_) (AllReadyH.cons (gt rfl) (fun K hK => ?_) (AllReadyH.cons (gt rfl) (fun K hK => ?_) AllReadyH.nil)))
      · go_simp
        refine (way_any X2 Y2 X3 Y3 _ (by assumption) (by assumption) (by assumption) (by assumption)).mono ?_
        rintro e1 V' ⟨rfl, hb⟩
        replace k7 := k7.below hb
        replace N := N.trans (hb.mono N.size)
        refine hK.out _ _ N (fun hHeld => ?_)
        clear hK K
        try simp only [Act.put, sA, sB, sC]
        rw [← hwp]
        exact met (H1_p p _ k7 N) (by kernel_rfl)
      · go_simp
        have k8 := Box2.new V N.size (.int .i64 0) (.int .i64 0) 38
        have hb := below1 V (.cells #[.int .i64 0, .int .i64 0] 38)
        have g_p := Nat.ne_of_lt k7.lt
        replace k7 := k7.below hb
        replace N := N.trans (hb.mono N.size)
        refine hK.out _ _ N (fun hHeld => ?_)
        clear hK K
        try simp only [Act.put, sA, sB, sC]
        rw [← hwp]
        exact met (H0_pq p _ _ k7 k8 g_p N) (by kernel_rfl)
      · go_simp
        have k9 := Box2.new V N.size (.int .i64 0) (.int .i64 0) 38
        have hb := below1 V (.cells #[.int .i64 0, .int .i64 0] 38)
        have g_p := Nat.ne_of_lt k7.lt
        replace k7 := k7.below hb
        replace N := N.trans (hb.mono N.size)
        refine hK.out _ _ N (fun hHeld => ?_)
        clear hK K
        try simp only [Act.put, sA, sB, sC]
        rw [← hwp]
        exact met (H0_pr p _ _ k7 k9 g_p N) (by kernel_rfl)
    have H0_q : ∀ (q : Nat) (V : World), Box2 W1.heap.size V q (.int .i64 0) (.int .i64 0) → Below W1.heap.size W1 V → wp 8 #[true, true, false, true, true, false, true, true, false, false, true, false, false, false, false] ⟨#[.agg #[.int .i64 X1, .int .i64 Y1], .agg #[.int .i64 X2, .int .i64 Y2], .agg #[.int .i64 X3, .int .i64 Y3], .pointer (some ⟨w.heap.size, 0, none⟩), .pointer (some ⟨w.heap.size + 1, 0, none⟩), .pointer (some ⟨w.heap.size + 1 + 1, 0, none⟩), .pointer (some ⟨w.heap.size + 1 + 1 + 1, 0, none⟩), undef, .pointer (some ⟨q, 0, none⟩), undef, undef, .agg #[.int .i64 X2, .int .i64 Y2], .agg #[.int .i64 X3, .int .i64 Y3], undef, .agg #[.int .i64 X2, .int .i64 Y2], .agg #[.int .i64 X1, .int .i64 Y1], undef, .agg #[.int .i64 X3, .int .i64 Y3], .agg #[.int .i64 X1, .int .i64 Y1], undef, undef, undef, undef, undef, undef, undef, undef, undef, undef, undef, undef, undef, undef, undef, undef, undef, undef, undef, undef, undef, undef, undef, undef, undef, undef, undef, undef, undef, undef, undef, undef, undef, undef], []⟩ V := by
     as_aux_lemma =>
      intro q V k8 N
      have hHeld : Below W1.heap.size W1 V := N
      rw [hwp]
      refine wpAnyH_ready (rs := [2, 9, 11]) (by kernel_rfl) (by simp) (AllReadyH.cons (gt rfl) (fun K hK => ?_) (AllReadyH.cons (gt rfl) (fun K hK => ?_) (AllReadyH.cons (gt rfl) (fun K hK => ?_) AllReadyH.nil)))
      · go_simp
        refine (way_any X2 Y2 X3 Y3 _ (by assumption) (by assumption) (by assumption) (by assumption)).mono ?_
        rintro e1 V' ⟨rfl, hb⟩
        replace k8 := k8.below hb
        replace N := N.trans (hb.mono N.size)
        refine hK.out _ _ N (fun hHeld => ?_)
        clear hK K
        try simp only [Act.put, sA, sB, sC]
        rw [← hwp]
        exact met (H1_q q _ k8 N) (by kernel_rfl)
      · go_simp
        have k7 := Box2.new V N.size (.int .i64 0) (.int .i64 0) 38
        have hb := below1 V (.cells #[.int .i64 0, .int .i64 0] 38)
        have g_q := Nat.ne_of_lt k8.lt
        replace k8 := k8.below hb
        replace N := N.trans (hb.mono N.size)
        refine hK.out _ _ N (fun hHeld => ?_)
        clear hK K
        try simp only [Act.put, sA, sB, sC]
        rw [← hwp]
        exact met (H0_pq _ q _ k7 k8 g_q.symm N) (by kernel_rfl)
      · go_simp
        have k9 := Box2.new V N.size (.int .i64 0) (.int .i64 0) 38
        have hb := below1 V (.cells #[.int .i64 0, .int .i64 0] 38)
        have g_q := Nat.ne_of_lt k8.lt
        replace k8 := k8.below hb
        replace N := N.trans (hb.mono N.size)
        refine hK.out _ _ N (fun hHeld => ?_)
        clear hK K
        try simp only [Act.put, sA, sB, sC]
        rw [← hwp]
        exact met (H0_qr q _ _ k8 k9 g_q N) (by kernel_rfl)
    have H0_r : ∀ (r : Nat) (V : World), Box2 W1.heap.size V r (.int .i64 0) (.int .i64 0) → Below W1.heap.size W1 V → wp 8 #[true, true, false, true, true, false, true, true, false, false, false, true, false, false, false] ⟨#[.agg #[.int .i64 X1, .int .i64 Y1], .agg #[.int .i64 X2, .int .i64 Y2], .agg #[.int .i64 X3, .int .i64 Y3], .pointer (some ⟨w.heap.size, 0, none⟩), .pointer (some ⟨w.heap.size + 1, 0, none⟩), .pointer (some ⟨w.heap.size + 1 + 1, 0, none⟩), .pointer (some ⟨w.heap.size + 1 + 1 + 1, 0, none⟩), undef, undef, .pointer (some ⟨r, 0, none⟩), undef, .agg #[.int .i64 X2, .int .i64 Y2], .agg #[.int .i64 X3, .int .i64 Y3], undef, .agg #[.int .i64 X2, .int .i64 Y2], .agg #[.int .i64 X1, .int .i64 Y1], undef, .agg #[.int .i64 X3, .int .i64 Y3], .agg #[.int .i64 X1, .int .i64 Y1], undef, undef, undef, undef, undef, undef, undef, undef, undef, undef, undef, undef, undef, undef, undef, undef, undef, undef, undef, undef, undef, undef, undef, undef, undef, undef, undef, undef, undef, undef, undef, undef, undef, undef], []⟩ V := by
     as_aux_lemma =>
      intro r V k9 N
      have hHeld : Below W1.heap.size W1 V := N
      rw [hwp]
      refine wpAnyH_ready (rs := [2, 9, 10]) (by kernel_rfl) (by simp) (AllReadyH.cons (gt rfl) (fun K hK => ?_) (AllReadyH.cons (gt rfl) (fun K hK => ?_) (AllReadyH.cons (gt rfl) (fun K hK => ?_) AllReadyH.nil)))
      · go_simp
        refine (way_any X2 Y2 X3 Y3 _ (by assumption) (by assumption) (by assumption) (by assumption)).mono ?_
        rintro e1 V' ⟨rfl, hb⟩
        replace k9 := k9.below hb
        replace N := N.trans (hb.mono N.size)
        refine hK.out _ _ N (fun hHeld => ?_)
        clear hK K
        try simp only [Act.put, sA, sB, sC]
        rw [← hwp]
        exact met (H1_r r _ k9 N) (by kernel_rfl)
      · go_simp
        have k7 := Box2.new V N.size (.int .i64 0) (.int .i64 0) 38
        have hb := below1 V (.cells #[.int .i64 0, .int .i64 0] 38)
        have g_r := Nat.ne_of_lt k9.lt
        replace k9 := k9.below hb
        replace N := N.trans (hb.mono N.size)
        refine hK.out _ _ N (fun hHeld => ?_)
        clear hK K
        try simp only [Act.put, sA, sB, sC]
        rw [← hwp]
        exact met (H0_pr _ r _ k7 k9 g_r.symm N) (by kernel_rfl)
      · go_simp
        have k8 := Box2.new V N.size (.int .i64 0) (.int .i64 0) 38
        have hb := below1 V (.cells #[.int .i64 0, .int .i64 0] 38)
        have g_r := Nat.ne_of_lt k9.lt
        replace k9 := k9.below hb
        replace N := N.trans (hb.mono N.size)
        refine hK.out _ _ N (fun hHeld => ?_)
        clear hK K
        try simp only [Act.put, sA, sB, sC]
        rw [← hwp]
        exact met (H0_qr _ r _ k8 k9 g_r.symm N) (by kernel_rfl)
    have H0_ : ∀ (V : World), Below W1.heap.size W1 V → wp 9 #[true, true, false, true, true, false, true, true, false, false, false, false, false, false, false] ⟨#[.agg #[.int .i64 X1, .int .i64 Y1], .agg #[.int .i64 X2, .int .i64 Y2], .agg #[.int .i64 X3, .int .i64 Y3], .pointer (some ⟨w.heap.size, 0, none⟩), .pointer (some ⟨w.heap.size + 1, 0, none⟩), .pointer (some ⟨w.heap.size + 1 + 1, 0, none⟩), .pointer (some ⟨w.heap.size + 1 + 1 + 1, 0, none⟩), undef, undef, undef, undef, .agg #[.int .i64 X2, .int .i64 Y2], .agg #[.int .i64 X3, .int .i64 Y3], undef, .agg #[.int .i64 X2, .int .i64 Y2], .agg #[.int .i64 X1, .int .i64 Y1], undef, .agg #[.int .i64 X3, .int .i64 Y3], .agg #[.int .i64 X1, .int .i64 Y1], undef, undef, undef, undef, undef, undef, undef, undef, undef, undef, undef, undef, undef, undef, undef, undef, undef, undef, undef, undef, undef, undef, undef, undef, undef, undef, undef, undef, undef, undef, undef, undef, undef, undef], []⟩ V := by
     as_aux_lemma =>
      intro V N
      have hHeld : Below W1.heap.size W1 V := N
      rw [hwp]
      refine wpAnyH_ready (rs := [2, 9, 10, 11]) (by kernel_rfl) (by simp) (AllReadyH.cons (gt rfl) (fun K hK => ?_) (AllReadyH.cons (gt rfl) (fun K hK => ?_) (AllReadyH.cons (gt rfl) (fun K hK => ?_) (AllReadyH.cons (gt rfl) (fun K hK => ?_) AllReadyH.nil))))
      · go_simp
        refine (way_any X2 Y2 X3 Y3 _ (by assumption) (by assumption) (by assumption) (by assumption)).mono ?_
        rintro e1 V' ⟨rfl, hb⟩
        replace N := N.trans (hb.mono N.size)
        refine hK.out _ _ N (fun hHeld => ?_)
        clear hK K
        try simp only [Act.put, sA, sB, sC]
        rw [← hwp]
        exact met (H1_ _ N) (by kernel_rfl)
      · go_simp
        have k7 := Box2.new V N.size (.int .i64 0) (.int .i64 0) 38
        have hb := below1 V (.cells #[.int .i64 0, .int .i64 0] 38)
        replace N := N.trans (hb.mono N.size)
        refine hK.out _ _ N (fun hHeld => ?_)
        clear hK K
        try simp only [Act.put, sA, sB, sC]
        rw [← hwp]
        exact met (H0_p _ _ k7 N) (by kernel_rfl)
      · go_simp
        have k8 := Box2.new V N.size (.int .i64 0) (.int .i64 0) 38
        have hb := below1 V (.cells #[.int .i64 0, .int .i64 0] 38)
        replace N := N.trans (hb.mono N.size)
        refine hK.out _ _ N (fun hHeld => ?_)
        clear hK K
        try simp only [Act.put, sA, sB, sC]
        rw [← hwp]
        exact met (H0_q _ _ k8 N) (by kernel_rfl)
      · go_simp
        have k9 := Box2.new V N.size (.int .i64 0) (.int .i64 0) 38
        have hb := below1 V (.cells #[.int .i64 0, .int .i64 0] 38)
        replace N := N.trans (hb.mono N.size)
        refine hK.out _ _ N (fun hHeld => ?_)
        clear hK K
        try simp only [Act.put, sA, sB, sC]
        rw [← hwp]
        exact met (H0_r _ _ k9 N) (by kernel_rfl)
    exact met (H0_ _ N) (by kernel_rfl)
  rename World => W2
  obtain ⟨p, q, r, rfl, rfl, rfl, rfl, kP, kQ, kS, N2⟩ := hcut
  have lR1 := kR'.lt
  replace ka' := ka'.below N2
  replace kb' := kb'.below N2
  replace kR' := kR'.below N2
  have NN := N'.trans (N2.mono N'.size)
  have lop := kP.lo
  have loq := kQ.lo
  have lor := kS.lo
  have e1 := c3.dif c2
  have e2 := d3.dif d2
  have e3 := c1.dif c2
  have e4 := d1.dif d2
  have e5 := c1.dif c3
  have e6 := d1.dif d3
  obtain ⟨a0, a1, _, _⟩ := ka'
  obtain ⟨b0, b1, _, _⟩ := kb'
  obtain ⟨P0, P1, _, _⟩ := kP
  obtain ⟨Q0, Q1, _, _⟩ := kQ
  obtain ⟨S0, S1, _, _⟩ := kS
  rw [hux.out] at P0 e1
  rw [huy.out] at P1 e2
  rw [hvx.out] at Q0 e3
  rw [hvy.out] at Q1 e4
  rw [htx.out] at S0 e5
  rw [hty.out] at S1 e6
  have HT : Hid (tx = vx - ux ∧ ty = vy - uy) := ⟨by rw [← htx.out, ← hvx.out, ← hux.out]; omega, by rw [← hty.out, ← hvy.out, ← huy.out]; omega⟩
  have HU : Hid ((X2 ≠ X3 → ux ≠ 0) ∧ (Y2 ≠ Y3 → uy ≠ 0) ∧ (X2 = X3 → ux = 0) ∧ (Y2 = Y3 → uy = 0)) := ⟨by rw [← hux.out]; omega, by rw [← huy.out]; omega, by rw [← hux.out]; omega, by rw [← huy.out]; omega⟩
  clear kp' N2 N' hux huy hvx hvy htx hty

  obtain ⟨al, hal⟩ : ∃ z, Hid (ux * vx + uy * vy = z) := ⟨_, rfl⟩
  obtain ⟨ut, hut⟩ : ∃ z, Hid (ux * tx + uy * ty = z) := ⟨_, rfl⟩
  obtain ⟨vv, hvv⟩ : ∃ z, Hid (vx * vx + vy * vy = z) := ⟨_, rfl⟩
  obtain ⟨tt, htt⟩ : ∃ z, Hid (tx * tx + ty * ty = z) := ⟨_, rfl⟩
  obtain ⟨wh, hwh⟩ : ∃ z, Hid (ux * ux + uy * uy = z) := ⟨_, rfl⟩
  obtain ⟨cr, hcr⟩ : ∃ z, Hid (ux * vy - uy * vx = z) := ⟨_, rfl⟩
  have bvv : Hid (-9223372036854775808 ≤ vv ∧ vv ≤ 9223372036854775807) := by have q1 := e3.mul e3; have q2 := e4.mul e4; have q3 := hvv.out; exact ⟨by omega, by omega⟩
  have btt : Hid (-9223372036854775808 ≤ tt ∧ tt ≤ 9223372036854775807) := by have q1 := e5.mul e5; have q2 := e6.mul e6; have q3 := htt.out; exact ⟨by omega, by omega⟩
  have bwh : Hid (-9223372036854775808 ≤ wh ∧ wh ≤ 9223372036854775807) := by have q1 := e1.mul e1; have q2 := e2.mul e2; have q3 := hwh.out; exact ⟨by omega, by omega⟩
  have bcr : Hid (-800000000000000 ≤ cr ∧ cr ≤ 800000000000000) := by have q1 := e1.mul e4; have q2 := e2.mul e3; have q3 := hcr.out; exact ⟨by omega, by omega⟩
  have G1 : Hid (al < 0 → vv = (rN ux uy vx vy) ∧ 1 = (rD ux uy vx vy)) := by
    intro h
    obtain ⟨q1, q2⟩ := r_before (ux := ux) (uy := uy) (vx := vx) (vy := vy) (by rw [hal.out]; exact h)
    rw [q1, q2, ← hvv.out]
    exact ⟨rfl, rfl⟩
  have G2 : Hid ((ux ≠ 0 ∨ uy ≠ 0) → 0 < ut → tt = (rN ux uy vx vy) ∧ 1 = (rD ux uy vx vy)) := by
    intro hu h
    obtain ⟨ex, ey⟩ := HT.out
    obtain ⟨q1, q2⟩ := r_behind (ux := ux) (uy := uy) (vx := vx) (vy := vy) hu (by rw [← ex, ← ey, hut.out]; exact h)
    rw [q1, q2, ← ex, ← ey, ← htt.out]
    exact ⟨rfl, rfl⟩
  have G3 : Hid ((ux ≠ 0 ∨ uy ≠ 0) → 0 ≤ al → ut ≤ 0 → cr * cr = (rN ux uy vx vy) ∧ wh = (rD ux uy vx vy) ∧ 0 < wh) := by
    intro hu h k
    obtain ⟨ex, ey⟩ := HT.out
    have hp := sqq_pos hu
    obtain ⟨q1, q2⟩ := r_beside (ux := ux) (uy := uy) (vx := vx) (vy := vy) hu (by rw [hal.out]; omega) (by rw [← ex, ← ey, hut.out]; omega)
    rw [q1, q2, ← hcr.out, ← hwh.out]
    exact ⟨rfl, rfl, hp⟩
  have G0 : Hid (ux = 0 → uy = 0 → vv = (rN ux uy vx vy) ∧ 1 = (rD ux uy vx vy)) := by
    intro h k
    obtain ⟨q1, q2⟩ := r_same (vx := vx) (vy := vy) (And.intro h k)
    rw [q1, q2, ← hvv.out]
    exact ⟨rfl, rfl⟩
  by_cases hX : X2 = X3
  · by_cases hY : Y2 = Y3
    · as_aux_lemma =>
      have g1 : Hid (vv = (rN ux uy vx vy) ∧ 1 = (rD ux uy vx vy)) := G0.out (HU.out.2.2.1 hX) (HU.out.2.2.2 hY)
      subst hX hY
      go_wp2_with fail
      refine (along_any vx vy vx vy _ e3 e4 e3 e4).mono ?_
      rintro e w4 ⟨rfl, hb⟩
      rw [hvv.out]
      replace kR' := kR'.below hb
      replace NN := NN.trans (hb.mono NN.size)
      clear hb
      have lt3 := kR'.lt
      obtain ⟨z0, z1, z2, z3, zf, _⟩ := kR'
      go_wp2_with fail
      refine (implWhole vv _ bvv.out.1 bvv.out.2).mono ?_
      rintro e w5 ⟨u3, rfl, hI, hb⟩
      have hJ := hI.base_le lt3
      obtain ⟨f5, F5⟩ : ∃ f, Hid (decide (vv < 0) = f) := ⟨_, rfl⟩
      obtain ⟨f6, F6⟩ : ∃ f, Hid (decide ((1 : Int) < 0) = f) := ⟨_, rfl⟩
      have hJ0 := hJ
      obtain ⟨a7, c7, qs, a8, c8, rs, ev, _⟩ := hJ0
      rw [F5.out, F6.out] at ev
      subst ev
      have zg := fun o => (hb.frozen (p := ⟨w.heap.size + 1 + 1 + 1, o, none⟩) lt3).trans (zf o)
      replace z0 := bat hb z0
      replace z1 := bat hb z1
      replace z2 := bat hb z2
      replace z3 := bat hb z3
      replace NN := NN.trans (hb.mono NN.size)
      have lt4 := Nat.lt_of_lt_of_le lt3 hb.size
      have JP := (hJ.put (b := w.heap.size + 1 + 1 + 1) (b0 := w.heap.size) (by omega) (by omega) (.bool f5) (.slice a7 qs.length c7) (.bool f6) (.slice a8 rs.length c8)).eq g1.out.1 g1.out.2
      have BP := below_put4' (b := w.heap.size + 1 + 1 + 1) NN (by omega) (.bool f5) (.slice a7 qs.length c7) (.bool f6) (.slice a8 rs.length c8)
      clear hb hI hJ zf
      go_wp2
      exact bodyPost_ret (v := .agg #[.bool f5, .slice a7 qs.length c7, .bool f6, .slice a8 rs.length c8]) (by simp [results, Tryz.results50, go_sem, z0, z1, z2, z3]) rfl ⟨_, rfl, JP, BP⟩
    · as_aux_lemma =>
      have HUU : Hid (ux ≠ 0 ∨ uy ≠ 0) := .inr (HU.out.2.1 hY)
      clear HU
      subst hX
      go_wp2_with fail
      refine (along_any ux uy vx vy _ e1 e2 e3 e4).mono ?_
      rintro e w3 ⟨rfl, hb⟩
      rw [hal.out]
      replace P0 := bat hb P0
      replace P1 := bat hb P1
      replace Q0 := bat hb Q0
      replace Q1 := bat hb Q1
      replace S0 := bat hb S0
      replace S1 := bat hb S1
      replace kR' := kR'.below hb
      replace NN := NN.trans (hb.mono NN.size)
      clear hb
      by_cases h1 : al < 0
      · have g1 : Hid (vv = (rN ux uy vx vy) ∧ 1 = (rD ux uy vx vy)) := G1.out h1
        go_wp2_with fail
        refine (along_any vx vy vx vy _ e3 e4 e3 e4).mono ?_
        rintro e w4 ⟨rfl, hb⟩
        rw [hvv.out]
        replace kR' := kR'.below hb
        replace NN := NN.trans (hb.mono NN.size)
        clear hb
        have lt3 := kR'.lt
        obtain ⟨z0, z1, z2, z3, zf, _⟩ := kR'
        go_wp2_with fail
        refine (implWhole vv _ bvv.out.1 bvv.out.2).mono ?_
        rintro e w5 ⟨u3, rfl, hI, hb⟩
        have hJ := hI.base_le lt3
        obtain ⟨f5, F5⟩ : ∃ f, Hid (decide (vv < 0) = f) := ⟨_, rfl⟩
        obtain ⟨f6, F6⟩ : ∃ f, Hid (decide ((1 : Int) < 0) = f) := ⟨_, rfl⟩
        have hJ0 := hJ
        obtain ⟨a7, c7, qs, a8, c8, rs, ev, _⟩ := hJ0
        rw [F5.out, F6.out] at ev
        subst ev
        have zg := fun o => (hb.frozen (p := ⟨w.heap.size + 1 + 1 + 1, o, none⟩) lt3).trans (zf o)
        replace z0 := bat hb z0
        replace z1 := bat hb z1
        replace z2 := bat hb z2
        replace z3 := bat hb z3
        replace NN := NN.trans (hb.mono NN.size)
        have lt4 := Nat.lt_of_lt_of_le lt3 hb.size
        have JP := (hJ.put (b := w.heap.size + 1 + 1 + 1) (b0 := w.heap.size) (by omega) (by omega) (.bool f5) (.slice a7 qs.length c7) (.bool f6) (.slice a8 rs.length c8)).eq g1.out.1 g1.out.2
        have BP := below_put4' (b := w.heap.size + 1 + 1 + 1) NN (by omega) (.bool f5) (.slice a7 qs.length c7) (.bool f6) (.slice a8 rs.length c8)
        clear hb hI hJ zf
        go_wp2
        exact bodyPost_ret (v := .agg #[.bool f5, .slice a7 qs.length c7, .bool f6, .slice a8 rs.length c8]) (by simp [results, Tryz.results50, go_sem, z0, z1, z2, z3]) rfl ⟨_, rfl, JP, BP⟩
      · have hd1 : decide (al < 0) = false := decide_eq_false h1
        go_wp2_with fail
        refine (along_any ux uy tx ty _ e1 e2 e5 e6).mono ?_
        rintro e w4 ⟨rfl, hb⟩
        rw [hut.out]
        replace P0 := bat hb P0
        replace P1 := bat hb P1
        replace Q0 := bat hb Q0
        replace Q1 := bat hb Q1
        replace S0 := bat hb S0
        replace S1 := bat hb S1
        replace kR' := kR'.below hb
        replace NN := NN.trans (hb.mono NN.size)
        clear hb
        by_cases h2 : 0 < ut
        · have g2 : Hid (tt = (rN ux uy vx vy) ∧ 1 = (rD ux uy vx vy)) := G2.out HUU.out h2
          go_wp2_with fail
          refine (along_any tx ty tx ty _ e5 e6 e5 e6).mono ?_
          rintro e w6 ⟨rfl, hb⟩
          rw [htt.out]
          replace kR' := kR'.below hb
          replace NN := NN.trans (hb.mono NN.size)
          clear hb
          have lt3 := kR'.lt
          obtain ⟨z0, z1, z2, z3, zf, _⟩ := kR'
          go_wp2_with fail
          refine (implWhole tt _ btt.out.1 btt.out.2).mono ?_
          rintro e w5 ⟨u3, rfl, hI, hb⟩
          have hJ := hI.base_le lt3
          obtain ⟨f5, F5⟩ : ∃ f, Hid (decide (tt < 0) = f) := ⟨_, rfl⟩
          obtain ⟨f6, F6⟩ : ∃ f, Hid (decide ((1 : Int) < 0) = f) := ⟨_, rfl⟩
          have hJ0 := hJ
          obtain ⟨a7, c7, qs, a8, c8, rs, ev, _⟩ := hJ0
          rw [F5.out, F6.out] at ev
          subst ev
          have zg := fun o => (hb.frozen (p := ⟨w.heap.size + 1 + 1 + 1, o, none⟩) lt3).trans (zf o)
          replace z0 := bat hb z0
          replace z1 := bat hb z1
          replace z2 := bat hb z2
          replace z3 := bat hb z3
          replace NN := NN.trans (hb.mono NN.size)
          have lt4 := Nat.lt_of_lt_of_le lt3 hb.size
          have JP := (hJ.put (b := w.heap.size + 1 + 1 + 1) (b0 := w.heap.size) (by omega) (by omega) (.bool f5) (.slice a7 qs.length c7) (.bool f6) (.slice a8 rs.length c8)).eq g2.out.1 g2.out.2
          have BP := below_put4' (b := w.heap.size + 1 + 1 + 1) NN (by omega) (.bool f5) (.slice a7 qs.length c7) (.bool f6) (.slice a8 rs.length c8)
          clear hb hI hJ zf
          go_wp2
          exact bodyPost_ret (v := .agg #[.bool f5, .slice a7 qs.length c7, .bool f6, .slice a8 rs.length c8]) (by simp [results, Tryz.results50, go_sem, z0, z1, z2, z3]) rfl ⟨_, rfl, JP, BP⟩
        · have hd2 : decide (0 < ut) = false := decide_eq_false h2
          have g3 : Hid (cr * cr = (rN ux uy vx vy) ∧ wh = (rD ux uy vx vy) ∧ 0 < wh) := G3.out HUU.out (by omega) (by omega)
          go_wp2_with fail
          refine (across_any ux uy vx vy _ e1 e2 e3 e4).mono ?_
          rintro e w6 ⟨rfl, hb⟩
          rw [hcr.out]
          replace P0 := bat hb P0
          replace P1 := bat hb P1
          replace kR' := kR'.below hb
          replace NN := NN.trans (hb.mono NN.size)
          clear hb
          go_wp2_with fail
          refine (implOf cr _ (by have := bcr.out; omega) (by have := bcr.out; omega)).mono ?_
          rintro e w7 ⟨u1, rfl, hI, hb⟩
          obtain ⟨a9, c9, us, rfl, ou, nu, vu⟩ := hI
          obtain ⟨fc, FC⟩ : ∃ f, Hid (decide (cr < 0) = f) := ⟨_, rfl⟩
          rw [FC.out]
          replace P0 := bat hb P0
          replace P1 := bat hb P1
          replace kR' := kR'.below hb
          replace NN := NN.trans (hb.mono NN.size)
          clear hb
          have lP := World.block_lt_of_cell? _ _ P0
          have lR := kR'.lt
          go_wp2_with fail
          obtain ⟨x0, x1⟩ := (Box2.new w7 (lo := 0) (Nat.zero_le _) (.bool fc) (.slice a9 us.length c9) 30).both
          have hb := below1 w7 (.cells #[.bool fc, .slice a9 us.length c9] 30)
          replace ou := ou.below hb
          replace P0 := bat hb P0
          replace P1 := bat hb P1
          replace kR' := kR'.below hb
          replace NN := NN.trans (hb.mono NN.size)
          clear hb
          generalize w7.alloc (.cells #[.bool fc, .slice a9 us.length c9] 30) = W8 at *
          have LC : mg cr < 4294967296 ^ 2 := by
            have h9 := bcr.out
            have : (4294967296 : Int) ^ 2 = 18446744073709551616 := by decide
            rw [this]
            unfold mg
            split <;> omega
          have LU : us.length ≤ 2 := len_le ou.lim nu (by rw [vu]; exact LC)
          clear LC
          have HP : Hid (sg (fc != fc) (val us * val us) = cr * cr ∧ (∀ zs : List Int, Lim zs → Nrm zs → val zs = mg (cr * cr) → zs.length ≤ 1048575)) := by
            have e0 : sg (fc != fc) (val us * val us) = cr * cr := by
              rw [vu]
              have : (fc != fc) = false := by cases fc <;> rfl
              rw [this]
              unfold sg mg
              by_cases h : cr < 0 <;> simp [h, Int.neg_mul_neg]
            refine ⟨e0, fun zs lz nz vz => Nat.le_trans (len_le (k := 4) lz nz ?_) (by decide)⟩
            rw [vz]
            have h9 := bcr.out
            have q1 := Int.mul_nonneg (show 0 ≤ 800000000000000 - cr by omega) (show 0 ≤ 800000000000000 + cr by omega)
            have q2 : (800000000000000 - cr) * (800000000000000 + cr) = 640000000000000000000000000000 - cr * cr := by grind
            have e4 : (4294967296 : Int) ^ 4 = 340282366920938463463374607431768211456 := by decide
            rw [e4]
            have q3 : 0 ≤ cr * cr := by
              rcases Int.le_total 0 cr with h | h
              · exact Int.mul_nonneg h h
              · have := Int.mul_nonneg (a := -cr) (b := -cr) (by omega) (by omega); rwa [Int.neg_mul_neg] at this
            unfold mg
            split <;> omega
          have GE : Hid (cr * cr = (rN ux uy vx vy) ∧ wh = (rD ux uy vx vy)) := ⟨g3.out.1, g3.out.2.1⟩
          clear g3 hd1 hd2
          have BW := NN
          refine wp_region_held_drew (S := Keeps (w.heap.size + 1 + 1 + 1) W8) (by kernel_rfl) (Keeps.of (Below.refl _ _).drew) (fun hHeld => ?_)
          have N : Below W8.heap.size W8 W8.drew := (Below.refl _ _).drew
          replace kR' := kR'.below N
          revert hHeld N kR'
          generalize W8.drew = ww0
          intro hHeld N kR'
          refine takeA (i := 0) (hy := by intro wq hSw; have q0 := hSw.at P0 (by omega); have q1 := hSw.at P1 (by omega); have q2 := hSw.at x0 (by omega); have q3 := hSw.at x1 (by omega); go_simp <;> with_reducible rfl) (h := ?_)
          refine takeA (i := 1) (hy := by intro wq hSw; have q0 := hSw.at P0 (by omega); have q1 := hSw.at P1 (by omega); have q2 := hSw.at x0 (by omega); have q3 := hSw.at x1 (by omega); go_simp <;> with_reducible rfl) (h := ?_)
          refine takeA (i := 3) (hy := by intro wq hSw; have q0 := hSw.at P0 (by omega); have q1 := hSw.at P1 (by omega); have q2 := hSw.at x0 (by omega); have q3 := hSw.at x1 (by omega); go_simp <;> with_reducible rfl) (h := ?_)
          refine takeA (i := 4) (hy := by intro wq hSw; have q0 := hSw.at P0 (by omega); have q1 := hSw.at P1 (by omega); have q2 := hSw.at x0 (by omega); have q3 := hSw.at x1 (by omega); go_simp <;> with_reducible rfl) (h := ?_)
          refine rdA (i := 2) (h := fun K hK => ?_)
          go_simp
          refine (productC fc fc a9 a9 c9 c9 us us _ (ou.toSees.below N) (ou.toSees.below N) (by omega)).mono ?_
          rintro e1 ww1 ⟨u1, rfl, hI, hb⟩
          rw [HP.out.1] at hI
          obtain ⟨a5, c5, zs, rfl, oz, nz, vz⟩ := hI
          obtain ⟨f5, F5⟩ : ∃ f, Hid (decide (cr * cr < 0) = f) := ⟨_, rfl⟩
          rw [F5.out]
          have lz := kR'.lt
          have s1 := hb.size
          replace kR' := kR'.below hb
          replace N := N.trans (hb.mono N.size)
          clear hb
          refine hK.out _ _ (Keeps.of N) (fun hHeld => ?_)
          clear hK K
          try simp only [Act.put, sA, sB, sC]
          refine rdA (i := 5) (h := fun K hK => ?_)
          go_simp
          refine (along_any ux uy ux uy _ e1 e2 e1 e2).mono ?_
          rintro e1 ww2 ⟨rfl, hb⟩
          rw [hwh.out]
          have s2 := hb.size
          replace kR' := kR'.below hb
          replace oz := oz.below hb
          replace N := N.trans (hb.mono N.size)
          clear hb
          refine hK.out _ _ (Keeps.of N) (fun hHeld => ?_)
          clear hK K
          try simp only [Act.put, sA, sB, sC]
          refine rdA (i := 6) (h := fun K hK => ?_)
          go_simp
          refine (implOf wh _ bwh.out.1 bwh.out.2).mono ?_
          rintro e1 ww3 ⟨u1, rfl, hI, hb⟩
          obtain ⟨a6, c6, ts, rfl, ot, nt, vt⟩ := hI
          have hJ := ((IsFrac.two oz nz vz hb ot nt vt (by omega)).eq GE.out.1 GE.out.2).base_le (show w.heap.size + 1 + 1 + 1 + 1 ≤ _ from lz)
          obtain ⟨f6, F6⟩ : ∃ f, Hid (decide (wh < 0) = f) := ⟨_, rfl⟩
          rw [F5.out, F6.out] at hJ
          rw [F6.out]
          replace kR' := kR'.below hb
          replace oz := oz.below hb
          replace N := N.trans (hb.mono N.size)
          clear hb
          refine hK.out _ _ (Keeps.of N) (fun hHeld => ?_)
          clear hK K
          try simp only [Act.put, sA, sB, sC]
          refine takeA (i := 7) (h := ?_)
          refine rdA (i := 8) (h := fun K hK => ?_)
          have z0 := kR'.c0
          have z1 := kR'.c1
          have z2 := kR'.c2
          have z3 := kR'.c3
          have zf := kR'.fr
          go_simp
          clear z0 z1 z2 z3 zf
          refine hK.out _ _ ((Keeps.of N).put4 (.bool f5) (.slice a5 zs.length c5) (.bool f6) (.slice a6 ts.length c6)) (fun hHeld => ?_)
          clear hK K
          try simp only [Act.put, sA, sB, sC]
          refine wpAnyH_done (by kernel_rfl) ?_ _
          have JP := hJ.put (b := w.heap.size + 1 + 1 + 1) (b0 := w.heap.size) (by omega) (by omega) (.bool f5) (.slice a5 zs.length c5) (.bool f6) (.slice a6 ts.length c6)
          have BP := below_put4' (b := w.heap.size + 1 + 1 + 1) (BW.trans (N.mono BW.size)) (by omega) (.bool f5) (.slice a5 zs.length c5) (.bool f6) (.slice a6 ts.length c6)
          obtain ⟨z0, z1, z2, z3, _, _⟩ := kR'
          go_wp2
          exact bodyPost_ret (v := .agg #[.bool f5, .slice a5 zs.length c5, .bool f6, .slice a6 ts.length c6]) (by simp [results, Tryz.results50, go_sem, z0, z1, z2, z3]) rfl ⟨_, rfl, JP, BP⟩
  · as_aux_lemma =>
    have HUU : Hid (ux ≠ 0 ∨ uy ≠ 0) := .inl (HU.out.1 hX)
    clear HU
    go_wp2_with fail
    refine (along_any ux uy vx vy _ e1 e2 e3 e4).mono ?_
    rintro e w3 ⟨rfl, hb⟩
    rw [hal.out]
    replace P0 := bat hb P0
    replace P1 := bat hb P1
    replace Q0 := bat hb Q0
    replace Q1 := bat hb Q1
    replace S0 := bat hb S0
    replace S1 := bat hb S1
    replace kR' := kR'.below hb
    replace NN := NN.trans (hb.mono NN.size)
    clear hb
    by_cases h1 : al < 0
    · have g1 : Hid (vv = (rN ux uy vx vy) ∧ 1 = (rD ux uy vx vy)) := G1.out h1
      go_wp2_with fail
      refine (along_any vx vy vx vy _ e3 e4 e3 e4).mono ?_
      rintro e w4 ⟨rfl, hb⟩
      rw [hvv.out]
      replace kR' := kR'.below hb
      replace NN := NN.trans (hb.mono NN.size)
      clear hb
      have lt3 := kR'.lt
      obtain ⟨z0, z1, z2, z3, zf, _⟩ := kR'
      go_wp2_with fail
      refine (implWhole vv _ bvv.out.1 bvv.out.2).mono ?_
      rintro e w5 ⟨u3, rfl, hI, hb⟩
      have hJ := hI.base_le lt3
      obtain ⟨f5, F5⟩ : ∃ f, Hid (decide (vv < 0) = f) := ⟨_, rfl⟩
      obtain ⟨f6, F6⟩ : ∃ f, Hid (decide ((1 : Int) < 0) = f) := ⟨_, rfl⟩
      have hJ0 := hJ
      obtain ⟨a7, c7, qs, a8, c8, rs, ev, _⟩ := hJ0
      rw [F5.out, F6.out] at ev
      subst ev
      have zg := fun o => (hb.frozen (p := ⟨w.heap.size + 1 + 1 + 1, o, none⟩) lt3).trans (zf o)
      replace z0 := bat hb z0
      replace z1 := bat hb z1
      replace z2 := bat hb z2
      replace z3 := bat hb z3
      replace NN := NN.trans (hb.mono NN.size)
      have lt4 := Nat.lt_of_lt_of_le lt3 hb.size
      have JP := (hJ.put (b := w.heap.size + 1 + 1 + 1) (b0 := w.heap.size) (by omega) (by omega) (.bool f5) (.slice a7 qs.length c7) (.bool f6) (.slice a8 rs.length c8)).eq g1.out.1 g1.out.2
      have BP := below_put4' (b := w.heap.size + 1 + 1 + 1) NN (by omega) (.bool f5) (.slice a7 qs.length c7) (.bool f6) (.slice a8 rs.length c8)
      clear hb hI hJ zf
      go_wp2
      exact bodyPost_ret (v := .agg #[.bool f5, .slice a7 qs.length c7, .bool f6, .slice a8 rs.length c8]) (by simp [results, Tryz.results50, go_sem, z0, z1, z2, z3]) rfl ⟨_, rfl, JP, BP⟩
    · have hd1 : decide (al < 0) = false := decide_eq_false h1
      go_wp2_with fail
      refine (along_any ux uy tx ty _ e1 e2 e5 e6).mono ?_
      rintro e w4 ⟨rfl, hb⟩
      rw [hut.out]
      replace P0 := bat hb P0
      replace P1 := bat hb P1
      replace Q0 := bat hb Q0
      replace Q1 := bat hb Q1
      replace S0 := bat hb S0
      replace S1 := bat hb S1
      replace kR' := kR'.below hb
      replace NN := NN.trans (hb.mono NN.size)
      clear hb
      by_cases h2 : 0 < ut
      · have g2 : Hid (tt = (rN ux uy vx vy) ∧ 1 = (rD ux uy vx vy)) := G2.out HUU.out h2
        go_wp2_with fail
        refine (along_any tx ty tx ty _ e5 e6 e5 e6).mono ?_
        rintro e w6 ⟨rfl, hb⟩
        rw [htt.out]
        replace kR' := kR'.below hb
        replace NN := NN.trans (hb.mono NN.size)
        clear hb
        have lt3 := kR'.lt
        obtain ⟨z0, z1, z2, z3, zf, _⟩ := kR'
        go_wp2_with fail
        refine (implWhole tt _ btt.out.1 btt.out.2).mono ?_
        rintro e w5 ⟨u3, rfl, hI, hb⟩
        have hJ := hI.base_le lt3
        obtain ⟨f5, F5⟩ : ∃ f, Hid (decide (tt < 0) = f) := ⟨_, rfl⟩
        obtain ⟨f6, F6⟩ : ∃ f, Hid (decide ((1 : Int) < 0) = f) := ⟨_, rfl⟩
        have hJ0 := hJ
        obtain ⟨a7, c7, qs, a8, c8, rs, ev, _⟩ := hJ0
        rw [F5.out, F6.out] at ev
        subst ev
        have zg := fun o => (hb.frozen (p := ⟨w.heap.size + 1 + 1 + 1, o, none⟩) lt3).trans (zf o)
        replace z0 := bat hb z0
        replace z1 := bat hb z1
        replace z2 := bat hb z2
        replace z3 := bat hb z3
        replace NN := NN.trans (hb.mono NN.size)
        have lt4 := Nat.lt_of_lt_of_le lt3 hb.size
        have JP := (hJ.put (b := w.heap.size + 1 + 1 + 1) (b0 := w.heap.size) (by omega) (by omega) (.bool f5) (.slice a7 qs.length c7) (.bool f6) (.slice a8 rs.length c8)).eq g2.out.1 g2.out.2
        have BP := below_put4' (b := w.heap.size + 1 + 1 + 1) NN (by omega) (.bool f5) (.slice a7 qs.length c7) (.bool f6) (.slice a8 rs.length c8)
        clear hb hI hJ zf
        go_wp2
        exact bodyPost_ret (v := .agg #[.bool f5, .slice a7 qs.length c7, .bool f6, .slice a8 rs.length c8]) (by simp [results, Tryz.results50, go_sem, z0, z1, z2, z3]) rfl ⟨_, rfl, JP, BP⟩
      · have hd2 : decide (0 < ut) = false := decide_eq_false h2
        have g3 : Hid (cr * cr = (rN ux uy vx vy) ∧ wh = (rD ux uy vx vy) ∧ 0 < wh) := G3.out HUU.out (by omega) (by omega)
        go_wp2_with fail
        refine (across_any ux uy vx vy _ e1 e2 e3 e4).mono ?_
        rintro e w6 ⟨rfl, hb⟩
        rw [hcr.out]
        replace P0 := bat hb P0
        replace P1 := bat hb P1
        replace kR' := kR'.below hb
        replace NN := NN.trans (hb.mono NN.size)
        clear hb
        go_wp2_with fail
        refine (implOf cr _ (by have := bcr.out; omega) (by have := bcr.out; omega)).mono ?_
        rintro e w7 ⟨u1, rfl, hI, hb⟩
        obtain ⟨a9, c9, us, rfl, ou, nu, vu⟩ := hI
        obtain ⟨fc, FC⟩ : ∃ f, Hid (decide (cr < 0) = f) := ⟨_, rfl⟩
        rw [FC.out]
        replace P0 := bat hb P0
        replace P1 := bat hb P1
        replace kR' := kR'.below hb
        replace NN := NN.trans (hb.mono NN.size)
        clear hb
        have lP := World.block_lt_of_cell? _ _ P0
        have lR := kR'.lt
        go_wp2_with fail
        obtain ⟨x0, x1⟩ := (Box2.new w7 (lo := 0) (Nat.zero_le _) (.bool fc) (.slice a9 us.length c9) 30).both
        have hb := below1 w7 (.cells #[.bool fc, .slice a9 us.length c9] 30)
        replace ou := ou.below hb
        replace P0 := bat hb P0
        replace P1 := bat hb P1
        replace kR' := kR'.below hb
        replace NN := NN.trans (hb.mono NN.size)
        clear hb
        generalize w7.alloc (.cells #[.bool fc, .slice a9 us.length c9] 30) = W8 at *
        have LC : mg cr < 4294967296 ^ 2 := by
          have h9 := bcr.out
          have : (4294967296 : Int) ^ 2 = 18446744073709551616 := by decide
          rw [this]
          unfold mg
          split <;> omega
        have LU : us.length ≤ 2 := len_le ou.lim nu (by rw [vu]; exact LC)
        clear LC
        have HP : Hid (sg (fc != fc) (val us * val us) = cr * cr ∧ (∀ zs : List Int, Lim zs → Nrm zs → val zs = mg (cr * cr) → zs.length ≤ 1048575)) := by
          have e0 : sg (fc != fc) (val us * val us) = cr * cr := by
            rw [vu]
            have : (fc != fc) = false := by cases fc <;> rfl
            rw [this]
            unfold sg mg
            by_cases h : cr < 0 <;> simp [h, Int.neg_mul_neg]
          refine ⟨e0, fun zs lz nz vz => Nat.le_trans (len_le (k := 4) lz nz ?_) (by decide)⟩
          rw [vz]
          have h9 := bcr.out
          have q1 := Int.mul_nonneg (show 0 ≤ 800000000000000 - cr by omega) (show 0 ≤ 800000000000000 + cr by omega)
          have q2 : (800000000000000 - cr) * (800000000000000 + cr) = 640000000000000000000000000000 - cr * cr := by grind
          have e4 : (4294967296 : Int) ^ 4 = 340282366920938463463374607431768211456 := by decide
          rw [e4]
          have q3 : 0 ≤ cr * cr := by
            rcases Int.le_total 0 cr with h | h
            · exact Int.mul_nonneg h h
            · have := Int.mul_nonneg (a := -cr) (b := -cr) (by omega) (by omega); rwa [Int.neg_mul_neg] at this
          unfold mg
          split <;> omega
        have GE : Hid (cr * cr = (rN ux uy vx vy) ∧ wh = (rD ux uy vx vy)) := ⟨g3.out.1, g3.out.2.1⟩
        clear g3 hd1 hd2
        have BW := NN
        refine wp_region_held_drew (S := Keeps (w.heap.size + 1 + 1 + 1) W8) (by kernel_rfl) (Keeps.of (Below.refl _ _).drew) (fun hHeld => ?_)
        have N : Below W8.heap.size W8 W8.drew := (Below.refl _ _).drew
        replace kR' := kR'.below N
        revert hHeld N kR'
        generalize W8.drew = ww0
        intro hHeld N kR'
        refine takeA (i := 0) (hy := by intro wq hSw; have q0 := hSw.at P0 (by omega); have q1 := hSw.at P1 (by omega); have q2 := hSw.at x0 (by omega); have q3 := hSw.at x1 (by omega); go_simp <;> with_reducible rfl) (h := ?_)
        refine takeA (i := 1) (hy := by intro wq hSw; have q0 := hSw.at P0 (by omega); have q1 := hSw.at P1 (by omega); have q2 := hSw.at x0 (by omega); have q3 := hSw.at x1 (by omega); go_simp <;> with_reducible rfl) (h := ?_)
        refine takeA (i := 3) (hy := by intro wq hSw; have q0 := hSw.at P0 (by omega); have q1 := hSw.at P1 (by omega); have q2 := hSw.at x0 (by omega); have q3 := hSw.at x1 (by omega); go_simp <;> with_reducible rfl) (h := ?_)
        refine takeA (i := 4) (hy := by intro wq hSw; have q0 := hSw.at P0 (by omega); have q1 := hSw.at P1 (by omega); have q2 := hSw.at x0 (by omega); have q3 := hSw.at x1 (by omega); go_simp <;> with_reducible rfl) (h := ?_)
        refine rdA (i := 2) (h := fun K hK => ?_)
        go_simp
        refine (productC fc fc a9 a9 c9 c9 us us _ (ou.toSees.below N) (ou.toSees.below N) (by omega)).mono ?_
        rintro e1 ww1 ⟨u1, rfl, hI, hb⟩
        rw [HP.out.1] at hI
        obtain ⟨a5, c5, zs, rfl, oz, nz, vz⟩ := hI
        obtain ⟨f5, F5⟩ : ∃ f, Hid (decide (cr * cr < 0) = f) := ⟨_, rfl⟩
        rw [F5.out]
        have lz := kR'.lt
        have s1 := hb.size
        replace kR' := kR'.below hb
        replace N := N.trans (hb.mono N.size)
        clear hb
        refine hK.out _ _ (Keeps.of N) (fun hHeld => ?_)
        clear hK K
        try simp only [Act.put, sA, sB, sC]
        refine rdA (i := 5) (h := fun K hK => ?_)
        go_simp
        refine (along_any ux uy ux uy _ e1 e2 e1 e2).mono ?_
        rintro e1 ww2 ⟨rfl, hb⟩
        rw [hwh.out]
        have s2 := hb.size
        replace kR' := kR'.below hb
        replace oz := oz.below hb
        replace N := N.trans (hb.mono N.size)
        clear hb
        refine hK.out _ _ (Keeps.of N) (fun hHeld => ?_)
        clear hK K
        try simp only [Act.put, sA, sB, sC]
        refine rdA (i := 6) (h := fun K hK => ?_)
        go_simp
        refine (implOf wh _ bwh.out.1 bwh.out.2).mono ?_
        rintro e1 ww3 ⟨u1, rfl, hI, hb⟩
        obtain ⟨a6, c6, ts, rfl, ot, nt, vt⟩ := hI
        have hJ := ((IsFrac.two oz nz vz hb ot nt vt (by omega)).eq GE.out.1 GE.out.2).base_le (show w.heap.size + 1 + 1 + 1 + 1 ≤ _ from lz)
        obtain ⟨f6, F6⟩ : ∃ f, Hid (decide (wh < 0) = f) := ⟨_, rfl⟩
        rw [F5.out, F6.out] at hJ
        rw [F6.out]
        replace kR' := kR'.below hb
        replace oz := oz.below hb
        replace N := N.trans (hb.mono N.size)
        clear hb
        refine hK.out _ _ (Keeps.of N) (fun hHeld => ?_)
        clear hK K
        try simp only [Act.put, sA, sB, sC]
        refine takeA (i := 7) (h := ?_)
        refine rdA (i := 8) (h := fun K hK => ?_)
        have z0 := kR'.c0
        have z1 := kR'.c1
        have z2 := kR'.c2
        have z3 := kR'.c3
        have zf := kR'.fr
        go_simp
        clear z0 z1 z2 z3 zf
        refine hK.out _ _ ((Keeps.of N).put4 (.bool f5) (.slice a5 zs.length c5) (.bool f6) (.slice a6 ts.length c6)) (fun hHeld => ?_)
        clear hK K
        try simp only [Act.put, sA, sB, sC]
        refine wpAnyH_done (by kernel_rfl) ?_ _
        have JP := hJ.put (b := w.heap.size + 1 + 1 + 1) (b0 := w.heap.size) (by omega) (by omega) (.bool f5) (.slice a5 zs.length c5) (.bool f6) (.slice a6 ts.length c6)
        have BP := below_put4' (b := w.heap.size + 1 + 1 + 1) (BW.trans (N.mono BW.size)) (by omega) (.bool f5) (.slice a5 zs.length c5) (.bool f6) (.slice a6 ts.length c6)
        obtain ⟨z0, z1, z2, z3, _, _⟩ := kR'
        go_wp2
        exact bodyPost_ret (v := .agg #[.bool f5, .slice a5 zs.length c5, .bool f6, .slice a6 ts.length c6]) (by simp [results, Tryz.results50, go_sem, z0, z1, z2, z3]) rfl ⟨_, rfl, JP, BP⟩
end Go.Proofs.YtnjbedhealpgcaaGreat
