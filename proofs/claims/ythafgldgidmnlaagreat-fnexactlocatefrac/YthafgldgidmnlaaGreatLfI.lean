/- Where a place of two fractions lies by an area, of the program: liesOn, touch, around, locate, LocateFrac. -/
import Derived.Test.YthafgldgidmnlaaGreatLfJ
import Derived.Test.YthafgldgidmnlaaGreatLocM
import Derived.Test.YthafgldgidmnlaaGreatLocI
namespace Go.Proofs.YthafgldgidmnlaaGreat
open Go.RowKit

theorem hqE_sd (D E : Int) (es : List Sg) (X Y : Int) (j : Nat) : hqE (sdQ D E es) X Y j = hitI ((sgA es j).1.1 * D) ((sgA es j).1.2 * E) ((sgA es j).2.1 * D) ((sgA es j).2.2 * E) X Y := by
  unfold hqE
  rw [sdQ_at]
  rfl
theorem sdQ_take (D E : Int) (es : List Sg) (j : Nat) : sdQ D E (es.take j) = (sdQ D E es).take j := by
  unfold sdQ
  rw [List.map_take]
theorem onQ_stepF {D E X Y : Int} {es : List Sg} {j : Nat} (h : j < es.length) (k : onQ (sdQ D E (es.take j)) (X, Y) = false) : onQ (sdQ D E (es.take (j + 1))) (X, Y) = onB ((sgA es j).1.1 * D) ((sgA es j).1.2 * E) ((sgA es j).2.1 * D) ((sgA es j).2.2 * E) X Y := by
  rw [sdQ_take] at k ⊢
  rw [onQ_step (by rw [sdQ_len]; exact h) k, sdQ_at]
  rfl
theorem onQ_foundF {D E X Y : Int} {es : List Sg} {j : Nat} (h : j < es.length) (k : onB ((sgA es j).1.1 * D) ((sgA es j).1.2 * E) ((sgA es j).2.1 * D) ((sgA es j).2.2 * E) X Y = true) : onQ (sdQ D E es) (X, Y) = true := by
  refine onQ_found (p := (X, Y)) (j := j) (by rw [sdQ_len]; exact h) ?_
  rw [sdQ_at]
  exact k

set_option maxRecDepth 20000 in
set_option maxHeartbeats 8000000 in
theorem liesOn_f (sp : Value) (X D Y E ax ay bx bz : Int) (w : World) (c1 : Crd ax) (d1 : Crd ay) (c2 : Crd bx) (d2 : Crd bz) (P : Pl w sp X D Y E) :
    Calls Tryz.prog 54 #[.iface 58 sp, .agg #[.int .i64 ax, .int .i64 ay], .agg #[.int .i64 bx, .int .i64 bz]] w fun e w' => e = .returned (.bool (onB (ax * D) (ay * E) (bx * D) (bz * E) X Y)) ∧ Below w.heap.size w w' := by
  have K0 := ptbox2 w ax ay bx bz 84
  have B0 := ptbelow2 w ax ay bx bz 84
  obtain ⟨k0, k1, k2, k3⟩ := id K0
  replace P := P.below B0
  obtain ⟨s1, h1⟩ : ∃ s, Hid (sgn1 (X - ax * D) = s) := ⟨_, rfl⟩
  obtain ⟨s2, h2⟩ : ∃ s, Hid (sgn1 (X - bx * D) = s) := ⟨_, rfl⟩
  obtain ⟨s3, h3⟩ : ∃ s, Hid (sgn1 (Y - ay * E) = s) := ⟨_, rfl⟩
  obtain ⟨s4, h4⟩ : ∃ s, Hid (sgn1 (Y - bz * E) = s) := ⟨_, rfl⟩
  obtain ⟨s5, h5⟩ : ∃ s, Hid (sgn1 (ar (ax * D) (ay * E) (bx * D) (bz * E) X Y) = s) := ⟨_, rfl⟩
  have e1 : (s1 * s2 ≤ 0) ↔ btw (ax * D) (bx * D) X = true := by rw [← h1.out, ← h2.out]; exact sgn_btw _ _ _
  have e2 : (s3 * s4 ≤ 0) ↔ btw (ay * E) (bz * E) Y = true := by rw [← h3.out, ← h4.out]; exact sgn_btw _ _ _
  have e3 : (s5 = 0) ↔ ar (ax * D) (ay * E) (bx * D) (bz * E) X Y = 0 := by rw [← h5.out]; exact sgn1_zero_iff _
  have HB : Hid (onB (ax * D) (ay * E) (bx * D) (bz * E) X Y = (decide (s1 * s2 ≤ 0) && (decide (s3 * s4 ≤ 0) && decide (s5 = 0)))) := by
    show _ = _
    unfold onB
    rw [Bool.eq_iff_iff]
    simp only [Bool.and_eq_true, decide_eq_true_eq, e1, e2, e3]
    constructor
    · rintro ⟨a, b, c⟩; exact ⟨b, c, a⟩
    · rintro ⟨b, c, a⟩; exact ⟨a, b, c⟩
  have w1 : IntKind.i64.wrap (s1 * s2) = s1 * s2 := by rw [← h1.out, ← h2.out]; exact wrap_small (sgn1_prod _ _).1 (sgn1_prod _ _).2
  have w2 : IntKind.i64.wrap (s3 * s4) = s3 * s4 := by rw [← h3.out, ← h4.out]; exact wrap_small (sgn1_prod _ _).1 (sgn1_prod _ _).2
  clear e1 e2 e3 K0
  by_cases q1 : s1 * s2 ≤ 0
  · by_cases q2 : s3 * s4 ≤ 0
    · by_cases q3 : s5 = 0
      · have b3 : (s5 == 0) = true := by simp [q3]
        have F : Hid (onB (ax * D) (ay * E) (bx * D) (bz * E) X Y = true) := by
          show _ = _
          rw [HB.out]
          simp [q1, q2, q3]
        go_enter Tryz.func54, Tryz.ntmps54
        go_upto_region 1 with fail
        generalize (w.alloc (.cells #[.int .i64 ax, .int .i64 ay] 84)).alloc (.cells #[.int .i64 bx, .int .i64 bz] 84) = W0 at *
        refine wp_region_held_drew (S := Below W0.heap.size W0) (by kernel_rfl) ((Below.refl _ _).drew) (fun hHeld => ?_)
        have N : Below W0.heap.size W0 W0.drew := hHeld
        revert hHeld N
        generalize W0.drew = ww0
        intro hHeld N
        refine takeA (i := 0) (h := ?_)
        refine takeA (i := 1) (h := ?_)
        refine takeA (i := 2) (hy := by intro wq hSw; have q0 := bat hSw k0; have q1 := bat hSw k1; have q2 := bat hSw k2; have q3 := bat hSw k3; go_simp <;> with_reducible rfl) (h := ?_)
        refine takeA (i := 4) (h := ?_)
        refine takeA (i := 5) (h := ?_)
        refine takeA (i := 6) (hy := by intro wq hSw; have q0 := bat hSw k0; have q1 := bat hSw k1; have q2 := bat hSw k2; have q3 := bat hSw k3; go_simp <;> with_reducible rfl) (h := ?_)
        refine rdA (i := 3) (h := fun K hK => ?_)
        go_simp; go_invoke; go_simp
        refine (rightOf_f sp X D Y E ax _ (P.below N) c1).mono ?_
        rintro e1 ww1 ⟨rfl, hb⟩
        rw [h1.out]
        replace N := N.trans (hb.mono N.size)
        clear hb
        refine hK.out _ _ N (fun hHeld => ?_)
        clear hK K
        try simp only [Act.put, sA, sB, sC]
        refine rdA (i := 7) (h := fun K hK => ?_)
        go_simp; go_invoke; go_simp
        refine (rightOf_f sp X D Y E bx _ (P.below N) c2).mono ?_
        rintro e1 ww2 ⟨rfl, hb⟩
        rw [h2.out]
        replace N := N.trans (hb.mono N.size)
        clear hb
        refine hK.out _ _ N (fun hHeld => ?_)
        clear hK K
        try simp only [Act.put, sA, sB, sC]
        refine takeA (i := 8) (h := ?_)
        refine takeA (i := 9) (h := ?_)
        refine takeA (i := 10) (h := ?_)
        refine takeA (i := 11) (h := ?_)
        refine takeA (i := 12) (h := ?_)
        refine takeA (i := 13) (hy := by intro wq hSw; have q0 := bat hSw k0; have q1 := bat hSw k1; have q2 := bat hSw k2; have q3 := bat hSw k3; go_simp <;> with_reducible rfl) (h := ?_)
        refine takeA (i := 15) (h := ?_)
        refine takeA (i := 16) (h := ?_)
        refine takeA (i := 17) (hy := by intro wq hSw; have q0 := bat hSw k0; have q1 := bat hSw k1; have q2 := bat hSw k2; have q3 := bat hSw k3; go_simp <;> with_reducible rfl) (h := ?_)
        refine rdA (i := 14) (h := fun K hK => ?_)
        go_simp; go_invoke; go_simp
        refine (above_f sp X D Y E ay _ (P.below N) d1).mono ?_
        rintro e1 ww3 ⟨rfl, hb⟩
        rw [h3.out]
        replace N := N.trans (hb.mono N.size)
        clear hb
        refine hK.out _ _ N (fun hHeld => ?_)
        clear hK K
        try simp only [Act.put, sA, sB, sC]
        refine rdA (i := 18) (h := fun K hK => ?_)
        go_simp; go_invoke; go_simp
        refine (above_f sp X D Y E bz _ (P.below N) d2).mono ?_
        rintro e1 ww4 ⟨rfl, hb⟩
        rw [h4.out]
        replace N := N.trans (hb.mono N.size)
        clear hb
        refine hK.out _ _ N (fun hHeld => ?_)
        clear hK K
        try simp only [Act.put, sA, sB, sC]
        refine takeA (i := 19) (h := ?_)
        refine takeA (i := 20) (h := ?_)
        refine takeA (i := 21) (h := ?_)
        refine takeA (i := 22) (h := ?_)
        refine takeA (i := 23) (h := ?_)
        refine takeA (i := 24) (hy := by intro wq hSw; have q0 := bat hSw k0; have q1 := bat hSw k1; have q2 := bat hSw k2; have q3 := bat hSw k3; go_simp <;> with_reducible rfl) (h := ?_)
        refine takeA (i := 25) (hy := by intro wq hSw; have q0 := bat hSw k0; have q1 := bat hSw k1; have q2 := bat hSw k2; have q3 := bat hSw k3; go_simp <;> with_reducible rfl) (h := ?_)
        refine rdA (i := 26) (h := fun K hK => ?_)
        go_simp; go_invoke; go_simp
        refine (leftOf_f sp X D Y E ax ay bx bz _ (P.below N) c1 d1 c2 d2).mono ?_
        rintro e1 ww5 ⟨rfl, hb⟩
        rw [h5.out]
        replace N := N.trans (hb.mono N.size)
        clear hb
        refine hK.out _ _ N (fun hHeld => ?_)
        clear hK K
        try simp only [Act.put, sA, sB, sC]
        refine takeA (i := 27) (h := ?_)
        refine takeA (i := 28) (h := ?_)
        refine takeA (i := 29) (h := ?_)
        refine wpAnyH_done (by kernel_rfl) ?_ _
        go_wp2
        go_ret
        exact ⟨by rw [F.out]; rfl, B0.trans (N.mono B0.size)⟩
      · have b3 : (s5 == 0) = false := by simp [q3]
        have F : Hid (onB (ax * D) (ay * E) (bx * D) (bz * E) X Y = false) := by
          show _ = _
          rw [HB.out]
          simp [q1, q2, q3]
        go_enter Tryz.func54, Tryz.ntmps54
        go_upto_region 1 with fail
        generalize (w.alloc (.cells #[.int .i64 ax, .int .i64 ay] 84)).alloc (.cells #[.int .i64 bx, .int .i64 bz] 84) = W0 at *
        refine wp_region_held_drew (S := Below W0.heap.size W0) (by kernel_rfl) ((Below.refl _ _).drew) (fun hHeld => ?_)
        have N : Below W0.heap.size W0 W0.drew := hHeld
        revert hHeld N
        generalize W0.drew = ww0
        intro hHeld N
        refine takeA (i := 0) (h := ?_)
        refine takeA (i := 1) (h := ?_)
        refine takeA (i := 2) (hy := by intro wq hSw; have q0 := bat hSw k0; have q1 := bat hSw k1; have q2 := bat hSw k2; have q3 := bat hSw k3; go_simp <;> with_reducible rfl) (h := ?_)
        refine takeA (i := 4) (h := ?_)
        refine takeA (i := 5) (h := ?_)
        refine takeA (i := 6) (hy := by intro wq hSw; have q0 := bat hSw k0; have q1 := bat hSw k1; have q2 := bat hSw k2; have q3 := bat hSw k3; go_simp <;> with_reducible rfl) (h := ?_)
        refine rdA (i := 3) (h := fun K hK => ?_)
        go_simp; go_invoke; go_simp
        refine (rightOf_f sp X D Y E ax _ (P.below N) c1).mono ?_
        rintro e1 ww1 ⟨rfl, hb⟩
        rw [h1.out]
        replace N := N.trans (hb.mono N.size)
        clear hb
        refine hK.out _ _ N (fun hHeld => ?_)
        clear hK K
        try simp only [Act.put, sA, sB, sC]
        refine rdA (i := 7) (h := fun K hK => ?_)
        go_simp; go_invoke; go_simp
        refine (rightOf_f sp X D Y E bx _ (P.below N) c2).mono ?_
        rintro e1 ww2 ⟨rfl, hb⟩
        rw [h2.out]
        replace N := N.trans (hb.mono N.size)
        clear hb
        refine hK.out _ _ N (fun hHeld => ?_)
        clear hK K
        try simp only [Act.put, sA, sB, sC]
        refine takeA (i := 8) (h := ?_)
        refine takeA (i := 9) (h := ?_)
        refine takeA (i := 10) (h := ?_)
        refine takeA (i := 11) (h := ?_)
        refine takeA (i := 12) (h := ?_)
        refine takeA (i := 13) (hy := by intro wq hSw; have q0 := bat hSw k0; have q1 := bat hSw k1; have q2 := bat hSw k2; have q3 := bat hSw k3; go_simp <;> with_reducible rfl) (h := ?_)
        refine takeA (i := 15) (h := ?_)
        refine takeA (i := 16) (h := ?_)
        refine takeA (i := 17) (hy := by intro wq hSw; have q0 := bat hSw k0; have q1 := bat hSw k1; have q2 := bat hSw k2; have q3 := bat hSw k3; go_simp <;> with_reducible rfl) (h := ?_)
        refine rdA (i := 14) (h := fun K hK => ?_)
        go_simp; go_invoke; go_simp
        refine (above_f sp X D Y E ay _ (P.below N) d1).mono ?_
        rintro e1 ww3 ⟨rfl, hb⟩
        rw [h3.out]
        replace N := N.trans (hb.mono N.size)
        clear hb
        refine hK.out _ _ N (fun hHeld => ?_)
        clear hK K
        try simp only [Act.put, sA, sB, sC]
        refine rdA (i := 18) (h := fun K hK => ?_)
        go_simp; go_invoke; go_simp
        refine (above_f sp X D Y E bz _ (P.below N) d2).mono ?_
        rintro e1 ww4 ⟨rfl, hb⟩
        rw [h4.out]
        replace N := N.trans (hb.mono N.size)
        clear hb
        refine hK.out _ _ N (fun hHeld => ?_)
        clear hK K
        try simp only [Act.put, sA, sB, sC]
        refine takeA (i := 19) (h := ?_)
        refine takeA (i := 20) (h := ?_)
        refine takeA (i := 21) (h := ?_)
        refine takeA (i := 22) (h := ?_)
        refine takeA (i := 23) (h := ?_)
        refine takeA (i := 24) (hy := by intro wq hSw; have q0 := bat hSw k0; have q1 := bat hSw k1; have q2 := bat hSw k2; have q3 := bat hSw k3; go_simp <;> with_reducible rfl) (h := ?_)
        refine takeA (i := 25) (hy := by intro wq hSw; have q0 := bat hSw k0; have q1 := bat hSw k1; have q2 := bat hSw k2; have q3 := bat hSw k3; go_simp <;> with_reducible rfl) (h := ?_)
        refine rdA (i := 26) (h := fun K hK => ?_)
        go_simp; go_invoke; go_simp
        refine (leftOf_f sp X D Y E ax ay bx bz _ (P.below N) c1 d1 c2 d2).mono ?_
        rintro e1 ww5 ⟨rfl, hb⟩
        rw [h5.out]
        replace N := N.trans (hb.mono N.size)
        clear hb
        refine hK.out _ _ N (fun hHeld => ?_)
        clear hK K
        try simp only [Act.put, sA, sB, sC]
        refine takeA (i := 27) (h := ?_)
        refine takeA (i := 28) (h := ?_)
        refine takeA (i := 29) (h := ?_)
        refine wpAnyH_done (by kernel_rfl) ?_ _
        go_wp2
        go_ret
        exact ⟨by rw [F.out]; rfl, B0.trans (N.mono B0.size)⟩
    · skip
      skip
      have F : Hid (onB (ax * D) (ay * E) (bx * D) (bz * E) X Y = false) := by
        show _ = _
        rw [HB.out]
        simp [q1, q2]
      go_enter Tryz.func54, Tryz.ntmps54
      go_upto_region 1 with fail
      generalize (w.alloc (.cells #[.int .i64 ax, .int .i64 ay] 84)).alloc (.cells #[.int .i64 bx, .int .i64 bz] 84) = W0 at *
      refine wp_region_held_drew (S := Below W0.heap.size W0) (by kernel_rfl) ((Below.refl _ _).drew) (fun hHeld => ?_)
      have N : Below W0.heap.size W0 W0.drew := hHeld
      revert hHeld N
      generalize W0.drew = ww0
      intro hHeld N
      refine takeA (i := 0) (h := ?_)
      refine takeA (i := 1) (h := ?_)
      refine takeA (i := 2) (hy := by intro wq hSw; have q0 := bat hSw k0; have q1 := bat hSw k1; have q2 := bat hSw k2; have q3 := bat hSw k3; go_simp <;> with_reducible rfl) (h := ?_)
      refine takeA (i := 4) (h := ?_)
      refine takeA (i := 5) (h := ?_)
      refine takeA (i := 6) (hy := by intro wq hSw; have q0 := bat hSw k0; have q1 := bat hSw k1; have q2 := bat hSw k2; have q3 := bat hSw k3; go_simp <;> with_reducible rfl) (h := ?_)
      refine rdA (i := 3) (h := fun K hK => ?_)
      go_simp; go_invoke; go_simp
      refine (rightOf_f sp X D Y E ax _ (P.below N) c1).mono ?_
      rintro e1 ww1 ⟨rfl, hb⟩
      rw [h1.out]
      replace N := N.trans (hb.mono N.size)
      clear hb
      refine hK.out _ _ N (fun hHeld => ?_)
      clear hK K
      try simp only [Act.put, sA, sB, sC]
      refine rdA (i := 7) (h := fun K hK => ?_)
      go_simp; go_invoke; go_simp
      refine (rightOf_f sp X D Y E bx _ (P.below N) c2).mono ?_
      rintro e1 ww2 ⟨rfl, hb⟩
      rw [h2.out]
      replace N := N.trans (hb.mono N.size)
      clear hb
      refine hK.out _ _ N (fun hHeld => ?_)
      clear hK K
      try simp only [Act.put, sA, sB, sC]
      refine takeA (i := 8) (h := ?_)
      refine takeA (i := 9) (h := ?_)
      refine takeA (i := 10) (h := ?_)
      refine takeA (i := 11) (h := ?_)
      refine takeA (i := 12) (h := ?_)
      refine takeA (i := 13) (hy := by intro wq hSw; have q0 := bat hSw k0; have q1 := bat hSw k1; have q2 := bat hSw k2; have q3 := bat hSw k3; go_simp <;> with_reducible rfl) (h := ?_)
      refine takeA (i := 15) (h := ?_)
      refine takeA (i := 16) (h := ?_)
      refine takeA (i := 17) (hy := by intro wq hSw; have q0 := bat hSw k0; have q1 := bat hSw k1; have q2 := bat hSw k2; have q3 := bat hSw k3; go_simp <;> with_reducible rfl) (h := ?_)
      refine rdA (i := 14) (h := fun K hK => ?_)
      go_simp; go_invoke; go_simp
      refine (above_f sp X D Y E ay _ (P.below N) d1).mono ?_
      rintro e1 ww3 ⟨rfl, hb⟩
      rw [h3.out]
      replace N := N.trans (hb.mono N.size)
      clear hb
      refine hK.out _ _ N (fun hHeld => ?_)
      clear hK K
      try simp only [Act.put, sA, sB, sC]
      refine rdA (i := 18) (h := fun K hK => ?_)
      go_simp; go_invoke; go_simp
      refine (above_f sp X D Y E bz _ (P.below N) d2).mono ?_
      rintro e1 ww4 ⟨rfl, hb⟩
      rw [h4.out]
      replace N := N.trans (hb.mono N.size)
      clear hb
      refine hK.out _ _ N (fun hHeld => ?_)
      clear hK K
      try simp only [Act.put, sA, sB, sC]
      refine takeA (i := 19) (h := ?_)
      refine takeA (i := 20) (h := ?_)
      refine takeA (i := 21) (h := ?_)
      refine takeA (i := 22) (h := ?_)
      refine takeN (i := 23) (gt rfl) (by kernel_rfl) (by kernel_rfl) (by kernel_rfl) (by exact fun _ _ _ h => h) (by rfl) (by assumption) ?_
      try simp only [Act.put, sA, sB, sC]
      refine takeN (i := 24) (gt rfl) (by kernel_rfl) (by kernel_rfl) (by kernel_rfl) (by exact fun _ _ _ h => h) (by rfl) (by assumption) ?_
      try simp only [Act.put, sA, sB, sC]
      refine takeN (i := 25) (gt rfl) (by kernel_rfl) (by kernel_rfl) (by kernel_rfl) (by exact fun _ _ _ h => h) (by rfl) (by assumption) ?_
      try simp only [Act.put, sA, sB, sC]
      refine takeN (i := 26) (gt rfl) (by kernel_rfl) (by kernel_rfl) (by kernel_rfl) (by exact fun _ _ _ h => h) (by rfl) (by assumption) ?_
      try simp only [Act.put, sA, sB, sC]
      refine takeN (i := 27) (gt rfl) (by kernel_rfl) (by kernel_rfl) (by kernel_rfl) (by exact fun _ _ _ h => h) (by rfl) (by assumption) ?_
      try simp only [Act.put, sA, sB, sC]
      refine takeA (i := 28) (h := ?_)
      refine takeA (i := 29) (h := ?_)
      refine wpAnyH_done (by kernel_rfl) ?_ _
      go_wp2
      go_ret
      exact ⟨by rw [F.out]; rfl, B0.trans (N.mono B0.size)⟩
  · skip
    skip
    have F : Hid (onB (ax * D) (ay * E) (bx * D) (bz * E) X Y = false) := by
      show _ = _
      rw [HB.out]
      simp [q1]
    go_enter Tryz.func54, Tryz.ntmps54
    go_upto_region 1 with fail
    generalize (w.alloc (.cells #[.int .i64 ax, .int .i64 ay] 84)).alloc (.cells #[.int .i64 bx, .int .i64 bz] 84) = W0 at *
    refine wp_region_held_drew (S := Below W0.heap.size W0) (by kernel_rfl) ((Below.refl _ _).drew) (fun hHeld => ?_)
    have N : Below W0.heap.size W0 W0.drew := hHeld
    revert hHeld N
    generalize W0.drew = ww0
    intro hHeld N
    refine takeA (i := 0) (h := ?_)
    refine takeA (i := 1) (h := ?_)
    refine takeA (i := 2) (hy := by intro wq hSw; have q0 := bat hSw k0; have q1 := bat hSw k1; have q2 := bat hSw k2; have q3 := bat hSw k3; go_simp <;> with_reducible rfl) (h := ?_)
    refine takeA (i := 4) (h := ?_)
    refine takeA (i := 5) (h := ?_)
    refine takeA (i := 6) (hy := by intro wq hSw; have q0 := bat hSw k0; have q1 := bat hSw k1; have q2 := bat hSw k2; have q3 := bat hSw k3; go_simp <;> with_reducible rfl) (h := ?_)
    refine rdA (i := 3) (h := fun K hK => ?_)
    go_simp; go_invoke; go_simp
    refine (rightOf_f sp X D Y E ax _ (P.below N) c1).mono ?_
    rintro e1 ww1 ⟨rfl, hb⟩
    rw [h1.out]
    replace N := N.trans (hb.mono N.size)
    clear hb
    refine hK.out _ _ N (fun hHeld => ?_)
    clear hK K
    try simp only [Act.put, sA, sB, sC]
    refine rdA (i := 7) (h := fun K hK => ?_)
    go_simp; go_invoke; go_simp
    refine (rightOf_f sp X D Y E bx _ (P.below N) c2).mono ?_
    rintro e1 ww2 ⟨rfl, hb⟩
    rw [h2.out]
    replace N := N.trans (hb.mono N.size)
    clear hb
    refine hK.out _ _ N (fun hHeld => ?_)
    clear hK K
    try simp only [Act.put, sA, sB, sC]
    refine takeA (i := 8) (h := ?_)
    refine takeA (i := 9) (h := ?_)
    refine takeA (i := 10) (h := ?_)
    refine takeN (i := 11) (gt rfl) (by kernel_rfl) (by kernel_rfl) (by kernel_rfl) (by exact fun _ _ _ h => h) (by rfl) (by assumption) ?_
    try simp only [Act.put, sA, sB, sC]
    refine takeN (i := 12) (gt rfl) (by kernel_rfl) (by kernel_rfl) (by kernel_rfl) (by exact fun _ _ _ h => h) (by rfl) (by assumption) ?_
    try simp only [Act.put, sA, sB, sC]
    refine takeN (i := 13) (gt rfl) (by kernel_rfl) (by kernel_rfl) (by kernel_rfl) (by exact fun _ _ _ h => h) (by rfl) (by assumption) ?_
    try simp only [Act.put, sA, sB, sC]
    refine takeN (i := 14) (gt rfl) (by kernel_rfl) (by kernel_rfl) (by kernel_rfl) (by exact fun _ _ _ h => h) (by rfl) (by assumption) ?_
    try simp only [Act.put, sA, sB, sC]
    refine takeN (i := 15) (gt rfl) (by kernel_rfl) (by kernel_rfl) (by kernel_rfl) (by exact fun _ _ _ h => h) (by rfl) (by assumption) ?_
    try simp only [Act.put, sA, sB, sC]
    refine takeN (i := 16) (gt rfl) (by kernel_rfl) (by kernel_rfl) (by kernel_rfl) (by exact fun _ _ _ h => h) (by rfl) (by assumption) ?_
    try simp only [Act.put, sA, sB, sC]
    refine takeN (i := 17) (gt rfl) (by kernel_rfl) (by kernel_rfl) (by kernel_rfl) (by exact fun _ _ _ h => h) (by rfl) (by assumption) ?_
    try simp only [Act.put, sA, sB, sC]
    refine takeN (i := 18) (gt rfl) (by kernel_rfl) (by kernel_rfl) (by kernel_rfl) (by exact fun _ _ _ h => h) (by rfl) (by assumption) ?_
    try simp only [Act.put, sA, sB, sC]
    refine takeN (i := 19) (gt rfl) (by kernel_rfl) (by kernel_rfl) (by kernel_rfl) (by exact fun _ _ _ h => h) (by rfl) (by assumption) ?_
    try simp only [Act.put, sA, sB, sC]
    refine takeN (i := 20) (gt rfl) (by kernel_rfl) (by kernel_rfl) (by kernel_rfl) (by exact fun _ _ _ h => h) (by rfl) (by assumption) ?_
    try simp only [Act.put, sA, sB, sC]
    refine takeA (i := 21) (h := ?_)
    refine takeA (i := 22) (h := ?_)
    refine takeN (i := 23) (gt rfl) (by kernel_rfl) (by kernel_rfl) (by kernel_rfl) (by exact fun _ _ _ h => h) (by rfl) (by assumption) ?_
    try simp only [Act.put, sA, sB, sC]
    refine takeN (i := 24) (gt rfl) (by kernel_rfl) (by kernel_rfl) (by kernel_rfl) (by exact fun _ _ _ h => h) (by rfl) (by assumption) ?_
    try simp only [Act.put, sA, sB, sC]
    refine takeN (i := 25) (gt rfl) (by kernel_rfl) (by kernel_rfl) (by kernel_rfl) (by exact fun _ _ _ h => h) (by rfl) (by assumption) ?_
    try simp only [Act.put, sA, sB, sC]
    refine takeN (i := 26) (gt rfl) (by kernel_rfl) (by kernel_rfl) (by kernel_rfl) (by exact fun _ _ _ h => h) (by rfl) (by assumption) ?_
    try simp only [Act.put, sA, sB, sC]
    refine takeN (i := 27) (gt rfl) (by kernel_rfl) (by kernel_rfl) (by kernel_rfl) (by exact fun _ _ _ h => h) (by rfl) (by assumption) ?_
    try simp only [Act.put, sA, sB, sC]
    refine takeA (i := 28) (h := ?_)
    refine takeA (i := 29) (h := ?_)
    refine wpAnyH_done (by kernel_rfl) ?_ _
    go_wp2
    go_ret
    exact ⟨by rw [F.out]; rfl, B0.trans (N.mono B0.size)⟩

set_option maxRecDepth 20000 in
set_option maxHeartbeats 8000000 in
theorem touch_f (a : Option Addr) (c : Nat) (es : List Sg) (sp : Value) (X D Y E : Int) (w : World) (h : SeesQ w a c es) (ok : okQ es = true) (P : Pl w sp X D Y E) :
    Calls Tryz.prog 39 #[.slice a es.length c, .iface 58 sp] w fun e w' => e = .returned (.bool (onQ (sdQ D E es) (X, Y))) ∧ Below w.heap.size w w' := by
  have hm := h.max
  have hf := h.fits
  unfold maxLen at hm
  go_enter Tryz.func39, Tryz.ntmps39
  go_wp2
  go_loopw [9] (fun s9 wr => ∃ j : Nat, j ≤ es.length ∧ s9 = .int .i64 j ∧ Hid (onQ (sdQ D E (es.take j)) (X, Y) = false) ∧ Below w.heap.size w wr) (fun s9 _ => es.length - (intOf s9).toNat)
  case atStart => exact ⟨0, Nat.zero_le _, rfl, rfl, Below.refl _ _⟩
  case round =>
    obtain ⟨j, hj, rfl, T, B⟩ := hrel
    rename World => wr
    by_cases hlt : j < es.length
    · obtain ⟨⟨a1, a2⟩, ⟨a3, a4⟩⟩ := okQ_at ok hlt
      obtain ⟨b, off, rfl, hc⟩ := (h.below B).cells (by intro e; simp [e] at hlt)
      obtain ⟨g1, g2, g3, g4⟩ := hc j hlt
      have HN : Hid (onQ (sdQ D E (es.take (j + 1))) (X, Y) = onB ((sgA es j).1.1 * D) ((sgA es j).1.2 * E) ((sgA es j).2.1 * D) ((sgA es j).2.2 * E) X Y) := onQ_stepF hlt T.out
      have HF : Hid (onB ((sgA es j).1.1 * D) ((sgA es j).1.2 * E) ((sgA es j).2.1 * D) ((sgA es j).2.2 * E) X Y = true → onQ (sdQ D E es) (X, Y) = true) := onQ_foundF hlt
      clear hc T
      generalize (sgA es j).1.1 = x at *
      generalize (sgA es j).1.2 = y at *
      generalize (sgA es j).2.1 = u at *
      generalize (sgA es j).2.2 = v at *
      have K0 := Box4.new wr (lo := w.heap.size) B.size (.int .i64 x) (.int .i64 y) (.int .i64 u) (.int .i64 v) 106
      have bn := below1 wr (.cells #[.int .i64 x, .int .i64 y, .int .i64 u, .int .i64 v] 106)
      replace B := B.trans (bn.mono B.size)
      clear bn
      go_upto_region 4 with fail
      clear g1 g2 g3 g4
      generalize wr.alloc (.cells #[.int .i64 x, .int .i64 y, .int .i64 u, .int .i64 v] 106) = W0 at *
      generalize wr.heap.size = qe at *
      obtain ⟨k0, k1, k2, k3, _, _⟩ := id K0
      go_wp2_with fail
      refine (liesOn_f sp X D Y E x y u v _ a1 a2 a3 a4 (P.below B)).mono ?_
      rintro e w2 ⟨rfl, hb⟩
      replace B := B.trans (hb.mono B.size)
      clear hb k0 k1 k2 k3 K0
      cases o1 : onB (x * D) (y * E) (u * D) (v * E) X Y
      · have T' := HN.out.trans o1
        clear HN HF
        go_wp2
        go_roundw
        case rel => exact ⟨j + 1, by omega, by go_num, T', B⟩
        case measure => simp [intOf]; omega
      · have F : Hid (onQ (sdQ D E es) (X, Y) = true) := HF.out o1
        clear HN HF
        go_wp2
        go_ret
        exact ⟨by rw [F.out]; rfl, B⟩
    · obtain rfl : j = es.length := by omega
      have F : Hid (onQ (sdQ D E es) (X, Y) = false) := by have := T.out; rwa [List.take_length] at this
      clear T
      go_wp2
      go_ret
      exact ⟨by rw [F.out]; rfl, B⟩

set_option maxRecDepth 20000 in
set_option maxHeartbeats 8000000 in
theorem around_f (a : Option Addr) (c : Nat) (es : List Sg) (sp : Value) (X D Y E : Int) (w : World) (h : SeesQ w a c es) (ok : okQ es = true) (P : Pl w sp X D Y E) :
    Calls Tryz.prog 40 #[.slice a es.length c, .iface 58 sp] w fun e w' => e = .returned (.bool (par (hqE (sdQ D E es) X Y) es.length)) ∧ Below w.heap.size w w' := by
  have hm := h.max
  have hf := h.fits
  unfold maxLen at hm
  go_enter Tryz.func40, Tryz.ntmps40
  go_wp2
  go_loopw [5, 14] (fun s5 s14 wr => ∃ j : Nat, j ≤ es.length ∧ s14 = .int .i64 j ∧ s5 = .bool (par (hqE (sdQ D E es) X Y) j) ∧ Below w.heap.size w wr) (fun _ s14 _ => es.length - (intOf s14).toNat)
  case atStart => exact ⟨0, Nat.zero_le _, rfl, rfl, Below.refl _ _⟩
  case round =>
    obtain ⟨j, hj, rfl, rfl, B⟩ := hrel
    rename World => wr
    by_cases hlt : j < es.length
    · obtain ⟨⟨a1, a2⟩, ⟨a3, a4⟩⟩ := okQ_at ok hlt
      obtain ⟨b, off, rfl, hc⟩ := (h.below B).cells (by intro e; simp [e] at hlt)
      obtain ⟨g1, g2, g3, g4⟩ := hc j hlt
      clear hc
      obtain ⟨od, Hod⟩ : ∃ b, Hid (par (hqE (sdQ D E es) X Y) j = b) := ⟨_, rfl⟩
      rw [Hod.out]
      have E2 : Hid (par (hqE (sdQ D E es) X Y) (j + 1) = (od ^^ hitI ((sgA es j).1.1 * D) ((sgA es j).1.2 * E) ((sgA es j).2.1 * D) ((sgA es j).2.2 * E) X Y)) := by
        show _ = _
        rw [← Hod.out, ← hqE_sd]
        rfl
      clear Hod
      generalize (sgA es j).1.1 = x at *
      generalize (sgA es j).1.2 = y at *
      generalize (sgA es j).2.1 = u at *
      generalize (sgA es j).2.2 = v at *
      have K0 := Box4.new wr (lo := w.heap.size) B.size (.int .i64 x) (.int .i64 y) (.int .i64 u) (.int .i64 v) 106
      have bn := below1 wr (.cells #[.int .i64 x, .int .i64 y, .int .i64 u, .int .i64 v] 106)
      replace B := B.trans (bn.mono B.size)
      clear bn
      go_upto_region 5 with fail
      clear g1 g2 g3 g4
      generalize wr.alloc (.cells #[.int .i64 x, .int .i64 y, .int .i64 u, .int .i64 v] 106) = W0 at *
      generalize wr.heap.size = qe at *
      obtain ⟨k0, k1, k2, k3, _, _⟩ := id K0
      go_cut [8, 9] (fun s8 s9 W => ∃ p q, s8 = .pointer (some ⟨p, 0, none⟩) ∧ s9 = .pointer (some ⟨q, 0, none⟩) ∧ Box2 W0.heap.size W p (.int .i64 x) (.int .i64 y) ∧ Box2 W0.heap.size W q (.int .i64 u) (.int .i64 v) ∧ Below W0.heap.size W0 W)
      case first =>
        refine wp_region_held_drew (S := Below W0.heap.size W0) (by kernel_rfl) ((Below.refl _ _).drew) (fun hHeld => ?_)
        have N : Below W0.heap.size W0 W0.drew := hHeld
        revert hHeld N
        generalize W0.drew = ww0
        intro hHeld N
        refine takeA (i := 0) (h := ?_)
        refine takeA (i := 1) (hy := by intro wq hSw; have q0 := bat hSw k0; have q1 := bat hSw k1; have q2 := bat hSw k2; have q3 := bat hSw k3; go_simp <;> with_reducible rfl) (h := ?_)
        refine takeA (i := 2) (h := ?_)
        refine takeA (i := 3) (hy := by intro wq hSw; have q0 := bat hSw k0; have q1 := bat hSw k1; have q2 := bat hSw k2; have q3 := bat hSw k3; go_simp <;> with_reducible rfl) (h := ?_)
        refine wpAnyH_ready (rs := [4, 5]) (by kernel_rfl) (by simp) (AllReadyH.cons (gt rfl) (fun K hK => ?_) (AllReadyH.cons (gt rfl) (fun K hK => ?_) AllReadyH.nil))
        · skip
          go_simp
          have kP := Box2.new ww0 N.size (.int .i64 0) (.int .i64 0) 84
          have hb := below1 ww0 (.cells #[.int .i64 0, .int .i64 0] 84)
          replace N := N.trans (hb.mono N.size)
          clear hb
          generalize ww0.alloc (.cells #[.int .i64 0, .int .i64 0] 84) = ww1 at *
          refine hK.out _ _ N (fun hHeld => ?_)
          clear hK K
          try simp only [Act.put, sA, sB, sC]
          refine rdA (i := 5) (h := fun K hK => ?_)
          go_simp
          have kQ := Box2.new ww1 N.size (.int .i64 0) (.int .i64 0) 84
          have hb := below1 ww1 (.cells #[.int .i64 0, .int .i64 0] 84)
          have ne_kQ_kP := Nat.ne_of_gt kP.lt
          have ne_kP_kQ := ne_kQ_kP.symm
          replace kP := kP.below hb
          replace N := N.trans (hb.mono N.size)
          clear hb
          generalize ww1.alloc (.cells #[.int .i64 0, .int .i64 0] 84) = ww2 at *
          refine hK.out _ _ N (fun hHeld => ?_)
          clear hK K
          try simp only [Act.put, sA, sB, sC]
          refine rdA (i := 6) (h := fun K hK => ?_)
          have z0 := kP.c0
          have z1 := kP.c1
          have zf := kP.fr
          go_simp
          clear z0 z1 zf
          replace N := Box2.chain N kP (.int .i64 x) (.int .i64 y)
          replace kQ := kQ.old ne_kQ_kP (.int .i64 x) (.int .i64 y)
          replace kP := kP.put (.int .i64 x) (.int .i64 y)
          refine hK.out _ _ N (fun hHeld => ?_)
          clear hK K
          try simp only [Act.put, sA, sB, sC]
          refine rdA (i := 7) (h := fun K hK => ?_)
          have z0 := kQ.c0
          have z1 := kQ.c1
          have zf := kQ.fr
          go_simp
          clear z0 z1 zf
          replace N := Box2.chain N kQ (.int .i64 u) (.int .i64 v)
          replace kP := kP.old ne_kP_kQ (.int .i64 u) (.int .i64 v)
          replace kQ := kQ.put (.int .i64 u) (.int .i64 v)
          refine hK.out _ _ N (fun hHeld => ?_)
          clear hK K
          try simp only [Act.put, sA, sB, sC]
          refine wpAnyH_done (by kernel_rfl) ?_ _
          go_wp2
          go_meet
          case rel => exact ⟨_, _, rfl, rfl, kP, kQ, N⟩
        · skip
          go_simp
          have kQ := Box2.new ww0 N.size (.int .i64 0) (.int .i64 0) 84
          have hb := below1 ww0 (.cells #[.int .i64 0, .int .i64 0] 84)
          replace N := N.trans (hb.mono N.size)
          clear hb
          generalize ww0.alloc (.cells #[.int .i64 0, .int .i64 0] 84) = ww5 at *
          refine hK.out _ _ N (fun hHeld => ?_)
          clear hK K
          try simp only [Act.put, sA, sB, sC]
          refine rdA (i := 4) (h := fun K hK => ?_)
          go_simp
          have kP := Box2.new ww5 N.size (.int .i64 0) (.int .i64 0) 84
          have hb := below1 ww5 (.cells #[.int .i64 0, .int .i64 0] 84)
          have ne_kP_kQ := Nat.ne_of_gt kQ.lt
          have ne_kQ_kP := ne_kP_kQ.symm
          replace kQ := kQ.below hb
          replace N := N.trans (hb.mono N.size)
          clear hb
          generalize ww5.alloc (.cells #[.int .i64 0, .int .i64 0] 84) = ww6 at *
          refine hK.out _ _ N (fun hHeld => ?_)
          clear hK K
          try simp only [Act.put, sA, sB, sC]
          refine rdA (i := 6) (h := fun K hK => ?_)
          have z0 := kP.c0
          have z1 := kP.c1
          have zf := kP.fr
          go_simp
          clear z0 z1 zf
          replace N := Box2.chain N kP (.int .i64 x) (.int .i64 y)
          replace kQ := kQ.old ne_kQ_kP (.int .i64 x) (.int .i64 y)
          replace kP := kP.put (.int .i64 x) (.int .i64 y)
          refine hK.out _ _ N (fun hHeld => ?_)
          clear hK K
          try simp only [Act.put, sA, sB, sC]
          refine rdA (i := 7) (h := fun K hK => ?_)
          have z0 := kQ.c0
          have z1 := kQ.c1
          have zf := kQ.fr
          go_simp
          clear z0 z1 zf
          replace N := Box2.chain N kQ (.int .i64 u) (.int .i64 v)
          replace kP := kP.old ne_kP_kQ (.int .i64 u) (.int .i64 v)
          replace kQ := kQ.put (.int .i64 u) (.int .i64 v)
          refine hK.out _ _ N (fun hHeld => ?_)
          clear hK K
          try simp only [Act.put, sA, sB, sC]
          refine wpAnyH_done (by kernel_rfl) ?_ _
          go_wp2
          go_meet
          case rel => exact ⟨_, _, rfl, rfl, kP, kQ, N⟩
      obtain ⟨p, q, rfl, rfl, VP, VQ, hb⟩ := hcut
      rename World => W1
      clear k0 k1 k2 k3 K0
      replace B := B.trans (hb.mono B.size)
      clear hb
      obtain ⟨s1, hs1⟩ : ∃ s, Hid (sgn1 (Y - y * E) = s) := ⟨_, rfl⟩
      obtain ⟨s2, hs2⟩ : ∃ s, Hid (sgn1 (Y - v * E) = s) := ⟨_, rfl⟩
      obtain ⟨tt, htt⟩ : ∃ s, Hid (sgn1 (ar (x * D) (y * E) (u * D) (v * E) X Y) = s) := ⟨_, rfl⟩
      have e1 : (0 < s1 ↔ y * E < Y) := by
        rw [← hs1.out]
        exact (sgn1_pos_iff _).trans (by omega)
      have e2 : (0 < s2 ↔ v * E < Y) := by
        rw [← hs2.out]
        exact (sgn1_pos_iff _).trans (by omega)
      have e3 : (0 < tt ↔ 0 < ar (x * D) (y * E) (u * D) (v * E) X Y) := by rw [← htt.out]; exact sgn1_pos_iff _
      have e4 : (tt < 0 ↔ ar (x * D) (y * E) (u * D) (v * E) X Y < 0) := by rw [← htt.out]; exact sgn1_neg_iff _
      have E3 : Hid (par (hqE (sdQ D E es) X Y) (j + 1) = (od ^^ ((decide (0 < s1) && (decide (¬ 0 < s2) && decide (0 < tt))) || (decide (0 < s2) && (decide (¬ 0 < s1) && decide (tt < 0)))))) := by
        show _ = _
        rw [E2.out]
        unfold hitI
        have d1 : decide (Y ≤ v * E) = decide (¬ 0 < s2) := by simp [e2]
        have d2 : decide (Y ≤ y * E) = decide (¬ 0 < s1) := by simp [e1]
        rw [d1, d2]
        simp only [e1, e2, e3, e4]
      clear E2 e1 e2 e3 e4
      obtain ⟨n0, n1, _, _⟩ := id VP
      obtain ⟨m0, m1, _, _⟩ := id VQ
      by_cases q1 : 0 < s1
      · have r1 : ¬ s1 ≤ 0 := by omega
        by_cases q2 : 0 < s2
        · have r2 : ¬ s2 ≤ 0 := by omega
          have F : Hid (par (hqE (sdQ D E es) X Y) (j + 1) = od) := by
            show _ = _
            rw [E3.out]
            simp [q1, q2]
          clear E3
          go_wp2_with (first
          | (go_at_call 123; refine (above_f sp X D Y E _ _ (P.below B) (by first | exact a2 | exact a4)).mono ?_; rintro e w9 ⟨rfl, hb⟩; (first | rw [hs1.out] | rw [hs2.out]); replace B := B.trans (hb.mono B.size); replace n0 := bat hb n0; replace n1 := bat hb n1; replace m0 := bat hb m0; replace m1 := bat hb m1; clear hb)
          | (go_at_call 124; refine (leftOf_f sp X D Y E _ _ _ _ _ (P.below B) a1 a2 a3 a4).mono ?_; rintro e w9 ⟨rfl, hb⟩; rw [htt.out]; replace B := B.trans (hb.mono B.size); replace n0 := bat hb n0; replace n1 := bat hb n1; replace m0 := bat hb m0; replace m1 := bat hb m1; clear hb))
          go_roundw
          case rel => exact ⟨j + 1, by omega, by go_num, by rw [F.out], B⟩
          case measure => simp [intOf]; omega
        · have r2 : s2 ≤ 0 := by omega
          by_cases q3 : 0 < tt
          · skip
            have F : Hid (par (hqE (sdQ D E es) X Y) (j + 1) = !od) := by
              show _ = _
              rw [E3.out]
              simp [q1, q2, q3]
            clear E3
            go_wp2_with (first
            | (go_at_call 123; refine (above_f sp X D Y E _ _ (P.below B) (by first | exact a2 | exact a4)).mono ?_; rintro e w9 ⟨rfl, hb⟩; (first | rw [hs1.out] | rw [hs2.out]); replace B := B.trans (hb.mono B.size); replace n0 := bat hb n0; replace n1 := bat hb n1; replace m0 := bat hb m0; replace m1 := bat hb m1; clear hb)
            | (go_at_call 124; refine (leftOf_f sp X D Y E _ _ _ _ _ (P.below B) a1 a2 a3 a4).mono ?_; rintro e w9 ⟨rfl, hb⟩; rw [htt.out]; replace B := B.trans (hb.mono B.size); replace n0 := bat hb n0; replace n1 := bat hb n1; replace m0 := bat hb m0; replace m1 := bat hb m1; clear hb))
            go_roundw
            case rel => exact ⟨j + 1, by omega, by go_num, by rw [F.out], B⟩
            case measure => simp [intOf]; omega
          · skip
            have F : Hid (par (hqE (sdQ D E es) X Y) (j + 1) = od) := by
              show _ = _
              rw [E3.out]
              simp [q1, q2, q3]
            clear E3
            go_wp2_with (first
            | (go_at_call 123; refine (above_f sp X D Y E _ _ (P.below B) (by first | exact a2 | exact a4)).mono ?_; rintro e w9 ⟨rfl, hb⟩; (first | rw [hs1.out] | rw [hs2.out]); replace B := B.trans (hb.mono B.size); replace n0 := bat hb n0; replace n1 := bat hb n1; replace m0 := bat hb m0; replace m1 := bat hb m1; clear hb)
            | (go_at_call 124; refine (leftOf_f sp X D Y E _ _ _ _ _ (P.below B) a1 a2 a3 a4).mono ?_; rintro e w9 ⟨rfl, hb⟩; rw [htt.out]; replace B := B.trans (hb.mono B.size); replace n0 := bat hb n0; replace n1 := bat hb n1; replace m0 := bat hb m0; replace m1 := bat hb m1; clear hb))
            go_roundw
            case rel => exact ⟨j + 1, by omega, by go_num, by rw [F.out], B⟩
            case measure => simp [intOf]; omega
      · have r1 : s1 ≤ 0 := by omega
        by_cases q2 : 0 < s2
        · have r2 : ¬ s2 ≤ 0 := by omega
          by_cases q3 : tt < 0
          · skip
            have F : Hid (par (hqE (sdQ D E es) X Y) (j + 1) = !od) := by
              show _ = _
              rw [E3.out]
              simp [q1, q2, q3]
            clear E3
            go_wp2_with (first
            | (go_at_call 123; refine (above_f sp X D Y E _ _ (P.below B) (by first | exact a2 | exact a4)).mono ?_; rintro e w9 ⟨rfl, hb⟩; (first | rw [hs1.out] | rw [hs2.out]); replace B := B.trans (hb.mono B.size); replace n0 := bat hb n0; replace n1 := bat hb n1; replace m0 := bat hb m0; replace m1 := bat hb m1; clear hb)
            | (go_at_call 124; refine (leftOf_f sp X D Y E _ _ _ _ _ (P.below B) a1 a2 a3 a4).mono ?_; rintro e w9 ⟨rfl, hb⟩; rw [htt.out]; replace B := B.trans (hb.mono B.size); replace n0 := bat hb n0; replace n1 := bat hb n1; replace m0 := bat hb m0; replace m1 := bat hb m1; clear hb))
            go_roundw
            case rel => exact ⟨j + 1, by omega, by go_num, by rw [F.out], B⟩
            case measure => simp [intOf]; omega
          · skip
            have F : Hid (par (hqE (sdQ D E es) X Y) (j + 1) = od) := by
              show _ = _
              rw [E3.out]
              simp [q1, q2, q3]
            clear E3
            go_wp2_with (first
            | (go_at_call 123; refine (above_f sp X D Y E _ _ (P.below B) (by first | exact a2 | exact a4)).mono ?_; rintro e w9 ⟨rfl, hb⟩; (first | rw [hs1.out] | rw [hs2.out]); replace B := B.trans (hb.mono B.size); replace n0 := bat hb n0; replace n1 := bat hb n1; replace m0 := bat hb m0; replace m1 := bat hb m1; clear hb)
            | (go_at_call 124; refine (leftOf_f sp X D Y E _ _ _ _ _ (P.below B) a1 a2 a3 a4).mono ?_; rintro e w9 ⟨rfl, hb⟩; rw [htt.out]; replace B := B.trans (hb.mono B.size); replace n0 := bat hb n0; replace n1 := bat hb n1; replace m0 := bat hb m0; replace m1 := bat hb m1; clear hb))
            go_roundw
            case rel => exact ⟨j + 1, by omega, by go_num, by rw [F.out], B⟩
            case measure => simp [intOf]; omega
        · have r2 : s2 ≤ 0 := by omega
          have F : Hid (par (hqE (sdQ D E es) X Y) (j + 1) = od) := by
            show _ = _
            rw [E3.out]
            simp [q1, q2]
          clear E3
          go_wp2_with (first
          | (go_at_call 123; refine (above_f sp X D Y E _ _ (P.below B) (by first | exact a2 | exact a4)).mono ?_; rintro e w9 ⟨rfl, hb⟩; (first | rw [hs1.out] | rw [hs2.out]); replace B := B.trans (hb.mono B.size); replace n0 := bat hb n0; replace n1 := bat hb n1; replace m0 := bat hb m0; replace m1 := bat hb m1; clear hb)
          | (go_at_call 124; refine (leftOf_f sp X D Y E _ _ _ _ _ (P.below B) a1 a2 a3 a4).mono ?_; rintro e w9 ⟨rfl, hb⟩; rw [htt.out]; replace B := B.trans (hb.mono B.size); replace n0 := bat hb n0; replace n1 := bat hb n1; replace m0 := bat hb m0; replace m1 := bat hb m1; clear hb))
          go_roundw
          case rel => exact ⟨j + 1, by omega, by go_num, by rw [F.out], B⟩
          case measure => simp [intOf]; omega
    · obtain rfl : j = es.length := by omega
      go_wp2
      go_ret
      exact ⟨rfl, B⟩

set_option maxRecDepth 20000 in
set_option maxHeartbeats 8000000 in
theorem locate_f (a1 a2 : Option Addr) (m1 c1 c2 m2 : Nat) (es : List Sg) (sp : Value) (X D Y E : Int) (w : World) (hm : m1 = es.length) (h : SeesQ w a1 c1 es) (ok : okQ es = true) (P : Pl w sp X D Y E) :
    Calls Tryz.prog 22 #[.agg #[.slice a1 m1 c1, .slice a2 m2 c2], .iface 58 sp] w fun e w' => e = .returned (.int .i64 (locQ (sdQ D E es) (X, Y))) ∧ Below w.heap.size w w' := by
  subst hm
  have B := below1 w (.cells #[.slice a1 es.length c1, .slice a2 m2 c2] 54)
  have V := Box2.new w (lo := w.heap.size) (Nat.le_refl _) (.slice a1 es.length c1) (.slice a2 m2 c2) 54
  have HL : Hid (locQ (sdQ D E es) (X, Y) = if onQ (sdQ D E es) (X, Y) then 1 else if arQ (sdQ D E es) (X, Y) then 2 else 0) := (rfl : locQ (sdQ D E es) (X, Y) = _)
  obtain ⟨k0, k1, _, _⟩ := id V
  replace h := h.below B
  replace P := P.below B
  go_enter Tryz.func22, Tryz.ntmps22
  go_wp2_with fail
  generalize w.alloc (.cells #[.slice a1 es.length c1, .slice a2 m2 c2] 54) = W0 at *
  refine (touch_f a1 c1 es sp X D Y E _ h ok P).mono ?_
  rintro e w1 ⟨rfl, hb⟩
  replace B := B.trans (hb.mono B.size)
  replace V := V.below hb
  replace h := h.below hb
  replace P := P.below hb
  clear hb k0 k1
  cases o1 : onQ (sdQ D E es) (X, Y)
  · rw [o1] at HL
    obtain ⟨k0, k1, _, _⟩ := id V
    go_wp2_with fail
    refine (around_f a1 c1 es sp X D Y E _ h ok P).mono ?_
    rintro e w2 ⟨rfl, hb⟩
    replace B := B.trans (hb.mono B.size)
    clear hb k0 k1
    rw [show par (hqE (sdQ D E es) X Y) es.length = arQ (sdQ D E es) (X, Y) from (by unfold arQ; rw [sdQ_len])]
    cases o2 : arQ (sdQ D E es) (X, Y)
    · rw [o2] at HL
      go_wp2
      go_ret
      exact ⟨by rw [HL.out]; rfl, B⟩
    · rw [o2] at HL
      go_wp2
      go_ret
      exact ⟨by rw [HL.out]; rfl, B⟩
  · rw [o1] at HL
    go_wp2
    go_ret
    exact ⟨by rw [HL.out]; rfl, B⟩

def lfV (n : Int) (rs : List (List (Int × Int))) (g : Bool) (ns : List Int) (h : Bool) (ds : List Int) (g' : Bool) (ms : List Int) (h' : Bool) (es : List Int) : Int :=
  if (fOk g ns h ds && fOk g' ms h' es) && (decide (n = 5) && goodB n rs) then lcS (sdS (tk h ds) (tk h' es) rs) (tk g ns, tk g' ms) (rs.length - 1) else 0
theorem lfV_no {n : Int} {rs : List (List (Int × Int))} {g h g' h' : Bool} {ns ds ms es : List Int} (e : ((fOk g ns h ds && fOk g' ms h' es) && (decide (n = 5) && goodB n rs)) = false) : lfV n rs g ns h ds g' ms h' es = 0 := by unfold lfV; rw [e]; rfl
theorem lfV_yes {n : Int} {rs : List (List (Int × Int))} {g h g' h' : Bool} {ns ds ms es : List Int} (e : ((fOk g ns h ds && fOk g' ms h' es) && (decide (n = 5) && goodB n rs)) = true) : lfV n rs g ns h ds g' ms h' es = lcS (sdS (tk h ds) (tk h' es) rs) (tk g ns, tk g' ms) (rs.length - 1) := by unfold lfV; rw [e]; rfl
theorem fOk_pos {g h : Bool} {xs ys : List Int} (e : fOk g xs h ys = true) : 0 < tk h ys := by
  unfold fOk at e
  simp only [Bool.and_eq_true, decide_eq_true_eq] at e
  have := e.2
  unfold cmpZ at this
  split at this
  · omega
  · split at this <;> omega
theorem PlT.of {w : World} {g h g' h' : Bool} {a1 b1 a2 b2 : Option Addr} {c1 d1 c2 d2 : Nat} {ns ds ms es : List Int} (Q : PlS w a1 c1 ns b1 d1 ds a2 c2 ms b2 d2 es) (e1 : fOk g ns h ds = true) (e2 : fOk g' ms h' es = true) : PlT (tk g ns) (tk h ds) (tk g' ms) (tk h' es) g ns h ds g' ms h' es := by
  obtain ⟨o1, o2⟩ := fOk_parts e1
  obtain ⟨o3, o4⟩ := fOk_parts e2
  obtain ⟨p1, p2, p3, p4⟩ := ok_parts Q.s1.lim o1
  obtain ⟨q1, q2, q3, q4⟩ := ok_parts Q.s2.lim o2
  obtain ⟨r1, r2, r3, r4⟩ := ok_parts Q.s3.lim o3
  obtain ⟨t1, t2, t3, t4⟩ := ok_parts Q.s4.lim o4
  exact ⟨⟨Q.s1.lim, p3, p2⟩, p1, ⟨Q.s2.lim, q3, q2⟩, q1, ⟨Q.s3.lim, r3, r2⟩, r1, ⟨Q.s4.lim, t3, t2⟩, t1, p4, q4, r4, t4, fOk_pos e1, fOk_pos e2⟩

set_option maxRecDepth 20000 in
set_option maxHeartbeats 8000000 in
theorem implLocateFrac (n : Int) (a : Option Addr) (c : Nat) (rs : List (List (Int × Int))) (g h g' h' : Bool) (a1 b1 a2 b2 : Option Addr) (c1 d1 c2 d2 : Nat) (ns ds ms es : List Int) (w : World) (hs : SeesS w a c rs) (Q : PlS w a1 c1 ns b1 d1 ds a2 c2 ms b2 d2 es) :
    Calls Tryz.prog 9 #[.agg #[.int .i64 n, .slice a rs.length c], .agg #[.bool g, .slice a1 ns.length c1, .bool h, .slice b1 ds.length d1], .agg #[.bool g', .slice a2 ms.length c2, .bool h', .slice b2 es.length d2]] w fun e w' => e = .returned (.int .i64 (lfV n rs g ns h ds g' ms h' es)) ∧ Below w.heap.size w w' := by
  have B := below3 w (.cells #[.int .i64 n, .slice a rs.length c] 35) (.cells #[.bool g, .slice a1 ns.length c1, .bool h, .slice b1 ds.length d1] 39) (.cells #[.bool g', .slice a2 ms.length c2, .bool h', .slice b2 es.length d2] 39)
  have V1 := (Box2.new w (lo := 0) (Nat.zero_le _) (.int .i64 n) (.slice a rs.length c) 35).below (below2 _ (.cells #[.bool g, .slice a1 ns.length c1, .bool h, .slice b1 ds.length d1] 39) (.cells #[.bool g', .slice a2 ms.length c2, .bool h', .slice b2 es.length d2] 39))
  have V2 := (Box4.new (w.alloc (.cells #[.int .i64 n, .slice a rs.length c] 35)) (lo := 0) (Nat.zero_le _) (.bool g) (.slice a1 ns.length c1) (.bool h) (.slice b1 ds.length d1) 39).below (below1 _ (.cells #[.bool g', .slice a2 ms.length c2, .bool h', .slice b2 es.length d2] 39))
  have V3 := Box4.new ((w.alloc (.cells #[.int .i64 n, .slice a rs.length c] 35)).alloc (.cells #[.bool g, .slice a1 ns.length c1, .bool h, .slice b1 ds.length d1] 39)) (lo := 0) (Nat.zero_le _) (.bool g') (.slice a2 ms.length c2) (.bool h') (.slice b2 es.length d2) 39
  rw [World.size_alloc] at V2
  rw [World.size_alloc, World.size_alloc] at V3
  replace hs := hs.below B
  replace Q := Q.below B
  obtain ⟨k0, k1, k2, k3, _, _⟩ := id V2
  go_enter Tryz.func9, Tryz.ntmps9
  go_wp2_with fail
  generalize (((w.alloc (.cells #[.int .i64 n, .slice a rs.length c] 35)).alloc (.cells #[.bool g, .slice a1 ns.length c1, .bool h, .slice b1 ds.length d1] 39)).alloc (.cells #[.bool g', .slice a2 ms.length c2, .bool h', .slice b2 es.length d2] 39)) = W0 at *
  refine (implFracOk g h a1 b1 c1 d1 ns ds _ Q.s1 Q.s2).mono ?_
  rintro e w1 ⟨rfl, hb⟩
  replace V1 := V1.below hb
  replace V2 := V2.below hb
  replace V3 := V3.below hb
  replace hs := hs.below hb
  replace Q := Q.below hb
  replace B := B.trans (hb.mono B.size)
  clear hb k0 k1 k2 k3
  cases e1 : fOk g ns h ds
  · have F : Hid (lfV n rs g ns h ds g' ms h' es = 0) := lfV_no (by rw [e1]; rfl)
    go_wp2
    go_ret
    exact ⟨by rw [F.out]; rfl, B⟩
  obtain ⟨k0, k1, k2, k3, _, _⟩ := id V3
  go_wp2_with fail
  refine (implFracOk g' h' a2 b2 c2 d2 ms es _ Q.s3 Q.s4).mono ?_
  rintro e w2 ⟨rfl, hb⟩
  replace V1 := V1.below hb
  replace V2 := V2.below hb
  replace V3 := V3.below hb
  replace hs := hs.below hb
  replace Q := Q.below hb
  replace B := B.trans (hb.mono B.size)
  clear hb k0 k1 k2 k3
  cases e2 : fOk g' ms h' es
  · have F : Hid (lfV n rs g ns h ds g' ms h' es = 0) := lfV_no (by rw [e1, e2]; rfl)
    go_wp2
    go_ret
    exact ⟨by rw [F.out]; rfl, B⟩
  obtain ⟨k0, k1, _, _⟩ := id V1
  go_wp2_with fail
  refine (goodArea_any n a c rs _ hs).mono ?_
  rintro e w3 ⟨rfl, hb⟩
  replace V1 := V1.below hb
  replace V2 := V2.below hb
  replace V3 := V3.below hb
  replace hs := hs.below hb
  replace Q := Q.below hb
  replace B := B.trans (hb.mono B.size)
  clear hb k0 k1
  cases hg : (decide (n = 5) && goodB n rs)
  · have F : Hid (lfV n rs g ns h ds g' ms h' es = 0) := lfV_no (by rw [hg, Bool.and_false])
    go_wp2
    go_ret
    exact ⟨by rw [F.out]; rfl, B⟩
  have HV : Hid (lfV n rs g ns h ds g' ms h' es = lcS (sdS (tk h ds) (tk h' es) rs) (tk g ns, tk g' ms) (rs.length - 1)) := lfV_yes (by rw [e1, e2, hg]; rfl)
  rw [Bool.and_eq_true, decide_eq_true_eq] at hg
  obtain ⟨rfl, hg⟩ := hg
  have T := PlT.of Q e1 e2
  have HT : Hid (PlT (tk g ns) (tk h ds) (tk g' ms) (tk h' es) g ns h ds g' ms h' es) := T
  have HL : Hid (locQ (sdQ (tk h ds) (tk h' es) (segL 5 rs)) (tk g ns, tk g' ms) = lcS (sdS (tk h ds) (tk h' es) rs) (tk g ns, tk g' ms) (rs.length - 1)) := lf_same T.p2 T.p4 (areaR_of hg) _
  have OQ := okQ_seg hg
  obtain ⟨z, HZ⟩ : ∃ z, Hid (lcS (sdS (tk h ds) (tk h' es) rs) (tk g ns, tk g' ms) (rs.length - 1) = z) := ⟨_, rfl⟩
  have HG : Hid (goodB 5 rs = true) := hg
  clear T hg e1 e2
  go_upto_region 3 with fail
  have N : Below w3.heap.size w3 w3.drew := (Below.refl _ _).drew
  refine wp_region_held_drew (S := fun w' => Below w3.heap.size w3 w') (by kernel_rfl) N (fun hHeld => ?_)
  clear hHeld
  generalize w3.drew = ww0 at *
  refine takeA (i := 0) (hy := by intro wq hSw; have y0 := bat hSw V1.c0; have y1 := bat hSw V1.c1; have z0 := bat hSw V2.c0; have v0 := bat hSw V3.c0; have z1 := bat hSw V2.c1; have v1 := bat hSw V3.c1; have z2 := bat hSw V2.c2; have v2 := bat hSw V3.c2; have z3 := bat hSw V2.c3; have v3 := bat hSw V3.c3; go_simp <;> with_reducible rfl) (h := ?_)
  refine takeA (i := 2) (hy := by intro wq hSw; have y0 := bat hSw V1.c0; have y1 := bat hSw V1.c1; have z0 := bat hSw V2.c0; have v0 := bat hSw V3.c0; have z1 := bat hSw V2.c1; have v1 := bat hSw V3.c1; have z2 := bat hSw V2.c2; have v2 := bat hSw V3.c2; have z3 := bat hSw V2.c3; have v3 := bat hSw V3.c3; go_simp <;> with_reducible rfl) (h := ?_)
  refine takeA (i := 3) (hy := by intro wq hSw; have y0 := bat hSw V1.c0; have y1 := bat hSw V1.c1; have z0 := bat hSw V2.c0; have v0 := bat hSw V3.c0; have z1 := bat hSw V2.c1; have v1 := bat hSw V3.c1; have z2 := bat hSw V2.c2; have v2 := bat hSw V3.c2; have z3 := bat hSw V2.c3; have v3 := bat hSw V3.c3; go_simp <;> with_reducible rfl) (h := ?_)
  refine takeA (i := 4) (h := ?_)
  refine takeA (i := 5) (h := ?_)
  refine rdA (i := 1) (h := fun K hK => ?_)
  go_simp
  refine (extentOf_any 5 a c rs _ (hs.below N) HG.out).mono ?_
  rintro e ww1 ⟨a5, c5, a6, c6, rfl, SQ, SS, hb⟩
  replace N := N.trans (hb.mono N.size)
  clear hb SS
  refine hK.out _ _ N (fun hHeld => ?_)
  clear hK K hHeld
  try simp only [Act.put, pA, pB, pC]
  refine rdA (i := 6) (h := fun K hK => ?_)
  go_simp
  refine (locate_f a5 a6 _ c5 c6 _ (segL 5 rs) (.agg #[.bool g, .slice a1 ns.length c1, .bool h, .slice b1 ds.length d1, .bool g', .slice a2 ms.length c2, .bool h', .slice b2 es.length d2]) (tk g ns) (tk h ds) (tk g' ms) (tk h' es) _ rfl SQ OQ ⟨g, a1, c1, ns, h, b1, d1, ds, g', a2, c2, ms, h', b2, d2, es, rfl, Q.below N, HT.out⟩).mono ?_
  rintro e ww2 ⟨rfl, hb⟩
  replace N := N.trans (hb.mono N.size)
  rw [HL.out, HZ.out]
  clear hb
  refine hK.out _ _ N (fun hHeld => ?_)
  clear hK K hHeld
  try simp only [Act.put, pA, pB, pC]
  refine takeA (i := 7) (h := ?_)
  refine wpAnyH_done (by kernel_rfl) ?_ _
  go_wp2
  go_ret
  exact ⟨by rw [HV.out, HZ.out]; rfl, B.trans (N.mono B.size)⟩
end Go.Proofs.YthafgldgidmnlaaGreat
