/- Where a point lies by a shape: of the program (liesOn, touch, locate, startsOf, extentOf, Locate). -/
import Derived.Test.YthafhfdhahbdoaaLocM
import Derived.Test.YthafhfdhahbdoaaSegI
import Derived.Test.YthafhfdhahbdoaaShapeM
import Derived.Test.YthafhfdhahbdoaaMeetM
import Derived.Test.YthafhfdhahbdoaaRowPt
import Derived.Test.YthafhfdhahbdoaaPtM
namespace Go.Proofs.Ythafhfdhahbdoaa
open Go.RowKit

theorem rightOf_any (px py x : Int) (w : World) :
    Calls Try.prog 113 #[.agg #[.int .i64 px, .int .i64 py], .int .i64 x] w fun e w' => e = .returned (.int .i64 (sgn1 (px - x))) ∧ Below w.heap.size w w' := by
  have B := below1 w (.cells #[.int .i64 px, .int .i64 py] 35)
  go_enter Try.func113, Try.ntmps113
  go_wp2_with (go_at_call 91; refine (compareA _ _ _).mono ?_; rintro e w' ⟨rfl, rfl⟩)
  go_ret
  exact ⟨rfl, B⟩
theorem sgn_btw (a b x : Int) : (sgn1 (x - a) * sgn1 (x - b) ≤ 0) ↔ btw a b x = true := by
  rw [sgn1_mul_le, btw_mul]
  have e : (x - a) * (x - b) = (a - x) * (b - x) := by grind
  rw [e]
theorem sgn1_zero_iff (n : Int) : sgn1 n = 0 ↔ n = 0 := by
  unfold sgn1
  split <;> rename_i h
  · omega
  · split <;> omega

set_option maxRecDepth 20000 in
set_option maxHeartbeats 4000000 in
theorem liesOn_any (px py ax ay bx bz : Int) (w : World) (c1 : Crd ax) (d1 : Crd ay) (c2 : Crd bx) (d2 : Crd bz) (c3 : Crd px) (d3 : Crd py) :
    Calls Try.prog 95 #[.iface 35 (.agg #[.int .i64 px, .int .i64 py]), .agg #[.int .i64 ax, .int .i64 ay], .agg #[.int .i64 bx, .int .i64 bz]] w fun e w' => e = .returned (.bool (onB ax ay bx bz px py)) ∧ Below w.heap.size w w' := by
  have K0 := ptbox2 w ax ay bx bz 35
  have B0 := ptbelow2 w ax ay bx bz 35
  obtain ⟨k0, k1, k2, k3⟩ := id K0
  obtain ⟨s1, h1⟩ : ∃ s, Hid (sgn1 (px - ax) = s) := ⟨_, rfl⟩
  obtain ⟨s2, h2⟩ : ∃ s, Hid (sgn1 (px - bx) = s) := ⟨_, rfl⟩
  obtain ⟨s3, h3⟩ : ∃ s, Hid (sgn1 (py - ay) = s) := ⟨_, rfl⟩
  obtain ⟨s4, h4⟩ : ∃ s, Hid (sgn1 (py - bz) = s) := ⟨_, rfl⟩
  obtain ⟨s5, h5⟩ : ∃ s, Hid (sgn1 (ar ax ay bx bz px py) = s) := ⟨_, rfl⟩
  have e1 : (s1 * s2 ≤ 0) ↔ btw ax bx px = true := by rw [← h1.out, ← h2.out]; exact sgn_btw _ _ _
  have e2 : (s3 * s4 ≤ 0) ↔ btw ay bz py = true := by rw [← h3.out, ← h4.out]; exact sgn_btw _ _ _
  have e3 : (s5 = 0) ↔ ar ax ay bx bz px py = 0 := by rw [← h5.out]; exact sgn1_zero_iff _
  have HB : Hid (onB ax ay bx bz px py = (decide (s1 * s2 ≤ 0) && (decide (s3 * s4 ≤ 0) && decide (s5 = 0)))) := by
    show _ = _
    unfold onB
    rw [Bool.eq_iff_iff]
    simp only [Bool.and_eq_true, decide_eq_true_eq, e1, e2, e3]
    constructor
    · rintro ⟨a, b, c⟩; exact ⟨b, c, a⟩
    · rintro ⟨b, c, a⟩; exact ⟨a, b, c⟩
  have w1 : IntKind.i64.wrap (s1 * s2) = s1 * s2 := by rw [← h1.out, ← h2.out]; exact wrap_small (sgn1_prod _ _).1 (sgn1_prod _ _).2
  have w2 : IntKind.i64.wrap (s3 * s4) = s3 * s4 := by rw [← h3.out, ← h4.out]; exact wrap_small (sgn1_prod _ _).1 (sgn1_prod _ _).2
  clear e1 e2 e3 K0
  by_cases q1 : s1 * s2 ≤ 0
  · by_cases q2 : s3 * s4 ≤ 0
    · by_cases q3 : s5 = 0
      · have b3 : (s5 == 0) = true := by simp [q3]
        have F : Hid (onB ax ay bx bz px py = true) := by
          show _ = _
          rw [HB.out]
          simp [q1, q2, q3]
        go_enter Try.func95, Try.ntmps95
        go_upto_region 1 with fail
        generalize (w.alloc (.cells #[.int .i64 ax, .int .i64 ay] 35)).alloc (.cells #[.int .i64 bx, .int .i64 bz] 35) = W0 at *
        refine wp_region_held_drew (S := Below W0.heap.size W0) (by kernel_rfl) ((Below.refl _ _).drew) (fun hHeld => ?_)
        have N : Below W0.heap.size W0 W0.drew := hHeld
        revert hHeld N
        generalize W0.drew = ww0
        intro hHeld N
        refine takeQ (i := 0) (gt rfl) (by kernel_rfl) (fun _ _ _ h => h) (by rfl) (by intro wq _; go_simp <;> with_reducible rfl) (by assumption) ?_
        try simp only [Act.put, sA, sB, sC]
        refine takeQ (i := 1) (gt rfl) (by kernel_rfl) (fun _ _ _ h => h) (by rfl) (by intro wq _; go_simp <;> with_reducible rfl) (by assumption) ?_
        try simp only [Act.put, sA, sB, sC]
        refine takeQ (i := 2) (gt rfl) (by kernel_rfl) (fun _ _ _ h => h) (by rfl) (by intro wq hSw; have q0 := bat hSw k0; have q1 := bat hSw k1; have q2 := bat hSw k2; have q3 := bat hSw k3; go_simp <;> with_reducible rfl) (by assumption) ?_
        try simp only [Act.put, sA, sB, sC]
        refine takeQ (i := 4) (gt rfl) (by kernel_rfl) (fun _ _ _ h => h) (by rfl) (by intro wq _; go_simp <;> with_reducible rfl) (by assumption) ?_
        try simp only [Act.put, sA, sB, sC]
        refine takeQ (i := 5) (gt rfl) (by kernel_rfl) (fun _ _ _ h => h) (by rfl) (by intro wq _; go_simp <;> with_reducible rfl) (by assumption) ?_
        try simp only [Act.put, sA, sB, sC]
        refine takeQ (i := 6) (gt rfl) (by kernel_rfl) (fun _ _ _ h => h) (by rfl) (by intro wq hSw; have q0 := bat hSw k0; have q1 := bat hSw k1; have q2 := bat hSw k2; have q3 := bat hSw k3; go_simp <;> with_reducible rfl) (by assumption) ?_
        try simp only [Act.put, sA, sB, sC]
        refine wpAnyH_ready (rs := [3]) (by kernel_rfl) (by simp) (AllReadyH.cons (gt rfl) (fun K hK => ?_) AllReadyH.nil)
        go_simp; go_invoke; go_simp
        refine (rightOf_any px py ax _).mono ?_
        rintro e1 ww1 ⟨rfl, hb⟩
        rw [h1.out]
        replace N := N.trans (hb.mono N.size)
        clear hb
        refine hK.out _ _ N (fun hHeld => ?_)
        clear hK K
        try simp only [Act.put, sA, sB, sC]
        refine wpAnyH_ready (rs := [7]) (by kernel_rfl) (by simp) (AllReadyH.cons (gt rfl) (fun K hK => ?_) AllReadyH.nil)
        go_simp; go_invoke; go_simp
        refine (rightOf_any px py bx _).mono ?_
        rintro e1 ww2 ⟨rfl, hb⟩
        rw [h2.out]
        replace N := N.trans (hb.mono N.size)
        clear hb
        refine hK.out _ _ N (fun hHeld => ?_)
        clear hK K
        try simp only [Act.put, sA, sB, sC]
        refine takeQ (i := 8) (gt rfl) (by kernel_rfl) (fun _ _ _ h => h) (by rfl) (by intro wq _; go_simp <;> with_reducible rfl) (by assumption) ?_
        try simp only [Act.put, sA, sB, sC]
        refine takeQ (i := 9) (gt rfl) (by kernel_rfl) (fun _ _ _ h => h) (by rfl) (by intro wq _; go_simp <;> with_reducible rfl) (by assumption) ?_
        try simp only [Act.put, sA, sB, sC]
        refine takeQ (i := 10) (gt rfl) (by kernel_rfl) (fun _ _ _ h => h) (by rfl) (by intro wq _; go_simp <;> with_reducible rfl) (by assumption) ?_
        try simp only [Act.put, sA, sB, sC]
        refine takeQ (i := 11) (gt rfl) (by kernel_rfl) (fun _ _ _ h => h) (by rfl) (by intro wq _; go_simp <;> with_reducible rfl) (by assumption) ?_
        try simp only [Act.put, sA, sB, sC]
        refine takeQ (i := 12) (gt rfl) (by kernel_rfl) (fun _ _ _ h => h) (by rfl) (by intro wq _; go_simp <;> with_reducible rfl) (by assumption) ?_
        try simp only [Act.put, sA, sB, sC]
        refine takeQ (i := 13) (gt rfl) (by kernel_rfl) (fun _ _ _ h => h) (by rfl) (by intro wq hSw; have q0 := bat hSw k0; have q1 := bat hSw k1; have q2 := bat hSw k2; have q3 := bat hSw k3; go_simp <;> with_reducible rfl) (by assumption) ?_
        try simp only [Act.put, sA, sB, sC]
        refine takeQ (i := 15) (gt rfl) (by kernel_rfl) (fun _ _ _ h => h) (by rfl) (by intro wq _; go_simp <;> with_reducible rfl) (by assumption) ?_
        try simp only [Act.put, sA, sB, sC]
        refine takeQ (i := 16) (gt rfl) (by kernel_rfl) (fun _ _ _ h => h) (by rfl) (by intro wq _; go_simp <;> with_reducible rfl) (by assumption) ?_
        try simp only [Act.put, sA, sB, sC]
        refine takeQ (i := 17) (gt rfl) (by kernel_rfl) (fun _ _ _ h => h) (by rfl) (by intro wq hSw; have q0 := bat hSw k0; have q1 := bat hSw k1; have q2 := bat hSw k2; have q3 := bat hSw k3; go_simp <;> with_reducible rfl) (by assumption) ?_
        try simp only [Act.put, sA, sB, sC]
        refine wpAnyH_ready (rs := [14]) (by kernel_rfl) (by simp) (AllReadyH.cons (gt rfl) (fun K hK => ?_) AllReadyH.nil)
        go_simp; go_invoke; go_simp
        refine (above_any px py ay _).mono ?_
        rintro e1 ww3 ⟨rfl, hb⟩
        rw [h3.out]
        replace N := N.trans (hb.mono N.size)
        clear hb
        refine hK.out _ _ N (fun hHeld => ?_)
        clear hK K
        try simp only [Act.put, sA, sB, sC]
        refine wpAnyH_ready (rs := [18]) (by kernel_rfl) (by simp) (AllReadyH.cons (gt rfl) (fun K hK => ?_) AllReadyH.nil)
        go_simp; go_invoke; go_simp
        refine (above_any px py bz _).mono ?_
        rintro e1 ww4 ⟨rfl, hb⟩
        rw [h4.out]
        replace N := N.trans (hb.mono N.size)
        clear hb
        refine hK.out _ _ N (fun hHeld => ?_)
        clear hK K
        try simp only [Act.put, sA, sB, sC]
        refine takeQ (i := 19) (gt rfl) (by kernel_rfl) (fun _ _ _ h => h) (by rfl) (by intro wq _; go_simp <;> with_reducible rfl) (by assumption) ?_
        try simp only [Act.put, sA, sB, sC]
        refine takeQ (i := 20) (gt rfl) (by kernel_rfl) (fun _ _ _ h => h) (by rfl) (by intro wq _; go_simp <;> with_reducible rfl) (by assumption) ?_
        try simp only [Act.put, sA, sB, sC]
        refine takeQ (i := 21) (gt rfl) (by kernel_rfl) (fun _ _ _ h => h) (by rfl) (by intro wq _; go_simp <;> with_reducible rfl) (by assumption) ?_
        try simp only [Act.put, sA, sB, sC]
        refine takeQ (i := 22) (gt rfl) (by kernel_rfl) (fun _ _ _ h => h) (by rfl) (by intro wq _; go_simp <;> with_reducible rfl) (by assumption) ?_
        try simp only [Act.put, sA, sB, sC]
        refine takeQ (i := 23) (gt rfl) (by kernel_rfl) (fun _ _ _ h => h) (by rfl) (by intro wq _; go_simp <;> with_reducible rfl) (by assumption) ?_
        try simp only [Act.put, sA, sB, sC]
        refine takeQ (i := 24) (gt rfl) (by kernel_rfl) (fun _ _ _ h => h) (by rfl) (by intro wq hSw; have q0 := bat hSw k0; have q1 := bat hSw k1; have q2 := bat hSw k2; have q3 := bat hSw k3; go_simp <;> with_reducible rfl) (by assumption) ?_
        try simp only [Act.put, sA, sB, sC]
        refine takeQ (i := 25) (gt rfl) (by kernel_rfl) (fun _ _ _ h => h) (by rfl) (by intro wq hSw; have q0 := bat hSw k0; have q1 := bat hSw k1; have q2 := bat hSw k2; have q3 := bat hSw k3; go_simp <;> with_reducible rfl) (by assumption) ?_
        try simp only [Act.put, sA, sB, sC]
        refine wpAnyH_ready (rs := [26]) (by kernel_rfl) (by simp) (AllReadyH.cons (gt rfl) (fun K hK => ?_) AllReadyH.nil)
        go_simp; go_invoke; go_simp
        refine (leftOf_any px py ax ay bx bz _ c1 d1 c2 d2 c3 d3).mono ?_
        rintro e1 ww5 ⟨rfl, hb⟩
        rw [h5.out]
        replace N := N.trans (hb.mono N.size)
        clear hb
        refine hK.out _ _ N (fun hHeld => ?_)
        clear hK K
        try simp only [Act.put, sA, sB, sC]
        refine takeQ (i := 27) (gt rfl) (by kernel_rfl) (fun _ _ _ h => h) (by rfl) (by intro wq _; go_simp <;> with_reducible rfl) (by assumption) ?_
        try simp only [Act.put, sA, sB, sC]
        refine takeQ (i := 28) (gt rfl) (by kernel_rfl) (fun _ _ _ h => h) (by rfl) (by intro wq _; go_simp <;> with_reducible rfl) (by assumption) ?_
        try simp only [Act.put, sA, sB, sC]
        refine takeQ (i := 29) (gt rfl) (by kernel_rfl) (fun _ _ _ h => h) (by rfl) (by intro wq _; go_simp <;> with_reducible rfl) (by assumption) ?_
        try simp only [Act.put, sA, sB, sC]
        refine wpAnyH_done (by kernel_rfl) ?_ _
        go_wp2
        go_ret
        exact ⟨by rw [F.out]; rfl, B0.trans (N.mono B0.size)⟩
      · have b3 : (s5 == 0) = false := by simp [q3]
        have F : Hid (onB ax ay bx bz px py = false) := by
          show _ = _
          rw [HB.out]
          simp [q1, q2, q3]
        go_enter Try.func95, Try.ntmps95
        go_upto_region 1 with fail
        generalize (w.alloc (.cells #[.int .i64 ax, .int .i64 ay] 35)).alloc (.cells #[.int .i64 bx, .int .i64 bz] 35) = W0 at *
        refine wp_region_held_drew (S := Below W0.heap.size W0) (by kernel_rfl) ((Below.refl _ _).drew) (fun hHeld => ?_)
        have N : Below W0.heap.size W0 W0.drew := hHeld
        revert hHeld N
        generalize W0.drew = ww0
        intro hHeld N
        refine takeQ (i := 0) (gt rfl) (by kernel_rfl) (fun _ _ _ h => h) (by rfl) (by intro wq _; go_simp <;> with_reducible rfl) (by assumption) ?_
        try simp only [Act.put, sA, sB, sC]
        refine takeQ (i := 1) (gt rfl) (by kernel_rfl) (fun _ _ _ h => h) (by rfl) (by intro wq _; go_simp <;> with_reducible rfl) (by assumption) ?_
        try simp only [Act.put, sA, sB, sC]
        refine takeQ (i := 2) (gt rfl) (by kernel_rfl) (fun _ _ _ h => h) (by rfl) (by intro wq hSw; have q0 := bat hSw k0; have q1 := bat hSw k1; have q2 := bat hSw k2; have q3 := bat hSw k3; go_simp <;> with_reducible rfl) (by assumption) ?_
        try simp only [Act.put, sA, sB, sC]
        refine takeQ (i := 4) (gt rfl) (by kernel_rfl) (fun _ _ _ h => h) (by rfl) (by intro wq _; go_simp <;> with_reducible rfl) (by assumption) ?_
        try simp only [Act.put, sA, sB, sC]
        refine takeQ (i := 5) (gt rfl) (by kernel_rfl) (fun _ _ _ h => h) (by rfl) (by intro wq _; go_simp <;> with_reducible rfl) (by assumption) ?_
        try simp only [Act.put, sA, sB, sC]
        refine takeQ (i := 6) (gt rfl) (by kernel_rfl) (fun _ _ _ h => h) (by rfl) (by intro wq hSw; have q0 := bat hSw k0; have q1 := bat hSw k1; have q2 := bat hSw k2; have q3 := bat hSw k3; go_simp <;> with_reducible rfl) (by assumption) ?_
        try simp only [Act.put, sA, sB, sC]
        refine wpAnyH_ready (rs := [3]) (by kernel_rfl) (by simp) (AllReadyH.cons (gt rfl) (fun K hK => ?_) AllReadyH.nil)
        go_simp; go_invoke; go_simp
        refine (rightOf_any px py ax _).mono ?_
        rintro e1 ww1 ⟨rfl, hb⟩
        rw [h1.out]
        replace N := N.trans (hb.mono N.size)
        clear hb
        refine hK.out _ _ N (fun hHeld => ?_)
        clear hK K
        try simp only [Act.put, sA, sB, sC]
        refine wpAnyH_ready (rs := [7]) (by kernel_rfl) (by simp) (AllReadyH.cons (gt rfl) (fun K hK => ?_) AllReadyH.nil)
        go_simp; go_invoke; go_simp
        refine (rightOf_any px py bx _).mono ?_
        rintro e1 ww2 ⟨rfl, hb⟩
        rw [h2.out]
        replace N := N.trans (hb.mono N.size)
        clear hb
        refine hK.out _ _ N (fun hHeld => ?_)
        clear hK K
        try simp only [Act.put, sA, sB, sC]
        refine takeQ (i := 8) (gt rfl) (by kernel_rfl) (fun _ _ _ h => h) (by rfl) (by intro wq _; go_simp <;> with_reducible rfl) (by assumption) ?_
        try simp only [Act.put, sA, sB, sC]
        refine takeQ (i := 9) (gt rfl) (by kernel_rfl) (fun _ _ _ h => h) (by rfl) (by intro wq _; go_simp <;> with_reducible rfl) (by assumption) ?_
        try simp only [Act.put, sA, sB, sC]
        refine takeQ (i := 10) (gt rfl) (by kernel_rfl) (fun _ _ _ h => h) (by rfl) (by intro wq _; go_simp <;> with_reducible rfl) (by assumption) ?_
        try simp only [Act.put, sA, sB, sC]
        refine takeQ (i := 11) (gt rfl) (by kernel_rfl) (fun _ _ _ h => h) (by rfl) (by intro wq _; go_simp <;> with_reducible rfl) (by assumption) ?_
        try simp only [Act.put, sA, sB, sC]
        refine takeQ (i := 12) (gt rfl) (by kernel_rfl) (fun _ _ _ h => h) (by rfl) (by intro wq _; go_simp <;> with_reducible rfl) (by assumption) ?_
        try simp only [Act.put, sA, sB, sC]
        refine takeQ (i := 13) (gt rfl) (by kernel_rfl) (fun _ _ _ h => h) (by rfl) (by intro wq hSw; have q0 := bat hSw k0; have q1 := bat hSw k1; have q2 := bat hSw k2; have q3 := bat hSw k3; go_simp <;> with_reducible rfl) (by assumption) ?_
        try simp only [Act.put, sA, sB, sC]
        refine takeQ (i := 15) (gt rfl) (by kernel_rfl) (fun _ _ _ h => h) (by rfl) (by intro wq _; go_simp <;> with_reducible rfl) (by assumption) ?_
        try simp only [Act.put, sA, sB, sC]
        refine takeQ (i := 16) (gt rfl) (by kernel_rfl) (fun _ _ _ h => h) (by rfl) (by intro wq _; go_simp <;> with_reducible rfl) (by assumption) ?_
        try simp only [Act.put, sA, sB, sC]
        refine takeQ (i := 17) (gt rfl) (by kernel_rfl) (fun _ _ _ h => h) (by rfl) (by intro wq hSw; have q0 := bat hSw k0; have q1 := bat hSw k1; have q2 := bat hSw k2; have q3 := bat hSw k3; go_simp <;> with_reducible rfl) (by assumption) ?_
        try simp only [Act.put, sA, sB, sC]
        refine wpAnyH_ready (rs := [14]) (by kernel_rfl) (by simp) (AllReadyH.cons (gt rfl) (fun K hK => ?_) AllReadyH.nil)
        go_simp; go_invoke; go_simp
        refine (above_any px py ay _).mono ?_
        rintro e1 ww3 ⟨rfl, hb⟩
        rw [h3.out]
        replace N := N.trans (hb.mono N.size)
        clear hb
        refine hK.out _ _ N (fun hHeld => ?_)
        clear hK K
        try simp only [Act.put, sA, sB, sC]
        refine wpAnyH_ready (rs := [18]) (by kernel_rfl) (by simp) (AllReadyH.cons (gt rfl) (fun K hK => ?_) AllReadyH.nil)
        go_simp; go_invoke; go_simp
        refine (above_any px py bz _).mono ?_
        rintro e1 ww4 ⟨rfl, hb⟩
        rw [h4.out]
        replace N := N.trans (hb.mono N.size)
        clear hb
        refine hK.out _ _ N (fun hHeld => ?_)
        clear hK K
        try simp only [Act.put, sA, sB, sC]
        refine takeQ (i := 19) (gt rfl) (by kernel_rfl) (fun _ _ _ h => h) (by rfl) (by intro wq _; go_simp <;> with_reducible rfl) (by assumption) ?_
        try simp only [Act.put, sA, sB, sC]
        refine takeQ (i := 20) (gt rfl) (by kernel_rfl) (fun _ _ _ h => h) (by rfl) (by intro wq _; go_simp <;> with_reducible rfl) (by assumption) ?_
        try simp only [Act.put, sA, sB, sC]
        refine takeQ (i := 21) (gt rfl) (by kernel_rfl) (fun _ _ _ h => h) (by rfl) (by intro wq _; go_simp <;> with_reducible rfl) (by assumption) ?_
        try simp only [Act.put, sA, sB, sC]
        refine takeQ (i := 22) (gt rfl) (by kernel_rfl) (fun _ _ _ h => h) (by rfl) (by intro wq _; go_simp <;> with_reducible rfl) (by assumption) ?_
        try simp only [Act.put, sA, sB, sC]
        refine takeQ (i := 23) (gt rfl) (by kernel_rfl) (fun _ _ _ h => h) (by rfl) (by intro wq _; go_simp <;> with_reducible rfl) (by assumption) ?_
        try simp only [Act.put, sA, sB, sC]
        refine takeQ (i := 24) (gt rfl) (by kernel_rfl) (fun _ _ _ h => h) (by rfl) (by intro wq hSw; have q0 := bat hSw k0; have q1 := bat hSw k1; have q2 := bat hSw k2; have q3 := bat hSw k3; go_simp <;> with_reducible rfl) (by assumption) ?_
        try simp only [Act.put, sA, sB, sC]
        refine takeQ (i := 25) (gt rfl) (by kernel_rfl) (fun _ _ _ h => h) (by rfl) (by intro wq hSw; have q0 := bat hSw k0; have q1 := bat hSw k1; have q2 := bat hSw k2; have q3 := bat hSw k3; go_simp <;> with_reducible rfl) (by assumption) ?_
        try simp only [Act.put, sA, sB, sC]
        refine wpAnyH_ready (rs := [26]) (by kernel_rfl) (by simp) (AllReadyH.cons (gt rfl) (fun K hK => ?_) AllReadyH.nil)
        go_simp; go_invoke; go_simp
        refine (leftOf_any px py ax ay bx bz _ c1 d1 c2 d2 c3 d3).mono ?_
        rintro e1 ww5 ⟨rfl, hb⟩
        rw [h5.out]
        replace N := N.trans (hb.mono N.size)
        clear hb
        refine hK.out _ _ N (fun hHeld => ?_)
        clear hK K
        try simp only [Act.put, sA, sB, sC]
        refine takeQ (i := 27) (gt rfl) (by kernel_rfl) (fun _ _ _ h => h) (by rfl) (by intro wq _; go_simp <;> with_reducible rfl) (by assumption) ?_
        try simp only [Act.put, sA, sB, sC]
        refine takeQ (i := 28) (gt rfl) (by kernel_rfl) (fun _ _ _ h => h) (by rfl) (by intro wq _; go_simp <;> with_reducible rfl) (by assumption) ?_
        try simp only [Act.put, sA, sB, sC]
        refine takeQ (i := 29) (gt rfl) (by kernel_rfl) (fun _ _ _ h => h) (by rfl) (by intro wq _; go_simp <;> with_reducible rfl) (by assumption) ?_
        try simp only [Act.put, sA, sB, sC]
        refine wpAnyH_done (by kernel_rfl) ?_ _
        go_wp2
        go_ret
        exact ⟨by rw [F.out]; rfl, B0.trans (N.mono B0.size)⟩
    · skip
      skip
      have F : Hid (onB ax ay bx bz px py = false) := by
        show _ = _
        rw [HB.out]
        simp [q1, q2]
      go_enter Try.func95, Try.ntmps95
      go_upto_region 1 with fail
      generalize (w.alloc (.cells #[.int .i64 ax, .int .i64 ay] 35)).alloc (.cells #[.int .i64 bx, .int .i64 bz] 35) = W0 at *
      refine wp_region_held_drew (S := Below W0.heap.size W0) (by kernel_rfl) ((Below.refl _ _).drew) (fun hHeld => ?_)
      have N : Below W0.heap.size W0 W0.drew := hHeld
      revert hHeld N
      generalize W0.drew = ww0
      intro hHeld N
      refine takeQ (i := 0) (gt rfl) (by kernel_rfl) (fun _ _ _ h => h) (by rfl) (by intro wq _; go_simp <;> with_reducible rfl) (by assumption) ?_
      try simp only [Act.put, sA, sB, sC]
      refine takeQ (i := 1) (gt rfl) (by kernel_rfl) (fun _ _ _ h => h) (by rfl) (by intro wq _; go_simp <;> with_reducible rfl) (by assumption) ?_
      try simp only [Act.put, sA, sB, sC]
      refine takeQ (i := 2) (gt rfl) (by kernel_rfl) (fun _ _ _ h => h) (by rfl) (by intro wq hSw; have q0 := bat hSw k0; have q1 := bat hSw k1; have q2 := bat hSw k2; have q3 := bat hSw k3; go_simp <;> with_reducible rfl) (by assumption) ?_
      try simp only [Act.put, sA, sB, sC]
      refine takeQ (i := 4) (gt rfl) (by kernel_rfl) (fun _ _ _ h => h) (by rfl) (by intro wq _; go_simp <;> with_reducible rfl) (by assumption) ?_
      try simp only [Act.put, sA, sB, sC]
      refine takeQ (i := 5) (gt rfl) (by kernel_rfl) (fun _ _ _ h => h) (by rfl) (by intro wq _; go_simp <;> with_reducible rfl) (by assumption) ?_
      try simp only [Act.put, sA, sB, sC]
      refine takeQ (i := 6) (gt rfl) (by kernel_rfl) (fun _ _ _ h => h) (by rfl) (by intro wq hSw; have q0 := bat hSw k0; have q1 := bat hSw k1; have q2 := bat hSw k2; have q3 := bat hSw k3; go_simp <;> with_reducible rfl) (by assumption) ?_
      try simp only [Act.put, sA, sB, sC]
      refine wpAnyH_ready (rs := [3]) (by kernel_rfl) (by simp) (AllReadyH.cons (gt rfl) (fun K hK => ?_) AllReadyH.nil)
      go_simp; go_invoke; go_simp
      refine (rightOf_any px py ax _).mono ?_
      rintro e1 ww1 ⟨rfl, hb⟩
      rw [h1.out]
      replace N := N.trans (hb.mono N.size)
      clear hb
      refine hK.out _ _ N (fun hHeld => ?_)
      clear hK K
      try simp only [Act.put, sA, sB, sC]
      refine wpAnyH_ready (rs := [7]) (by kernel_rfl) (by simp) (AllReadyH.cons (gt rfl) (fun K hK => ?_) AllReadyH.nil)
      go_simp; go_invoke; go_simp
      refine (rightOf_any px py bx _).mono ?_
      rintro e1 ww2 ⟨rfl, hb⟩
      rw [h2.out]
      replace N := N.trans (hb.mono N.size)
      clear hb
      refine hK.out _ _ N (fun hHeld => ?_)
      clear hK K
      try simp only [Act.put, sA, sB, sC]
      refine takeQ (i := 8) (gt rfl) (by kernel_rfl) (fun _ _ _ h => h) (by rfl) (by intro wq _; go_simp <;> with_reducible rfl) (by assumption) ?_
      try simp only [Act.put, sA, sB, sC]
      refine takeQ (i := 9) (gt rfl) (by kernel_rfl) (fun _ _ _ h => h) (by rfl) (by intro wq _; go_simp <;> with_reducible rfl) (by assumption) ?_
      try simp only [Act.put, sA, sB, sC]
      refine takeQ (i := 10) (gt rfl) (by kernel_rfl) (fun _ _ _ h => h) (by rfl) (by intro wq _; go_simp <;> with_reducible rfl) (by assumption) ?_
      try simp only [Act.put, sA, sB, sC]
      refine takeQ (i := 11) (gt rfl) (by kernel_rfl) (fun _ _ _ h => h) (by rfl) (by intro wq _; go_simp <;> with_reducible rfl) (by assumption) ?_
      try simp only [Act.put, sA, sB, sC]
      refine takeQ (i := 12) (gt rfl) (by kernel_rfl) (fun _ _ _ h => h) (by rfl) (by intro wq _; go_simp <;> with_reducible rfl) (by assumption) ?_
      try simp only [Act.put, sA, sB, sC]
      refine takeQ (i := 13) (gt rfl) (by kernel_rfl) (fun _ _ _ h => h) (by rfl) (by intro wq hSw; have q0 := bat hSw k0; have q1 := bat hSw k1; have q2 := bat hSw k2; have q3 := bat hSw k3; go_simp <;> with_reducible rfl) (by assumption) ?_
      try simp only [Act.put, sA, sB, sC]
      refine takeQ (i := 15) (gt rfl) (by kernel_rfl) (fun _ _ _ h => h) (by rfl) (by intro wq _; go_simp <;> with_reducible rfl) (by assumption) ?_
      try simp only [Act.put, sA, sB, sC]
      refine takeQ (i := 16) (gt rfl) (by kernel_rfl) (fun _ _ _ h => h) (by rfl) (by intro wq _; go_simp <;> with_reducible rfl) (by assumption) ?_
      try simp only [Act.put, sA, sB, sC]
      refine takeQ (i := 17) (gt rfl) (by kernel_rfl) (fun _ _ _ h => h) (by rfl) (by intro wq hSw; have q0 := bat hSw k0; have q1 := bat hSw k1; have q2 := bat hSw k2; have q3 := bat hSw k3; go_simp <;> with_reducible rfl) (by assumption) ?_
      try simp only [Act.put, sA, sB, sC]
      refine wpAnyH_ready (rs := [14]) (by kernel_rfl) (by simp) (AllReadyH.cons (gt rfl) (fun K hK => ?_) AllReadyH.nil)
      go_simp; go_invoke; go_simp
      refine (above_any px py ay _).mono ?_
      rintro e1 ww3 ⟨rfl, hb⟩
      rw [h3.out]
      replace N := N.trans (hb.mono N.size)
      clear hb
      refine hK.out _ _ N (fun hHeld => ?_)
      clear hK K
      try simp only [Act.put, sA, sB, sC]
      refine wpAnyH_ready (rs := [18]) (by kernel_rfl) (by simp) (AllReadyH.cons (gt rfl) (fun K hK => ?_) AllReadyH.nil)
      go_simp; go_invoke; go_simp
      refine (above_any px py bz _).mono ?_
      rintro e1 ww4 ⟨rfl, hb⟩
      rw [h4.out]
      replace N := N.trans (hb.mono N.size)
      clear hb
      refine hK.out _ _ N (fun hHeld => ?_)
      clear hK K
      try simp only [Act.put, sA, sB, sC]
      refine takeQ (i := 19) (gt rfl) (by kernel_rfl) (fun _ _ _ h => h) (by rfl) (by intro wq _; go_simp <;> with_reducible rfl) (by assumption) ?_
      try simp only [Act.put, sA, sB, sC]
      refine takeQ (i := 20) (gt rfl) (by kernel_rfl) (fun _ _ _ h => h) (by rfl) (by intro wq _; go_simp <;> with_reducible rfl) (by assumption) ?_
      try simp only [Act.put, sA, sB, sC]
      refine takeQ (i := 21) (gt rfl) (by kernel_rfl) (fun _ _ _ h => h) (by rfl) (by intro wq _; go_simp <;> with_reducible rfl) (by assumption) ?_
      try simp only [Act.put, sA, sB, sC]
      refine takeQ (i := 22) (gt rfl) (by kernel_rfl) (fun _ _ _ h => h) (by rfl) (by intro wq _; go_simp <;> with_reducible rfl) (by assumption) ?_
      try simp only [Act.put, sA, sB, sC]
      refine takeN (i := 23) (gt rfl) (by kernel_rfl) (by kernel_rfl) (by kernel_rfl) (by exact fun _ _ _ h => h) (by rfl) (by assumption) ?_
      try simp only [Act.put, sA, sB, sC]
      refine takeN (i := 24) (gt rfl) (by kernel_rfl) (by kernel_rfl) (by kernel_rfl) (by exact fun _ _ _ h => h) (by rfl) (by assumption) ?_
      try simp only [Act.put, sA, sB, sC]
      refine takeN (i := 25) (gt rfl) (by kernel_rfl) (by kernel_rfl) (by kernel_rfl) (by exact fun _ _ _ h => h) (by rfl) (by assumption) ?_
      try simp only [Act.put, sA, sB, sC]
      refine takeN (i := 26) (gt rfl) (by kernel_rfl) (by kernel_rfl) (by kernel_rfl) (by exact fun _ _ _ h => h) (by rfl) (by assumption) ?_
      try simp only [Act.put, sA, sB, sC]
      refine takeN (i := 27) (gt rfl) (by kernel_rfl) (by kernel_rfl) (by kernel_rfl) (by exact fun _ _ _ h => h) (by rfl) (by assumption) ?_
      try simp only [Act.put, sA, sB, sC]
      refine takeQ (i := 28) (gt rfl) (by kernel_rfl) (fun _ _ _ h => h) (by rfl) (by intro wq _; go_simp <;> with_reducible rfl) (by assumption) ?_
      try simp only [Act.put, sA, sB, sC]
      refine takeQ (i := 29) (gt rfl) (by kernel_rfl) (fun _ _ _ h => h) (by rfl) (by intro wq _; go_simp <;> with_reducible rfl) (by assumption) ?_
      try simp only [Act.put, sA, sB, sC]
      refine wpAnyH_done (by kernel_rfl) ?_ _
      go_wp2
      go_ret
      exact ⟨by rw [F.out]; rfl, B0.trans (N.mono B0.size)⟩
  · skip
    skip
    have F : Hid (onB ax ay bx bz px py = false) := by
      show _ = _
      rw [HB.out]
      simp [q1]
    go_enter Try.func95, Try.ntmps95
    go_upto_region 1 with fail
    generalize (w.alloc (.cells #[.int .i64 ax, .int .i64 ay] 35)).alloc (.cells #[.int .i64 bx, .int .i64 bz] 35) = W0 at *
    refine wp_region_held_drew (S := Below W0.heap.size W0) (by kernel_rfl) ((Below.refl _ _).drew) (fun hHeld => ?_)
    have N : Below W0.heap.size W0 W0.drew := hHeld
    revert hHeld N
    generalize W0.drew = ww0
    intro hHeld N
    refine takeQ (i := 0) (gt rfl) (by kernel_rfl) (fun _ _ _ h => h) (by rfl) (by intro wq _; go_simp <;> with_reducible rfl) (by assumption) ?_
    try simp only [Act.put, sA, sB, sC]
    refine takeQ (i := 1) (gt rfl) (by kernel_rfl) (fun _ _ _ h => h) (by rfl) (by intro wq _; go_simp <;> with_reducible rfl) (by assumption) ?_
    try simp only [Act.put, sA, sB, sC]
    refine takeQ (i := 2) (gt rfl) (by kernel_rfl) (fun _ _ _ h => h) (by rfl) (by intro wq hSw; have q0 := bat hSw k0; have q1 := bat hSw k1; have q2 := bat hSw k2; have q3 := bat hSw k3; go_simp <;> with_reducible rfl) (by assumption) ?_
    try simp only [Act.put, sA, sB, sC]
    refine takeQ (i := 4) (gt rfl) (by kernel_rfl) (fun _ _ _ h => h) (by rfl) (by intro wq _; go_simp <;> with_reducible rfl) (by assumption) ?_
    try simp only [Act.put, sA, sB, sC]
    refine takeQ (i := 5) (gt rfl) (by kernel_rfl) (fun _ _ _ h => h) (by rfl) (by intro wq _; go_simp <;> with_reducible rfl) (by assumption) ?_
    try simp only [Act.put, sA, sB, sC]
    refine takeQ (i := 6) (gt rfl) (by kernel_rfl) (fun _ _ _ h => h) (by rfl) (by intro wq hSw; have q0 := bat hSw k0; have q1 := bat hSw k1; have q2 := bat hSw k2; have q3 := bat hSw k3; go_simp <;> with_reducible rfl) (by assumption) ?_
    try simp only [Act.put, sA, sB, sC]
    refine wpAnyH_ready (rs := [3]) (by kernel_rfl) (by simp) (AllReadyH.cons (gt rfl) (fun K hK => ?_) AllReadyH.nil)
    go_simp; go_invoke; go_simp
    refine (rightOf_any px py ax _).mono ?_
    rintro e1 ww1 ⟨rfl, hb⟩
    rw [h1.out]
    replace N := N.trans (hb.mono N.size)
    clear hb
    refine hK.out _ _ N (fun hHeld => ?_)
    clear hK K
    try simp only [Act.put, sA, sB, sC]
    refine wpAnyH_ready (rs := [7]) (by kernel_rfl) (by simp) (AllReadyH.cons (gt rfl) (fun K hK => ?_) AllReadyH.nil)
    go_simp; go_invoke; go_simp
    refine (rightOf_any px py bx _).mono ?_
    rintro e1 ww2 ⟨rfl, hb⟩
    rw [h2.out]
    replace N := N.trans (hb.mono N.size)
    clear hb
    refine hK.out _ _ N (fun hHeld => ?_)
    clear hK K
    try simp only [Act.put, sA, sB, sC]
    refine takeQ (i := 8) (gt rfl) (by kernel_rfl) (fun _ _ _ h => h) (by rfl) (by intro wq _; go_simp <;> with_reducible rfl) (by assumption) ?_
    try simp only [Act.put, sA, sB, sC]
    refine takeQ (i := 9) (gt rfl) (by kernel_rfl) (fun _ _ _ h => h) (by rfl) (by intro wq _; go_simp <;> with_reducible rfl) (by assumption) ?_
    try simp only [Act.put, sA, sB, sC]
    refine takeQ (i := 10) (gt rfl) (by kernel_rfl) (fun _ _ _ h => h) (by rfl) (by intro wq _; go_simp <;> with_reducible rfl) (by assumption) ?_
    try simp only [Act.put, sA, sB, sC]
    refine takeN (i := 11) (gt rfl) (by kernel_rfl) (by kernel_rfl) (by kernel_rfl) (by exact fun _ _ _ h => h) (by rfl) (by assumption) ?_
    try simp only [Act.put, sA, sB, sC]
    refine takeN (i := 12) (gt rfl) (by kernel_rfl) (by kernel_rfl) (by kernel_rfl) (by exact fun _ _ _ h => h) (by rfl) (by assumption) ?_
    try simp only [Act.put, sA, sB, sC]
    refine takeN (i := 13) (gt rfl) (by kernel_rfl) (by kernel_rfl) (by kernel_rfl) (by exact fun _ _ _ h => h) (by rfl) (by assumption) ?_
    try simp only [Act.put, sA, sB, sC]
    refine takeN (i := 14) (gt rfl) (by kernel_rfl) (by kernel_rfl) (by kernel_rfl) (by exact fun _ _ _ h => h) (by rfl) (by assumption) ?_
    try simp only [Act.put, sA, sB, sC]
    refine takeN (i := 15) (gt rfl) (by kernel_rfl) (by kernel_rfl) (by kernel_rfl) (by exact fun _ _ _ h => h) (by rfl) (by assumption) ?_
    try simp only [Act.put, sA, sB, sC]
    refine takeN (i := 16) (gt rfl) (by kernel_rfl) (by kernel_rfl) (by kernel_rfl) (by exact fun _ _ _ h => h) (by rfl) (by assumption) ?_
    try simp only [Act.put, sA, sB, sC]
    refine takeN (i := 17) (gt rfl) (by kernel_rfl) (by kernel_rfl) (by kernel_rfl) (by exact fun _ _ _ h => h) (by rfl) (by assumption) ?_
    try simp only [Act.put, sA, sB, sC]
    refine takeN (i := 18) (gt rfl) (by kernel_rfl) (by kernel_rfl) (by kernel_rfl) (by exact fun _ _ _ h => h) (by rfl) (by assumption) ?_
    try simp only [Act.put, sA, sB, sC]
    refine takeN (i := 19) (gt rfl) (by kernel_rfl) (by kernel_rfl) (by kernel_rfl) (by exact fun _ _ _ h => h) (by rfl) (by assumption) ?_
    try simp only [Act.put, sA, sB, sC]
    refine takeN (i := 20) (gt rfl) (by kernel_rfl) (by kernel_rfl) (by kernel_rfl) (by exact fun _ _ _ h => h) (by rfl) (by assumption) ?_
    try simp only [Act.put, sA, sB, sC]
    refine takeQ (i := 21) (gt rfl) (by kernel_rfl) (fun _ _ _ h => h) (by rfl) (by intro wq _; go_simp <;> with_reducible rfl) (by assumption) ?_
    try simp only [Act.put, sA, sB, sC]
    refine takeQ (i := 22) (gt rfl) (by kernel_rfl) (fun _ _ _ h => h) (by rfl) (by intro wq _; go_simp <;> with_reducible rfl) (by assumption) ?_
    try simp only [Act.put, sA, sB, sC]
    refine takeN (i := 23) (gt rfl) (by kernel_rfl) (by kernel_rfl) (by kernel_rfl) (by exact fun _ _ _ h => h) (by rfl) (by assumption) ?_
    try simp only [Act.put, sA, sB, sC]
    refine takeN (i := 24) (gt rfl) (by kernel_rfl) (by kernel_rfl) (by kernel_rfl) (by exact fun _ _ _ h => h) (by rfl) (by assumption) ?_
    try simp only [Act.put, sA, sB, sC]
    refine takeN (i := 25) (gt rfl) (by kernel_rfl) (by kernel_rfl) (by kernel_rfl) (by exact fun _ _ _ h => h) (by rfl) (by assumption) ?_
    try simp only [Act.put, sA, sB, sC]
    refine takeN (i := 26) (gt rfl) (by kernel_rfl) (by kernel_rfl) (by kernel_rfl) (by exact fun _ _ _ h => h) (by rfl) (by assumption) ?_
    try simp only [Act.put, sA, sB, sC]
    refine takeN (i := 27) (gt rfl) (by kernel_rfl) (by kernel_rfl) (by kernel_rfl) (by exact fun _ _ _ h => h) (by rfl) (by assumption) ?_
    try simp only [Act.put, sA, sB, sC]
    refine takeQ (i := 28) (gt rfl) (by kernel_rfl) (fun _ _ _ h => h) (by rfl) (by intro wq _; go_simp <;> with_reducible rfl) (by assumption) ?_
    try simp only [Act.put, sA, sB, sC]
    refine takeQ (i := 29) (gt rfl) (by kernel_rfl) (fun _ _ _ h => h) (by rfl) (by intro wq _; go_simp <;> with_reducible rfl) (by assumption) ?_
    try simp only [Act.put, sA, sB, sC]
    refine wpAnyH_done (by kernel_rfl) ?_ _
    go_wp2
    go_ret
    exact ⟨by rw [F.out]; rfl, B0.trans (N.mono B0.size)⟩

theorem onQ_step {es : List Sg} {p : Int × Int} {j : Nat} (h : j < es.length) (k : onQ (es.take j) p = false) : onQ (es.take (j + 1)) p = onB (sgA es j).1.1 (sgA es j).1.2 (sgA es j).2.1 (sgA es j).2.2 p.1 p.2 := by
  unfold onQ at *
  rw [take_sg h, List.any_append, k]
  simp
theorem onQ_found {es : List Sg} {p : Int × Int} {j : Nat} (h : j < es.length) (k : onB (sgA es j).1.1 (sgA es j).1.2 (sgA es j).2.1 (sgA es j).2.2 p.1 p.2 = true) : onQ es p = true := by
  unfold onQ
  rw [List.any_eq_true]
  refine ⟨sgA es j, ?_, k⟩
  unfold sgA
  rw [List.getElem?_eq_getElem h]
  exact List.getElem_mem h

set_option maxRecDepth 20000 in
set_option maxHeartbeats 1000000 in
theorem touch_any (a : Option Addr) (c : Nat) (es : List Sg) (px py : Int) (w : World) (h : SeesQ w a c es) (ok : okQ es = true) (cx : Crd px) (cy : Crd py) :
    Calls Try.prog 93 #[.slice a es.length c, .iface 35 (.agg #[.int .i64 px, .int .i64 py])] w fun e w' => e = .returned (.bool (onQ es (px, py))) ∧ Below w.heap.size w w' := by
  have hm := h.max
  have hf := h.fits
  unfold maxLen at hm
  go_enter Try.func93, Try.ntmps93
  go_wp2
  go_loopw [9] (fun s9 wr => ∃ j : Nat, j ≤ es.length ∧ s9 = .int .i64 j ∧ Hid (onQ (es.take j) (px, py) = false) ∧ Below w.heap.size w wr) (fun s9 _ => es.length - (intOf s9).toNat)
  case atStart => exact ⟨0, Nat.zero_le _, rfl, rfl, Below.refl _ _⟩
  case round =>
    obtain ⟨j, hj, rfl, T, B⟩ := hrel
    rename World => wr
    by_cases hlt : j < es.length
    · obtain ⟨⟨a1, a2⟩, ⟨a3, a4⟩⟩ := okQ_at ok hlt
      obtain ⟨b, off, rfl, hc⟩ := (h.below B).cells (by intro e; simp [e] at hlt)
      obtain ⟨g1, g2, g3, g4⟩ := hc j hlt
      have HN : Hid (onQ (es.take (j + 1)) (px, py) = onB (sgA es j).1.1 (sgA es j).1.2 (sgA es j).2.1 (sgA es j).2.2 px py) := onQ_step hlt T.out
      have HF : Hid (onB (sgA es j).1.1 (sgA es j).1.2 (sgA es j).2.1 (sgA es j).2.2 px py = true → onQ es (px, py) = true) := onQ_found (p := (px, py)) hlt
      clear hc T
      generalize (sgA es j).1.1 = x at *
      generalize (sgA es j).1.2 = y at *
      generalize (sgA es j).2.1 = u at *
      generalize (sgA es j).2.2 = v at *
      have K0 := Box4.new wr (lo := w.heap.size) B.size (.int .i64 x) (.int .i64 y) (.int .i64 u) (.int .i64 v) 56
      have bn := below1 wr (.cells #[.int .i64 x, .int .i64 y, .int .i64 u, .int .i64 v] 56)
      replace B := B.trans (bn.mono B.size)
      clear bn
      go_upto_region 4 with fail
      clear g1 g2 g3 g4
      generalize wr.alloc (.cells #[.int .i64 x, .int .i64 y, .int .i64 u, .int .i64 v] 56) = W0 at *
      generalize wr.heap.size = qe at *
      obtain ⟨k0, k1, k2, k3, _, _⟩ := id K0
      go_wp2_with fail
      refine (liesOn_any px py x y u v _ a1 a2 a3 a4 cx cy).mono ?_
      rintro e w2 ⟨rfl, hb⟩
      replace B := B.trans (hb.mono B.size)
      clear hb k0 k1 k2 k3 K0
      cases o1 : onB x y u v px py
      · have T' := HN.out.trans o1
        clear HN HF
        go_wp2
        go_roundw
        case rel => exact ⟨j + 1, by omega, by go_num, T', B⟩
        case measure => simp [intOf]; omega
      · have F : Hid (onQ es (px, py) = true) := HF.out o1
        clear HN HF
        go_wp2
        go_ret
        exact ⟨by rw [F.out]; rfl, B⟩
    · obtain rfl : j = es.length := by omega
      have F : Hid (onQ es (px, py) = false) := by have := T.out; rwa [List.take_length] at this
      clear T
      go_wp2
      go_ret
      exact ⟨by rw [F.out]; rfl, B⟩

set_option maxRecDepth 20000 in
set_option maxHeartbeats 1000000 in
theorem locate_any (a1 a2 : Option Addr) (m1 c1 c2 m2 : Nat) (es : List Sg) (px py : Int) (w : World) (hm : m1 = es.length) (h : SeesQ w a1 c1 es) (ok : okQ es = true) (cx : Crd px) (cy : Crd py) :
    Calls Try.prog 89 #[.agg #[.slice a1 m1 c1, .slice a2 m2 c2], .iface 35 (.agg #[.int .i64 px, .int .i64 py])] w fun e w' => e = .returned (.int .i64 (locQ es (px, py))) ∧ Below w.heap.size w w' := by
  subst hm
  have B := below1 w (.cells #[.slice a1 es.length c1, .slice a2 m2 c2] 79)
  have V := Box2.new w (lo := w.heap.size) (Nat.le_refl _) (.slice a1 es.length c1) (.slice a2 m2 c2) 79
  have HL : Hid (locQ es (px, py) = if onQ es (px, py) then 1 else if arQ es (px, py) then 2 else 0) := (rfl : locQ es (px, py) = _)
  obtain ⟨k0, k1, _, _⟩ := id V
  replace h := h.below B
  go_enter Try.func89, Try.ntmps89
  go_wp2_with fail
  generalize w.alloc (.cells #[.slice a1 es.length c1, .slice a2 m2 c2] 79) = W0 at *
  refine (touch_any a1 c1 es px py _ h ok cx cy).mono ?_
  rintro e w1 ⟨rfl, hb⟩
  replace B := B.trans (hb.mono B.size)
  replace V := V.below hb
  replace h := h.below hb
  clear hb k0 k1
  cases o1 : onQ es (px, py)
  · rw [o1] at HL
    obtain ⟨k0, k1, _, _⟩ := id V
    go_wp2_with fail
    refine (around_any a1 c1 es px py _ h ok cx cy).mono ?_
    rintro e w2 ⟨rfl, hb⟩
    replace B := B.trans (hb.mono B.size)
    clear hb k0 k1
    rw [show par (hqE es px py) es.length = arQ es (px, py) from rfl]
    cases o2 : arQ es (px, py)
    · rw [o2] at HL
      go_wp2
      go_ret
      exact ⟨by rw [HL.out]; rfl, B⟩
    · rw [o2] at HL
      go_wp2
      go_ret
      exact ⟨by rw [HL.out]; rfl, B⟩
  · rw [o1] at HL
    go_wp2
    go_ret
    exact ⟨by rw [HL.out]; rfl, B⟩

theorem SeesQ.put1 {w : World} {a : Option Addr} {cap g : Nat} {es : List Sg} (h : SeesQ w a cap es) (ne : ∀ b off, a = some ⟨b, off, none⟩ → b ≠ g) (o : Nat) (u : Value) : SeesQ (w.setCell ⟨g, o, none⟩ u) a cap es :=
  ⟨h.fits, h.max, fun hn => by
    obtain ⟨b, off, ha, hc⟩ := h.cells hn
    have q : ∀ k, (w.setCell ⟨g, o, none⟩ u).cell? ⟨b, k, none⟩ = w.cell? ⟨b, k, none⟩ := fun k => cell_other (.inl (Ne.symm (ne b off ha))) u
    exact ⟨b, off, ha, fun i hi => ⟨(q _).trans (hc i hi).1, (q _).trans (hc i hi).2.1, (q _).trans (hc i hi).2.2.1, (q _).trans (hc i hi).2.2.2⟩⟩⟩

set_option maxRecDepth 20000 in
theorem startsOf1 (a : Option Addr) (c : Nat) (rs : List (List (Int × Int))) (wo w : World) (h : SeesS wo a c rs) (hw : Below wo.heap.size wo w) (h0 : 0 < rs.length) :
    Calls Try.prog 61 #[.iface 102 (.agg #[.slice a rs.length c])] w fun e w' => ∃ a' c', e = .returned (.slice a' (stL 1 rs).length c') ∧ SeesP w' a' c' (stL 1 rs) ∧ (∀ b off, a' = some ⟨b, off, none⟩ → stL 1 rs ≠ [] → b < wo.heap.size ∨ w.heap.size ≤ b) ∧ Below w.heap.size w w' := by
  have q1 := as11 (.slice a rs.length c)
  have q2 := as12 (.slice a rs.length c)
  have hm := h.max
  have hf := h.fits
  unfold maxLen at hm
  obtain ⟨b, off, rfl, hc⟩ := h.cells (by intro e; simp [e] at h0)
  obtain ⟨a', c', g, SP⟩ := hc 0 h0
  rw [Nat.add_zero] at g
  have HB : Hid (∀ b off, a' = some ⟨b, off, none⟩ → rowA rs 0 ≠ [] → b < wo.heap.size ∨ w.heap.size ≤ b) := fun b' off' e hne => .inl (by
    obtain ⟨b2, o2, e2, hc2⟩ := SP.cells hne
    rw [e] at e2
    simp only [Option.some.injEq, Addr.mk.injEq] at e2
    obtain ⟨rfl, rfl, _⟩ := e2
    exact World.block_lt_of_cell? _ _ (hc2 0 (List.length_pos_iff.mpr hne)).1)
  replace g := bat hw g
  replace SP := SP.below hw
  have E : Hid (stL 1 rs = rowA rs 0) := (if_pos (by omega) : stL 1 rs = rowA rs 0)
  rw [E.out]
  generalize rowA rs 0 = ps at *
  clear hc
  go_enter Try.func61, Try.ntmps61
  go_wp2_with fail
  refine (points_any _ _).mono ?_
  rintro e w1 ⟨rfl, rfl⟩
  go_wp2
  go_ret
  exact ⟨_, _, rfl, SP, HB.out, Below.refl _ _⟩

set_option maxRecDepth 20000 in
theorem startsOf2 (a : Option Addr) (c : Nat) (rs : List (List (Int × Int))) (wo w : World) (h : SeesS wo a c rs) (hw : Below wo.heap.size wo w) (h0 : 0 < rs.length) :
    Calls Try.prog 61 #[.iface 103 (.agg #[.slice a rs.length c])] w fun e w' => ∃ a' c', e = .returned (.slice a' (stL 2 rs).length c') ∧ SeesP w' a' c' (stL 2 rs) ∧ (∀ b off, a' = some ⟨b, off, none⟩ → stL 2 rs ≠ [] → b < wo.heap.size ∨ w.heap.size ≤ b) ∧ Below w.heap.size w w' := by
  have q1 := as21 (.slice a rs.length c)
  have q2 := as22 (.slice a rs.length c)
  have hm := h.max
  have hf := h.fits
  unfold maxLen at hm
  obtain ⟨b, off, rfl, hc⟩ := h.cells (by intro e; simp [e] at h0)
  obtain ⟨a', c', g, SP⟩ := hc 0 h0
  rw [Nat.add_zero] at g
  have HB : Hid (∀ b off, a' = some ⟨b, off, none⟩ → rowA rs 0 ≠ [] → b < wo.heap.size ∨ w.heap.size ≤ b) := fun b' off' e hne => .inl (by
    obtain ⟨b2, o2, e2, hc2⟩ := SP.cells hne
    rw [e] at e2
    simp only [Option.some.injEq, Addr.mk.injEq] at e2
    obtain ⟨rfl, rfl, _⟩ := e2
    exact World.block_lt_of_cell? _ _ (hc2 0 (List.length_pos_iff.mpr hne)).1)
  replace g := bat hw g
  replace SP := SP.below hw
  have E : Hid (stL 2 rs = rowA rs 0) := (if_pos (by omega) : stL 2 rs = rowA rs 0)
  rw [E.out]
  generalize rowA rs 0 = ps at *
  clear hc
  go_enter Try.func61, Try.ntmps61
  go_wp2_with fail
  refine (points_any _ _).mono ?_
  rintro e w1 ⟨rfl, rfl⟩
  go_wp2
  go_ret
  exact ⟨_, _, rfl, SP, HB.out, Below.refl _ _⟩

set_option maxRecDepth 20000 in
set_option maxHeartbeats 1000000 in
theorem startsOf3 (a : Option Addr) (c : Nat) (rs : List (List (Int × Int))) (wo w : World) (h : SeesS wo a c rs) (hw : Below wo.heap.size wo w) (hn : rs.length ≤ 12) (hl : ∀ i, i < rs.length → 0 < (rowA rs i).length) :
    Calls Try.prog 61 #[.iface 104 (.agg #[.slice a rs.length c])] w fun e w' => ∃ a' c', e = .returned (.slice a' (stL 3 rs).length c') ∧ SeesP w' a' c' (stL 3 rs) ∧ (∀ b off, a' = some ⟨b, off, none⟩ → stL 3 rs ≠ [] → b < wo.heap.size ∨ w.heap.size ≤ b) ∧ Below w.heap.size w w' := by
  obtain ⟨i0, hi, hz0, hz1, hz2⟩ := info_parts infoPt
  have q1 := as31 (.slice a rs.length c)
  have q2 := as32 (.slice a rs.length c)
  have hm := h.max
  have hf := h.fits
  unfold maxLen at hm
  have HL : Hid (∀ i, i < rs.length → 0 < (rowA rs i).length) := hl
  have E : Hid (stL 3 rs = rs.map fun r => ptA r 0) := (if_neg (by omega) : stL 3 rs = _)
  clear hl
  replace h := h.below hw
  rw [E.out]
  go_enter Try.func61, Try.ntmps61
  go_wp2_with fail
  refine (points_any _ _).mono ?_
  rintro e w0 ⟨rfl, rfl⟩
  go_wp2
  go_loopw [4, 22] (fun s4 s22 wr => ∃ j : Nat, j ≤ rs.length ∧ s22 = .int .i64 j ∧ RowPt w0.heap.size wr s4 ((rs.take j).map fun r => ptA r 0) ∧ Below w0.heap.size w0 wr) (fun _ s22 _ => rs.length - (intOf s22).toNat)
  case atStart => exact ⟨0, Nat.zero_le _, rfl, RowPt.nil _ _, Below.refl _ _⟩
  case round =>
    obtain ⟨j, hj, rfl, RQ, B⟩ := hrel
    rename World => wr
    by_cases hlj : j < rs.length
    · obtain ⟨b, off, rfl, hc⟩ := (h.below B).cells (by intro e; simp [e] at hlj)
      obtain ⟨a', c', g, SP⟩ := hc j hlj
      have n1 := HL.out j hlj
      have HST : Hid ((rs.take (j + 1)).map (fun r => ptA r 0) = (rs.take j).map (fun r => ptA r 0) ++ [ptA (rowA rs j) 0]) := by
        show _ = _
        rw [List.take_add_one, List.getElem?_eq_getElem hlj, List.map_append]
        unfold rowA
        rw [List.getElem?_eq_getElem hlj]
        rfl
      have hLL : ((rs.take j).map (fun r => ptA r 0)).length ≤ 12 := by rw [List.length_map, List.length_take]; omega
      clear hc
      generalize rowA rs j = ps at *
      generalize (rs.take j).map (fun r => ptA r 0) = L at *
      obtain ⟨b5, o5, rfl, pc⟩ := SP.cells (by intro e; simp [e] at n1)
      have pm := SP.max
      have pf := SP.fits
      unfold maxLen at pm
      obtain ⟨t0, t1⟩ := pc 0 n1
      rw [show (ps[0]?.getD (0, 0)) = ptA ps 0 from rfl] at t0 t1
      simp only [Nat.zero_mul, Nat.add_zero] at t0 t1
      clear pc
      obtain ⟨x, hx⟩ : ∃ z, Hid ((ptA ps 0).1 = z) := ⟨_, rfl⟩
      obtain ⟨y, hy⟩ : ∃ z, Hid ((ptA ps 0).2 = z) := ⟨_, rfl⟩
      have HZ : Hid ((rs.take (j + 1)).map (fun r => ptA r 0) = L ++ [(x, y)]) := by
        show _ = _
        rw [HST.out, ← hx.out, ← hy.out]
      rw [hx.out] at t0
      rw [hy.out] at t1
      clear HST hx hy
      have bn := below1 wr (.cells #[.int .i64 x, .int .i64 y] 35)
      have RW := RQ.below bn
      replace B := B.trans (bn.mono B.size)
      have NW := pt_new wr 35 x y
      have nz := B.size
      clear bn RQ
      go_wp2_with (at_builtin; refine wpList_append_own _ rfl (.tmp 26) (.tmp 30) 57 rfl w0.heap.size 35 i0 (.agg #[.int .i64 0, .int .i64 0]) 2 16 Try.underlying57 hi hz0 hz1 hz2 rfl (by decide) u4 L.length (ptC L) rfl RW ⟨wr.heap.size, 0, none⟩ 1 _ (ptC [(x, y)]) rfl rfl NW (ptC_ones _) (by unfold maxLen; omega) (by omega) nz ?_)
      intro v7 w7 R7 G7 _
      have N7 := B.grown G7 nz (fun k hk => (World.ownsRow.lt RW k hk).1)
      replace R7 := RowPt.snoc R7
      clear t0 t1 NW RW g
      go_wp2
      go_roundw
      case rel => exact ⟨j + 1, by omega, by go_num, (by rw [HZ.out]; exact R7), N7⟩
      case measure => simp [intOf]; omega
    · obtain rfl : j = rs.length := by omega
      rw [List.take_length] at RQ
      obtain ⟨a2, c2, rfl, _, _⟩ := RQ.shape
      have SQ := RQ.seesP
      have HB : Hid (∀ b off, a2 = some ⟨b, off, none⟩ → (rs.map fun r => ptA r 0) ≠ [] → b < wo.heap.size ∨ w0.heap.size ≤ b) := fun b off e _ => .inr (by
        rcases RQ.2 with ⟨hv, _⟩ | ⟨q, cap, cur, hv, hq, _⟩
        · rw [e] at hv
          simp at hv
        · rw [e] at hv
          simp only [Value.slice.injEq, Option.some.injEq, Addr.mk.injEq] at hv
          omega)
      clear RQ
      go_wp2
      go_ret
      exact ⟨_, _, rfl, SQ, HB.out, B⟩

set_option maxRecDepth 20000 in
set_option maxHeartbeats 1000000 in
theorem startsOf4 (a : Option Addr) (c : Nat) (rs : List (List (Int × Int))) (wo w : World) (h : SeesS wo a c rs) (hw : Below wo.heap.size wo w) (hn : rs.length ≤ 12) (hl : ∀ i, i < rs.length → 0 < (rowA rs i).length) :
    Calls Try.prog 61 #[.iface 105 (.agg #[.slice a rs.length c])] w fun e w' => ∃ a' c', e = .returned (.slice a' (stL 4 rs).length c') ∧ SeesP w' a' c' (stL 4 rs) ∧ (∀ b off, a' = some ⟨b, off, none⟩ → stL 4 rs ≠ [] → b < wo.heap.size ∨ w.heap.size ≤ b) ∧ Below w.heap.size w w' := by
  obtain ⟨i0, hi, hz0, hz1, hz2⟩ := info_parts infoPt
  have q1 := as41 (.slice a rs.length c)
  have q2 := as42 (.slice a rs.length c)
  have hm := h.max
  have hf := h.fits
  unfold maxLen at hm
  have HL : Hid (∀ i, i < rs.length → 0 < (rowA rs i).length) := hl
  have E : Hid (stL 4 rs = rs.map fun r => ptA r 0) := (if_neg (by omega) : stL 4 rs = _)
  clear hl
  replace h := h.below hw
  rw [E.out]
  go_enter Try.func61, Try.ntmps61
  go_wp2_with fail
  refine (points_any _ _).mono ?_
  rintro e w0 ⟨rfl, rfl⟩
  go_wp2
  go_loopw [4, 22] (fun s4 s22 wr => ∃ j : Nat, j ≤ rs.length ∧ s22 = .int .i64 j ∧ RowPt w0.heap.size wr s4 ((rs.take j).map fun r => ptA r 0) ∧ Below w0.heap.size w0 wr) (fun _ s22 _ => rs.length - (intOf s22).toNat)
  case atStart => exact ⟨0, Nat.zero_le _, rfl, RowPt.nil _ _, Below.refl _ _⟩
  case round =>
    obtain ⟨j, hj, rfl, RQ, B⟩ := hrel
    rename World => wr
    by_cases hlj : j < rs.length
    · obtain ⟨b, off, rfl, hc⟩ := (h.below B).cells (by intro e; simp [e] at hlj)
      obtain ⟨a', c', g, SP⟩ := hc j hlj
      have n1 := HL.out j hlj
      have HST : Hid ((rs.take (j + 1)).map (fun r => ptA r 0) = (rs.take j).map (fun r => ptA r 0) ++ [ptA (rowA rs j) 0]) := by
        show _ = _
        rw [List.take_add_one, List.getElem?_eq_getElem hlj, List.map_append]
        unfold rowA
        rw [List.getElem?_eq_getElem hlj]
        rfl
      have hLL : ((rs.take j).map (fun r => ptA r 0)).length ≤ 12 := by rw [List.length_map, List.length_take]; omega
      clear hc
      generalize rowA rs j = ps at *
      generalize (rs.take j).map (fun r => ptA r 0) = L at *
      obtain ⟨b5, o5, rfl, pc⟩ := SP.cells (by intro e; simp [e] at n1)
      have pm := SP.max
      have pf := SP.fits
      unfold maxLen at pm
      obtain ⟨t0, t1⟩ := pc 0 n1
      rw [show (ps[0]?.getD (0, 0)) = ptA ps 0 from rfl] at t0 t1
      simp only [Nat.zero_mul, Nat.add_zero] at t0 t1
      clear pc
      obtain ⟨x, hx⟩ : ∃ z, Hid ((ptA ps 0).1 = z) := ⟨_, rfl⟩
      obtain ⟨y, hy⟩ : ∃ z, Hid ((ptA ps 0).2 = z) := ⟨_, rfl⟩
      have HZ : Hid ((rs.take (j + 1)).map (fun r => ptA r 0) = L ++ [(x, y)]) := by
        show _ = _
        rw [HST.out, ← hx.out, ← hy.out]
      rw [hx.out] at t0
      rw [hy.out] at t1
      clear HST hx hy
      have bn := below1 wr (.cells #[.int .i64 x, .int .i64 y] 35)
      have RW := RQ.below bn
      replace B := B.trans (bn.mono B.size)
      have NW := pt_new wr 35 x y
      have nz := B.size
      clear bn RQ
      go_wp2_with (at_builtin; refine wpList_append_own _ rfl (.tmp 26) (.tmp 30) 57 rfl w0.heap.size 35 i0 (.agg #[.int .i64 0, .int .i64 0]) 2 16 Try.underlying57 hi hz0 hz1 hz2 rfl (by decide) u4 L.length (ptC L) rfl RW ⟨wr.heap.size, 0, none⟩ 1 _ (ptC [(x, y)]) rfl rfl NW (ptC_ones _) (by unfold maxLen; omega) (by omega) nz ?_)
      intro v7 w7 R7 G7 _
      have N7 := B.grown G7 nz (fun k hk => (World.ownsRow.lt RW k hk).1)
      replace R7 := RowPt.snoc R7
      clear t0 t1 NW RW g
      go_wp2
      go_roundw
      case rel => exact ⟨j + 1, by omega, by go_num, (by rw [HZ.out]; exact R7), N7⟩
      case measure => simp [intOf]; omega
    · obtain rfl : j = rs.length := by omega
      rw [List.take_length] at RQ
      obtain ⟨a2, c2, rfl, _, _⟩ := RQ.shape
      have SQ := RQ.seesP
      have HB : Hid (∀ b off, a2 = some ⟨b, off, none⟩ → (rs.map fun r => ptA r 0) ≠ [] → b < wo.heap.size ∨ w0.heap.size ≤ b) := fun b off e _ => .inr (by
        rcases RQ.2 with ⟨hv, _⟩ | ⟨q, cap, cur, hv, hq, _⟩
        · rw [e] at hv
          simp at hv
        · rw [e] at hv
          simp only [Value.slice.injEq, Option.some.injEq, Addr.mk.injEq] at hv
          omega)
      clear RQ
      go_wp2
      go_ret
      exact ⟨_, _, rfl, SQ, HB.out, B⟩

set_option maxRecDepth 20000 in
set_option maxHeartbeats 1000000 in
theorem startsOf5 (a : Option Addr) (c : Nat) (rs : List (List (Int × Int))) (wo w : World) (h : SeesS wo a c rs) (hw : Below wo.heap.size wo w) (hn : rs.length ≤ 12) (hl : ∀ i, i < rs.length → 0 < (rowA rs i).length) :
    Calls Try.prog 61 #[.iface 96 (.agg #[.slice a rs.length c])] w fun e w' => ∃ a' c', e = .returned (.slice a' (stL 5 rs).length c') ∧ SeesP w' a' c' (stL 5 rs) ∧ (∀ b off, a' = some ⟨b, off, none⟩ → stL 5 rs ≠ [] → b < wo.heap.size ∨ w.heap.size ≤ b) ∧ Below w.heap.size w w' := by
  obtain ⟨i0, hi, hz0, hz1, hz2⟩ := info_parts infoPt
  have q1 := as51 (.slice a rs.length c)
  have q2 := as52 (.slice a rs.length c)
  have hm := h.max
  have hf := h.fits
  unfold maxLen at hm
  have HL : Hid (∀ i, i < rs.length → 0 < (rowA rs i).length) := hl
  have E : Hid (stL 5 rs = rs.map fun r => ptA r 0) := (if_neg (by omega) : stL 5 rs = _)
  clear hl
  replace h := h.below hw
  rw [E.out]
  go_enter Try.func61, Try.ntmps61
  go_wp2_with fail
  refine (points_any _ _).mono ?_
  rintro e w0 ⟨rfl, rfl⟩
  go_wp2
  go_loopw [4, 22] (fun s4 s22 wr => ∃ j : Nat, j ≤ rs.length ∧ s22 = .int .i64 j ∧ RowPt w0.heap.size wr s4 ((rs.take j).map fun r => ptA r 0) ∧ Below w0.heap.size w0 wr) (fun _ s22 _ => rs.length - (intOf s22).toNat)
  case atStart => exact ⟨0, Nat.zero_le _, rfl, RowPt.nil _ _, Below.refl _ _⟩
  case round =>
    obtain ⟨j, hj, rfl, RQ, B⟩ := hrel
    rename World => wr
    by_cases hlj : j < rs.length
    · obtain ⟨b, off, rfl, hc⟩ := (h.below B).cells (by intro e; simp [e] at hlj)
      obtain ⟨a', c', g, SP⟩ := hc j hlj
      have n1 := HL.out j hlj
      have HST : Hid ((rs.take (j + 1)).map (fun r => ptA r 0) = (rs.take j).map (fun r => ptA r 0) ++ [ptA (rowA rs j) 0]) := by
        show _ = _
        rw [List.take_add_one, List.getElem?_eq_getElem hlj, List.map_append]
        unfold rowA
        rw [List.getElem?_eq_getElem hlj]
        rfl
      have hLL : ((rs.take j).map (fun r => ptA r 0)).length ≤ 12 := by rw [List.length_map, List.length_take]; omega
      clear hc
      generalize rowA rs j = ps at *
      generalize (rs.take j).map (fun r => ptA r 0) = L at *
      obtain ⟨b5, o5, rfl, pc⟩ := SP.cells (by intro e; simp [e] at n1)
      have pm := SP.max
      have pf := SP.fits
      unfold maxLen at pm
      obtain ⟨t0, t1⟩ := pc 0 n1
      rw [show (ps[0]?.getD (0, 0)) = ptA ps 0 from rfl] at t0 t1
      simp only [Nat.zero_mul, Nat.add_zero] at t0 t1
      clear pc
      obtain ⟨x, hx⟩ : ∃ z, Hid ((ptA ps 0).1 = z) := ⟨_, rfl⟩
      obtain ⟨y, hy⟩ : ∃ z, Hid ((ptA ps 0).2 = z) := ⟨_, rfl⟩
      have HZ : Hid ((rs.take (j + 1)).map (fun r => ptA r 0) = L ++ [(x, y)]) := by
        show _ = _
        rw [HST.out, ← hx.out, ← hy.out]
      rw [hx.out] at t0
      rw [hy.out] at t1
      clear HST hx hy
      have bn := below1 wr (.cells #[.int .i64 x, .int .i64 y] 35)
      have RW := RQ.below bn
      replace B := B.trans (bn.mono B.size)
      have NW := pt_new wr 35 x y
      have nz := B.size
      clear bn RQ
      go_wp2_with (at_builtin; refine wpList_append_own _ rfl (.tmp 26) (.tmp 30) 57 rfl w0.heap.size 35 i0 (.agg #[.int .i64 0, .int .i64 0]) 2 16 Try.underlying57 hi hz0 hz1 hz2 rfl (by decide) u4 L.length (ptC L) rfl RW ⟨wr.heap.size, 0, none⟩ 1 _ (ptC [(x, y)]) rfl rfl NW (ptC_ones _) (by unfold maxLen; omega) (by omega) nz ?_)
      intro v7 w7 R7 G7 _
      have N7 := B.grown G7 nz (fun k hk => (World.ownsRow.lt RW k hk).1)
      replace R7 := RowPt.snoc R7
      clear t0 t1 NW RW g
      go_wp2
      go_roundw
      case rel => exact ⟨j + 1, by omega, by go_num, (by rw [HZ.out]; exact R7), N7⟩
      case measure => simp [intOf]; omega
    · obtain rfl : j = rs.length := by omega
      rw [List.take_length] at RQ
      obtain ⟨a2, c2, rfl, _, _⟩ := RQ.shape
      have SQ := RQ.seesP
      have HB : Hid (∀ b off, a2 = some ⟨b, off, none⟩ → (rs.map fun r => ptA r 0) ≠ [] → b < wo.heap.size ∨ w0.heap.size ≤ b) := fun b off e _ => .inr (by
        rcases RQ.2 with ⟨hv, _⟩ | ⟨q, cap, cur, hv, hq, _⟩
        · rw [e] at hv
          simp at hv
        · rw [e] at hv
          simp only [Value.slice.injEq, Option.some.injEq, Addr.mk.injEq] at hv
          omega)
      clear RQ
      go_wp2
      go_ret
      exact ⟨_, _, rfl, SQ, HB.out, B⟩

theorem startsOf_any (k : Int) (hk : 1 ≤ k ∧ k ≤ 5) (a : Option Addr) (c : Nat) (rs : List (List (Int × Int))) (wo w : World) (h : SeesS wo a c rs) (hw : Below wo.heap.size wo w) (h0 : 0 < rs.length) (hn : rs.length ≤ 12) (hl : ∀ i, i < rs.length → 0 < (rowA rs i).length) :
    Calls Try.prog 61 #[.iface (figT k) (.agg #[.slice a rs.length c])] w fun e w' => ∃ a' c', e = .returned (.slice a' (stL k rs).length c') ∧ SeesP w' a' c' (stL k rs) ∧ (∀ b off, a' = some ⟨b, off, none⟩ → stL k rs ≠ [] → b < wo.heap.size ∨ w.heap.size ≤ b) ∧ Below w.heap.size w w' := by
  rcases kinds hk with rfl | rfl | rfl | rfl | rfl
  · exact startsOf1 a c rs wo w h hw h0
  · exact startsOf2 a c rs wo w h hw h0
  · exact startsOf3 a c rs wo w h hw hn hl
  · exact startsOf4 a c rs wo w h hw hn hl
  · exact startsOf5 a c rs wo w h hw hn hl

set_option maxRecDepth 20000 in
set_option maxHeartbeats 1000000 in
theorem extentOf_any (n : Int) (a : Option Addr) (c : Nat) (rs : List (List (Int × Int))) (w : World) (h : SeesS w a c rs) (hg : goodB n rs = true) :
    Calls Try.prog 44 #[.agg #[.int .i64 n, .slice a rs.length c]] w fun e w' => ∃ a1 c1 a2 c2, e = .returned (.agg #[.slice a1 (segL n rs).length c1, .slice a2 (stL n rs).length c2]) ∧ SeesQ w' a1 c1 (segL n rs) ∧ SeesP w' a2 c2 (stL n rs) ∧ Below w.heap.size w w' := by
  obtain ⟨hk, hle, hrow⟩ := goodS_rows hg
  have h0 : 0 < rs.length := by
    have hf : formB n rs = true := by
      unfold goodB goodTo at hg
      rw [Bool.and_eq_true] at hg
      exact hg.1
    rw [formB_kind hk] at hf
    cases q : decide (rs.length = 0)
    · have := of_decide_eq_false q
      omega
    · rw [q] at hf
      simp at hf
  have bn := below1 w (.cells #[.int .i64 n, .slice a rs.length c] 33)
  have bz := bn.size
  have B0 := bn.trans ((below1 _ (.cells #[.slice none 0 0, .slice none 0 0] 79)).mono bz)
  have V0 := Box2.new (w.alloc (.cells #[.int .i64 n, .slice a rs.length c] 33)) (lo := w.heap.size) bz (.slice none 0 0) (.slice none 0 0) 79
  have VS := (Box2.new w (lo := w.heap.size) (Nat.le_refl _) (.int .i64 n) (.slice a rs.length c) 33).below (below1 _ (.cells #[.slice none 0 0, .slice none 0 0] 79))
  rw [World.size_alloc] at V0
  clear bn bz hg
  have SW := h.below B0
  have hv : figV n (.slice a rs.length c) = .iface (figT n) (.agg #[.slice a rs.length c]) := if_pos hk
  have HK : Hid (1 ≤ n ∧ n ≤ 5) := hk
  have HRW : Hid (∀ i, i < rs.length → leastN n ≤ (rowA rs i).length ∧ 0 < (rowA rs i).length ∧ (rowA rs i).length ≤ 60) := hrow
  clear hk hrow
  obtain ⟨k0, k1, _, _⟩ := id VS
  go_enter Try.func44, Try.ntmps44
  go_wp2_with fail
  generalize (w.alloc (.cells #[.int .i64 n, .slice a rs.length c] 33)).alloc (.cells #[.slice none 0 0, .slice none 0 0] 79) = W at *
  refine (figureOf_any n a rs.length c _).mono ?_
  rintro e w1 ⟨rfl, hb⟩
  rw [hv]
  replace V0 := V0.below hb
  replace B0 := B0.trans (hb.mono B0.size)
  replace SW := SW.below hb
  have HW1 : Hid (w.heap.size + 1 < w1.heap.size) := V0.lt
  clear hb k0 k1 VS hv
  go_wp2_with fail
  refine (allSegments_any n HK.out a c rs _ SW hle HRW.out).mono ?_
  rintro e w2 ⟨v, rfl, R, hb⟩
  replace V0 := V0.below hb
  replace B0 := B0.trans (hb.mono B0.size)
  replace SW := SW.below hb
  clear hb
  obtain ⟨a1, c1, rfl, _, _⟩ := R.shape
  have SQ := R.sees
  have HQ : Hid (∀ b off, a1 = some ⟨b, off, none⟩ → b ≠ w.heap.size + 1) := fun b off e => by
    have hl1 := HW1.out
    rcases R.2 with ⟨hv, _⟩ | ⟨q, cap, cur, hv, hq, _⟩
    · rw [e] at hv
      simp at hv
    · rw [e] at hv
      simp only [Value.slice.injEq, Option.some.injEq, Addr.mk.injEq] at hv
      omega
  clear R
  go_wp2_with fail
  have HW2 : Hid (w.heap.size + 1 < w2.heap.size) := V0.lt
  refine (startsOf_any n HK.out a c rs w _ h B0 h0 hle (fun i hi => (HRW.out i hi).2.1)).mono ?_
  rintro e w3 ⟨a2, c2, rfl, SP, HP, hb⟩
  replace V0 := V0.below hb
  replace B0 := B0.trans (hb.mono B0.size)
  replace SQ := SQ.below hb
  clear hb
  generalize hes : segL n rs = es at *
  generalize hst : stL n rs = st at *
  have RC := Box2.chain B0 V0 (.slice a1 es.length c1) (.slice a2 st.length c2)
  have r0 : (w3.setCell ⟨w.heap.size + 1, 0, none⟩ (.slice a1 es.length c1)).cell? ⟨w.heap.size + 1, 0, none⟩ = some (.slice a1 es.length c1) := cell_same V0.c0 _
  have r1 : ((w3.setCell ⟨w.heap.size + 1, 0, none⟩ (.slice a1 es.length c1)).setCell ⟨w.heap.size + 1, 1, none⟩ (.slice a2 st.length c2)).cell? ⟨w.heap.size + 1, 1, none⟩ = some (.slice a2 st.length c2) := (V0.put _ _).c1
  have SQ2 := (SQ.put1 HQ.out 0 (.slice a1 es.length c1)).put1 HQ.out 1 (.slice a2 st.length c2)
  have SP2 : SeesP ((w3.setCell ⟨w.heap.size + 1, 0, none⟩ (.slice a1 es.length c1)).setCell ⟨w.heap.size + 1, 1, none⟩ (.slice a2 st.length c2)) a2 c2 st := by
    rcases Classical.em (st = []) with e | e
    · exact ⟨SP.fits, SP.max, fun q => absurd e q⟩
    · have hne : ∀ b off, a2 = some ⟨b, off, none⟩ → b ≠ w.heap.size + 1 := fun b off q => by have := HP b off q e; have := HW2.out; omega
      exact (SP.put1 hne 0 _).put1 hne 1 _
  obtain ⟨o0, o1, of, _⟩ := id V0
  go_wp2
  refine bodyPost_ret (v := .agg #[.slice a1 es.length c1, .slice a2 st.length c2]) (by simp [results, Try.results44, go_sem, r0, r1]) rfl ?_
  exact ⟨a1, c1, a2, c2, by rw [hes, hst], by rw [hes]; exact SQ2, by rw [hst]; exact SP2, RC⟩


/-- All ends of a good shape's segments are in the bounds. -/
theorem okQ_seg {k : Int} {rs : List (List (Int × Int))} (h : goodB k rs = true) : okQ (segL k rs) = true := by
  have hf : formB k rs = true := by
    unfold goodB goodTo at h
    rw [Bool.and_eq_true] at h
    exact h.1
  unfold okQ segL
  rw [List.all_flatten, List.all_map, List.all_eq_true]
  intro q hq
  obtain ⟨j, hj, rfl⟩ := List.mem_iff_getElem.mp hq
  have er : rowA rs j = rs[j] := by unfold rowA; rw [List.getElem?_eq_getElem hj]; rfl
  have ok := (form_row hf hj).2
  rw [er] at ok
  have oe := okQ_edL ok
  show (sgR k rs[j]).all _ = true
  unfold sgR
  split
  · rw [List.all_map, List.all_eq_true]
    intro p hp
    have := List.all_eq_true.mp ok p hp
    simp only [Function.comp_apply]
    rw [this]
    rfl
  · split
    · exact oe
    · rw [List.all_eq_true]
      intro e he
      exact List.all_eq_true.mp oe e (List.mem_of_mem_take he)
end Go.Proofs.Ythafhfdhahbdoaa

