/- Whether segments meet: of the program, of the specification. -/
import Derived.Test.YtinlomcaagdbiaaGreatSeg
import Derived.Test.YtinlomcaagdbiaaGreatPtG
namespace Go.Proofs.YtinlomcaagdbiaaGreat
open Go.RowKit

theorem sgn1_prod (m n : Int) : -1 ≤ sgn1 m * sgn1 n ∧ sgn1 m * sgn1 n ≤ 1 := by
 rcases sgn1_cases m with h | h | h <;> rcases sgn1_cases n with k | k | k <;> rw [h, k] <;> decide
theorem wrap_small {n : Int} (h : -1 ≤ n) (k : n ≤ 1) : IntKind.i64.wrap n = n := by
 have : n = -1 ∨ n = 0 ∨ n = 1 := by omega
 rcases this with rfl | rfl | rfl <;> rfl

set_option maxRecDepth 20000 in
set_option maxHeartbeats 2000000 in
theorem l3On_any (x1 y1 x2 y2 x3 y3 : Int) (w : World) (c1 : Crd x1) (d1 : Crd y1) (c2 : Crd x2) (d2 : Crd y2) (c3 : Crd x3) (d3 : Crd y3) :
  Calls Tryz.prog 113 #[.agg #[.int .i64 x1, .int .i64 y1], .agg #[.int .i64 x2, .int .i64 y2], .agg #[.int .i64 x3, .int .i64 y3]] w fun e w' => e = .returned (.bool (onB x1 y1 x2 y2 x3 y3)) ∧ Below w.heap.size w w' := by
 have k0 := ptbox3 w x1 y1 x2 y2 x3 y3 25
 have B0 := ptbelow3 w x1 y1 x2 y2 x3 y3 25
 obtain ⟨z, hz⟩ : ∃ z, ar x1 y1 x2 y2 x3 y3 = z := ⟨_, rfl⟩
 have HZ : Hid (ar x1 y1 x2 y2 x3 y3 = z) := hz
 clear hz
 have H : Hid (onB x1 y1 x2 y2 x3 y3 = (decide (z = 0) && (btw x1 x2 x3 && btw y1 y2 y3))) := by show _ = _; rw [← HZ.out]; rfl
 by_cases h0 : z = 0
 ·cases hX : btw x1 x2 x3
  all_goals
   go_enter Tryz.func113, Tryz.ntmps113
   go_wp2_with fail
   generalize (((w.alloc (.cells #[.int .i64 x1, .int .i64 y1] 25)).alloc (.cells #[.int .i64 x2, .int .i64 y2] 25)).alloc (.cells #[.int .i64 x3, .int .i64 y3] 25)) = W0 at *
   have B : Below W0.heap.size W0 W0 := Below.refl _ _
   obtain ⟨k1, k2, k3, k4, k5, k6⟩ := k0
   have K : W0.cell? ⟨w.heap.size, 0, none⟩ = some (.int .i64 x1) ∧ W0.cell? ⟨w.heap.size, 1, none⟩ = some (.int .i64 y1) ∧ W0.cell? ⟨w.heap.size + 1, 0, none⟩ = some (.int .i64 x2) ∧ W0.cell? ⟨w.heap.size + 1, 1, none⟩ = some (.int .i64 y2) ∧ W0.cell? ⟨w.heap.size + 1 + 1, 0, none⟩ = some (.int .i64 x3) ∧ W0.cell? ⟨w.heap.size + 1 + 1, 1, none⟩ = some (.int .i64 y3) := ⟨k1, k2, k3, k4, k5, k6⟩
   refine (l3Area_any _ _ _ _ _ _ _ (by assumption) (by assumption) (by assumption) (by assumption) (by assumption) (by assumption)).mono ?_
   rintro e w1 ⟨rfl, hb⟩
   replace B := B.trans (hb.mono B.size)
   rw [HZ.out]
   obtain ⟨m1, m2, m3, m4, m5, m6⟩ := ptkeep3 K B
   clear k1 k2 k3 k4 k5 k6 K hb
   go_wp2_with (go_at_call 131; refine (l3Between_any _ _ _ _).mono ?_; rintro e w' ⟨rfl, rfl⟩; try (first | rw [hX] | rw [hY]))
   go_ret
   exact ⟨ret_bool (by rw [H.out]; simp [h0, hX]), B0.trans (B.mono B0.size)⟩
 ·skip
  go_enter Tryz.func113, Tryz.ntmps113
  go_wp2_with fail
  generalize (((w.alloc (.cells #[.int .i64 x1, .int .i64 y1] 25)).alloc (.cells #[.int .i64 x2, .int .i64 y2] 25)).alloc (.cells #[.int .i64 x3, .int .i64 y3] 25)) = W0 at *
  have B : Below W0.heap.size W0 W0 := Below.refl _ _
  obtain ⟨k1, k2, k3, k4, k5, k6⟩ := k0
  have K : W0.cell? ⟨w.heap.size, 0, none⟩ = some (.int .i64 x1) ∧ W0.cell? ⟨w.heap.size, 1, none⟩ = some (.int .i64 y1) ∧ W0.cell? ⟨w.heap.size + 1, 0, none⟩ = some (.int .i64 x2) ∧ W0.cell? ⟨w.heap.size + 1, 1, none⟩ = some (.int .i64 y2) ∧ W0.cell? ⟨w.heap.size + 1 + 1, 0, none⟩ = some (.int .i64 x3) ∧ W0.cell? ⟨w.heap.size + 1 + 1, 1, none⟩ = some (.int .i64 y3) := ⟨k1, k2, k3, k4, k5, k6⟩
  refine (l3Area_any _ _ _ _ _ _ _ (by assumption) (by assumption) (by assumption) (by assumption) (by assumption) (by assumption)).mono ?_
  rintro e w1 ⟨rfl, hb⟩
  replace B := B.trans (hb.mono B.size)
  rw [HZ.out]
  obtain ⟨m1, m2, m3, m4, m5, m6⟩ := ptkeep3 K B
  clear k1 k2 k3 k4 k5 k6 K hb
  go_wp2_with (go_at_call 131; refine (l3Between_any _ _ _ _).mono ?_; rintro e w' ⟨rfl, rfl⟩; try (first | rw [hX] | rw [hY]))
  go_ret
  exact ⟨ret_bool (by rw [H.out]; simp [h0]), B0.trans (B.mono B0.size)⟩

set_option maxRecDepth 20000 in
set_option maxHeartbeats 8000000 in
theorem meet_any (x1 y1 x2 y2 x3 y3 x4 y4 : Int) (w : World) (c1 : Crd x1) (d1 : Crd y1) (c2 : Crd x2) (d2 : Crd y2) (c3 : Crd x3) (d3 : Crd y3) (c4 : Crd x4) (d4 : Crd y4) :
  Calls Tryz.prog 134 #[.agg #[.int .i64 x1, .int .i64 y1], .agg #[.int .i64 x2, .int .i64 y2], .agg #[.int .i64 x3, .int .i64 y3], .agg #[.int .i64 x4, .int .i64 y4]] w fun e w' => e = .returned (.bool (metI x1 y1 x2 y2 x3 y3 x4 y4)) ∧ Below w.heap.size w w' := by
 have k0 := ptbox4 w x1 y1 x2 y2 x3 y3 x4 y4 25
 have B0 := ptbelow4 w x1 y1 x2 y2 x3 y3 x4 y4 25
 obtain ⟨s1, hs1⟩ : ∃ z, sgn1 (ar x1 y1 x2 y2 x3 y3) = z := ⟨_, rfl⟩
 have Q1 : Hid (sgn1 (ar x1 y1 x2 y2 x3 y3) = s1) := hs1
 obtain ⟨s2, hs2⟩ : ∃ z, sgn1 (ar x1 y1 x2 y2 x4 y4) = z := ⟨_, rfl⟩
 have Q2 : Hid (sgn1 (ar x1 y1 x2 y2 x4 y4) = s2) := hs2
 obtain ⟨s3, hs3⟩ : ∃ z, sgn1 (ar x3 y3 x4 y4 x1 y1) = z := ⟨_, rfl⟩
 have Q3 : Hid (sgn1 (ar x3 y3 x4 y4 x1 y1) = s3) := hs3
 obtain ⟨s4, hs4⟩ : ∃ z, sgn1 (ar x3 y3 x4 y4 x2 y2) = z := ⟨_, rfl⟩
 have Q4 : Hid (sgn1 (ar x3 y3 x4 y4 x2 y2) = s4) := hs4
 have b12 := sgn1_prod (ar x1 y1 x2 y2 x3 y3) (ar x1 y1 x2 y2 x4 y4)
 have b34 := sgn1_prod (ar x3 y3 x4 y4 x1 y1) (ar x3 y3 x4 y4 x2 y2)
 rw [hs1, hs2] at b12
 rw [hs3, hs4] at b34
 obtain ⟨l12, u12⟩ := b12
 obtain ⟨l34, u34⟩ := b34
 have H : Hid (metI x1 y1 x2 y2 x3 y3 x4 y4 = (rng x1 x2 x3 x4 && (rng y1 y2 y3 y4 && (decide (s1 * s2 ≤ 0) && decide (s3 * s4 ≤ 0))))) := by show _ = _; rw [← hs1, ← hs2, ← hs3, ← hs4]; rfl
 clear hs1 hs2 hs3 hs4
 have w12 : IntKind.i64.wrap (s1 * s2) = s1 * s2 := wrap_small l12 u12
 have w34 : IntKind.i64.wrap (s3 * s4) = s3 * s4 := wrap_small l34 u34
 cases hX : rng x1 x2 x3 x4
 ·skip
  go_enter Tryz.func134, Tryz.ntmps134
  go_wp2_with fail
  generalize ((((w.alloc (.cells #[.int .i64 x1, .int .i64 y1] 25)).alloc (.cells #[.int .i64 x2, .int .i64 y2] 25)).alloc (.cells #[.int .i64 x3, .int .i64 y3] 25)).alloc (.cells #[.int .i64 x4, .int .i64 y4] 25)) = W0 at *
  have B : Below W0.heap.size W0 W0 := Below.refl _ _
  refine wp_region_held_drew (S := fun w' => w'.cell? ⟨w.heap.size, 0, none⟩ = some (.int .i64 x1) ∧ w'.cell? ⟨w.heap.size, 1, none⟩ = some (.int .i64 y1) ∧ w'.cell? ⟨w.heap.size + 1, 0, none⟩ = some (.int .i64 x2) ∧ w'.cell? ⟨w.heap.size + 1, 1, none⟩ = some (.int .i64 y2) ∧ w'.cell? ⟨w.heap.size + 1 + 1, 0, none⟩ = some (.int .i64 x3) ∧ w'.cell? ⟨w.heap.size + 1 + 1, 1, none⟩ = some (.int .i64 y3) ∧ w'.cell? ⟨w.heap.size + 1 + 1 + 1, 0, none⟩ = some (.int .i64 x4) ∧ w'.cell? ⟨w.heap.size + 1 + 1 + 1, 1, none⟩ = some (.int .i64 y4)) (by kernel_rfl) (k0) (fun hHeld => ?_)
  refine takeA (i := 0) (h := ?_)
  refine takeA (i := 1) (h := ?_)
  refine takeA (i := 2) (h := ?_)
  refine takeA (i := 3) (h := ?_)
  refine takeA (i := 4) (h := ?_)
  refine takeA (i := 5) (h := ?_)
  refine takeA (i := 6) (h := ?_)
  refine takeA (i := 7) (h := ?_)
  refine wpAnyH_ready (rs := [8]) (by kernel_rfl) (by simp) ?_
  refine AllReadyH.cons (by simp only [List.getElem?_toArray, List.getElem?_cons_succ, List.getElem?_cons_zero]; exact rfl) (fun K hK => ?_) AllReadyH.nil
  go_simp
  (go_at_call 150; refine (rangesMeet_any _ _ _ _ _).mono ?_; rintro e w1 ⟨rfl, rfl⟩; (first | rw [hX] | rw [hY]))
  refine hK.out _ _ ?_ (fun hHeld => ?_)
  ·first | exact k0 | exact ptkeep4 k0 B | exact ptkeep4 k0 B.drew
  clear hK K
  try simp only [Act.put, pA, pB, pC]
  refine takeA (i := 9) (h := ?_)
  refine takeN (i := 10) (by simp only [List.getElem?_toArray, List.getElem?_cons_succ, List.getElem?_cons_zero]; exact rfl) (by kernel_rfl) (by kernel_rfl) (by kernel_rfl) (by exact fun _ _ _ h => h) (by rfl) (by assumption) ?_
  try simp only [Act.put, pA, pB, pC]
  refine takeN (i := 11) (by simp only [List.getElem?_toArray, List.getElem?_cons_succ, List.getElem?_cons_zero]; exact rfl) (by kernel_rfl) (by kernel_rfl) (by kernel_rfl) (by exact fun _ _ _ h => h) (by rfl) (by assumption) ?_
  try simp only [Act.put, pA, pB, pC]
  refine takeN (i := 12) (by simp only [List.getElem?_toArray, List.getElem?_cons_succ, List.getElem?_cons_zero]; exact rfl) (by kernel_rfl) (by kernel_rfl) (by kernel_rfl) (by exact fun _ _ _ h => h) (by rfl) (by assumption) ?_
  try simp only [Act.put, pA, pB, pC]
  refine takeN (i := 13) (by simp only [List.getElem?_toArray, List.getElem?_cons_succ, List.getElem?_cons_zero]; exact rfl) (by kernel_rfl) (by kernel_rfl) (by kernel_rfl) (by exact fun _ _ _ h => h) (by rfl) (by assumption) ?_
  try simp only [Act.put, pA, pB, pC]
  refine takeN (i := 14) (by simp only [List.getElem?_toArray, List.getElem?_cons_succ, List.getElem?_cons_zero]; exact rfl) (by kernel_rfl) (by kernel_rfl) (by kernel_rfl) (by exact fun _ _ _ h => h) (by rfl) (by assumption) ?_
  try simp only [Act.put, pA, pB, pC]
  refine takeN (i := 15) (by simp only [List.getElem?_toArray, List.getElem?_cons_succ, List.getElem?_cons_zero]; exact rfl) (by kernel_rfl) (by kernel_rfl) (by kernel_rfl) (by exact fun _ _ _ h => h) (by rfl) (by assumption) ?_
  try simp only [Act.put, pA, pB, pC]
  refine takeN (i := 16) (by simp only [List.getElem?_toArray, List.getElem?_cons_succ, List.getElem?_cons_zero]; exact rfl) (by kernel_rfl) (by kernel_rfl) (by kernel_rfl) (by exact fun _ _ _ h => h) (by rfl) (by assumption) ?_
  try simp only [Act.put, pA, pB, pC]
  refine takeN (i := 17) (by simp only [List.getElem?_toArray, List.getElem?_cons_succ, List.getElem?_cons_zero]; exact rfl) (by kernel_rfl) (by kernel_rfl) (by kernel_rfl) (by exact fun _ _ _ h => h) (by rfl) (by assumption) ?_
  try simp only [Act.put, pA, pB, pC]
  refine takeN (i := 18) (by simp only [List.getElem?_toArray, List.getElem?_cons_succ, List.getElem?_cons_zero]; exact rfl) (by kernel_rfl) (by kernel_rfl) (by kernel_rfl) (by exact fun _ _ _ h => h) (by rfl) (by assumption) ?_
  try simp only [Act.put, pA, pB, pC]
  refine takeA (i := 19) (h := ?_)
  refine takeA (i := 20) (h := ?_)
  refine takeN (i := 21) (by simp only [List.getElem?_toArray, List.getElem?_cons_succ, List.getElem?_cons_zero]; exact rfl) (by kernel_rfl) (by kernel_rfl) (by kernel_rfl) (by exact fun _ _ _ h => h) (by rfl) (by assumption) ?_
  try simp only [Act.put, pA, pB, pC]
  refine takeN (i := 22) (by simp only [List.getElem?_toArray, List.getElem?_cons_succ, List.getElem?_cons_zero]; exact rfl) (by kernel_rfl) (by kernel_rfl) (by kernel_rfl) (by exact fun _ _ _ h => h) (by rfl) (by assumption) ?_
  try simp only [Act.put, pA, pB, pC]
  refine takeN (i := 23) (by simp only [List.getElem?_toArray, List.getElem?_cons_succ, List.getElem?_cons_zero]; exact rfl) (by kernel_rfl) (by kernel_rfl) (by kernel_rfl) (by exact fun _ _ _ h => h) (by rfl) (by assumption) ?_
  try simp only [Act.put, pA, pB, pC]
  refine takeN (i := 24) (by simp only [List.getElem?_toArray, List.getElem?_cons_succ, List.getElem?_cons_zero]; exact rfl) (by kernel_rfl) (by kernel_rfl) (by kernel_rfl) (by exact fun _ _ _ h => h) (by rfl) (by assumption) ?_
  try simp only [Act.put, pA, pB, pC]
  refine takeN (i := 25) (by simp only [List.getElem?_toArray, List.getElem?_cons_succ, List.getElem?_cons_zero]; exact rfl) (by kernel_rfl) (by kernel_rfl) (by kernel_rfl) (by exact fun _ _ _ h => h) (by rfl) (by assumption) ?_
  try simp only [Act.put, pA, pB, pC]
  refine takeN (i := 26) (by simp only [List.getElem?_toArray, List.getElem?_cons_succ, List.getElem?_cons_zero]; exact rfl) (by kernel_rfl) (by kernel_rfl) (by kernel_rfl) (by exact fun _ _ _ h => h) (by rfl) (by assumption) ?_
  try simp only [Act.put, pA, pB, pC]
  refine takeN (i := 27) (by simp only [List.getElem?_toArray, List.getElem?_cons_succ, List.getElem?_cons_zero]; exact rfl) (by kernel_rfl) (by kernel_rfl) (by kernel_rfl) (by exact fun _ _ _ h => h) (by rfl) (by assumption) ?_
  try simp only [Act.put, pA, pB, pC]
  refine takeN (i := 28) (by simp only [List.getElem?_toArray, List.getElem?_cons_succ, List.getElem?_cons_zero]; exact rfl) (by kernel_rfl) (by kernel_rfl) (by kernel_rfl) (by exact fun _ _ _ h => h) (by rfl) (by assumption) ?_
  try simp only [Act.put, pA, pB, pC]
  refine takeN (i := 29) (by simp only [List.getElem?_toArray, List.getElem?_cons_succ, List.getElem?_cons_zero]; exact rfl) (by kernel_rfl) (by kernel_rfl) (by kernel_rfl) (by exact fun _ _ _ h => h) (by rfl) (by assumption) ?_
  try simp only [Act.put, pA, pB, pC]
  refine takeN (i := 30) (by simp only [List.getElem?_toArray, List.getElem?_cons_succ, List.getElem?_cons_zero]; exact rfl) (by kernel_rfl) (by kernel_rfl) (by kernel_rfl) (by exact fun _ _ _ h => h) (by rfl) (by assumption) ?_
  try simp only [Act.put, pA, pB, pC]
  refine takeA (i := 31) (h := ?_)
  refine takeA (i := 32) (h := ?_)
  refine takeN (i := 33) (by simp only [List.getElem?_toArray, List.getElem?_cons_succ, List.getElem?_cons_zero]; exact rfl) (by kernel_rfl) (by kernel_rfl) (by kernel_rfl) (by exact fun _ _ _ h => h) (by rfl) (by assumption) ?_
  try simp only [Act.put, pA, pB, pC]
  refine takeN (i := 34) (by simp only [List.getElem?_toArray, List.getElem?_cons_succ, List.getElem?_cons_zero]; exact rfl) (by kernel_rfl) (by kernel_rfl) (by kernel_rfl) (by exact fun _ _ _ h => h) (by rfl) (by assumption) ?_
  try simp only [Act.put, pA, pB, pC]
  refine takeN (i := 35) (by simp only [List.getElem?_toArray, List.getElem?_cons_succ, List.getElem?_cons_zero]; exact rfl) (by kernel_rfl) (by kernel_rfl) (by kernel_rfl) (by exact fun _ _ _ h => h) (by rfl) (by assumption) ?_
  try simp only [Act.put, pA, pB, pC]
  refine takeN (i := 36) (by simp only [List.getElem?_toArray, List.getElem?_cons_succ, List.getElem?_cons_zero]; exact rfl) (by kernel_rfl) (by kernel_rfl) (by kernel_rfl) (by exact fun _ _ _ h => h) (by rfl) (by assumption) ?_
  try simp only [Act.put, pA, pB, pC]
  refine takeN (i := 37) (by simp only [List.getElem?_toArray, List.getElem?_cons_succ, List.getElem?_cons_zero]; exact rfl) (by kernel_rfl) (by kernel_rfl) (by kernel_rfl) (by exact fun _ _ _ h => h) (by rfl) (by assumption) ?_
  try simp only [Act.put, pA, pB, pC]
  refine takeN (i := 38) (by simp only [List.getElem?_toArray, List.getElem?_cons_succ, List.getElem?_cons_zero]; exact rfl) (by kernel_rfl) (by kernel_rfl) (by kernel_rfl) (by exact fun _ _ _ h => h) (by rfl) (by assumption) ?_
  try simp only [Act.put, pA, pB, pC]
  refine takeN (i := 39) (by simp only [List.getElem?_toArray, List.getElem?_cons_succ, List.getElem?_cons_zero]; exact rfl) (by kernel_rfl) (by kernel_rfl) (by kernel_rfl) (by exact fun _ _ _ h => h) (by rfl) (by assumption) ?_
  try simp only [Act.put, pA, pB, pC]
  refine takeN (i := 40) (by simp only [List.getElem?_toArray, List.getElem?_cons_succ, List.getElem?_cons_zero]; exact rfl) (by kernel_rfl) (by kernel_rfl) (by kernel_rfl) (by exact fun _ _ _ h => h) (by rfl) (by assumption) ?_
  try simp only [Act.put, pA, pB, pC]
  refine takeN (i := 41) (by simp only [List.getElem?_toArray, List.getElem?_cons_succ, List.getElem?_cons_zero]; exact rfl) (by kernel_rfl) (by kernel_rfl) (by kernel_rfl) (by exact fun _ _ _ h => h) (by rfl) (by assumption) ?_
  try simp only [Act.put, pA, pB, pC]
  refine takeN (i := 42) (by simp only [List.getElem?_toArray, List.getElem?_cons_succ, List.getElem?_cons_zero]; exact rfl) (by kernel_rfl) (by kernel_rfl) (by kernel_rfl) (by exact fun _ _ _ h => h) (by rfl) (by assumption) ?_
  try simp only [Act.put, pA, pB, pC]
  refine takeA (i := 43) (h := ?_)
  refine takeA (i := 44) (h := ?_)
  refine wpAnyH_done (by kernel_rfl) ?_ _
  go_wp2
  go_ret
  exact ⟨ret_bool (by rw [H.out]; simp [hX]), by first | exact B0.trans (B.mono B0.size) | exact B0.trans (B.drew.mono B0.size)⟩
 ·cases hY : rng y1 y2 y3 y4
  ·skip
   go_enter Tryz.func134, Tryz.ntmps134
   go_wp2_with fail
   generalize ((((w.alloc (.cells #[.int .i64 x1, .int .i64 y1] 25)).alloc (.cells #[.int .i64 x2, .int .i64 y2] 25)).alloc (.cells #[.int .i64 x3, .int .i64 y3] 25)).alloc (.cells #[.int .i64 x4, .int .i64 y4] 25)) = W0 at *
   have B : Below W0.heap.size W0 W0 := Below.refl _ _
   refine wp_region_held_drew (S := fun w' => w'.cell? ⟨w.heap.size, 0, none⟩ = some (.int .i64 x1) ∧ w'.cell? ⟨w.heap.size, 1, none⟩ = some (.int .i64 y1) ∧ w'.cell? ⟨w.heap.size + 1, 0, none⟩ = some (.int .i64 x2) ∧ w'.cell? ⟨w.heap.size + 1, 1, none⟩ = some (.int .i64 y2) ∧ w'.cell? ⟨w.heap.size + 1 + 1, 0, none⟩ = some (.int .i64 x3) ∧ w'.cell? ⟨w.heap.size + 1 + 1, 1, none⟩ = some (.int .i64 y3) ∧ w'.cell? ⟨w.heap.size + 1 + 1 + 1, 0, none⟩ = some (.int .i64 x4) ∧ w'.cell? ⟨w.heap.size + 1 + 1 + 1, 1, none⟩ = some (.int .i64 y4)) (by kernel_rfl) (k0) (fun hHeld => ?_)
   refine takeA (i := 0) (h := ?_)
   refine takeA (i := 1) (h := ?_)
   refine takeA (i := 2) (h := ?_)
   refine takeA (i := 3) (h := ?_)
   refine takeA (i := 4) (h := ?_)
   refine takeA (i := 5) (h := ?_)
   refine takeA (i := 6) (h := ?_)
   refine takeA (i := 7) (h := ?_)
   refine wpAnyH_ready (rs := [8]) (by kernel_rfl) (by simp) ?_
   refine AllReadyH.cons (by simp only [List.getElem?_toArray, List.getElem?_cons_succ, List.getElem?_cons_zero]; exact rfl) (fun K hK => ?_) AllReadyH.nil
   go_simp
   (go_at_call 150; refine (rangesMeet_any _ _ _ _ _).mono ?_; rintro e w1 ⟨rfl, rfl⟩; (first | rw [hX] | rw [hY]))
   refine hK.out _ _ ?_ (fun hHeld => ?_)
   ·first | exact k0 | exact ptkeep4 k0 B | exact ptkeep4 k0 B.drew
   clear hK K
   try simp only [Act.put, pA, pB, pC]
   refine takeA (i := 9) (h := ?_)
   refine takeA (i := 10) (h := ?_)
   refine takeA (i := 11) (h := ?_)
   refine takeA (i := 12) (h := ?_)
   refine takeA (i := 13) (h := ?_)
   refine takeA (i := 14) (h := ?_)
   refine takeA (i := 15) (h := ?_)
   refine takeA (i := 16) (h := ?_)
   refine takeA (i := 17) (h := ?_)
   refine wpAnyH_ready (rs := [18]) (by kernel_rfl) (by simp) ?_
   refine AllReadyH.cons (by simp only [List.getElem?_toArray, List.getElem?_cons_succ, List.getElem?_cons_zero]; exact rfl) (fun K hK => ?_) AllReadyH.nil
   go_simp
   (go_at_call 150; refine (rangesMeet_any _ _ _ _ _).mono ?_; rintro e w1 ⟨rfl, rfl⟩; (first | rw [hX] | rw [hY]))
   refine hK.out _ _ ?_ (fun hHeld => ?_)
   ·first | exact k0 | exact ptkeep4 k0 B | exact ptkeep4 k0 B.drew
   clear hK K
   try simp only [Act.put, pA, pB, pC]
   refine takeA (i := 19) (h := ?_)
   refine takeA (i := 20) (h := ?_)
   refine takeN (i := 21) (by simp only [List.getElem?_toArray, List.getElem?_cons_succ, List.getElem?_cons_zero]; exact rfl) (by kernel_rfl) (by kernel_rfl) (by kernel_rfl) (by exact fun _ _ _ h => h) (by rfl) (by assumption) ?_
   try simp only [Act.put, pA, pB, pC]
   refine takeN (i := 22) (by simp only [List.getElem?_toArray, List.getElem?_cons_succ, List.getElem?_cons_zero]; exact rfl) (by kernel_rfl) (by kernel_rfl) (by kernel_rfl) (by exact fun _ _ _ h => h) (by rfl) (by assumption) ?_
   try simp only [Act.put, pA, pB, pC]
   refine takeN (i := 23) (by simp only [List.getElem?_toArray, List.getElem?_cons_succ, List.getElem?_cons_zero]; exact rfl) (by kernel_rfl) (by kernel_rfl) (by kernel_rfl) (by exact fun _ _ _ h => h) (by rfl) (by assumption) ?_
   try simp only [Act.put, pA, pB, pC]
   refine takeN (i := 24) (by simp only [List.getElem?_toArray, List.getElem?_cons_succ, List.getElem?_cons_zero]; exact rfl) (by kernel_rfl) (by kernel_rfl) (by kernel_rfl) (by exact fun _ _ _ h => h) (by rfl) (by assumption) ?_
   try simp only [Act.put, pA, pB, pC]
   refine takeN (i := 25) (by simp only [List.getElem?_toArray, List.getElem?_cons_succ, List.getElem?_cons_zero]; exact rfl) (by kernel_rfl) (by kernel_rfl) (by kernel_rfl) (by exact fun _ _ _ h => h) (by rfl) (by assumption) ?_
   try simp only [Act.put, pA, pB, pC]
   refine takeN (i := 26) (by simp only [List.getElem?_toArray, List.getElem?_cons_succ, List.getElem?_cons_zero]; exact rfl) (by kernel_rfl) (by kernel_rfl) (by kernel_rfl) (by exact fun _ _ _ h => h) (by rfl) (by assumption) ?_
   try simp only [Act.put, pA, pB, pC]
   refine takeN (i := 27) (by simp only [List.getElem?_toArray, List.getElem?_cons_succ, List.getElem?_cons_zero]; exact rfl) (by kernel_rfl) (by kernel_rfl) (by kernel_rfl) (by exact fun _ _ _ h => h) (by rfl) (by assumption) ?_
   try simp only [Act.put, pA, pB, pC]
   refine takeN (i := 28) (by simp only [List.getElem?_toArray, List.getElem?_cons_succ, List.getElem?_cons_zero]; exact rfl) (by kernel_rfl) (by kernel_rfl) (by kernel_rfl) (by exact fun _ _ _ h => h) (by rfl) (by assumption) ?_
   try simp only [Act.put, pA, pB, pC]
   refine takeN (i := 29) (by simp only [List.getElem?_toArray, List.getElem?_cons_succ, List.getElem?_cons_zero]; exact rfl) (by kernel_rfl) (by kernel_rfl) (by kernel_rfl) (by exact fun _ _ _ h => h) (by rfl) (by assumption) ?_
   try simp only [Act.put, pA, pB, pC]
   refine takeN (i := 30) (by simp only [List.getElem?_toArray, List.getElem?_cons_succ, List.getElem?_cons_zero]; exact rfl) (by kernel_rfl) (by kernel_rfl) (by kernel_rfl) (by exact fun _ _ _ h => h) (by rfl) (by assumption) ?_
   try simp only [Act.put, pA, pB, pC]
   refine takeA (i := 31) (h := ?_)
   refine takeA (i := 32) (h := ?_)
   refine takeN (i := 33) (by simp only [List.getElem?_toArray, List.getElem?_cons_succ, List.getElem?_cons_zero]; exact rfl) (by kernel_rfl) (by kernel_rfl) (by kernel_rfl) (by exact fun _ _ _ h => h) (by rfl) (by assumption) ?_
   try simp only [Act.put, pA, pB, pC]
   refine takeN (i := 34) (by simp only [List.getElem?_toArray, List.getElem?_cons_succ, List.getElem?_cons_zero]; exact rfl) (by kernel_rfl) (by kernel_rfl) (by kernel_rfl) (by exact fun _ _ _ h => h) (by rfl) (by assumption) ?_
   try simp only [Act.put, pA, pB, pC]
   refine takeN (i := 35) (by simp only [List.getElem?_toArray, List.getElem?_cons_succ, List.getElem?_cons_zero]; exact rfl) (by kernel_rfl) (by kernel_rfl) (by kernel_rfl) (by exact fun _ _ _ h => h) (by rfl) (by assumption) ?_
   try simp only [Act.put, pA, pB, pC]
   refine takeN (i := 36) (by simp only [List.getElem?_toArray, List.getElem?_cons_succ, List.getElem?_cons_zero]; exact rfl) (by kernel_rfl) (by kernel_rfl) (by kernel_rfl) (by exact fun _ _ _ h => h) (by rfl) (by assumption) ?_
   try simp only [Act.put, pA, pB, pC]
   refine takeN (i := 37) (by simp only [List.getElem?_toArray, List.getElem?_cons_succ, List.getElem?_cons_zero]; exact rfl) (by kernel_rfl) (by kernel_rfl) (by kernel_rfl) (by exact fun _ _ _ h => h) (by rfl) (by assumption) ?_
   try simp only [Act.put, pA, pB, pC]
   refine takeN (i := 38) (by simp only [List.getElem?_toArray, List.getElem?_cons_succ, List.getElem?_cons_zero]; exact rfl) (by kernel_rfl) (by kernel_rfl) (by kernel_rfl) (by exact fun _ _ _ h => h) (by rfl) (by assumption) ?_
   try simp only [Act.put, pA, pB, pC]
   refine takeN (i := 39) (by simp only [List.getElem?_toArray, List.getElem?_cons_succ, List.getElem?_cons_zero]; exact rfl) (by kernel_rfl) (by kernel_rfl) (by kernel_rfl) (by exact fun _ _ _ h => h) (by rfl) (by assumption) ?_
   try simp only [Act.put, pA, pB, pC]
   refine takeN (i := 40) (by simp only [List.getElem?_toArray, List.getElem?_cons_succ, List.getElem?_cons_zero]; exact rfl) (by kernel_rfl) (by kernel_rfl) (by kernel_rfl) (by exact fun _ _ _ h => h) (by rfl) (by assumption) ?_
   try simp only [Act.put, pA, pB, pC]
   refine takeN (i := 41) (by simp only [List.getElem?_toArray, List.getElem?_cons_succ, List.getElem?_cons_zero]; exact rfl) (by kernel_rfl) (by kernel_rfl) (by kernel_rfl) (by exact fun _ _ _ h => h) (by rfl) (by assumption) ?_
   try simp only [Act.put, pA, pB, pC]
   refine takeN (i := 42) (by simp only [List.getElem?_toArray, List.getElem?_cons_succ, List.getElem?_cons_zero]; exact rfl) (by kernel_rfl) (by kernel_rfl) (by kernel_rfl) (by exact fun _ _ _ h => h) (by rfl) (by assumption) ?_
   try simp only [Act.put, pA, pB, pC]
   refine takeA (i := 43) (h := ?_)
   refine takeA (i := 44) (h := ?_)
   refine wpAnyH_done (by kernel_rfl) ?_ _
   go_wp2
   go_ret
   exact ⟨ret_bool (by rw [H.out]; simp [hX, hY]), by first | exact B0.trans (B.mono B0.size) | exact B0.trans (B.drew.mono B0.size)⟩
  ·by_cases h12 : s1 * s2 ≤ 0
   ·skip
    go_enter Tryz.func134, Tryz.ntmps134
    go_wp2_with fail
    generalize ((((w.alloc (.cells #[.int .i64 x1, .int .i64 y1] 25)).alloc (.cells #[.int .i64 x2, .int .i64 y2] 25)).alloc (.cells #[.int .i64 x3, .int .i64 y3] 25)).alloc (.cells #[.int .i64 x4, .int .i64 y4] 25)) = W0 at *
    have B : Below W0.heap.size W0 W0 := Below.refl _ _
    refine wp_region_held_drew (S := fun w' => w'.cell? ⟨w.heap.size, 0, none⟩ = some (.int .i64 x1) ∧ w'.cell? ⟨w.heap.size, 1, none⟩ = some (.int .i64 y1) ∧ w'.cell? ⟨w.heap.size + 1, 0, none⟩ = some (.int .i64 x2) ∧ w'.cell? ⟨w.heap.size + 1, 1, none⟩ = some (.int .i64 y2) ∧ w'.cell? ⟨w.heap.size + 1 + 1, 0, none⟩ = some (.int .i64 x3) ∧ w'.cell? ⟨w.heap.size + 1 + 1, 1, none⟩ = some (.int .i64 y3) ∧ w'.cell? ⟨w.heap.size + 1 + 1 + 1, 0, none⟩ = some (.int .i64 x4) ∧ w'.cell? ⟨w.heap.size + 1 + 1 + 1, 1, none⟩ = some (.int .i64 y4)) (by kernel_rfl) (k0) (fun hHeld => ?_)
    refine takeA (i := 0) (h := ?_)
    refine takeA (i := 1) (h := ?_)
    refine takeA (i := 2) (h := ?_)
    refine takeA (i := 3) (h := ?_)
    refine takeA (i := 4) (h := ?_)
    refine takeA (i := 5) (h := ?_)
    refine takeA (i := 6) (h := ?_)
    refine takeA (i := 7) (h := ?_)
    refine wpAnyH_ready (rs := [8]) (by kernel_rfl) (by simp) ?_
    refine AllReadyH.cons (by simp only [List.getElem?_toArray, List.getElem?_cons_succ, List.getElem?_cons_zero]; exact rfl) (fun K hK => ?_) AllReadyH.nil
    go_simp
    (go_at_call 150; refine (rangesMeet_any _ _ _ _ _).mono ?_; rintro e w1 ⟨rfl, rfl⟩; (first | rw [hX] | rw [hY]))
    refine hK.out _ _ ?_ (fun hHeld => ?_)
    ·first | exact k0 | exact ptkeep4 k0 B | exact ptkeep4 k0 B.drew
    clear hK K
    try simp only [Act.put, pA, pB, pC]
    refine takeA (i := 9) (h := ?_)
    refine takeA (i := 10) (h := ?_)
    refine takeA (i := 11) (h := ?_)
    refine takeA (i := 12) (h := ?_)
    refine takeA (i := 13) (h := ?_)
    refine takeA (i := 14) (h := ?_)
    refine takeA (i := 15) (h := ?_)
    refine takeA (i := 16) (h := ?_)
    refine takeA (i := 17) (h := ?_)
    refine wpAnyH_ready (rs := [18]) (by kernel_rfl) (by simp) ?_
    refine AllReadyH.cons (by simp only [List.getElem?_toArray, List.getElem?_cons_succ, List.getElem?_cons_zero]; exact rfl) (fun K hK => ?_) AllReadyH.nil
    go_simp
    (go_at_call 150; refine (rangesMeet_any _ _ _ _ _).mono ?_; rintro e w1 ⟨rfl, rfl⟩; (first | rw [hX] | rw [hY]))
    refine hK.out _ _ ?_ (fun hHeld => ?_)
    ·first | exact k0 | exact ptkeep4 k0 B | exact ptkeep4 k0 B.drew
    clear hK K
    try simp only [Act.put, pA, pB, pC]
    refine takeA (i := 19) (h := ?_)
    refine takeA (i := 20) (h := ?_)
    refine takeA (i := 21) (h := ?_)
    refine takeA (i := 22) (h := ?_)
    refine takeA (i := 23) (h := ?_)
    refine takeA (i := 25) (h := ?_)
    refine takeA (i := 26) (h := ?_)
    refine takeA (i := 27) (h := ?_)
    refine wpAnyH_ready (rs := [24]) (by kernel_rfl) (by simp) ?_
    refine AllReadyH.cons (by simp only [List.getElem?_toArray, List.getElem?_cons_succ, List.getElem?_cons_zero]; exact rfl) (fun K hK => ?_) AllReadyH.nil
    go_simp
    (go_at_call 151; refine (turn_any _ _ _ _ _ _ _ (by assumption) (by assumption) (by assumption) (by assumption) (by assumption) (by assumption)).mono ?_; rintro e w1 ⟨rfl, hb⟩; (first | replace B := B.trans (hb.mono B.size) | replace B := B.drew.trans (hb.mono B.drew.size)); clear hb; (first | rw [Q1.out] | rw [Q2.out] | rw [Q3.out] | rw [Q4.out]))
    refine hK.out _ _ ?_ (fun hHeld => ?_)
    ·first | exact k0 | exact ptkeep4 k0 B | exact ptkeep4 k0 B.drew
    clear hK K
    try simp only [Act.put, pA, pB, pC]
    refine wpAnyH_ready (rs := [28]) (by kernel_rfl) (by simp) ?_
    refine AllReadyH.cons (by simp only [List.getElem?_toArray, List.getElem?_cons_succ, List.getElem?_cons_zero]; exact rfl) (fun K hK => ?_) AllReadyH.nil
    go_simp
    (go_at_call 151; refine (turn_any _ _ _ _ _ _ _ (by assumption) (by assumption) (by assumption) (by assumption) (by assumption) (by assumption)).mono ?_; rintro e w1 ⟨rfl, hb⟩; (first | replace B := B.trans (hb.mono B.size) | replace B := B.drew.trans (hb.mono B.drew.size)); clear hb; (first | rw [Q1.out] | rw [Q2.out] | rw [Q3.out] | rw [Q4.out]))
    refine hK.out _ _ ?_ (fun hHeld => ?_)
    ·first | exact k0 | exact ptkeep4 k0 B | exact ptkeep4 k0 B.drew
    clear hK K
    try simp only [Act.put, pA, pB, pC]
    refine takeA (i := 29) (h := ?_)
    refine takeA (i := 30) (h := ?_)
    refine takeA (i := 31) (h := ?_)
    refine takeA (i := 32) (h := ?_)
    refine takeA (i := 33) (h := ?_)
    refine takeA (i := 34) (h := ?_)
    refine takeA (i := 35) (h := ?_)
    refine takeA (i := 37) (h := ?_)
    refine takeA (i := 38) (h := ?_)
    refine takeA (i := 39) (h := ?_)
    refine wpAnyH_ready (rs := [36]) (by kernel_rfl) (by simp) ?_
    refine AllReadyH.cons (by simp only [List.getElem?_toArray, List.getElem?_cons_succ, List.getElem?_cons_zero]; exact rfl) (fun K hK => ?_) AllReadyH.nil
    go_simp
    (go_at_call 151; refine (turn_any _ _ _ _ _ _ _ (by assumption) (by assumption) (by assumption) (by assumption) (by assumption) (by assumption)).mono ?_; rintro e w1 ⟨rfl, hb⟩; (first | replace B := B.trans (hb.mono B.size) | replace B := B.drew.trans (hb.mono B.drew.size)); clear hb; (first | rw [Q1.out] | rw [Q2.out] | rw [Q3.out] | rw [Q4.out]))
    refine hK.out _ _ ?_ (fun hHeld => ?_)
    ·first | exact k0 | exact ptkeep4 k0 B | exact ptkeep4 k0 B.drew
    clear hK K
    try simp only [Act.put, pA, pB, pC]
    refine wpAnyH_ready (rs := [40]) (by kernel_rfl) (by simp) ?_
    refine AllReadyH.cons (by simp only [List.getElem?_toArray, List.getElem?_cons_succ, List.getElem?_cons_zero]; exact rfl) (fun K hK => ?_) AllReadyH.nil
    go_simp
    (go_at_call 151; refine (turn_any _ _ _ _ _ _ _ (by assumption) (by assumption) (by assumption) (by assumption) (by assumption) (by assumption)).mono ?_; rintro e w1 ⟨rfl, hb⟩; (first | replace B := B.trans (hb.mono B.size) | replace B := B.drew.trans (hb.mono B.drew.size)); clear hb; (first | rw [Q1.out] | rw [Q2.out] | rw [Q3.out] | rw [Q4.out]))
    refine hK.out _ _ ?_ (fun hHeld => ?_)
    ·first | exact k0 | exact ptkeep4 k0 B | exact ptkeep4 k0 B.drew
    clear hK K
    try simp only [Act.put, pA, pB, pC]
    refine takeA (i := 41) (h := ?_)
    refine takeA (i := 42) (h := ?_)
    refine takeA (i := 43) (h := ?_)
    refine takeA (i := 44) (h := ?_)
    refine wpAnyH_done (by kernel_rfl) ?_ _
    go_wp2
    go_ret
    exact ⟨ret_bool (by rw [H.out]; simp [hX, hY, h12]), by first | exact B0.trans (B.mono B0.size) | exact B0.trans (B.drew.mono B0.size)⟩
   ·have hd : decide (s1 * s2 ≤ 0) = false := decide_eq_false h12
    go_enter Tryz.func134, Tryz.ntmps134
    go_wp2_with fail
    generalize ((((w.alloc (.cells #[.int .i64 x1, .int .i64 y1] 25)).alloc (.cells #[.int .i64 x2, .int .i64 y2] 25)).alloc (.cells #[.int .i64 x3, .int .i64 y3] 25)).alloc (.cells #[.int .i64 x4, .int .i64 y4] 25)) = W0 at *
    have B : Below W0.heap.size W0 W0 := Below.refl _ _
    refine wp_region_held_drew (S := fun w' => w'.cell? ⟨w.heap.size, 0, none⟩ = some (.int .i64 x1) ∧ w'.cell? ⟨w.heap.size, 1, none⟩ = some (.int .i64 y1) ∧ w'.cell? ⟨w.heap.size + 1, 0, none⟩ = some (.int .i64 x2) ∧ w'.cell? ⟨w.heap.size + 1, 1, none⟩ = some (.int .i64 y2) ∧ w'.cell? ⟨w.heap.size + 1 + 1, 0, none⟩ = some (.int .i64 x3) ∧ w'.cell? ⟨w.heap.size + 1 + 1, 1, none⟩ = some (.int .i64 y3) ∧ w'.cell? ⟨w.heap.size + 1 + 1 + 1, 0, none⟩ = some (.int .i64 x4) ∧ w'.cell? ⟨w.heap.size + 1 + 1 + 1, 1, none⟩ = some (.int .i64 y4)) (by kernel_rfl) (k0) (fun hHeld => ?_)
    refine takeA (i := 0) (h := ?_)
    refine takeA (i := 1) (h := ?_)
    refine takeA (i := 2) (h := ?_)
    refine takeA (i := 3) (h := ?_)
    refine takeA (i := 4) (h := ?_)
    refine takeA (i := 5) (h := ?_)
    refine takeA (i := 6) (h := ?_)
    refine takeA (i := 7) (h := ?_)
    refine wpAnyH_ready (rs := [8]) (by kernel_rfl) (by simp) ?_
    refine AllReadyH.cons (by simp only [List.getElem?_toArray, List.getElem?_cons_succ, List.getElem?_cons_zero]; exact rfl) (fun K hK => ?_) AllReadyH.nil
    go_simp
    (go_at_call 150; refine (rangesMeet_any _ _ _ _ _).mono ?_; rintro e w1 ⟨rfl, rfl⟩; (first | rw [hX] | rw [hY]))
    refine hK.out _ _ ?_ (fun hHeld => ?_)
    ·first | exact k0 | exact ptkeep4 k0 B | exact ptkeep4 k0 B.drew
    clear hK K
    try simp only [Act.put, pA, pB, pC]
    refine takeA (i := 9) (h := ?_)
    refine takeA (i := 10) (h := ?_)
    refine takeA (i := 11) (h := ?_)
    refine takeA (i := 12) (h := ?_)
    refine takeA (i := 13) (h := ?_)
    refine takeA (i := 14) (h := ?_)
    refine takeA (i := 15) (h := ?_)
    refine takeA (i := 16) (h := ?_)
    refine takeA (i := 17) (h := ?_)
    refine wpAnyH_ready (rs := [18]) (by kernel_rfl) (by simp) ?_
    refine AllReadyH.cons (by simp only [List.getElem?_toArray, List.getElem?_cons_succ, List.getElem?_cons_zero]; exact rfl) (fun K hK => ?_) AllReadyH.nil
    go_simp
    (go_at_call 150; refine (rangesMeet_any _ _ _ _ _).mono ?_; rintro e w1 ⟨rfl, rfl⟩; (first | rw [hX] | rw [hY]))
    refine hK.out _ _ ?_ (fun hHeld => ?_)
    ·first | exact k0 | exact ptkeep4 k0 B | exact ptkeep4 k0 B.drew
    clear hK K
    try simp only [Act.put, pA, pB, pC]
    refine takeA (i := 19) (h := ?_)
    refine takeA (i := 20) (h := ?_)
    refine takeA (i := 21) (h := ?_)
    refine takeA (i := 22) (h := ?_)
    refine takeA (i := 23) (h := ?_)
    refine takeA (i := 25) (h := ?_)
    refine takeA (i := 26) (h := ?_)
    refine takeA (i := 27) (h := ?_)
    refine wpAnyH_ready (rs := [24]) (by kernel_rfl) (by simp) ?_
    refine AllReadyH.cons (by simp only [List.getElem?_toArray, List.getElem?_cons_succ, List.getElem?_cons_zero]; exact rfl) (fun K hK => ?_) AllReadyH.nil
    go_simp
    (go_at_call 151; refine (turn_any _ _ _ _ _ _ _ (by assumption) (by assumption) (by assumption) (by assumption) (by assumption) (by assumption)).mono ?_; rintro e w1 ⟨rfl, hb⟩; (first | replace B := B.trans (hb.mono B.size) | replace B := B.drew.trans (hb.mono B.drew.size)); clear hb; (first | rw [Q1.out] | rw [Q2.out] | rw [Q3.out] | rw [Q4.out]))
    refine hK.out _ _ ?_ (fun hHeld => ?_)
    ·first | exact k0 | exact ptkeep4 k0 B | exact ptkeep4 k0 B.drew
    clear hK K
    try simp only [Act.put, pA, pB, pC]
    refine wpAnyH_ready (rs := [28]) (by kernel_rfl) (by simp) ?_
    refine AllReadyH.cons (by simp only [List.getElem?_toArray, List.getElem?_cons_succ, List.getElem?_cons_zero]; exact rfl) (fun K hK => ?_) AllReadyH.nil
    go_simp
    (go_at_call 151; refine (turn_any _ _ _ _ _ _ _ (by assumption) (by assumption) (by assumption) (by assumption) (by assumption) (by assumption)).mono ?_; rintro e w1 ⟨rfl, hb⟩; (first | replace B := B.trans (hb.mono B.size) | replace B := B.drew.trans (hb.mono B.drew.size)); clear hb; (first | rw [Q1.out] | rw [Q2.out] | rw [Q3.out] | rw [Q4.out]))
    refine hK.out _ _ ?_ (fun hHeld => ?_)
    ·first | exact k0 | exact ptkeep4 k0 B | exact ptkeep4 k0 B.drew
    clear hK K
    try simp only [Act.put, pA, pB, pC]
    refine takeA (i := 29) (h := ?_)
    refine takeA (i := 30) (h := ?_)
    refine takeA (i := 31) (h := ?_)
    refine takeA (i := 32) (h := ?_)
    refine takeN (i := 33) (by simp only [List.getElem?_toArray, List.getElem?_cons_succ, List.getElem?_cons_zero]; exact rfl) (by kernel_rfl) (by kernel_rfl) (by kernel_rfl) (by exact fun _ _ _ h => h) (by rfl) (by assumption) ?_
    try simp only [Act.put, pA, pB, pC]
    refine takeN (i := 34) (by simp only [List.getElem?_toArray, List.getElem?_cons_succ, List.getElem?_cons_zero]; exact rfl) (by kernel_rfl) (by kernel_rfl) (by kernel_rfl) (by exact fun _ _ _ h => h) (by rfl) (by assumption) ?_
    try simp only [Act.put, pA, pB, pC]
    refine takeN (i := 35) (by simp only [List.getElem?_toArray, List.getElem?_cons_succ, List.getElem?_cons_zero]; exact rfl) (by kernel_rfl) (by kernel_rfl) (by kernel_rfl) (by exact fun _ _ _ h => h) (by rfl) (by assumption) ?_
    try simp only [Act.put, pA, pB, pC]
    refine takeN (i := 36) (by simp only [List.getElem?_toArray, List.getElem?_cons_succ, List.getElem?_cons_zero]; exact rfl) (by kernel_rfl) (by kernel_rfl) (by kernel_rfl) (by exact fun _ _ _ h => h) (by rfl) (by assumption) ?_
    try simp only [Act.put, pA, pB, pC]
    refine takeN (i := 37) (by simp only [List.getElem?_toArray, List.getElem?_cons_succ, List.getElem?_cons_zero]; exact rfl) (by kernel_rfl) (by kernel_rfl) (by kernel_rfl) (by exact fun _ _ _ h => h) (by rfl) (by assumption) ?_
    try simp only [Act.put, pA, pB, pC]
    refine takeN (i := 38) (by simp only [List.getElem?_toArray, List.getElem?_cons_succ, List.getElem?_cons_zero]; exact rfl) (by kernel_rfl) (by kernel_rfl) (by kernel_rfl) (by exact fun _ _ _ h => h) (by rfl) (by assumption) ?_
    try simp only [Act.put, pA, pB, pC]
    refine takeN (i := 39) (by simp only [List.getElem?_toArray, List.getElem?_cons_succ, List.getElem?_cons_zero]; exact rfl) (by kernel_rfl) (by kernel_rfl) (by kernel_rfl) (by exact fun _ _ _ h => h) (by rfl) (by assumption) ?_
    try simp only [Act.put, pA, pB, pC]
    refine takeN (i := 40) (by simp only [List.getElem?_toArray, List.getElem?_cons_succ, List.getElem?_cons_zero]; exact rfl) (by kernel_rfl) (by kernel_rfl) (by kernel_rfl) (by exact fun _ _ _ h => h) (by rfl) (by assumption) ?_
    try simp only [Act.put, pA, pB, pC]
    refine takeN (i := 41) (by simp only [List.getElem?_toArray, List.getElem?_cons_succ, List.getElem?_cons_zero]; exact rfl) (by kernel_rfl) (by kernel_rfl) (by kernel_rfl) (by exact fun _ _ _ h => h) (by rfl) (by assumption) ?_
    try simp only [Act.put, pA, pB, pC]
    refine takeN (i := 42) (by simp only [List.getElem?_toArray, List.getElem?_cons_succ, List.getElem?_cons_zero]; exact rfl) (by kernel_rfl) (by kernel_rfl) (by kernel_rfl) (by exact fun _ _ _ h => h) (by rfl) (by assumption) ?_
    try simp only [Act.put, pA, pB, pC]
    refine takeA (i := 43) (h := ?_)
    refine takeA (i := 44) (h := ?_)
    refine wpAnyH_done (by kernel_rfl) ?_ _
    go_wp2
    go_ret
    exact ⟨ret_bool (by rw [H.out]; simp [hX, hY, hd]), by first | exact B0.trans (B.mono B0.size) | exact B0.trans (B.drew.mono B0.size)⟩

theorem onSeg_any (x1 y1 x2 y2 x3 y3 : Int) (w : World) (c1 : Crd x1) (d1 : Crd y1) (c2 : Crd x2) (d2 : Crd y2) (c3 : Crd x3) (d3 : Crd y3) :
  Calls Tryz.prog 149 #[.agg #[.int .i64 x1, .int .i64 y1], .agg #[.int .i64 x2, .int .i64 y2], .agg #[.int .i64 x3, .int .i64 y3]] w fun e w' => e = .returned (.bool (onB x1 y1 x2 y2 x3 y3)) ∧ Below w.heap.size w w' := by
 go_enter Tryz.func149, Tryz.ntmps149
 go_wp2_with fail
 refine (meet_any _ _ _ _ _ _ _ _ _ (by assumption) (by assumption) (by assumption) (by assumption) (by assumption) (by assumption) (by assumption) (by assumption)).mono ?_
 rintro e w1 ⟨rfl, hb⟩
 rw [met_point]
 have B := (ptbelow3 w x1 y1 x2 y2 x3 y3 25).trans (hb.mono (by simp; omega))
 clear hb
 go_wp2
 go_ret
 exact ⟨rfl, B⟩

set_option maxRecDepth 20000 in
set_option maxHeartbeats 8000000 in
theorem l3Meet_any (x1 y1 x2 y2 x3 y3 x4 y4 : Int) (w : World) (c1 : Crd x1) (d1 : Crd y1) (c2 : Crd x2) (d2 : Crd y2) (c3 : Crd x3) (d3 : Crd y3) (c4 : Crd x4) (d4 : Crd y4) :
  Calls Tryz.prog 114 #[.agg #[.int .i64 x1, .int .i64 y1], .agg #[.int .i64 x2, .int .i64 y2], .agg #[.int .i64 x3, .int .i64 y3], .agg #[.int .i64 x4, .int .i64 y4]] w fun e w' => e = .returned (.bool (metS x1 y1 x2 y2 x3 y3 x4 y4)) ∧ Below w.heap.size w w' := by
 have k0 := ptbox4 w x1 y1 x2 y2 x3 y3 x4 y4 25
 have B0 := ptbelow4 w x1 y1 x2 y2 x3 y3 x4 y4 25
 obtain ⟨s1, hs1⟩ : ∃ z, sgn1 (ar x1 y1 x2 y2 x3 y3) = z := ⟨_, rfl⟩
 have Q1 : Hid (sgn1 (ar x1 y1 x2 y2 x3 y3) = s1) := hs1
 obtain ⟨s2, hs2⟩ : ∃ z, sgn1 (ar x1 y1 x2 y2 x4 y4) = z := ⟨_, rfl⟩
 have Q2 : Hid (sgn1 (ar x1 y1 x2 y2 x4 y4) = s2) := hs2
 obtain ⟨s3, hs3⟩ : ∃ z, sgn1 (ar x3 y3 x4 y4 x1 y1) = z := ⟨_, rfl⟩
 have Q3 : Hid (sgn1 (ar x3 y3 x4 y4 x1 y1) = s3) := hs3
 obtain ⟨s4, hs4⟩ : ∃ z, sgn1 (ar x3 y3 x4 y4 x2 y2) = z := ⟨_, rfl⟩
 have Q4 : Hid (sgn1 (ar x3 y3 x4 y4 x2 y2) = s4) := hs4
 have b12 := sgn1_prod (ar x1 y1 x2 y2 x3 y3) (ar x1 y1 x2 y2 x4 y4)
 have b34 := sgn1_prod (ar x3 y3 x4 y4 x1 y1) (ar x3 y3 x4 y4 x2 y2)
 rw [hs1, hs2] at b12
 rw [hs3, hs4] at b34
 obtain ⟨l12, u12⟩ := b12
 obtain ⟨l34, u34⟩ := b34
 have H : Hid (metS x1 y1 x2 y2 x3 y3 x4 y4 = ((onB x1 y1 x2 y2 x3 y3 || (onB x1 y1 x2 y2 x4 y4 || (onB x3 y3 x4 y4 x1 y1 || onB x3 y3 x4 y4 x2 y2))) || (decide (s1 * s2 < 0) && decide (s3 * s4 < 0)))) := by show _ = _; rw [← hs1, ← hs2, ← hs3, ← hs4]; rfl
 clear hs1 hs2 hs3 hs4
 have w12 : IntKind.i64.wrap (s1 * s2) = s1 * s2 := wrap_small l12 u12
 have w34 : IntKind.i64.wrap (s3 * s4) = s3 * s4 := wrap_small l34 u34
 cases hO1 : onB x1 y1 x2 y2 x3 y3
 rotate_left
 ·skip
  go_enter Tryz.func114, Tryz.ntmps114
  go_wp2_with fail
  generalize ((((w.alloc (.cells #[.int .i64 x1, .int .i64 y1] 25)).alloc (.cells #[.int .i64 x2, .int .i64 y2] 25)).alloc (.cells #[.int .i64 x3, .int .i64 y3] 25)).alloc (.cells #[.int .i64 x4, .int .i64 y4] 25)) = W0 at *
  have B : Below W0.heap.size W0 W0 := Below.refl _ _
  have KK := k0
  obtain ⟨k1, k2, k3, k4, k5, k6, k7, k8⟩ := k0
  go_wp2_with (go_at_call 113; refine (l3On_any _ _ _ _ _ _ _ (by assumption) (by assumption) (by assumption) (by assumption) (by assumption) (by assumption)).mono ?_; rintro e w1 ⟨rfl, hb⟩; replace B := B.trans (hb.mono B.size); clear hb; (first | rw [hO1] | rw [hO2] | rw [hO3] | rw [hO4]); obtain ⟨k1, k2, k3, k4, k5, k6, k7, k8⟩ := ptkeep4 KK B)
  go_ret
  exact ⟨ret_bool (by rw [H.out]; simp [hO1]), B0.trans (B.mono B0.size)⟩
 cases hO2 : onB x1 y1 x2 y2 x4 y4
 rotate_left
 ·skip
  go_enter Tryz.func114, Tryz.ntmps114
  go_wp2_with fail
  generalize ((((w.alloc (.cells #[.int .i64 x1, .int .i64 y1] 25)).alloc (.cells #[.int .i64 x2, .int .i64 y2] 25)).alloc (.cells #[.int .i64 x3, .int .i64 y3] 25)).alloc (.cells #[.int .i64 x4, .int .i64 y4] 25)) = W0 at *
  have B : Below W0.heap.size W0 W0 := Below.refl _ _
  have KK := k0
  obtain ⟨k1, k2, k3, k4, k5, k6, k7, k8⟩ := k0
  go_wp2_with (go_at_call 113; refine (l3On_any _ _ _ _ _ _ _ (by assumption) (by assumption) (by assumption) (by assumption) (by assumption) (by assumption)).mono ?_; rintro e w1 ⟨rfl, hb⟩; replace B := B.trans (hb.mono B.size); clear hb; (first | rw [hO1] | rw [hO2] | rw [hO3] | rw [hO4]); obtain ⟨k1, k2, k3, k4, k5, k6, k7, k8⟩ := ptkeep4 KK B)
  go_ret
  exact ⟨ret_bool (by rw [H.out]; simp [hO1, hO2]), B0.trans (B.mono B0.size)⟩
 cases hO3 : onB x3 y3 x4 y4 x1 y1
 rotate_left
 ·skip
  go_enter Tryz.func114, Tryz.ntmps114
  go_wp2_with fail
  generalize ((((w.alloc (.cells #[.int .i64 x1, .int .i64 y1] 25)).alloc (.cells #[.int .i64 x2, .int .i64 y2] 25)).alloc (.cells #[.int .i64 x3, .int .i64 y3] 25)).alloc (.cells #[.int .i64 x4, .int .i64 y4] 25)) = W0 at *
  have B : Below W0.heap.size W0 W0 := Below.refl _ _
  have KK := k0
  obtain ⟨k1, k2, k3, k4, k5, k6, k7, k8⟩ := k0
  go_wp2_with (go_at_call 113; refine (l3On_any _ _ _ _ _ _ _ (by assumption) (by assumption) (by assumption) (by assumption) (by assumption) (by assumption)).mono ?_; rintro e w1 ⟨rfl, hb⟩; replace B := B.trans (hb.mono B.size); clear hb; (first | rw [hO1] | rw [hO2] | rw [hO3] | rw [hO4]); obtain ⟨k1, k2, k3, k4, k5, k6, k7, k8⟩ := ptkeep4 KK B)
  go_ret
  exact ⟨ret_bool (by rw [H.out]; simp [hO1, hO2, hO3]), B0.trans (B.mono B0.size)⟩
 cases hO4 : onB x3 y3 x4 y4 x2 y2
 rotate_left
 ·skip
  go_enter Tryz.func114, Tryz.ntmps114
  go_wp2_with fail
  generalize ((((w.alloc (.cells #[.int .i64 x1, .int .i64 y1] 25)).alloc (.cells #[.int .i64 x2, .int .i64 y2] 25)).alloc (.cells #[.int .i64 x3, .int .i64 y3] 25)).alloc (.cells #[.int .i64 x4, .int .i64 y4] 25)) = W0 at *
  have B : Below W0.heap.size W0 W0 := Below.refl _ _
  have KK := k0
  obtain ⟨k1, k2, k3, k4, k5, k6, k7, k8⟩ := k0
  go_wp2_with (go_at_call 113; refine (l3On_any _ _ _ _ _ _ _ (by assumption) (by assumption) (by assumption) (by assumption) (by assumption) (by assumption)).mono ?_; rintro e w1 ⟨rfl, hb⟩; replace B := B.trans (hb.mono B.size); clear hb; (first | rw [hO1] | rw [hO2] | rw [hO3] | rw [hO4]); obtain ⟨k1, k2, k3, k4, k5, k6, k7, k8⟩ := ptkeep4 KK B)
  go_ret
  exact ⟨ret_bool (by rw [H.out]; simp [hO1, hO2, hO3, hO4]), B0.trans (B.mono B0.size)⟩
 by_cases h12 : s1 * s2 < 0
 ·skip
  go_enter Tryz.func114, Tryz.ntmps114
  go_wp2_with fail
  generalize ((((w.alloc (.cells #[.int .i64 x1, .int .i64 y1] 25)).alloc (.cells #[.int .i64 x2, .int .i64 y2] 25)).alloc (.cells #[.int .i64 x3, .int .i64 y3] 25)).alloc (.cells #[.int .i64 x4, .int .i64 y4] 25)) = W0 at *
  have B : Below W0.heap.size W0 W0 := Below.refl _ _
  have KK := k0
  obtain ⟨k1, k2, k3, k4, k5, k6, k7, k8⟩ := k0
  go_wp2_with (go_at_call 113; refine (l3On_any _ _ _ _ _ _ _ (by assumption) (by assumption) (by assumption) (by assumption) (by assumption) (by assumption)).mono ?_; rintro e w1 ⟨rfl, hb⟩; replace B := B.trans (hb.mono B.size); clear hb; (first | rw [hO1] | rw [hO2] | rw [hO3] | rw [hO4]); obtain ⟨k1, k2, k3, k4, k5, k6, k7, k8⟩ := ptkeep4 KK B)
  clear k1 k2 k3 k4 k5 k6 k7 k8
  refine wp_region_held_drew (S := fun w' => w'.cell? ⟨w.heap.size, 0, none⟩ = some (.int .i64 x1) ∧ w'.cell? ⟨w.heap.size, 1, none⟩ = some (.int .i64 y1) ∧ w'.cell? ⟨w.heap.size + 1, 0, none⟩ = some (.int .i64 x2) ∧ w'.cell? ⟨w.heap.size + 1, 1, none⟩ = some (.int .i64 y2) ∧ w'.cell? ⟨w.heap.size + 1 + 1, 0, none⟩ = some (.int .i64 x3) ∧ w'.cell? ⟨w.heap.size + 1 + 1, 1, none⟩ = some (.int .i64 y3) ∧ w'.cell? ⟨w.heap.size + 1 + 1 + 1, 0, none⟩ = some (.int .i64 x4) ∧ w'.cell? ⟨w.heap.size + 1 + 1 + 1, 1, none⟩ = some (.int .i64 y4)) (by kernel_rfl) (ptkeep4 KK B.drew) (fun hHeld => ?_)
  refine takeA (i := 0) (h := ?_)
  refine takeA (i := 1) (h := ?_)
  refine takeA (i := 2) (h := ?_)
  refine takeA (i := 5) (h := ?_)
  refine takeA (i := 6) (h := ?_)
  refine takeA (i := 7) (h := ?_)
  refine wpAnyH_ready (rs := [3]) (by kernel_rfl) (by simp) ?_
  refine AllReadyH.cons (by simp only [List.getElem?_toArray, List.getElem?_cons_succ, List.getElem?_cons_zero]; exact rfl) (fun K hK => ?_) AllReadyH.nil
  go_simp
  (go_at_call 115; refine (l3Area_any _ _ _ _ _ _ _ (by assumption) (by assumption) (by assumption) (by assumption) (by assumption) (by assumption)).mono ?_; rintro e w1 ⟨rfl, hb⟩; (first | replace B := B.trans (hb.mono B.size) | replace B := B.drew.trans (hb.mono B.drew.size)); clear hb)
  refine hK.out _ _ ?_ (fun hHeld => ?_)
  ·first | exact ptkeep4 KK B | exact ptkeep4 KK B.drew
  clear hK K
  try simp only [Act.put, pA, pB, pC]
  refine wpAnyH_ready (rs := [4]) (by kernel_rfl) (by simp) ?_
  refine AllReadyH.cons (by simp only [List.getElem?_toArray, List.getElem?_cons_succ, List.getElem?_cons_zero]; exact rfl) (fun K hK => ?_) AllReadyH.nil
  go_simp
  (go_at_call 132; refine (l3Sign_any _ _).mono ?_; rintro e w1 ⟨rfl, rfl⟩; (first | rw [Q1.out] | rw [Q2.out] | rw [Q3.out] | rw [Q4.out]))
  refine hK.out _ _ ?_ (fun hHeld => ?_)
  ·first | exact ptkeep4 KK B | exact ptkeep4 KK B.drew
  clear hK K
  try simp only [Act.put, pA, pB, pC]
  refine wpAnyH_ready (rs := [8]) (by kernel_rfl) (by simp) ?_
  refine AllReadyH.cons (by simp only [List.getElem?_toArray, List.getElem?_cons_succ, List.getElem?_cons_zero]; exact rfl) (fun K hK => ?_) AllReadyH.nil
  go_simp
  (go_at_call 115; refine (l3Area_any _ _ _ _ _ _ _ (by assumption) (by assumption) (by assumption) (by assumption) (by assumption) (by assumption)).mono ?_; rintro e w1 ⟨rfl, hb⟩; (first | replace B := B.trans (hb.mono B.size) | replace B := B.drew.trans (hb.mono B.drew.size)); clear hb)
  refine hK.out _ _ ?_ (fun hHeld => ?_)
  ·first | exact ptkeep4 KK B | exact ptkeep4 KK B.drew
  clear hK K
  try simp only [Act.put, pA, pB, pC]
  refine wpAnyH_ready (rs := [9]) (by kernel_rfl) (by simp) ?_
  refine AllReadyH.cons (by simp only [List.getElem?_toArray, List.getElem?_cons_succ, List.getElem?_cons_zero]; exact rfl) (fun K hK => ?_) AllReadyH.nil
  go_simp
  (go_at_call 132; refine (l3Sign_any _ _).mono ?_; rintro e w1 ⟨rfl, rfl⟩; (first | rw [Q1.out] | rw [Q2.out] | rw [Q3.out] | rw [Q4.out]))
  refine hK.out _ _ ?_ (fun hHeld => ?_)
  ·first | exact ptkeep4 KK B | exact ptkeep4 KK B.drew
  clear hK K
  try simp only [Act.put, pA, pB, pC]
  refine takeA (i := 10) (h := ?_)
  refine takeA (i := 11) (h := ?_)
  refine takeA (i := 12) (h := ?_)
  refine takeA (i := 13) (h := ?_)
  refine takeA (i := 14) (h := ?_)
  refine takeA (i := 15) (h := ?_)
  refine takeA (i := 18) (h := ?_)
  refine takeA (i := 19) (h := ?_)
  refine takeA (i := 20) (h := ?_)
  refine wpAnyH_ready (rs := [16]) (by kernel_rfl) (by simp) ?_
  refine AllReadyH.cons (by simp only [List.getElem?_toArray, List.getElem?_cons_succ, List.getElem?_cons_zero]; exact rfl) (fun K hK => ?_) AllReadyH.nil
  go_simp
  (go_at_call 115; refine (l3Area_any _ _ _ _ _ _ _ (by assumption) (by assumption) (by assumption) (by assumption) (by assumption) (by assumption)).mono ?_; rintro e w1 ⟨rfl, hb⟩; (first | replace B := B.trans (hb.mono B.size) | replace B := B.drew.trans (hb.mono B.drew.size)); clear hb)
  refine hK.out _ _ ?_ (fun hHeld => ?_)
  ·first | exact ptkeep4 KK B | exact ptkeep4 KK B.drew
  clear hK K
  try simp only [Act.put, pA, pB, pC]
  refine wpAnyH_ready (rs := [17]) (by kernel_rfl) (by simp) ?_
  refine AllReadyH.cons (by simp only [List.getElem?_toArray, List.getElem?_cons_succ, List.getElem?_cons_zero]; exact rfl) (fun K hK => ?_) AllReadyH.nil
  go_simp
  (go_at_call 132; refine (l3Sign_any _ _).mono ?_; rintro e w1 ⟨rfl, rfl⟩; (first | rw [Q1.out] | rw [Q2.out] | rw [Q3.out] | rw [Q4.out]))
  refine hK.out _ _ ?_ (fun hHeld => ?_)
  ·first | exact ptkeep4 KK B | exact ptkeep4 KK B.drew
  clear hK K
  try simp only [Act.put, pA, pB, pC]
  refine wpAnyH_ready (rs := [21]) (by kernel_rfl) (by simp) ?_
  refine AllReadyH.cons (by simp only [List.getElem?_toArray, List.getElem?_cons_succ, List.getElem?_cons_zero]; exact rfl) (fun K hK => ?_) AllReadyH.nil
  go_simp
  (go_at_call 115; refine (l3Area_any _ _ _ _ _ _ _ (by assumption) (by assumption) (by assumption) (by assumption) (by assumption) (by assumption)).mono ?_; rintro e w1 ⟨rfl, hb⟩; (first | replace B := B.trans (hb.mono B.size) | replace B := B.drew.trans (hb.mono B.drew.size)); clear hb)
  refine hK.out _ _ ?_ (fun hHeld => ?_)
  ·first | exact ptkeep4 KK B | exact ptkeep4 KK B.drew
  clear hK K
  try simp only [Act.put, pA, pB, pC]
  refine wpAnyH_ready (rs := [22]) (by kernel_rfl) (by simp) ?_
  refine AllReadyH.cons (by simp only [List.getElem?_toArray, List.getElem?_cons_succ, List.getElem?_cons_zero]; exact rfl) (fun K hK => ?_) AllReadyH.nil
  go_simp
  (go_at_call 132; refine (l3Sign_any _ _).mono ?_; rintro e w1 ⟨rfl, rfl⟩; (first | rw [Q1.out] | rw [Q2.out] | rw [Q3.out] | rw [Q4.out]))
  refine hK.out _ _ ?_ (fun hHeld => ?_)
  ·first | exact ptkeep4 KK B | exact ptkeep4 KK B.drew
  clear hK K
  try simp only [Act.put, pA, pB, pC]
  refine takeA (i := 23) (h := ?_)
  refine takeA (i := 24) (h := ?_)
  refine takeA (i := 25) (h := ?_)
  refine takeA (i := 26) (h := ?_)
  refine wpAnyH_done (by kernel_rfl) ?_ _
  go_wp2
  go_ret
  exact ⟨ret_bool (by rw [H.out]; simp [hO1, hO2, hO3, hO4, h12]), B0.trans (B.mono B0.size)⟩
 ·have hd : decide (s1 * s2 < 0) = false := decide_eq_false h12
  go_enter Tryz.func114, Tryz.ntmps114
  go_wp2_with fail
  generalize ((((w.alloc (.cells #[.int .i64 x1, .int .i64 y1] 25)).alloc (.cells #[.int .i64 x2, .int .i64 y2] 25)).alloc (.cells #[.int .i64 x3, .int .i64 y3] 25)).alloc (.cells #[.int .i64 x4, .int .i64 y4] 25)) = W0 at *
  have B : Below W0.heap.size W0 W0 := Below.refl _ _
  have KK := k0
  obtain ⟨k1, k2, k3, k4, k5, k6, k7, k8⟩ := k0
  go_wp2_with (go_at_call 113; refine (l3On_any _ _ _ _ _ _ _ (by assumption) (by assumption) (by assumption) (by assumption) (by assumption) (by assumption)).mono ?_; rintro e w1 ⟨rfl, hb⟩; replace B := B.trans (hb.mono B.size); clear hb; (first | rw [hO1] | rw [hO2] | rw [hO3] | rw [hO4]); obtain ⟨k1, k2, k3, k4, k5, k6, k7, k8⟩ := ptkeep4 KK B)
  clear k1 k2 k3 k4 k5 k6 k7 k8
  refine wp_region_held_drew (S := fun w' => w'.cell? ⟨w.heap.size, 0, none⟩ = some (.int .i64 x1) ∧ w'.cell? ⟨w.heap.size, 1, none⟩ = some (.int .i64 y1) ∧ w'.cell? ⟨w.heap.size + 1, 0, none⟩ = some (.int .i64 x2) ∧ w'.cell? ⟨w.heap.size + 1, 1, none⟩ = some (.int .i64 y2) ∧ w'.cell? ⟨w.heap.size + 1 + 1, 0, none⟩ = some (.int .i64 x3) ∧ w'.cell? ⟨w.heap.size + 1 + 1, 1, none⟩ = some (.int .i64 y3) ∧ w'.cell? ⟨w.heap.size + 1 + 1 + 1, 0, none⟩ = some (.int .i64 x4) ∧ w'.cell? ⟨w.heap.size + 1 + 1 + 1, 1, none⟩ = some (.int .i64 y4)) (by kernel_rfl) (ptkeep4 KK B.drew) (fun hHeld => ?_)
  refine takeA (i := 0) (h := ?_)
  refine takeA (i := 1) (h := ?_)
  refine takeA (i := 2) (h := ?_)
  refine takeA (i := 5) (h := ?_)
  refine takeA (i := 6) (h := ?_)
  refine takeA (i := 7) (h := ?_)
  refine wpAnyH_ready (rs := [3]) (by kernel_rfl) (by simp) ?_
  refine AllReadyH.cons (by simp only [List.getElem?_toArray, List.getElem?_cons_succ, List.getElem?_cons_zero]; exact rfl) (fun K hK => ?_) AllReadyH.nil
  go_simp
  (go_at_call 115; refine (l3Area_any _ _ _ _ _ _ _ (by assumption) (by assumption) (by assumption) (by assumption) (by assumption) (by assumption)).mono ?_; rintro e w1 ⟨rfl, hb⟩; (first | replace B := B.trans (hb.mono B.size) | replace B := B.drew.trans (hb.mono B.drew.size)); clear hb)
  refine hK.out _ _ ?_ (fun hHeld => ?_)
  ·first | exact ptkeep4 KK B | exact ptkeep4 KK B.drew
  clear hK K
  try simp only [Act.put, pA, pB, pC]
  refine wpAnyH_ready (rs := [4]) (by kernel_rfl) (by simp) ?_
  refine AllReadyH.cons (by simp only [List.getElem?_toArray, List.getElem?_cons_succ, List.getElem?_cons_zero]; exact rfl) (fun K hK => ?_) AllReadyH.nil
  go_simp
  (go_at_call 132; refine (l3Sign_any _ _).mono ?_; rintro e w1 ⟨rfl, rfl⟩; (first | rw [Q1.out] | rw [Q2.out] | rw [Q3.out] | rw [Q4.out]))
  refine hK.out _ _ ?_ (fun hHeld => ?_)
  ·first | exact ptkeep4 KK B | exact ptkeep4 KK B.drew
  clear hK K
  try simp only [Act.put, pA, pB, pC]
  refine wpAnyH_ready (rs := [8]) (by kernel_rfl) (by simp) ?_
  refine AllReadyH.cons (by simp only [List.getElem?_toArray, List.getElem?_cons_succ, List.getElem?_cons_zero]; exact rfl) (fun K hK => ?_) AllReadyH.nil
  go_simp
  (go_at_call 115; refine (l3Area_any _ _ _ _ _ _ _ (by assumption) (by assumption) (by assumption) (by assumption) (by assumption) (by assumption)).mono ?_; rintro e w1 ⟨rfl, hb⟩; (first | replace B := B.trans (hb.mono B.size) | replace B := B.drew.trans (hb.mono B.drew.size)); clear hb)
  refine hK.out _ _ ?_ (fun hHeld => ?_)
  ·first | exact ptkeep4 KK B | exact ptkeep4 KK B.drew
  clear hK K
  try simp only [Act.put, pA, pB, pC]
  refine wpAnyH_ready (rs := [9]) (by kernel_rfl) (by simp) ?_
  refine AllReadyH.cons (by simp only [List.getElem?_toArray, List.getElem?_cons_succ, List.getElem?_cons_zero]; exact rfl) (fun K hK => ?_) AllReadyH.nil
  go_simp
  (go_at_call 132; refine (l3Sign_any _ _).mono ?_; rintro e w1 ⟨rfl, rfl⟩; (first | rw [Q1.out] | rw [Q2.out] | rw [Q3.out] | rw [Q4.out]))
  refine hK.out _ _ ?_ (fun hHeld => ?_)
  ·first | exact ptkeep4 KK B | exact ptkeep4 KK B.drew
  clear hK K
  try simp only [Act.put, pA, pB, pC]
  refine takeA (i := 10) (h := ?_)
  refine takeA (i := 11) (h := ?_)
  refine takeA (i := 12) (h := ?_)
  refine takeN (i := 13) (by simp only [List.getElem?_toArray, List.getElem?_cons_succ, List.getElem?_cons_zero]; exact rfl) (by kernel_rfl) (by kernel_rfl) (by kernel_rfl) (by exact fun _ _ _ h => h) (by rfl) (by assumption) ?_
  try simp only [Act.put, pA, pB, pC]
  refine takeN (i := 14) (by simp only [List.getElem?_toArray, List.getElem?_cons_succ, List.getElem?_cons_zero]; exact rfl) (by kernel_rfl) (by kernel_rfl) (by kernel_rfl) (by exact fun _ _ _ h => h) (by rfl) (by assumption) ?_
  try simp only [Act.put, pA, pB, pC]
  refine takeN (i := 15) (by simp only [List.getElem?_toArray, List.getElem?_cons_succ, List.getElem?_cons_zero]; exact rfl) (by kernel_rfl) (by kernel_rfl) (by kernel_rfl) (by exact fun _ _ _ h => h) (by rfl) (by assumption) ?_
  try simp only [Act.put, pA, pB, pC]
  refine takeN (i := 16) (by simp only [List.getElem?_toArray, List.getElem?_cons_succ, List.getElem?_cons_zero]; exact rfl) (by kernel_rfl) (by kernel_rfl) (by kernel_rfl) (by exact fun _ _ _ h => h) (by rfl) (by assumption) ?_
  try simp only [Act.put, pA, pB, pC]
  refine takeN (i := 17) (by simp only [List.getElem?_toArray, List.getElem?_cons_succ, List.getElem?_cons_zero]; exact rfl) (by kernel_rfl) (by kernel_rfl) (by kernel_rfl) (by exact fun _ _ _ h => h) (by rfl) (by assumption) ?_
  try simp only [Act.put, pA, pB, pC]
  refine takeN (i := 18) (by simp only [List.getElem?_toArray, List.getElem?_cons_succ, List.getElem?_cons_zero]; exact rfl) (by kernel_rfl) (by kernel_rfl) (by kernel_rfl) (by exact fun _ _ _ h => h) (by rfl) (by assumption) ?_
  try simp only [Act.put, pA, pB, pC]
  refine takeN (i := 19) (by simp only [List.getElem?_toArray, List.getElem?_cons_succ, List.getElem?_cons_zero]; exact rfl) (by kernel_rfl) (by kernel_rfl) (by kernel_rfl) (by exact fun _ _ _ h => h) (by rfl) (by assumption) ?_
  try simp only [Act.put, pA, pB, pC]
  refine takeN (i := 20) (by simp only [List.getElem?_toArray, List.getElem?_cons_succ, List.getElem?_cons_zero]; exact rfl) (by kernel_rfl) (by kernel_rfl) (by kernel_rfl) (by exact fun _ _ _ h => h) (by rfl) (by assumption) ?_
  try simp only [Act.put, pA, pB, pC]
  refine takeN (i := 21) (by simp only [List.getElem?_toArray, List.getElem?_cons_succ, List.getElem?_cons_zero]; exact rfl) (by kernel_rfl) (by kernel_rfl) (by kernel_rfl) (by exact fun _ _ _ h => h) (by rfl) (by assumption) ?_
  try simp only [Act.put, pA, pB, pC]
  refine takeN (i := 22) (by simp only [List.getElem?_toArray, List.getElem?_cons_succ, List.getElem?_cons_zero]; exact rfl) (by kernel_rfl) (by kernel_rfl) (by kernel_rfl) (by exact fun _ _ _ h => h) (by rfl) (by assumption) ?_
  try simp only [Act.put, pA, pB, pC]
  refine takeN (i := 23) (by simp only [List.getElem?_toArray, List.getElem?_cons_succ, List.getElem?_cons_zero]; exact rfl) (by kernel_rfl) (by kernel_rfl) (by kernel_rfl) (by exact fun _ _ _ h => h) (by rfl) (by assumption) ?_
  try simp only [Act.put, pA, pB, pC]
  refine takeN (i := 24) (by simp only [List.getElem?_toArray, List.getElem?_cons_succ, List.getElem?_cons_zero]; exact rfl) (by kernel_rfl) (by kernel_rfl) (by kernel_rfl) (by exact fun _ _ _ h => h) (by rfl) (by assumption) ?_
  try simp only [Act.put, pA, pB, pC]
  refine takeA (i := 25) (h := ?_)
  refine takeA (i := 26) (h := ?_)
  refine wpAnyH_done (by kernel_rfl) ?_ _
  go_wp2
  go_ret
  exact ⟨ret_bool (by rw [H.out]; simp [hO1, hO2, hO3, hO4, hd]), B0.trans (B.mono B0.size)⟩

end Go.Proofs.YtinlomcaagdbiaaGreat
