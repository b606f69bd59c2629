/- The closure that CurveSort sorts by: first the keys are compared, then the places. -/
import Derived.Test.YthompofbdjdloaaGreatPtG
import Derived.Test.YthompofbdjdloaaGreatHeld
import Derived.Sort.Grow
import Derived.Deep.Cut
namespace Go.Proofs.YthompofbdjdloaaGreat
open Go.RowKit

/-- Draws, and blocks behind all others. -/
structure Grw (W w' : World) : Prop where
  ex : ∃ q os, w' = Go.Sort.grow (W.drewN q) os
theorem Grw.start (W : World) : Grw W W.drew := ⟨1, #[], by rw [Go.Sort.grow_empty]; rfl⟩
theorem Grw.alloc {W w' : World} (h : Grw W w') (o : Obj) : Grw W (w'.alloc o) := by
  obtain ⟨q, os, rfl⟩ := h.ex
  exact ⟨q, os.push o, by simp [Go.Sort.grow, World.alloc]⟩
theorem Grw.size {W w' : World} (h : Grw W w') : W.heap.size ≤ w'.heap.size := by
  obtain ⟨q, os, rfl⟩ := h.ex
  simp [Go.Sort.grow, World.drewN]
theorem Grw.below {W w' : World} (h : Grw W w') : Below W.heap.size W w' := by
  obtain ⟨q, os, rfl⟩ := h.ex
  refine ⟨rfl, rfl, rfl, by simp [Go.Sort.grow, World.drewN], fun k hk => ?_⟩
  simp [Go.Sort.grow, World.drewN, Array.getElem?_append, hk]

def cmp2 (x y : Int) : Int := if x < y then -1 else if y < x then 1 else 0
set_option maxHeartbeats 1000000 in
theorem compare_any (x y : Int) (w : World) :
    Calls Tryz.prog 120 #[.int .i64 x, .int .i64 y] w fun e w' => e = .returned (.int .i64 (cmp2 x y)) ∧ w' = w := by
  by_cases h1 : x < y
  · have V : Hid (cmp2 x y = -1) := by show _ = _; unfold cmp2; rw [if_pos h1]
    go_enter Tryz.func120, Tryz.ntmps120
    go_wp2_with (go_at_call 159; refine (isNaN_any _ _).mono ?_; rintro e w' ⟨rfl, rfl⟩)
    go_ret
    exact ⟨by rw [V.out]; first | done | rfl, rfl⟩
  · by_cases h2 : y < x
    · have V : Hid (cmp2 x y = 1) := by show _ = _; unfold cmp2; rw [if_neg h1, if_pos h2]
      go_enter Tryz.func120, Tryz.ntmps120
      go_wp2_with (go_at_call 159; refine (isNaN_any _ _).mono ?_; rintro e w' ⟨rfl, rfl⟩)
      go_ret
      exact ⟨by rw [V.out]; first | done | rfl, rfl⟩
    · have V : Hid (cmp2 x y = 0) := by show _ = _; unfold cmp2; rw [if_neg h1, if_neg h2]
      go_enter Tryz.func120, Tryz.ntmps120
      go_wp2_with (go_at_call 159; refine (isNaN_any _ _).mono ?_; rintro e w' ⟨rfl, rfl⟩)
      go_ret
      exact ⟨by rw [V.out]; first | done | rfl, rfl⟩

/-- The first that is not 0. -/
def or2 (c d : Int) : Int := if c ≠ 0 then c else d
set_option maxHeartbeats 1000000 in
theorem or2_any (b : Nat) (c d : Int) (w : World) (h0 : w.cell? ⟨b, 0, none⟩ = some (.int .i64 c)) (h1 : w.cell? ⟨b, 1, none⟩ = some (.int .i64 d)) :
    Calls Tryz.prog 119 #[.slice (some ⟨b, 0, none⟩) 2 2] w fun e w' => e = .returned (.int .i64 (or2 c d)) ∧ w' = w := by
  go_enter Tryz.func119, Tryz.ntmps119
  go_wp2
  go_loopw [8] (fun s8 wr => ∃ k : Nat, k ≤ 2 ∧ s8 = .int .i64 k ∧ Hid (0 < k → c = 0) ∧ Hid (1 < k → d = 0) ∧ Hid (wr = w)) (fun s8 _ => 2 - (intOf s8).toNat)
  case atStart => exact ⟨0, by omega, rfl, fun h => absurd h (by omega), fun h => absurd h (by omega), rfl⟩
  case round =>
    obtain ⟨k, hk, rfl, H1, H2, hw⟩ := hrel
    have hw' := hw.out
    subst hw'
    have h3 : k = 0 ∨ k = 1 ∨ k = 2 := by omega
    rcases h3 with rfl | rfl | rfl
    · by_cases hc : c = 0
      · subst hc
        go_wp2
        go_roundw
        case rel => exact ⟨1, by omega, by go_num, fun _ => (by first | exact rfl | exact trivial), fun h => absurd h (by omega), (by first | exact trivial | exact rfl)⟩
        case measure => simp [intOf]
      · have V : or2 c d = c := by unfold or2; rw [if_pos hc]
        have V2 : Hid (or2 c d = c) := V
        have hc2 : (c != 0) = true := by simpa using hc
        clear V
        go_wp2
        go_ret
        exact ⟨by rw [V2.out]; first | done | rfl, rfl⟩
    · have hc := H1.out (by omega)
      subst hc
      by_cases hd : d = 0
      · subst hd
        go_wp2
        go_roundw
        case rel => exact ⟨2, by omega, by go_num, fun _ => (by first | exact rfl | exact trivial), fun _ => (by first | exact rfl | exact trivial), (by first | exact trivial | exact rfl)⟩
        case measure => simp [intOf]
      · have V2 : Hid (or2 0 d = d) := by show _ = _; unfold or2; rw [if_neg (by simp)]
        have hc2 : (d != 0) = true := by simpa using hd
        go_wp2
        go_ret
        exact ⟨by rw [V2.out]; first | done | rfl, rfl⟩
    · have hc := H1.out (by omega)
      have hd := H2.out (by omega)
      subst hc hd
      go_wp2
      go_ret
      exact ⟨by first | rfl | simp [or2], rfl⟩

set_option maxRecDepth 20000 in
set_option maxHeartbeats 2000000 in
theorem sort1_any (B q n cap i j : Nat) (x y : Int) (W : World) (k0 : W.cell? ⟨B, 0, none⟩ = some (.slice (some ⟨q, 0, none⟩) n cap)) (hi : i < n) (hj : j < n) (hn : n ≤ 500)
    (r0 : W.cell? ⟨q, i, none⟩ = some (.int .i64 x)) (r1 : W.cell? ⟨q, j, none⟩ = some (.int .i64 y)) :
    Calls Tryz.prog 118 #[.int .i64 i, .int .i64 j, .pointer (some ⟨B, 0, none⟩)] W fun e w' => e = .returned (.int .i64 (or2 (cmp2 x y) (cmp2 i j))) ∧ Grw W w' := by
  have wi : IntKind.i64.wrap (i : Int) = (i : Int) := by rw [IntKind.wrap_i64]; omega
  have wj : IntKind.i64.wrap (j : Int) = (j : Int) := by rw [IntKind.wrap_i64]; omega
  have bi : (i : Int) < (n : Int) := by omega
  have bj : (j : Int) < (n : Int) := by omega
  go_enter Tryz.func118, Tryz.ntmps118
  go_upto_region 1 with fail
  refine wp_region_held_drew (S := Grw W) (by kernel_rfl) (Grw.start W) (fun hHeld => ?_)
  have N : Grw W W.drew := hHeld
  revert hHeld N
  generalize W.drew = ww0
  intro hHeld N
  refine takeQ (i := 0) (gt rfl) (by kernel_rfl) (fun _ _ _ h => h) (by rfl) (by intro wq hSw; have q0 := bat hSw.below k0; have q1 := bat hSw.below r0; have q2 := bat hSw.below r1; go_simp <;> with_reducible rfl) (by assumption) ?_
  try simp only [Act.put, sA, sB, sC]
  refine takeQ (i := 1) (gt rfl) (by kernel_rfl) (fun _ _ _ h => h) (by rfl) (by intro wq _; go_simp <;> with_reducible rfl) (by assumption) ?_
  try simp only [Act.put, sA, sB, sC]
  refine takeQ (i := 2) (gt rfl) (by kernel_rfl) (fun _ _ _ h => h) (by rfl) (by intro wq _; go_simp <;> with_reducible rfl) (by assumption) ?_
  try simp only [Act.put, sA, sB, sC]
  refine takeQ (i := 3) (gt rfl) (by kernel_rfl) (fun _ _ _ h => h) (by rfl) (by intro wq hSw; have q0 := bat hSw.below k0; have q1 := bat hSw.below r0; have q2 := bat hSw.below r1; go_simp <;> with_reducible rfl) (by assumption) ?_
  try simp only [Act.put, sA, sB, sC]
  refine takeQ (i := 4) (gt rfl) (by kernel_rfl) (fun _ _ _ h => h) (by rfl) (by intro wq hSw; have q0 := bat hSw.below k0; have q1 := bat hSw.below r0; have q2 := bat hSw.below r1; go_simp <;> with_reducible rfl) (by assumption) ?_
  try simp only [Act.put, sA, sB, sC]
  refine takeQ (i := 5) (gt rfl) (by kernel_rfl) (fun _ _ _ h => h) (by rfl) (by intro wq _; go_simp <;> with_reducible rfl) (by assumption) ?_
  try simp only [Act.put, sA, sB, sC]
  refine takeQ (i := 6) (gt rfl) (by kernel_rfl) (fun _ _ _ h => h) (by rfl) (by intro wq _; go_simp <;> with_reducible rfl) (by assumption) ?_
  try simp only [Act.put, sA, sB, sC]
  refine takeQ (i := 7) (gt rfl) (by kernel_rfl) (fun _ _ _ h => h) (by rfl) (by intro wq hSw; have q0 := bat hSw.below k0; have q1 := bat hSw.below r0; have q2 := bat hSw.below r1; go_simp <;> with_reducible rfl) (by assumption) ?_
  try simp only [Act.put, sA, sB, sC]
  refine takeQ (i := 9) (gt rfl) (by kernel_rfl) (fun _ _ _ h => h) (by rfl) (by intro wq _; go_simp <;> with_reducible rfl) (by assumption) ?_
  try simp only [Act.put, sA, sB, sC]
  refine takeQ (i := 10) (gt rfl) (by kernel_rfl) (fun _ _ _ h => h) (by rfl) (by intro wq _; go_simp <;> with_reducible rfl) (by assumption) ?_
  try simp only [Act.put, sA, sB, sC]
  refine wpAnyH_ready (rs := [8]) (by kernel_rfl) (by simp) (AllReadyH.cons (gt rfl) (fun K hK => ?_) AllReadyH.nil)
  go_simp
  refine (compare_any x y _).mono ?_
  rintro e1 ww1 ⟨rfl, ew⟩
  subst ew
  refine hK.out _ _ N (fun hHeld => ?_)
  clear hK K
  try simp only [Act.put, sA, sB, sC]
  refine wpAnyH_ready (rs := [11]) (by kernel_rfl) (by simp) (AllReadyH.cons (gt rfl) (fun K hK => ?_) AllReadyH.nil)
  go_simp
  refine (compare_any i j _).mono ?_
  rintro e1 ww2 ⟨rfl, ew⟩
  subst ew
  refine hK.out _ _ N (fun hHeld => ?_)
  clear hK K
  try simp only [Act.put, sA, sB, sC]
  refine wpAnyH_ready (rs := [12]) (by kernel_rfl) (by simp) (AllReadyH.cons (gt rfl) (fun K hK => ?_) AllReadyH.nil)
  go_simp
  have KB := Box2.new ww2 N.size (.int .i64 (cmp2 x y)) (.int .i64 (cmp2 i j)) 3
  replace N := N.alloc (.cells #[.int .i64 (cmp2 x y), .int .i64 (cmp2 i j)] 3)
  generalize ww2.alloc (.cells #[.int .i64 (cmp2 x y), .int .i64 (cmp2 i j)] 3) = ww3 at *
  refine hK.out _ _ N (fun hHeld => ?_)
  clear hK K
  try simp only [Act.put, sA, sB, sC]
  refine wpAnyH_ready (rs := [13]) (by kernel_rfl) (by simp) (AllReadyH.cons (gt rfl) (fun K hK => ?_) AllReadyH.nil)
  go_simp
  refine (or2_any _ (cmp2 x y) (cmp2 i j) _ KB.c0 KB.c1).mono ?_
  rintro e1 ww4 ⟨rfl, ew⟩
  subst ew
  refine hK.out _ _ N (fun hHeld => ?_)
  clear hK K
  try simp only [Act.put, sA, sB, sC]
  refine takeQ (i := 14) (gt rfl) (by kernel_rfl) (fun _ _ _ h => h) (by rfl) (by intro wq _; go_simp <;> with_reducible rfl) (by assumption) ?_
  try simp only [Act.put, sA, sB, sC]
  refine wpAnyH_done (by kernel_rfl) ?_ _
  go_wp2
  go_ret
  exact ⟨rfl, N⟩
end Go.Proofs.YthompofbdjdloaaGreat
