/- The specification's Cmp. -/
import Derived.Test.YtniphhgjfdjjgaiSAdd
import Derived.Test.YtniphhgjfdjjgaiBounds
import Derived.Deep.RegionHeld3
import Derived.Deep.DeepCutAuto
namespace Go.Proofs.Ytniphhgjfdjjgai
open Go.RowKit

set_option maxRecDepth 20000 in
set_option maxHeartbeats 8000000 in
theorem specCmp (g g' : Bool) (a b : Option Addr) (c d : Nat) (xs ys : List Int) (w : World) (h : Sees w a c xs) (k : Sees w b d ys) :
    Calls Try.prog 18 #[.agg #[.bool g, .slice a xs.length c], .agg #[.bool g', .slice b ys.length d]] w fun e w' => e = .returned (.int .i64 (cmpZ (tk g xs) (tk g' ys))) ∧ Below w.heap.size w w' := by
  obtain ⟨_, tn, t24, _⟩ := tk_facts g xs h.lim
  obtain ⟨_, sn, s24, _⟩ := tk_facts g' ys k.lim
  have HN : Hid (Nrm (tkL g xs) ∧ Nrm (tkL g' ys)) := ⟨tn, sn⟩
  have E : Hid (sg (tkG g xs) (val (tkL g xs)) + sg (!tkG g' ys) (val (tkL g' ys)) = tk g xs - tk g' ys) := by show _ = _; rw [sg_not]; unfold tk; omega
  clear tn sn
  go_enter Try.func18, Try.ntmps18
  go_wp2_with fail
  go_cut [5] (fun s5 W => ∃ p a6 c6 zs, s5 = .pointer (some ⟨p, 0, none⟩) ∧ W.cell? ⟨p, 0, none⟩ = some (.bool (decide (tk g xs - tk g' ys < 0))) ∧ W.cell? ⟨p, 1, none⟩ = some (.slice a6 zs.length c6) ∧ Hid (Lim zs ∧ Nrm zs ∧ val zs = mg (tk g xs - tk g' ys)) ∧ Below w.heap.size w W)
  case first =>
    go_region_held3 (fun w' => w'.cell? ⟨w.heap.size, 0, none⟩ = some (.bool g) ∧ w'.cell? ⟨w.heap.size, 1, none⟩ = some (.slice a xs.length c) ∧ w'.cell? ⟨w.heap.size + 1, 0, none⟩ = some (.bool g') ∧ w'.cell? ⟨w.heap.size + 1, 1, none⟩ = some (.slice b ys.length d))
      (first | exact k1 | exact k2 | exact k3 | exact k4 | exact k5 | exact ⟨bat (below1 _ _) k1.1, bat (below1 _ _) k1.2.1, bat (below1 _ _) k1.2.2.1, bat (below1 _ _) k1.2.2.2⟩ | exact ⟨bat (below1 _ _) k2.1, bat (below1 _ _) k2.2.1, bat (below1 _ _) k2.2.2.1, bat (below1 _ _) k2.2.2.2⟩ | exact ⟨bat (below1 _ _) k3.1, bat (below1 _ _) k3.2.1, bat (below1 _ _) k3.2.2.1, bat (below1 _ _) k3.2.2.2⟩ | exact ⟨bat (below1 _ _) k4.1, bat (below1 _ _) k4.2.1, bat (below1 _ _) k4.2.2.1, bat (below1 _ _) k4.2.2.2⟩ | exact ⟨bat (below1 _ _) k5.1, bat (below1 _ _) k5.2.1, bat (below1 _ _) k5.2.2.1, bat (below1 _ _) k5.2.2.2⟩ | exact ⟨(cell_put (by omega)).trans k5.1, (cell_put (by omega)).trans k5.2.1, (cell_put (by omega)).trans k5.2.2.1, (cell_put (by omega)).trans k5.2.2.2⟩ | (simp [go_sem, World.cell?_alloc_past]))
      (first
      | (go_at_call_of 28 (Value.agg #[Value.bool g, Value.slice a xs.length c]); refine (l1NegC g a c xs _ ?_).mono ?_; (first | exact h.below (below2 _ _ _).drew | exact h.below (below3 _ _ _ _).drew); rintro e w1 ⟨rfl, hb1⟩; have B1 : Below w.heap.size w w1 := (by first | exact (below2 w _ _).drew.trans (hb1.mono (by simp <;> omega)) | exact (below3 w _ _ _).drew.trans (hb1.mono (by simp <;> omega))); obtain ⟨q1, _⟩ := at_block hb1 (b := w.heap.size) (by simp <;> omega); obtain ⟨q2, _⟩ := at_block hb1 (b := w.heap.size + 1) (by simp <;> omega); have z1 : w.heap.size + 2 ≤ w1.heap.size := (by have := hb1.size; simp at this; omega); (first | (have hz1 := hb1; rw [World.size_drew, World.size_alloc, World.size_alloc, World.size_alloc] at hz1; have y1 := hz1.size; rw [World.size_drew, World.size_alloc, World.size_alloc, World.size_alloc] at y1; obtain ⟨p1x, r1x⟩ := at_blk hz1 (b := w.heap.size + 2) (by omega); clear hz1) | skip); have k1 : w1.cell? ⟨w.heap.size, 0, none⟩ = some (.bool g) ∧ w1.cell? ⟨w.heap.size, 1, none⟩ = some (.slice a xs.length c) ∧ w1.cell? ⟨w.heap.size + 1, 0, none⟩ = some (.bool g') ∧ w1.cell? ⟨w.heap.size + 1, 1, none⟩ = some (.slice b ys.length d) := (by simp [q1, q2, go_sem, World.cell?_alloc_past]); clear hb1 q1 q2)
      | (go_at_call_of 29 (Value.agg #[Value.bool g, Value.slice a xs.length c]); refine (l1MagC g a c xs _ ?_).mono ?_; (first | exact h.below B1 | exact h.below (B1.trans ((below1 _ _).mono B1.size))); rintro e w2 ⟨a2, c2, rfl, hs2, hb2⟩; have n2 : Below w1.heap.size w1 w2 := (by first | exact hb2 | exact (below1 _ _).trans (hb2.mono (by simp))); have k2 : w2.cell? ⟨w.heap.size, 0, none⟩ = some (.bool g) ∧ w2.cell? ⟨w.heap.size, 1, none⟩ = some (.slice a xs.length c) ∧ w2.cell? ⟨w.heap.size + 1, 0, none⟩ = some (.bool g') ∧ w2.cell? ⟨w.heap.size + 1, 1, none⟩ = some (.slice b ys.length d) := ⟨bat n2 k1.1, bat n2 k1.2.1, bat n2 k1.2.2.1, bat n2 k1.2.2.2⟩; have B2 := B1.trans (n2.mono B1.size); have z2 : w1.heap.size ≤ w2.heap.size := Nat.le_trans (by simp) hb2.size; (first | (have hz2 := hb2; rw [World.size_alloc] at hz2; have y2 := hz2.size; rw [World.size_alloc] at y2; obtain ⟨p2x, r2x⟩ := at_blk hz2 (b := w1.heap.size) (Nat.lt_succ_self _); clear hz2) | skip); (first | (by_cases hq20 : w.heap.size + 2 < w1.heap.size; rotate_left; (exfalso; omega); obtain ⟨p20, r20⟩ := at_block hb2 (b := w.heap.size + 2) (Nat.lt_of_lt_of_le hq20 (by simp))) | skip); clear hb2)
      | (go_at_call_of 28 (Value.agg #[Value.bool g', Value.slice b ys.length d]); refine (l1NegC g' b d ys _ ?_).mono ?_; (first | exact k.below B2 | exact k.below (B2.trans ((below1 _ _).mono B2.size))); rintro e w3 ⟨rfl, hb3⟩; have n3 : Below w1.heap.size w1 w3 := (by first | exact n2.trans (hb3.mono n2.size) | exact (n2.trans ((below1 _ _).mono n2.size)).trans (hb3.mono (by have := n2.size; simp; omega))); have k3 : w3.cell? ⟨w.heap.size, 0, none⟩ = some (.bool g) ∧ w3.cell? ⟨w.heap.size, 1, none⟩ = some (.slice a xs.length c) ∧ w3.cell? ⟨w.heap.size + 1, 0, none⟩ = some (.bool g') ∧ w3.cell? ⟨w.heap.size + 1, 1, none⟩ = some (.slice b ys.length d) := ⟨bat n3 k1.1, bat n3 k1.2.1, bat n3 k1.2.2.1, bat n3 k1.2.2.2⟩; have hs3 : Sees w3 a2 c2 (tkL g xs) := (by first | exact hs2.below hb3 | exact (hs2.below (below1 _ _)).below hb3); have B3 := B1.trans (n3.mono B1.size); have z3 : w2.heap.size ≤ w3.heap.size := Nat.le_trans (by simp) hb3.size; (first | (have hz3 := hb3; rw [World.size_alloc] at hz3; have y3 := hz3.size; rw [World.size_alloc] at y3; obtain ⟨p3x, r3x⟩ := at_blk hz3 (b := w2.heap.size) (Nat.lt_succ_self _); clear hz3) | skip); (first | (by_cases hq30 : w.heap.size + 2 < w2.heap.size; rotate_left; (exfalso; omega); obtain ⟨p30, r30⟩ := at_block hb3 (b := w.heap.size + 2) (Nat.lt_of_lt_of_le hq30 (by simp))) | skip); (first | (by_cases hq31 : w1.heap.size < w2.heap.size; rotate_left; (exfalso; omega); obtain ⟨p31, r31⟩ := at_block hb3 (b := w1.heap.size) (Nat.lt_of_lt_of_le hq31 (by simp))) | skip); clear hb3)
      | (go_at_call_of 29 (Value.agg #[Value.bool g', Value.slice b ys.length d]); refine (l1MagC g' b d ys _ ?_).mono ?_; (first | exact k.below B3 | exact k.below (B3.trans ((below1 _ _).mono B3.size))); rintro e w4 ⟨a4, c4, rfl, hs4, hb4⟩; have n4 : Below w1.heap.size w1 w4 := (by first | exact n3.trans (hb4.mono n3.size) | exact (n3.trans ((below1 _ _).mono n3.size)).trans (hb4.mono (by have := n3.size; simp; omega))); have k4 : w4.cell? ⟨w.heap.size, 0, none⟩ = some (.bool g) ∧ w4.cell? ⟨w.heap.size, 1, none⟩ = some (.slice a xs.length c) ∧ w4.cell? ⟨w.heap.size + 1, 0, none⟩ = some (.bool g') ∧ w4.cell? ⟨w.heap.size + 1, 1, none⟩ = some (.slice b ys.length d) := ⟨bat n4 k1.1, bat n4 k1.2.1, bat n4 k1.2.2.1, bat n4 k1.2.2.2⟩; have hs5 : Sees w4 a2 c2 (tkL g xs) := (by first | exact hs3.below hb4 | exact (hs3.below (below1 _ _)).below hb4); have B4 := B1.trans (n4.mono B1.size); have z4 : w3.heap.size ≤ w4.heap.size := Nat.le_trans (by simp) hb4.size; (first | (have hz4 := hb4; rw [World.size_alloc] at hz4; have y4 := hz4.size; rw [World.size_alloc] at y4; obtain ⟨p4x, r4x⟩ := at_blk hz4 (b := w3.heap.size) (Nat.lt_succ_self _); clear hz4) | skip); (first | (by_cases hq40 : w.heap.size + 2 < w3.heap.size; rotate_left; (exfalso; omega); obtain ⟨p40, r40⟩ := at_block hb4 (b := w.heap.size + 2) (Nat.lt_of_lt_of_le hq40 (by simp))) | skip); (first | (by_cases hq41 : w1.heap.size < w3.heap.size; rotate_left; (exfalso; omega); obtain ⟨p41, r41⟩ := at_block hb4 (b := w1.heap.size) (Nat.lt_of_lt_of_le hq41 (by simp))) | skip); (first | (by_cases hq42 : w2.heap.size < w3.heap.size; rotate_left; (exfalso; omega); obtain ⟨p42, r42⟩ := at_block hb4 (b := w2.heap.size) (Nat.lt_of_lt_of_le hq42 (by simp))) | skip); clear hb4)
      | (go_at_call 27; refine (l1AddC (tkG g xs) (!tkG g' ys) a2 a4 c2 c4 (tkL g xs) (tkL g' ys) _ ?_ ?_ HN.out.1 HN.out.2 (by omega) (by omega)).mono ?_; (first | exact hs5 | exact hs5.below (below1 _ _)); (first | exact hs4 | exact hs4.below (below1 _ _)); rintro e w5 ⟨v, rfl, hI, hb5⟩; have n5 : Below w1.heap.size w1 w5 := (by first | exact n4.trans (hb5.mono n4.size) | exact (n4.trans ((below1 _ _).mono n4.size)).trans (hb5.mono (by have := n4.size; simp; omega))); have k5 : w5.cell? ⟨w.heap.size, 0, none⟩ = some (.bool g) ∧ w5.cell? ⟨w.heap.size, 1, none⟩ = some (.slice a xs.length c) ∧ w5.cell? ⟨w.heap.size + 1, 0, none⟩ = some (.bool g') ∧ w5.cell? ⟨w.heap.size + 1, 1, none⟩ = some (.slice b ys.length d) := ⟨bat n5 k1.1, bat n5 k1.2.1, bat n5 k1.2.2.1, bat n5 k1.2.2.2⟩; have B5 := B1.trans (n5.mono B1.size); have z5 : w4.heap.size ≤ w5.heap.size := Nat.le_trans (by simp) hb5.size; (first | (have hz5 := hb5; rw [World.size_alloc] at hz5; have y5 := hz5.size; rw [World.size_alloc] at y5; obtain ⟨p5x, r5x⟩ := at_blk hz5 (b := w4.heap.size) (Nat.lt_succ_self _); clear hz5) | skip); (first | (by_cases hq50 : w.heap.size + 2 < w4.heap.size; rotate_left; (exfalso; omega); obtain ⟨p50, r50⟩ := at_block hb5 (b := w.heap.size + 2) (Nat.lt_of_lt_of_le hq50 (by simp))) | skip); (first | (by_cases hq51 : w1.heap.size < w4.heap.size; rotate_left; (exfalso; omega); obtain ⟨p51, r51⟩ := at_block hb5 (b := w1.heap.size) (Nat.lt_of_lt_of_le hq51 (by simp))) | skip); (first | (by_cases hq52 : w2.heap.size < w4.heap.size; rotate_left; (exfalso; omega); obtain ⟨p52, r52⟩ := at_block hb5 (b := w2.heap.size) (Nat.lt_of_lt_of_le hq52 (by simp))) | skip); (first | (by_cases hq53 : w3.heap.size < w4.heap.size; rotate_left; (exfalso; omega); obtain ⟨p53, r53⟩ := at_block hb5 (b := w3.heap.size) (Nat.lt_of_lt_of_le hq53 (by simp))) | skip); have hJ := hI.eq E.out; obtain ⟨a6, c6, zs, rfl, hoz, hnz, hvz⟩ := hJ; clear hb5 hI))
    all_goals
      have HZ : Hid (Lim zs ∧ Nrm zs ∧ val zs = mg (tk g xs - tk g' ys)) := ⟨hoz.lim, hnz, hvz⟩
      have s5 := B5.size
      go_wp2
      go_meet
      case rel =>
        first
        | exact ⟨_, a6, c6, zs, rfl, (put_cells (by first | (simp [*]; done) | (simp [*, go_sem]; done)) (by first | (simp [*]; done) | (simp [*, go_sem]; done))).1, (put_cells (by first | (simp [*]; done) | (simp [*, go_sem]; done)) (by first | (simp [*]; done) | (simp [*, go_sem]; done))).2, HZ, (B5.setCell (by dsimp only; omega) _).setCell (by dsimp only; omega) _⟩
        | exact ⟨_, a6, c6, zs, rfl, (var_new _ _ _ _ _ _).1, (var_new _ _ _ _ _ _).2, HZ, B5.trans ((below1 _ _).mono B5.size)⟩
  obtain ⟨p, a6, c6, zs, rfl, k0, k1, HZ, B⟩ := hcut
  clear h k E HN
  obtain ⟨z, Z⟩ : ∃ z, Hid (tk g xs - tk g' ys = z) := ⟨_, rfl⟩
  rw [Z.out] at k0 HZ
  by_cases h0 : zs.length = 0
  · have hz : z = 0 := by
      have e0 : zs = [] := List.eq_nil_of_length_eq_zero h0
      have := HZ.out.2.2
      rw [e0] at this
      unfold mg at this
      simp only [val] at this
      split at this <;> omega
    have E2 : Hid (cmpZ (tk g xs) (tk g' ys) = 0) := by
      have := Z.out
      show _ = _
      unfold cmpZ; rw [if_neg (by omega), if_pos (by omega)]
    rw [h0] at k1
    clear hz Z HZ h0
    go_wp2
    go_ret
    exact ⟨by rw [E2.out]; rfl, B⟩
  · have hn0 : ((zs.length : Int) == 0) = false := by simp; intro e; simp [e] at h0
    have hp : 0 < mg z := by
      have := val_pos HZ.out.1 HZ.out.2.1 (by intro e; simp [e] at h0)
      rw [HZ.out.2.2] at this
      exact this
    by_cases hlt : z < 0
    · have E2 : Hid (cmpZ (tk g xs) (tk g' ys) = -1) := by
        have := Z.out
        show _ = _
        unfold cmpZ; rw [if_pos (by omega)]
      rw [decide_eq_true hlt] at k0
      clear hp Z HZ h0 hlt
      generalize zs.length = n at *
      go_wp2
      go_ret
      exact ⟨by rw [E2.out]; rfl, B⟩
    · have E2 : Hid (cmpZ (tk g xs) (tk g' ys) = 1) := by
        have := Z.out
        unfold mg at hp
        rw [if_neg hlt] at hp
        show _ = _
        unfold cmpZ; rw [if_neg (by omega), if_neg (by omega)]
      rw [decide_eq_false hlt] at k0
      clear hp Z HZ h0 hlt
      generalize zs.length = n at *
      go_wp2
      go_ret
      exact ⟨by rw [E2.out]; rfl, B⟩
end Go.Proofs.Ytniphhgjfdjjgai
