/- The specification's DivMod. -/
import Derived.Test.YtnefdfgonolafaaTNeg
import Derived.Test.YtnefdfgonolafaaSDiv
import Derived.Test.YtnefdfgonolafaaSAdd
import Derived.Test.YtnefdfgonolafaaBounds
import Derived.Test.YtnefdfgonolafaaDivT
import Derived.Deep.DeepCutAuto
import Derived.Deep.RegionHeld3
namespace Go.Proofs.Ytnefdfgonolafaa
open Go.RowKit

theorem Cells4.putAt {B b : Nat} {W W' : World} (h : Cells4 B W W') (hb : B + 3 < b) (u0 u1 : Value) : Cells4 B W ((W'.setCell ⟨b, 0, none⟩ u0).setCell ⟨b, 1, none⟩ u1) := by
  refine ⟨by simpa using h.size, ?_, ?_, ?_, ?_, ?_, ?_, ?_, ?_⟩
  · rw [cell_put (by omega)]; exact h.p0
  · rw [cell_put (by omega)]; exact h.p1
  · rw [cell_put (by omega)]; exact h.r0
  · rw [cell_put (by omega)]; exact h.r1
  · rw [World.frozen?_setCell, World.frozen?_setCell]; exact h.f0
  · rw [World.frozen?_setCell, World.frozen?_setCell]; exact h.f1
  · rw [World.frozen?_setCell, World.frozen?_setCell]; exact h.e0
  · rw [World.frozen?_setCell, World.frozen?_setCell]; exact h.e1
theorem sg_mg (z : Int) : sg (decide (z < 0)) (mg z) = z := by
  unfold sg mg
  by_cases h : z < 0
  · rw [decide_eq_true h, if_pos rfl, if_pos h]; omega
  · rw [decide_eq_false h, if_neg h]; simp
theorem row_lt {base : Nat} {w : World} {a : Option Addr} {c : Nat} {xs : List Int} (h : Own base w a c xs) {q : Nat} (e : rowOf a xs = some q) : q < w.heap.size := by
  unfold rowOf at e
  split at e
  · cases e
  · next hn =>
    obtain ⟨b, off, ha, _⟩ := h.cells hn
    have := h.lt ha hn
    rw [ha] at e
    simp at e
    omega
theorem mg_quot (n : Bool) (x y : Int) (hx : 0 ≤ x) (hy : 0 < y) : mg (sg n (x / y)) ≤ x := by
  rw [mg_sg (Int.ediv_nonneg hx (by omega))]
  exact Int.ediv_le_self _ hx

set_option maxRecDepth 20000 in
set_option maxHeartbeats 16000000 in
theorem specDivMod (g g' : Bool) (a b : Option Addr) (c d : Nat) (xs ys : List Int) (w : World) (h : Sees w a c xs) (k : Sees w b d ys) :
    Calls Try.prog 23 #[.agg #[.bool g, .slice a xs.length c], .agg #[.bool g', .slice b ys.length d]] w fun e w' => ∃ vq vr, e = .returned (.tuple #[vq, vr, .bool (decide (tk g' ys ≠ 0))]) ∧ IsTwo w.heap.size w' vq vr (tk g xs / tk g' ys) (rz (tk g xs) (tk g' ys)) ∧ Below w.heap.size w w' := by
  obtain ⟨tl, tn, t24, _⟩ := tk_facts g xs h.lim
  obtain ⟨sl, sn, s24, _⟩ := tk_facts g' ys k.lim
  go_enter Try.func23, Try.ntmps23
  go_wp2_with fail
  have B0 := below4 w (.cells #[.bool g, .slice a xs.length c] 36) (.cells #[.bool g', .slice b ys.length d] 36) (.cells #[.bool false, .slice none 0 0] 36) (.cells #[.bool false, .slice none 0 0] 36)
  have V := var4 w g g' a b xs.length ys.length c d 36
  have h1 := h.below B0
  have k1 := k.below B0
  have KB : Hid (∀ q off, b = some ⟨q, off, none⟩ → ys ≠ [] → q < w.heap.size) := fun q off e1 e2 => k.lt e1 e2
  clear h k
  generalize ((((w.alloc (.cells #[.bool g, .slice a xs.length c] 36)).alloc (.cells #[.bool g', .slice b ys.length d] 36)).alloc (.cells #[.bool false, .slice none 0 0] 36)).alloc (.cells #[.bool false, .slice none 0 0] 36)) = W at *
  have m1 : (tkL g xs).length ≤ 4611686018427387900 := by omega
  have m2 : (tkL g' ys).length ≤ 4611686018427387900 := by omega
  refine (l1MagC g a c xs _ h1).mono ?_
  rintro e w1 ⟨a1, c1, rfl, s1, hb1⟩
  obtain ⟨x0, x1, y0, y1⟩ := V.below hb1
  go_wp2_with fail
  refine (l1MagC g' b d ys _ (k1.below hb1)).mono ?_
  rintro e w2 ⟨a2, c2, rfl, s2, hb2⟩
  have B2 : Below W.heap.size W w2 := hb1.trans (hb2.mono hb1.size)
  have s1' := s1.below hb2
  have h2 := h1.below B2
  have k2 := k1.below B2
  have BW := B0.trans (B2.mono B0.size)
  have C2 := V.cells4 B2
  clear x0 x1 y0 y1
  obtain ⟨x0, x1, y0, y1⟩ := V.below B2
  have sz := V.size
  have hcw : w.heap.size + 4 ≤ w2.heap.size := by have := B2.size; omega
  clear hb1 hb2 s1 h1 k1 B2 V
  by_cases he : tkL g' ys = []
  · have hz : tk g' ys = 0 := by unfold tk; rw [he]; cases tkG g' ys <;> rfl
    have E : Hid (tk g' ys = 0) := hz
    obtain ⟨_, p0, p1, r0, r1, f0, f1, e0, e1⟩ := C2
    rw [he]
    clear hz he s1' s2 h2 k2 x0 x1 y0 y1
    go_wp2
    refine bodyPost_ret (v := .tuple #[.agg #[.bool false, .slice none 0 0], .agg #[.bool false, .slice none 0 0], .bool false]) (by simp [results, Try.results23, go_sem, p0, p1, r0, r1]) rfl ?_
    refine ⟨_, _, ?_, (IsTwo.zeros _ _).eq ?_ ?_, below_put' (below_put' BW (by omega) _ _) (by omega) _ _⟩
    · rw [E.out]; rfl
    · rw [E.out, Int.ediv_zero]
    · rw [E.out]; rfl
  · have hz : tk g' ys ≠ 0 := by
      have := val_pos sl sn he
      unfold tk sg
      split <;> omega
    have E : Hid (decide (tk g' ys ≠ 0) = true ∧ rz (tk g xs) (tk g' ys) = tk g xs % tk g' ys) := ⟨by simpa using hz, by unfold rz; rw [if_neg hz]⟩
    have hp : (0 : Int) < (tkL g' ys).length := by have := List.length_pos_iff.2 he; omega
    have VP : Hid (0 < val (tkL g' ys)) := val_pos sl sn he
    clear hz
    go_wp2_with fail
    refine (l1DivMagC a1 a2 c1 c2 (tkL g xs) (tkL g' ys) _ s1' s2 (by omega) (by omega) VP.out).mono ?_
    rintro e w3 ⟨rb, qs, rs, rfl, hD, vq, vr, hb3⟩
    have C3 := C2.below hb3
    have B3 := BW.trans (hb3.mono BW.size)
    have h3 := h2.below hb3
    have k3 := k2.below hb3
    have s3 := s2.below hb3
    replace x0 := bat hb3 x0
    replace x1 := bat hb3 x1
    replace y0 := bat hb3 y0
    replace y1 := bat hb3 y1
    have hcw3 : w.heap.size + 4 ≤ w3.heap.size := Nat.le_trans hcw hb3.size
    have HVQ : Hid (val qs = val (tkL g xs) / val (tkL g' ys)) := vq
    have HVR : Hid (val rs = val (tkL g xs) % val (tkL g' ys)) := vr
    have HQ : Hid (∀ W', Below w3.heap.size w3 W' → Calls Try.prog 41 #[.bool (tkG g xs != tkG g' ys), .slice (some ⟨w2.heap.size, 0, none⟩) (tkL g xs).length (tkL g xs).length] W' fun e w' => ∃ v, e = .returned v ∧ IsNum W'.heap.size w' v (sg (tkG g xs != tkG g' ys) (val (tkL g xs) / val (tkL g' ys))) ∧ Below W'.heap.size W' w') := by
      intro W' hW
      have hq := l1NumC (tkG g xs != tkG g' ys) (some ⟨w2.heap.size, 0, none⟩) (tkL g xs).length qs W' (hD.q.toSees.below hW) (by rw [hD.ql]; omega)
      rw [hD.ql, HVQ.out] at hq
      exact hq
    have HR : Hid (∀ W', Below w3.heap.size w3 W' → Calls Try.prog 41 #[.bool false, .slice (some ⟨rb, 0, none⟩) ((tkL g' ys).length + 1) ((tkL g' ys).length + 1)] W' fun e w' => ∃ v, e = .returned v ∧ IsNum W'.heap.size w' v (sg false (val (tkL g xs) % val (tkL g' ys))) ∧ Below W'.heap.size W' w') := by
      intro W' hW
      have hq := l1NumC false (some ⟨rb, 0, none⟩) ((tkL g' ys).length + 1) rs W' (hD.r.toSees.below hW) (by rw [hD.rl]; omega)
      rw [hD.rl, HVR.out] at hq
      exact hq
    obtain ⟨z1, hz1⟩ : ∃ z1, Hid (sg (tkG g xs != tkG g' ys) (val (tkL g xs) / val (tkL g' ys)) = z1) := ⟨_, rfl⟩
    obtain ⟨gz, HG⟩ : ∃ gz, Hid (decide (z1 < 0) = gz) := ⟨_, rfl⟩
    clear vq vr hD hb3 h2 k2 s2 s1' C2 BW
    go_wp2_with fail
    go_cut [11] (fun s11 Wc => ∃ p a3 c3 zs, s11 = .pointer (some ⟨p, 0, none⟩) ∧ Wc.cell? ⟨p, 0, none⟩ = some (.bool gz) ∧ Wc.cell? ⟨p, 1, none⟩ = some (.slice a3 zs.length c3) ∧ Wc.frozen? ⟨p, 0, none⟩ = false ∧ Wc.frozen? ⟨p, 1, none⟩ = false ∧ w3.heap.size ≤ p ∧ Own w3.heap.size Wc a3 c3 zs ∧ Hid (Lim zs ∧ Nrm zs ∧ val zs = mg z1) ∧ Below w3.heap.size w3 Wc)
    case first =>
      go_region_held3 (fun w' => w'.cell? ⟨w.heap.size, 0, none⟩ = some (.bool g) ∧ w'.cell? ⟨w.heap.size, 1, none⟩ = some (.slice a xs.length c) ∧ w'.cell? ⟨w.heap.size + 1, 0, none⟩ = some (.bool g') ∧ w'.cell? ⟨w.heap.size + 1, 1, none⟩ = some (.slice b ys.length d))
        (first | exact ⟨x0, x1, y0, y1⟩ | exact m3 | exact m4 | exact m5 | exact ⟨bat (below1 _ _) x0, bat (below1 _ _) x1, bat (below1 _ _) y0, bat (below1 _ _) y1⟩ | exact ⟨bat (below1 _ _) m3.1, bat (below1 _ _) m3.2.1, bat (below1 _ _) m3.2.2.1, bat (below1 _ _) m3.2.2.2⟩ | exact ⟨bat (below1 _ _) m4.1, bat (below1 _ _) m4.2.1, bat (below1 _ _) m4.2.2.1, bat (below1 _ _) m4.2.2.2⟩ | exact ⟨bat (below1 _ _) m5.1, bat (below1 _ _) m5.2.1, bat (below1 _ _) m5.2.2.1, bat (below1 _ _) m5.2.2.2⟩ | exact ⟨(cell_put (by omega)).trans m5.1, (cell_put (by omega)).trans m5.2.1, (cell_put (by omega)).trans m5.2.2.1, (cell_put (by omega)).trans m5.2.2.2⟩ | (simp [*]))
        (first
        | (go_at_call_of 42 (Value.agg #[Value.bool g, Value.slice a xs.length c]); refine (l1NegC g a c xs _ ?_).mono ?_; (first | exact h3.below (Below.refl _ _).drew | exact h3.below (below1 _ _).drew); rintro e v3 ⟨rfl, hb3⟩; have n3 : Below w3.heap.size w3 v3 := (by first | exact (Below.refl _ _).drew.trans hb3 | exact (below1 _ _).drew.trans (hb3.mono (by simp))); have m3 : v3.cell? ⟨w.heap.size, 0, none⟩ = some (.bool g) ∧ v3.cell? ⟨w.heap.size, 1, none⟩ = some (.slice a xs.length c) ∧ v3.cell? ⟨w.heap.size + 1, 0, none⟩ = some (.bool g') ∧ v3.cell? ⟨w.heap.size + 1, 1, none⟩ = some (.slice b ys.length d) := ⟨bat n3 x0, bat n3 x1, bat n3 y0, bat n3 y1⟩; have z3 : w3.heap.size ≤ v3.heap.size := n3.size; (first | (have hz3 := hb3; rw [World.size_drew, World.size_alloc] at hz3; have z3' := hz3.size; rw [World.size_drew, World.size_alloc] at z3'; obtain ⟨p30, r30⟩ := at_blk hz3 (b := w3.heap.size) (Nat.lt_succ_self _); clear hz3) | skip); clear hb3)
        | (go_at_call_of 42 (Value.agg #[Value.bool g', Value.slice b ys.length d]); refine (l1NegC g' b d ys _ ?_).mono ?_; (first | exact k3.below n3 | exact k3.below (n3.trans ((below1 _ _).mono n3.size))); rintro e v4 ⟨rfl, hb4⟩; have n4 : Below w3.heap.size w3 v4 := (by first | exact n3.trans (hb4.mono n3.size) | exact (n3.trans ((below1 _ _).mono n3.size)).trans (hb4.mono (by have := n3.size; simp; omega))); have m4 : v4.cell? ⟨w.heap.size, 0, none⟩ = some (.bool g) ∧ v4.cell? ⟨w.heap.size, 1, none⟩ = some (.slice a xs.length c) ∧ v4.cell? ⟨w.heap.size + 1, 0, none⟩ = some (.bool g') ∧ v4.cell? ⟨w.heap.size + 1, 1, none⟩ = some (.slice b ys.length d) := ⟨bat n4 x0, bat n4 x1, bat n4 y0, bat n4 y1⟩; have z4 : v3.heap.size ≤ v4.heap.size := Nat.le_trans (by simp) hb4.size; (first | (have hz4 := hb4; rw [World.size_alloc] at hz4; have z4' := hz4.size; rw [World.size_alloc] at z4'; obtain ⟨p41, r41⟩ := at_blk hz4 (b := v3.heap.size) (Nat.lt_succ_self _); clear hz4) | skip); (first | (by_cases hq40 : w3.heap.size < v3.heap.size; rotate_left; (exfalso; omega); obtain ⟨p40, r40⟩ := at_block hb4 (b := w3.heap.size) (Nat.lt_of_lt_of_le hq40 (by simp))) | skip); clear hb4)
        | (go_at_call 41; refine Calls.mono (HQ.out _ ?_) ?_; (first | exact n4 | exact n4.trans ((below1 _ _).mono n4.size)); rintro e v5 ⟨v, rfl, hI, hb5⟩; have n5 : Below w3.heap.size w3 v5 := (by first | exact n4.trans (hb5.mono n4.size) | exact (n4.trans ((below1 _ _).mono n4.size)).trans (hb5.mono (by have := n4.size; simp; omega))); have m5 : v5.cell? ⟨w.heap.size, 0, none⟩ = some (.bool g) ∧ v5.cell? ⟨w.heap.size, 1, none⟩ = some (.slice a xs.length c) ∧ v5.cell? ⟨w.heap.size + 1, 0, none⟩ = some (.bool g') ∧ v5.cell? ⟨w.heap.size + 1, 1, none⟩ = some (.slice b ys.length d) := ⟨bat n5 x0, bat n5 x1, bat n5 y0, bat n5 y1⟩; obtain ⟨a5, c5, zs, rfl, hoz, hnz, hvz⟩ := hI; rw [hz1.out] at hvz; rw [hz1.out, HG.out]; have z5 : v4.heap.size ≤ v5.heap.size := Nat.le_trans (by simp) hb5.size; (first | (have hz5 := hb5; rw [World.size_alloc] at hz5; have z5' := hz5.size; rw [World.size_alloc] at z5'; obtain ⟨p52, r52⟩ := at_blk hz5 (b := v4.heap.size) (Nat.lt_succ_self _); clear hz5) | skip); (first | (by_cases hq50 : w3.heap.size < v4.heap.size; rotate_left; (exfalso; omega); obtain ⟨p50, r50⟩ := at_block hb5 (b := w3.heap.size) (Nat.lt_of_lt_of_le hq50 (by simp))) | skip); (first | (by_cases hq51 : v3.heap.size < v4.heap.size; rotate_left; (exfalso; omega); obtain ⟨p51, r51⟩ := at_block hb5 (b := v3.heap.size) (Nat.lt_of_lt_of_le hq51 (by simp))) | skip); (try simp at hoz); clear hb5))
      all_goals
        have HZ : Hid (Lim zs ∧ Nrm zs ∧ val zs = mg z1) := ⟨hoz.lim, hnz, hvz⟩
        have s5 := n5.size
        go_wp2
        go_meet
        case rel =>
          first
          | exact ⟨_, a5, c5, zs, rfl, (put_cells (by simp [*]) (by simp [*])).1, (put_cells (by simp [*]) (by simp [*])).2, by simp [*], by simp [*], by omega, ((hoz.setCell (by dsimp only; omega) _).setCell (by dsimp only; omega) _).base_le (by omega), HZ, (n5.setCell (by dsimp only; omega) _).setCell (by dsimp only; omega) _⟩
          | exact ⟨_, a5, c5, zs, rfl, (var_new _ _ _ _ _ _).1, (var_new _ _ _ _ _ _).2, by simp [go_sem], by simp [go_sem], by omega, (hoz.below (below1 _ _)).base_le (by omega), HZ, n5.trans ((below1 _ _).mono n5.size)⟩
    case rest =>
      obtain ⟨p, a3, c3, zs, rfl, q0, q1, fq0, fq1, hp3, oq, HV, hbc⟩ := hcut
      have C4 := C3.below hbc
      have B4 := B3.trans (hbc.mono B3.size)
      have h4 := h3.below hbc
      have k4 := k3.below hbc
      have s4 := s3.below hbc
      replace x0 := bat hbc x0
      replace x1 := bat hbc x1
      replace y0 := bat hbc y0
      replace y1 := bat hbc y1
      clear h3 k3 s3 C3 B3 HQ
      go_wp2_with fail
      refine Calls.mono (HR.out _ hbc) ?_
      rintro e w5 ⟨v, rfl, hI, hb5⟩
      obtain ⟨a6, c6, rs6, rfl, orr, nr, vr⟩ := hI
      have r0 := Int.emod_nonneg (val (tkL g xs)) (show val (tkL g' ys) ≠ 0 by have := VP.out; omega)
      have r1 := Int.emod_lt_of_pos (val (tkL g xs)) VP.out
      have vr' : val rs6 = val (tkL g xs) % val (tkL g' ys) := by rw [vr, mg_sg r0]
      have gr : decide (sg false (val (tkL g xs) % val (tkL g' ys)) < 0) = false := by simp only [sg]; simp; omega
      rw [gr]
      have HR6 : Hid (Lim rs6 ∧ Nrm rs6 ∧ val rs6 = val (tkL g xs) % val (tkL g' ys) ∧ val rs6 < val (tkL g' ys)) := ⟨orr.lim, nr, vr', by omega⟩
      have HL6 : Hid (rs6.length ≤ (tkL g' ys).length) := len_le_of_val sl orr.lim nr (by omega)
      have l6 : rs6.length ≤ 4611686018427387900 := by have := HL6.out; omega
      have C5 := C4.below hb5
      have B5 := B4.trans (hb5.mono B4.size)
      have h5 := h4.below hb5
      have k5 := k4.below hb5
      have s5 := s4.below hb5
      have oq5 := oq.below hb5
      replace x0 := bat hb5 x0
      replace x1 := bat hb5 x1
      replace y0 := bat hb5 y0
      replace y1 := bat hb5 y1
      have fq0' := (hb5.frozen (World.block_lt_of_cell? _ _ q0)).trans fq0
      have fq1' := (hb5.frozen (World.block_lt_of_cell? _ _ q1)).trans fq1
      have hpw := World.block_lt_of_cell? _ _ q0
      dsimp only at hpw
      have hpw5 : p < w5.heap.size := Nat.lt_of_lt_of_le hpw hb5.size
      replace q0 := bat hb5 q0
      replace q1 := bat hb5 q1
      have AP : Hid (Apart a3 zs a6 rs6) := fun bb off e1 e2 e3 => row_ne_low orr (oq.lt e1 e2) e3.symm
      have hcw5 : w.heap.size + 4 ≤ wc.heap.size := Nat.le_trans hcw3 hbc.size
      have orr5 : Own w3.heap.size w5 a6 c6 rs6 := orr.base_le hbc.size
      have OQL : Hid (∀ q off, a3 = some ⟨q, off, none⟩ → zs ≠ [] → q < w5.heap.size) := fun q off e1 e2 => oq5.lt e1 e2
      clear HR nr vr vr' gr r0 r1 C4 B4 h4 k4 s4 oq orr fq0 fq1 hb5 hbc
      have hb6 := below1 w5 (.cells #[.bool false, .slice a6 rs6.length c6] 36)
      obtain ⟨t0, t1⟩ := var_new w5 false a6 rs6.length c6 36
      have lx : w.heap.size < w5.heap.size := World.block_lt_of_cell? _ _ x0
      have ly : w.heap.size + 1 < w5.heap.size := World.block_lt_of_cell? _ _ y0
      have C6 := C5.below hb6
      have B6 := B5.trans (hb6.mono B5.size)
      have h6 := h5.below hb6
      have k6 := k5.below hb6
      have s6 := s5.below hb6
      have oq6 := oq5.below hb6
      have or6 := orr5.below hb6
      have x0' := bat hb6 x0
      have x1' := bat hb6 x1
      have y0' := bat hb6 y0
      have y1' := bat hb6 y1
      have q0' := bat hb6 q0
      have q1' := bat hb6 q1
      have fq2 := (hb6.frozen (World.block_lt_of_cell? _ _ q0)).trans fq0'
      have fq3 := (hb6.frozen (World.block_lt_of_cell? _ _ q1)).trans fq1'
      have ft : ∀ o, (w5.alloc (.cells #[.bool false, .slice a6 rs6.length c6] 36)).frozen? ⟨w5.heap.size, o, none⟩ = false := fun o => by simp [go_sem]
      have sz6 : (w5.alloc (.cells #[.bool false, .slice a6 rs6.length c6] 36)).heap.size = w5.heap.size + 1 := World.size_alloc _ _
      go_wp2_with fail
      clear x0 x1 y0 y1 q0 q1 fq0' fq1' C5 B5 h5 k5 s5 oq5 orr5 lx ly hb6
      generalize w5.alloc (.cells #[.bool false, .slice a6 rs6.length c6] 36) = w6 at *
      refine (l1NegC g a c xs _ h6).mono ?_
      rintro e w7 ⟨rfl, hb7⟩
      have C7 := C6.below hb7
      have B7 := B6.trans (hb7.mono B6.size)
      have k7 := k6.below hb7
      have s7 := s6.below hb7
      have oq7 := oq6.below hb7
      have or7 := or6.below hb7
      have y0 := bat hb7 y0'
      have y1 := bat hb7 y1'
      have q0 := bat hb7 q0'
      have q1 := bat hb7 q1'
      have t0' := bat hb7 t0
      have t1' := bat hb7 t1
      have fq4 := (hb7.frozen (World.block_lt_of_cell? _ _ q0')).trans fq2
      have fq5 := (hb7.frozen (World.block_lt_of_cell? _ _ q1')).trans fq3
      have ft0 := (hb7.frozen (World.block_lt_of_cell? _ _ t0)).trans (ft 0)
      have ft1 := (hb7.frozen (World.block_lt_of_cell? _ _ t1)).trans (ft 1)
      have l4 : w.heap.size + 3 < p := by omega
      have l5 : p < w5.heap.size := hpw5
      have sz7 : w5.heap.size < w7.heap.size := by have := hb7.size; omega
      clear x0' x1' y0' y1' q0' q1' t0 t1 fq2 fq3 ft C6 B6 h6 k6 s6 oq6 or6 hb7 sz6
      have NOADJ : (sg (tkG g xs != tkG g' ys) (val (tkL g xs) / val (tkL g' ys)) = tk g xs / tk g' ys ∧ sg false (val rs6) = tk g xs % tk g' ys) → Hid (IsTwo (w.heap.size + 4) w7 (.agg #[.bool gz, .slice a3 zs.length c3]) (.agg #[.bool false, .slice a6 rs6.length c6]) (tk g xs / tk g' ys) (rz (tk g xs) (tk g' ys))) := by
        intro EE
        rw [E.out.2, ← EE.1, ← EE.2, hz1.out]
        have hr0 := val_nonneg HR6.out.1
        exact ⟨a3, c3, zs, a6, c6, rs6, by rw [HG.out], by simp only [sg]; simp; omega, oq7.base_le (by omega), or7.base_le (by omega), HV.out.2.1, HR6.out.2.1, HV.out.2.2, by rw [mg_sg hr0], AP.out⟩
      have NA : Hid ((sg (tkG g xs != tkG g' ys) (val (tkL g xs) / val (tkL g' ys)) = tk g xs / tk g' ys ∧ sg false (val rs6) = tk g xs % tk g' ys) → Hid (IsTwo (w.heap.size + 4) w7 (.agg #[.bool gz, .slice a3 zs.length c3]) (.agg #[.bool false, .slice a6 rs6.length c6]) (tk g xs / tk g' ys) (rz (tk g xs) (tk g' ys)))) := NOADJ
      clear NOADJ
      rcases hgx : tkG g xs with _ | _
      · have HT := NA.out (by rw [HR6.out.2.2.1, hgx, Bool.false_bne]; unfold tk; rw [hgx]; exact div_pos_case (tkG g' ys) VP.out)
        clear NA oq7 or7 k7 s7 y0 y1
        go_wp2_with fail
        obtain ⟨_, p0, p1, r0, r1, f0, f1, e0, e1⟩ := C7
        go_region_with fail
        all_goals
          go_wp2
          refine bodyPost_ret (v := .tuple #[.agg #[.bool gz, .slice a3 zs.length c3], .agg #[.bool false, .slice a6 rs6.length c6], .bool true]) (by simp [results, Try.results23, go_sem, p0, p1, r0, r1]) rfl ?_
          refine ⟨_, _, by rw [E.out.1], ?_, ?_⟩
          · first
            | exact HT.out.put4 _ _ _ _
            | exact (HT.out.below (Below.refl _ _).drew).put4 _ _ _ _
            | exact (HT.out.below (Below.refl _ _).drew.drew).put4 _ _ _ _
          · first
            | exact below_put' (below_put' B7 (by omega) _ _) (by omega) _ _
            | exact below_put' (below_put' B7.drew (by omega) _ _) (by omega) _ _
            | exact below_put' (below_put' B7.drew.drew (by omega) _ _) (by omega) _ _
      · by_cases hr6 : rs6 = []
        · have HT := NA.out (by rw [hr6, hgx, Bool.true_bne]; unfold tk; rw [hgx]; exact div_neg_zero (tkG g' ys) VP.out (by rw [← HR6.out.2.2.1, hr6]; rfl))
          subst hr6
          have hlz : (([] : List Int).length : Int) = 0 := rfl
          clear NA oq7 or7 k7 s7 y0 y1
          go_wp2_with fail
          obtain ⟨_, p0, p1, r0, r1, f0, f1, e0, e1⟩ := C7
          go_region_with fail
          all_goals
            go_wp2
            refine bodyPost_ret (v := .tuple #[.agg #[.bool gz, .slice a3 zs.length c3], .agg #[.bool false, .slice a6 0 c6], .bool true]) (by simp [results, Try.results23, go_sem, p0, p1, r0, r1]) rfl ?_
            refine ⟨_, _, by rw [E.out.1], ?_, ?_⟩
            · first
              | exact HT.out.put4 _ _ _ _
              | exact (HT.out.below (Below.refl _ _).drew).put4 _ _ _ _
              | exact (HT.out.below (Below.refl _ _).drew.drew).put4 _ _ _ _
            · first
              | exact below_put' (below_put' B7 (by omega) _ _) (by omega) _ _
              | exact below_put' (below_put' B7.drew (by omega) _ _) (by omega) _ _
              | exact below_put' (below_put' B7.drew.drew (by omega) _ _) (by omega) _ _
        · have hlp : (0 : Int) < rs6.length := by have := List.length_pos_iff.2 hr6; omega
          have OQB : Hid (∀ q off, a3 = some ⟨q, off, none⟩ → zs ≠ [] → q < w5.heap.size) := OQL
          clear NA
          go_wp2_with fail
          refine (l1SubMagC a2 a6 c2 c6 (tkL g' ys) rs6 _ s7 or7.toSees (by omega) HL6.out (Int.le_of_lt HR6.out.2.2.2)).mono ?_
          rintro e w8 ⟨a8, c8, z8, rfl, o8, v8, l8, hb8⟩
          have V8 : Hid (val z8 = val (tkL g' ys) - val rs6) := v8
          have L8 : Hid (z8.length = (tkL g' ys).length) := l8
          have C8 := C7.below hb8
          have B8 := B7.trans (hb8.mono B7.size)
          have k8 := k7.below hb8
          have oq8 := oq7.below hb8
          replace y0 := bat hb8 y0
          replace y1 := bat hb8 y1
          have fq6 := (hb8.frozen (World.block_lt_of_cell? _ _ q0)).trans fq4
          have fq7 := (hb8.frozen (World.block_lt_of_cell? _ _ q1)).trans fq5
          have ft2 := (hb8.frozen (World.block_lt_of_cell? _ _ t0')).trans ft0
          have ft3 := (hb8.frozen (World.block_lt_of_cell? _ _ t1')).trans ft1
          replace q0 := bat hb8 q0
          replace q1 := bat hb8 q1
          replace t0' := bat hb8 t0'
          replace t1' := bat hb8 t1'
          have sz8 : w5.heap.size < w8.heap.size := Nat.lt_of_lt_of_le sz7 hb8.size
          clear v8 l8 C7 B7 k7 s7 oq7 or7 fq4 fq5 ft0 ft1 hb8
          go_wp2_with fail
          refine (l1NumC false a8 c8 z8 _ o8.toSees (by rw [L8.out]; omega)).mono ?_
          rintro e w9 ⟨v, rfl, hI9, hb9⟩
          obtain ⟨a9, c9, rs9, rfl, o9, n9, v9⟩ := hI9
          have z0 := val_nonneg o8.lim
          have gr : decide (sg false (val z8) < 0) = false := by simp only [sg]; simp; omega
          rw [gr]
          have HR9 : Hid (Nrm rs9 ∧ val rs9 = val (tkL g' ys) - val (tkL g xs) % val (tkL g' ys)) := ⟨n9, by rw [v9, mg_sg z0, V8.out, HR6.out.2.2.1]⟩
          have C9 := (C8.below hb9).putAt (b := w5.heap.size) (by omega) (.bool false) (.slice a9 rs9.length c9)
          have B9 := below_put' (b := w5.heap.size) (B8.trans (hb9.mono B8.size)) (by omega) (.bool false) (.slice a9 rs9.length c9)
          have k9 := ((k8.below hb9).put (B := w5.heap.size) (fun q off e1 e2 => by have := KB.out q off e1 e2; omega) (p := ⟨w5.heap.size, 0, none⟩) (Nat.le_refl _) (.bool false)).put (B := w5.heap.size) (fun q off e1 e2 => by have := KB.out q off e1 e2; omega) (p := ⟨w5.heap.size, 1, none⟩) (Nat.le_refl _) (.slice a9 rs9.length c9)
          have oq9 := ((oq8.below hb9).toSees.put (B := w5.heap.size) OQB.out (p := ⟨w5.heap.size, 0, none⟩) (Nat.le_refl _) (.bool false)).put (B := w5.heap.size) OQB.out (p := ⟨w5.heap.size, 1, none⟩) (Nat.le_refl _) (.slice a9 rs9.length c9)
          have o9' := (o9.setCell (p := ⟨w5.heap.size, 0, none⟩) (by dsimp only; omega) (.bool false)).setCell (p := ⟨w5.heap.size, 1, none⟩) (by dsimp only; omega) (.slice a9 rs9.length c9)
          have t9 := put_cells2 (u0 := .bool false) (u1 := .slice a9 rs9.length c9) (bat hb9 t0') (bat hb9 t1')
          have y2 := (cell_put (w := w9) (b := w5.heap.size) (b' := w.heap.size + 1) (o := 0) (u0 := .bool false) (u1 := .slice a9 rs9.length c9) (by omega)).trans (bat hb9 y0)
          have y3 := (cell_put (w := w9) (b := w5.heap.size) (b' := w.heap.size + 1) (o := 1) (u0 := .bool false) (u1 := .slice a9 rs9.length c9) (by omega)).trans (bat hb9 y1)
          have q2 := (cell_put (w := w9) (b := w5.heap.size) (b' := p) (o := 0) (u0 := .bool false) (u1 := .slice a9 rs9.length c9) (by omega)).trans (bat hb9 q0)
          have q3 := (cell_put (w := w9) (b := w5.heap.size) (b' := p) (o := 1) (u0 := .bool false) (u1 := .slice a9 rs9.length c9) (by omega)).trans (bat hb9 q1)
          have fq8 : ((w9.setCell ⟨w5.heap.size, 0, none⟩ (.bool false)).setCell ⟨w5.heap.size, 1, none⟩ (.slice a9 rs9.length c9)).frozen? ⟨p, 0, none⟩ = false := by rw [World.frozen?_setCell, World.frozen?_setCell]; exact (hb9.frozen (World.block_lt_of_cell? _ _ q0)).trans fq6
          have fq9 : ((w9.setCell ⟨w5.heap.size, 0, none⟩ (.bool false)).setCell ⟨w5.heap.size, 1, none⟩ (.slice a9 rs9.length c9)).frozen? ⟨p, 1, none⟩ = false := by rw [World.frozen?_setCell, World.frozen?_setCell]; exact (hb9.frozen (World.block_lt_of_cell? _ _ q1)).trans fq7
          have g0 := bat hb9 t0'
          have g1 := bat hb9 t1'
          have g2 := bat hb9 y0
          have g3 := bat hb9 y1
          have g4 := (hb9.frozen (World.block_lt_of_cell? _ _ t0')).trans ft2
          have g5 := (hb9.frozen (World.block_lt_of_cell? _ _ t1')).trans ft3
          have sz9 : w8.heap.size ≤ ((w9.setCell ⟨w5.heap.size, 0, none⟩ (.bool false)).setCell ⟨w5.heap.size, 1, none⟩ (.slice a9 rs9.length c9)).heap.size := by rw [World.size_setCell, World.size_setCell]; exact hb9.size
          have ly : w.heap.size + 1 < w5.heap.size := by omega
          clear n9 v9 gr z0 C8 B8 k8 oq8 o9 o8 y0 y1 q0 q1 t0' t1' fq6 fq7 ft2 ft3 hb9
          go_wp2_with fail
          clear g0 g1 g2 g3 g4 g5 ly
          generalize (w9.setCell ⟨w5.heap.size, 0, none⟩ (.bool false)).setCell ⟨w5.heap.size, 1, none⟩ (.slice a9 rs9.length c9) = W9 at *
          refine (l1NegC g' b d ys _ k9).mono ?_
          rintro e w10 ⟨rfl, hb10⟩
          have hbl := below1 w10 (.cells #[.int .u32 1] 80)
          have hbx := hb10.trans (hbl.mono hb10.size)
          have C10 := C9.below hbx
          have B10 := B9.trans (hbx.mono B9.size)
          have oq10 := oq9.below hbx
          have o10 := o9'.below hbx
          have L1 := Own.lit1 w10 80 1 (by decide)
          have t10 := bat hbx t9.1
          have t11 := bat hbx t9.2
          have q4 := bat hb10 q2
          have q5 := bat hb10 q3
          have q6 := bat hbx q2
          have q7 := bat hbx q3
          have fqa := (hbx.frozen (World.block_lt_of_cell? _ _ q2)).trans fq8
          have fqb := (hbx.frozen (World.block_lt_of_cell? _ _ q3)).trans fq9
          have lp10 : p < w10.heap.size := World.block_lt_of_cell? _ _ q4
          have sz10 : w8.heap.size ≤ (w10.alloc (.cells #[.int .u32 1] 80)).heap.size := Nat.le_trans sz9 hbx.size
          have HZL : Hid (zs.length ≤ 25) := by
            have hb := mg_quot (tkG g xs != tkG g' ys) (val (tkL g xs)) (val (tkL g' ys)) (val_nonneg tl) VP.out
            rw [hz1.out, ← HV.out.2.2] at hb
            have := len_le_of_val tl HV.out.1 HV.out.2.1 hb
            show _ ≤ _
            omega
          go_wp2_with fail
          refine (l1AddC gz (!tkG g' ys) a3 (some ⟨w10.heap.size, 0, none⟩) c3 1 zs [1] _ oq10 L1.toSees HV.out.2.1 (by simp [Nrm]) (by have := HZL.out; omega) (by decide)).mono ?_
          rintro e w11 ⟨v, rfl, hI11, hb11⟩
          obtain ⟨a11, c11, zs11, rfl, o11, n11, v11⟩ := hI11
          have EZ : sg gz (val zs) + sg (!tkG g' ys) (val [1]) = tk g xs / tk g' ys ∧ val (tkL g' ys) - val (tkL g xs) % val (tkL g' ys) = tk g xs % tk g' ys := by
            have hne : val (tkL g xs) % val (tkL g' ys) ≠ 0 := by
              rw [← HR6.out.2.2.1]
              have := val_pos HR6.out.1 HR6.out.2.1 hr6
              omega
            have key := div_neg_up (x := val (tkL g xs)) (tkG g' ys) VP.out hne
            have e1 : sg gz (val zs) = z1 := by rw [HV.out.2.2, ← HG.out]; exact sg_mg z1
            refine ⟨?_, by unfold tk; rw [hgx]; exact key.2⟩
            unfold tk
            rw [hgx, ← key.1, e1, ← hz1.out, hgx]
            cases tkG g' ys <;> simp [sg, val] <;> omega
          have HT0 : Hid (Apart a11 zs11 a9 rs9) := fun bb off e1 e2 e3 => by
            have := (o11.new bb off e1 e2).1
            have h9 := row_lt o10 e3
            omega
          have oqF := (o11.setCell (p := ⟨p, 0, none⟩) (by dsimp only; rw [World.size_alloc]; omega) (.bool (decide (sg gz (val zs) + sg (!tkG g' ys) (val [1]) < 0)))).setCell (p := ⟨p, 1, none⟩) (by dsimp only; rw [World.size_alloc]; omega) (.slice a11 zs11.length c11)
          have orF := ((o10.below hb11).setCell (p := ⟨p, 0, none⟩) (by dsimp only; omega) (.bool (decide (sg gz (val zs) + sg (!tkG g' ys) (val [1]) < 0)))).setCell (p := ⟨p, 1, none⟩) (by dsimp only; omega) (.slice a11 zs11.length c11)
          have CF := (C10.below hb11).putAt (b := p) l4 (.bool (decide (sg gz (val zs) + sg (!tkG g' ys) (val [1]) < 0))) (.slice a11 zs11.length c11)
          have BF := below_put' (b := p) (B10.trans (hb11.mono B10.size)) (by omega) (.bool (decide (sg gz (val zs) + sg (!tkG g' ys) (val [1]) < 0))) (.slice a11 zs11.length c11)
          have qF := put_cells2 (u0 := .bool (decide (sg gz (val zs) + sg (!tkG g' ys) (val [1]) < 0))) (u1 := .slice a11 zs11.length c11) (bat hb11 q6) (bat hb11 q7)
          have tF0 := (cell_put (w := w11) (b := p) (b' := w5.heap.size) (o := 0) (u0 := .bool (decide (sg gz (val zs) + sg (!tkG g' ys) (val [1]) < 0))) (u1 := .slice a11 zs11.length c11) (by omega)).trans (bat hb11 t10)
          have tF1 := (cell_put (w := w11) (b := p) (b' := w5.heap.size) (o := 1) (u0 := .bool (decide (sg gz (val zs) + sg (!tkG g' ys) (val [1]) < 0))) (u1 := .slice a11 zs11.length c11) (by omega)).trans (bat hb11 t11)
          have HT : Hid (IsTwo (w.heap.size + 4) ((w11.setCell ⟨p, 0, none⟩ (.bool (decide (sg gz (val zs) + sg (!tkG g' ys) (val [1]) < 0)))).setCell ⟨p, 1, none⟩ (.slice a11 zs11.length c11)) (.agg #[.bool (decide (sg gz (val zs) + sg (!tkG g' ys) (val [1]) < 0)), .slice a11 zs11.length c11]) (.agg #[.bool false, .slice a9 rs9.length c9]) (tk g xs / tk g' ys) (rz (tk g xs) (tk g' ys))) := by
            rw [E.out.2, ← EZ.1, ← EZ.2]
            have hlt := HR6.out.2.2.2
            rw [HR6.out.2.2.1] at hlt
            refine ⟨a11, c11, zs11, a9, c9, rs9, rfl, ?_, oqF.base_le (by rw [World.size_alloc] at *; omega), orF.base_le (by omega), n11, HR9.out.1, v11, ?_, HT0.out⟩
            · have : decide (val (tkL g' ys) - val (tkL g xs) % val (tkL g' ys) < 0) = false := by simp; omega
              rw [this]
            · rw [HR9.out.2]
              unfold mg
              rw [if_neg (by omega)]
          have w0 := bat hb11 q6
          have w1' := bat hb11 q7
          have fw0 := (hb11.frozen (World.block_lt_of_cell? _ _ q6)).trans fqa
          have fw1 := (hb11.frozen (World.block_lt_of_cell? _ _ q7)).trans fqb
          clear EZ HT0 oqF orF n11 v11 o11 o10 oq10 L1 C10 B10 hb11 hbx hbl hb10 t10 t11 q4 q5 q6 q7 fqa fqb q2 q3 fq8 fq9 t9 y2 y3 k9 C9 B9 o9' oq9
          generalize decide (sg gz (val zs) + sg (!tkG g' ys) (val [1]) < 0) = gf at *
          go_wp2_with fail
          obtain ⟨qF0, qF1⟩ := qF
          clear w0 w1' fw0 fw1
          generalize (w11.setCell ⟨p, 0, none⟩ (.bool gf)).setCell ⟨p, 1, none⟩ (.slice a11 zs11.length c11) = WF at *
          obtain ⟨_, p0, p1, r0, r1, f0, f1, e0, e1⟩ := CF
          go_region_with fail
          all_goals
            go_wp2
            refine bodyPost_ret (v := .tuple #[.agg #[.bool gf, .slice a11 zs11.length c11], .agg #[.bool false, .slice a9 rs9.length c9], .bool true]) (by simp [results, Try.results23, go_sem, p0, p1, r0, r1]) rfl ?_
            refine ⟨_, _, by rw [E.out.1], ?_, ?_⟩
            · first
              | exact HT.out.put4 _ _ _ _
              | exact (HT.out.below (Below.refl _ _).drew).put4 _ _ _ _
              | exact (HT.out.below (Below.refl _ _).drew.drew).put4 _ _ _ _
            · first
              | exact below_put' (below_put' BF (by omega) _ _) (by omega) _ _
              | exact below_put' (below_put' BF.drew (by omega) _ _) (by omega) _ _
              | exact below_put' (below_put' BF.drew.drew (by omega) _ _) (by omega) _ _
end Go.Proofs.Ytnefdfgonolafaa
