import Derived.Test.YtccdihglpobnmaaDoorDivd
import Derived.Deep.DeepCutAuto
import Derived.Deep.RegionHeld3
/- What both sides' DivMod stand on: variables for two results, and what is put into them. -/
namespace Go.Proofs.YtccdihglpobnmaaDoor
open Go.RowKit

set_option maxHeartbeats 400000 in
theorem takenK (g : Bool) (a : Option Addr) (c : Nat) (xs : List Int) (w : World) (h : Sees w a c xs) :
    Calls Tryd.prog 33 #[.agg #[.bool g, .slice a xs.length c]] w fun e w' => ∃ a' c', e = .returned (.agg #[.bool (tkG g xs), .slice a' (tkL g xs).length c']) ∧ Sees w' a' c' (tkL g xs) ∧ (tkL g xs ≠ [] → a' = a) ∧ Below w.heap.size w w' := by
  by_cases hk : okB g xs = true
  · have e1 : tkG g xs = g := by unfold tkG; rw [hk]; simp
    have e2 : tkL g xs = xs := by unfold tkL; rw [if_pos hk]
    rw [e1, e2]
    clear e1 e2
    go_enter Tryd.func33, Tryd.ntmps33
    go_wp2_with fail
    refine (implOk g a c xs _ (h.below (below2 _ _ _))).mono ?_
    rintro e w1 ⟨rfl, hb⟩
    obtain ⟨q1, q2⟩ := at_block hb (b := w.heap.size) (by simp; omega)
    obtain ⟨q3, q4⟩ := at_block hb (b := w.heap.size + 1) (by simp)
    have hz : w.heap.size + 1 < w1.heap.size := by have := hb.size; simp at this; omega
    have hB := (below2 _ _ _).trans (hb.mono (by simp; omega))
    clear hb
    go_wp2
    have hF := (hB.setCell (p := ⟨w.heap.size + 1, 0, none⟩) (by dsimp only; omega) (.bool g)).setCell (p := ⟨w.heap.size + 1, 1, none⟩) (by dsimp only; omega) (.slice a xs.length c)
    exact bodyPost_ret (v := .agg #[.bool g, .slice a xs.length c]) (by simp [results, Tryd.results33, go_sem, q3]) rfl ⟨a, c, rfl, h.below hF, fun _ => rfl, hF⟩
  · have hk' : okB g xs = false := by simpa using hk
    have e1 : tkG g xs = false := by unfold tkG; rw [hk']; simp
    have e2 : tkL g xs = [] := by unfold tkL; rw [if_neg hk]
    rw [e1, e2]
    clear e1 e2 hk
    go_enter Tryd.func33, Tryd.ntmps33
    go_wp2_with fail
    refine (implOk g a c xs _ (h.below (below2 _ _ _))).mono ?_
    rintro e w1 ⟨rfl, hb⟩
    obtain ⟨q3, q4⟩ := at_block hb (b := w.heap.size + 1) (by simp)
    have hz : w.heap.size + 1 < w1.heap.size := by have := hb.size; simp at this; omega
    have hB := (below2 _ _ _).trans (hb.mono (by simp; omega))
    clear hb
    go_wp2
    exact bodyPost_ret (v := .agg #[.bool false, .slice none 0 0]) (by simp [results, Tryd.results33, go_sem, q3]) rfl ⟨none, 0, rfl, (Own.nil 0 _).toSees, fun hh => absurd rfl hh, (hB.setCell (by dsimp only; omega) _).setCell (by dsimp only; omega) _⟩
theorem Sees.put {w : World} {a : Option Addr} {c B : Nat} {xs : List Int} (h : Sees w a c xs) (hb : ∀ b off, a = some ⟨b, off, none⟩ → xs ≠ [] → b < B) {p : Addr} (hp : B ≤ p.block) (u : Value) : Sees (w.setCell p u) a c xs :=
  h.kept (grownBy_setCell (grownBy_refl w (some p.block)) rfl u) (fun b off e hne e2 => by have := hb b off e hne; simp at e2; omega)

/-- The rest; 0 where nothing is divided by. -/
def rz (A B : Int) : Int := if B = 0 then 0 else A % B

theorem put_cells2 {w : World} {p : Nat} {u0 u1 x0 x1 : Value} (h0 : w.cell? ⟨p, 0, none⟩ = some x0) (h1 : w.cell? ⟨p, 1, none⟩ = some x1) :
    ((w.setCell ⟨p, 0, none⟩ u0).setCell ⟨p, 1, none⟩ u1).cell? ⟨p, 0, none⟩ = some u0 ∧ ((w.setCell ⟨p, 0, none⟩ u0).setCell ⟨p, 1, none⟩ u1).cell? ⟨p, 1, none⟩ = some u1 := by
  have e : (⟨p, 0, none⟩ : Addr) ≠ ⟨p, 1, none⟩ := by simp
  have e' : (⟨p, 1, none⟩ : Addr) ≠ ⟨p, 0, none⟩ := by simp
  refine ⟨?_, ?_⟩
  · rw [World.cell?_setCell_other _ _ _ _ e', World.cell?_setCell_same _ _ _ h0]
  · exact World.cell?_setCell_same _ _ _ ((World.cell?_setCell_other _ _ _ _ e).trans h1)
/-- The results' variables are still untouched. -/
structure Cells4 (B : Nat) (W W' : World) : Prop where
  size : W.heap.size ≤ W'.heap.size
  p0 : W'.cell? ⟨B + 2, 0, none⟩ = some (.bool false)
  p1 : W'.cell? ⟨B + 2, 1, none⟩ = some (.slice none 0 0)
  r0 : W'.cell? ⟨B + 3, 0, none⟩ = some (.bool false)
  r1 : W'.cell? ⟨B + 3, 1, none⟩ = some (.slice none 0 0)
  f0 : W'.frozen? ⟨B + 2, 0, none⟩ = false
  f1 : W'.frozen? ⟨B + 2, 1, none⟩ = false
  e0 : W'.frozen? ⟨B + 3, 0, none⟩ = false
  e1 : W'.frozen? ⟨B + 3, 1, none⟩ = false
theorem Var4.cells4 {w W W' : World} {g g' : Bool} {a b : Option Addr} {n m c d : Nat} (V : Var4 w W g g' a b n m c d) (hb : Below W.heap.size W W') : Cells4 w.heap.size W W' :=
  ⟨hb.size, bat hb V.p0, bat hb V.p1, bat hb V.r0, bat hb V.r1, (hb.frozen (p := ⟨w.heap.size + 2, 0, none⟩) (by dsimp only; rw [V.size]; omega)).trans V.f0, (hb.frozen (p := ⟨w.heap.size + 2, 1, none⟩) (by dsimp only; rw [V.size]; omega)).trans V.f1,
    (hb.frozen (p := ⟨w.heap.size + 3, 0, none⟩) (by dsimp only; rw [V.size]; omega)).trans V.e0, (hb.frozen (p := ⟨w.heap.size + 3, 1, none⟩) (by dsimp only; rw [V.size]; omega)).trans V.e1⟩
theorem Cells4.below {B : Nat} {W W' W2 : World} (h : Cells4 B W W') (hb : Below W'.heap.size W' W2) : Cells4 B W W2 :=
  ⟨Nat.le_trans h.size hb.size, bat hb h.p0, bat hb h.p1, bat hb h.r0, bat hb h.r1, (hb.frozen (World.block_lt_of_cell? _ _ h.p0)).trans h.f0, (hb.frozen (World.block_lt_of_cell? _ _ h.p1)).trans h.f1,
    (hb.frozen (World.block_lt_of_cell? _ _ h.r0)).trans h.e0, (hb.frozen (World.block_lt_of_cell? _ _ h.r1)).trans h.e1⟩
theorem cells4_put {B : Nat} {W W' : World} (h : Cells4 B W W') (u0 u1 v0 v1 : Value) : Cells4 B W ((((W'.setCell ⟨B, 0, none⟩ u0).setCell ⟨B, 1, none⟩ u1).setCell ⟨B + 1, 0, none⟩ v0).setCell ⟨B + 1, 1, none⟩ v1) := by
  refine ⟨by simpa using h.size, ?_, ?_, ?_, ?_, ?_, ?_, ?_, ?_⟩
  · rw [cell_put (by omega), cell_put (by omega)]; exact h.p0
  · rw [cell_put (by omega), cell_put (by omega)]; exact h.p1
  · rw [cell_put (by omega), cell_put (by omega)]; exact h.r0
  · rw [cell_put (by omega), cell_put (by omega)]; exact h.r1
  · rw [World.frozen?_setCell, World.frozen?_setCell, World.frozen?_setCell, World.frozen?_setCell]; exact h.f0
  · rw [World.frozen?_setCell, World.frozen?_setCell, World.frozen?_setCell, World.frozen?_setCell]; exact h.f1
  · rw [World.frozen?_setCell, World.frozen?_setCell, World.frozen?_setCell, World.frozen?_setCell]; exact h.e0
  · rw [World.frozen?_setCell, World.frozen?_setCell, World.frozen?_setCell, World.frozen?_setCell]; exact h.e1
theorem var_new2 (w : World) (g : Bool) (a : Option Addr) (n c : Nat) (T : TypeId) (o : Obj) :
    ((w.alloc (.cells #[.bool g, .slice a n c] T)).alloc o).cell? ⟨w.heap.size, 0, none⟩ = some (.bool g) ∧ ((w.alloc (.cells #[.bool g, .slice a n c] T)).alloc o).cell? ⟨w.heap.size, 1, none⟩ = some (.slice a n c) := by
  refine ⟨by simp [go_sem], by simp [go_sem]⟩
theorem var_new3 (w : World) (g : Bool) (a : Option Addr) (n c : Nat) (T : TypeId) :
    (w.alloc (.cells #[.bool g, .slice a n c] T)).cell? ⟨w.heap.size, 0, none⟩ = some (.bool g) ∧ (w.alloc (.cells #[.bool g, .slice a n c] T)).cell? ⟨w.heap.size, 1, none⟩ = some (.slice a n c) := by
  refine ⟨by simp [go_sem], by simp [go_sem]⟩
theorem IsTwo.put4 {B : Nat} {W : World} {v u : Value} {z y : Int} (h : IsTwo (B + 4) W v u z y) (x0 x1 y0 y1 : Value) : IsTwo B ((((W.setCell ⟨B + 2, 0, none⟩ x0).setCell ⟨B + 2, 1, none⟩ x1).setCell ⟨B + 3, 0, none⟩ y0).setCell ⟨B + 3, 1, none⟩ y1) v u z y :=
  ((((h.setCell (p := ⟨B + 2, 0, none⟩) (by dsimp only; omega) x0).setCell (p := ⟨B + 2, 1, none⟩) (by dsimp only; omega) x1).setCell (p := ⟨B + 3, 0, none⟩) (by dsimp only; omega) y0).setCell (p := ⟨B + 3, 1, none⟩) (by dsimp only; omega) y1).base_le (by omega)
theorem IsTwo.zeros (base : Nat) (w : World) : IsTwo base w (.agg #[.bool false, .slice none 0 0]) (.agg #[.bool false, .slice none 0 0]) 0 0 :=
  ⟨none, 0, [], none, 0, [], rfl, rfl, Own.nil _ _, Own.nil _ _, trivial, trivial, rfl, rfl, fun _ _ _ hh => absurd rfl hh⟩
end Go.Proofs.YtccdihglpobnmaaDoor

/- The program's DivMod. -/
namespace Go.Proofs.YtccdihglpobnmaaDoor
open Go.RowKit

set_option maxRecDepth 20000 in
set_option maxHeartbeats 1000000 in
theorem implDivMod (g g' : Bool) (a b : Option Addr) (c d : Nat) (xs ys : List Int) (w : World) (h : Sees w a c xs) (k : Sees w b d ys) :
    Calls Tryd.prog 17 #[.agg #[.bool g, .slice a xs.length c], .agg #[.bool g', .slice b ys.length d]] w fun e w' => ∃ vq vr, e = .returned (.tuple #[vq, vr, .bool (decide (tk g' ys ≠ 0))]) ∧ IsTwo w.heap.size w' vq vr (tk g xs / tk g' ys) (rz (tk g xs) (tk g' ys)) ∧ Below w.heap.size w w' := by
  obtain ⟨tl, tn, t24, _⟩ := tk_facts g xs h.lim
  obtain ⟨sl, sn, s24, _⟩ := tk_facts g' ys k.lim
  go_enter Tryd.func17, Tryd.ntmps17
  go_wp2_with fail
  have B0 := below4 w (.cells #[.bool g, .slice a xs.length c] 26) (.cells #[.bool g', .slice b ys.length d] 26) (.cells #[.bool false, .slice none 0 0] 26) (.cells #[.bool false, .slice none 0 0] 26)
  have V := var4 w g g' a b xs.length ys.length c d 26
  have h1 := h.below B0
  have k1 := k.below B0
  have LA : Hid (∀ q off, a = some ⟨q, off, none⟩ → tkL g xs ≠ [] → q < w.heap.size) := fun q off e1 e2 => h.lt e1 (by rintro rfl; exact e2 (by unfold tkL; split <;> rfl))
  have LB : Hid (∀ q off, b = some ⟨q, off, none⟩ → tkL g' ys ≠ [] → q < w.heap.size) := fun q off e1 e2 => k.lt e1 (by rintro rfl; exact e2 (by unfold tkL; split <;> rfl))
  clear h k
  generalize ((((w.alloc (.cells #[.bool g, .slice a xs.length c] 26)).alloc (.cells #[.bool g', .slice b ys.length d] 26)).alloc (.cells #[.bool false, .slice none 0 0] 26)).alloc (.cells #[.bool false, .slice none 0 0] 26)) = W at *
  go_cut [] (fun Wc => ∃ a1 c1 a2 c2, Wc.cell? ⟨w.heap.size, 0, none⟩ = some (.bool (tkG g xs)) ∧ Wc.cell? ⟨w.heap.size, 1, none⟩ = some (.slice a1 (tkL g xs).length c1) ∧ Wc.cell? ⟨w.heap.size + 1, 0, none⟩ = some (.bool (tkG g' ys)) ∧ Wc.cell? ⟨w.heap.size + 1, 1, none⟩ = some (.slice a2 (tkL g' ys).length c2) ∧ Sees Wc a1 c1 (tkL g xs) ∧ Sees Wc a2 c2 (tkL g' ys) ∧ Below w.heap.size W Wc ∧ Cells4 w.heap.size W Wc)
  case first =>
    have x0 := V.x0
    have x1 := V.x1
    have y0 := V.y0
    have y1 := V.y1
    have sz := V.size
    go_region_with (first
      | (go_at_call_of 33 (Value.agg #[Value.bool g, Value.slice a xs.length c]); refine (takenK g a c xs _ ?_).mono ?_; (first | exact h1 | exact h1.below (Below.refl _ _).drew | exact h1.below (Below.refl _ _).drew.drew); rintro e w1 ⟨a1, c1, rfl, s1, ea1, hb1⟩; have B1 : Below W.heap.size W w1 := (by first | exact hb1 | exact (Below.refl _ _).drew.trans hb1 | exact (Below.refl _ _).drew.drew.trans hb1); have x0' := bat B1 x0; have x1' := bat B1 x1; have y0' := bat B1 y0; have y1' := bat B1 y1; clear hb1 x0 x1)
      | (go_at_call_of 33 (Value.agg #[Value.bool g', Value.slice b ys.length d]); refine (takenK g' b d ys _ ?_).mono ?_; (first | exact k1.below B1 | exact k1.below B1.drew | exact k1.below B1.drew.drew); rintro e w2 ⟨a2, c2, rfl, s2, ea2, hb2⟩; have s1' : Sees w2 a1 c1 (tkL g xs) := (by first | exact s1.below hb2 | exact s1.below ((Below.refl _ _).drew.trans hb2) | exact s1.below ((Below.refl _ _).drew.drew.trans hb2)); have B2 : Below W.heap.size W w2 := (by first | exact B1.trans (hb2.mono B1.size) | exact B1.drew.trans (hb2.mono B1.size) | exact B1.drew.drew.trans (hb2.mono B1.size)); have x0'' := bat B2 V.x0; have x1'' := bat B2 V.x1; have y0'' := bat B2 V.y0; have y1'' := bat B2 V.y1; have f0 := (B2.frozen (p := ⟨w.heap.size, 0, none⟩) (by dsimp only; omega)).trans V.s0; have f1 := (B2.frozen (p := ⟨w.heap.size, 1, none⟩) (by dsimp only; omega)).trans V.s1; have f2 := (B2.frozen (p := ⟨w.heap.size + 1, 0, none⟩) (by dsimp only; omega)).trans V.t0; have f3 := (B2.frozen (p := ⟨w.heap.size + 1, 1, none⟩) (by dsimp only; omega)).trans V.t1; clear hb2 x0' x1' y0' y1'))
    all_goals
      have S1 := (((s1'.put (B := w.heap.size) (fun q off e1 e2 => LA.out q off (by rw [← ea1 e2]; exact e1) e2) (p := ⟨w.heap.size, 0, none⟩) (Nat.le_refl _) (.bool (tkG g xs))).put (B := w.heap.size) (fun q off e1 e2 => LA.out q off (by rw [← ea1 e2]; exact e1) e2) (p := ⟨w.heap.size, 1, none⟩) (Nat.le_refl _) (.slice a1 (tkL g xs).length c1)).put (B := w.heap.size) (fun q off e1 e2 => LA.out q off (by rw [← ea1 e2]; exact e1) e2) (p := ⟨w.heap.size + 1, 0, none⟩) (Nat.le_succ _) (.bool (tkG g' ys))).put (B := w.heap.size) (fun q off e1 e2 => LA.out q off (by rw [← ea1 e2]; exact e1) e2) (p := ⟨w.heap.size + 1, 1, none⟩) (Nat.le_succ _) (.slice a2 (tkL g' ys).length c2)
      have S2 := (((s2.put (B := w.heap.size) (fun q off e1 e2 => LB.out q off (by rw [← ea2 e2]; exact e1) e2) (p := ⟨w.heap.size, 0, none⟩) (Nat.le_refl _) (.bool (tkG g xs))).put (B := w.heap.size) (fun q off e1 e2 => LB.out q off (by rw [← ea2 e2]; exact e1) e2) (p := ⟨w.heap.size, 1, none⟩) (Nat.le_refl _) (.slice a1 (tkL g xs).length c1)).put (B := w.heap.size) (fun q off e1 e2 => LB.out q off (by rw [← ea2 e2]; exact e1) e2) (p := ⟨w.heap.size + 1, 0, none⟩) (Nat.le_succ _) (.bool (tkG g' ys))).put (B := w.heap.size) (fun q off e1 e2 => LB.out q off (by rw [← ea2 e2]; exact e1) e2) (p := ⟨w.heap.size + 1, 1, none⟩) (Nat.le_succ _) (.slice a2 (tkL g' ys).length c2)
      have P1 := put_cells2 (u0 := .bool (tkG g xs)) (u1 := .slice a1 (tkL g xs).length c1) x0'' x1''
      have P2 := put_cells2 (w := (w2.setCell ⟨w.heap.size, 0, none⟩ (.bool (tkG g xs))).setCell ⟨w.heap.size, 1, none⟩ (.slice a1 (tkL g xs).length c1)) (u0 := .bool (tkG g' ys)) (u1 := .slice a2 (tkL g' ys).length c2) ((cell_put (by omega)).trans y0'') ((cell_put (by omega)).trans y1'')
      have BZ : Below w.heap.size W _ := below_put' (below_put' (b := w.heap.size) (B2.mono (show w.heap.size ≤ W.heap.size by omega)) (Nat.le_refl _) (.bool (tkG g xs)) (.slice a1 (tkL g xs).length c1)) (Nat.le_succ _) (.bool (tkG g' ys)) (.slice a2 (tkL g' ys).length c2)
      have CZ : Cells4 w.heap.size W _ := cells4_put (V.cells4 B2) (.bool (tkG g xs)) (.slice a1 (tkL g xs).length c1) (.bool (tkG g' ys)) (.slice a2 (tkL g' ys).length c2)
      go_wp2_with fail
      go_meet
      case rel => exact ⟨a1, c1, a2, c2, (cell_put (by omega)).trans P1.1, (cell_put (by omega)).trans P1.2, P2.1, P2.2, S1, S2, BZ, CZ⟩
  case rest =>
    obtain ⟨a1, c1, a2, c2, x0, x1, y0, y1, S1, S2, BZ, CZ⟩ := hcut
    have m1 : (tkL g xs).length ≤ 4611686018427387900 := by omega
    have m2 : (tkL g' ys).length ≤ 4611686018427387900 := by omega
    have sz := V.size
    clear h1 k1 V LA LB
    have BW := B0.trans BZ
    have hcw : w.heap.size + 4 ≤ wc.heap.size := by have := CZ.size; omega
    by_cases he : tkL g' ys = []
    · have hz : tk g' ys = 0 := by unfold tk; rw [he]; cases tkG g' ys <;> rfl
      have E : Hid (tk g' ys = 0) := hz
      rw [he] at y1
      obtain ⟨_, p0, p1, r0, r1, f0, f1, e0, e1⟩ := CZ
      clear hz he S1 S2 x0 x1
      go_wp2
      refine bodyPost_ret (v := .tuple #[.agg #[.bool false, .slice none 0 0], .agg #[.bool false, .slice none 0 0], .bool false]) (by simp [results, Tryd.results17, go_sem, p0, p1, r0, r1]) rfl ?_
      refine ⟨_, _, ?_, (IsTwo.zeros _ _).eq ?_ ?_, below_put' (below_put' BW (by omega) _ _) (by omega) _ _⟩
      · rw [E.out]; rfl
      · rw [E.out, Int.ediv_zero]
      · rw [E.out]; rfl
    · have hz : tk g' ys ≠ 0 := by
        have := val_pos sl sn he
        unfold tk sg
        split <;> omega
      have E : Hid (decide (tk g' ys ≠ 0) = true ∧ rz (tk g xs) (tk g' ys) = tk g xs % tk g' ys) := ⟨by simpa using hz, by unfold rz; rw [if_neg hz]⟩
      have hp : (0 : Int) < (tkL g' ys).length := by have := List.length_pos_iff.2 he; omega
      clear hz
      go_wp2_with fail
      refine (dividedC (tkG g xs) (tkG g' ys) a1 a2 c1 c2 (tkL g xs) (tkL g' ys) _ S1 S2 tn sn he (by omega) (by omega)).mono ?_
      rintro e w3 ⟨vq, vr, rfl, hT, hb3⟩
      have C3 := CZ.below hb3
      have B3 := BW.trans (hb3.mono BW.size)
      obtain ⟨a5, c5, qs, a6, c6, rs, rfl, rfl, oq, orr, n5, n6, v5, v6, ap⟩ := hT
      have HV : Hid (Nrm qs ∧ Nrm rs ∧ val qs = mg (sg (tkG g xs) (val (tkL g xs)) / sg (tkG g' ys) (val (tkL g' ys))) ∧ val rs = mg (sg (tkG g xs) (val (tkL g xs)) % sg (tkG g' ys) (val (tkL g' ys))) ∧ Apart a5 qs a6 rs) := ⟨n5, n6, v5, v6, ap⟩
      clear n5 n6 v5 v6 ap
      generalize hd1 : decide (sg (tkG g xs) (val (tkL g xs)) / sg (tkG g' ys) (val (tkL g' ys)) < 0) = d1 at *
      generalize hd2 : decide (sg (tkG g xs) (val (tkL g xs)) % sg (tkG g' ys) (val (tkL g' ys)) < 0) = d2 at *
      have l3 := World.block_lt_of_cell? _ _ C3.r0
      dsimp only at l3
      go_wp2
      obtain ⟨vx0, vx1⟩ := var_new2 w3 d1 a5 qs.length c5 26 (.cells #[.bool d2, .slice a6 rs.length c6] 26)
      obtain ⟨vy0, vy1⟩ := var_new3 (w3.alloc (.cells #[.bool d1, .slice a5 qs.length c5] 26)) d2 a6 rs.length c6 26
      have hb4 := below2 w3 (.cells #[.bool d1, .slice a5 qs.length c5] 26) (.cells #[.bool d2, .slice a6 rs.length c6] 26)
      rw [World.size_alloc] at vy0 vy1
      obtain ⟨_, p0, p1, r0, r1, f0, f1, e0, e1⟩ := C3.below hb4
      have oq4 := oq.below hb4
      have or4 := orr.below hb4
      have B4 := B3.trans (hb4.mono B3.size)
      clear hb4 C3 CZ oq orr B3 BW BZ S1 S2 x0 x1 y0 y1 hb3
      generalize (w3.alloc (.cells #[.bool d1, .slice a5 qs.length c5] 26)).alloc (.cells #[.bool d2, .slice a6 rs.length c6] 26) = W4 at *
      have HT : Hid (IsTwo (w.heap.size + 4) W4 (.agg #[.bool d1, .slice a5 qs.length c5]) (.agg #[.bool d2, .slice a6 rs.length c6]) (tk g xs / tk g' ys) (rz (tk g xs) (tk g' ys))) := by
        rw [E.out.2]
        exact ⟨a5, c5, qs, a6, c6, rs, by rw [← hd1]; rfl, by rw [← hd2]; rfl, oq4.base_le hcw, or4.base_le hcw, HV.out.1, HV.out.2.1, HV.out.2.2.1, HV.out.2.2.2.1, HV.out.2.2.2.2⟩
      clear oq4 or4 HV hd1 hd2
      go_region_with fail
      all_goals
        go_wp2
        refine bodyPost_ret (v := .tuple #[.agg #[.bool d1, .slice a5 qs.length c5], .agg #[.bool d2, .slice a6 rs.length c6], .bool true]) (by simp [results, Tryd.results17, go_sem, p0, p1, r0, r1]) rfl ?_
        refine ⟨_, _, by rw [E.out.1], ?_, ?_⟩
        · first
          | exact HT.out.put4 _ _ _ _
          | exact (HT.out.below (Below.refl _ _).drew).put4 _ _ _ _
          | exact (HT.out.below (Below.refl _ _).drew.drew).put4 _ _ _ _
        · first
          | exact below_put' (below_put' B4 (by omega) _ _) (by omega) _ _
          | exact below_put' (below_put' B4.drew (by omega) _ _) (by omega) _ _
          | exact below_put' (below_put' B4.drew.drew (by omega) _ _) (by omega) _ _
end Go.Proofs.YtccdihglpobnmaaDoor
