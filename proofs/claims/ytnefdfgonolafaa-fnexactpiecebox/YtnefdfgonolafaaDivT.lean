/- What both sides' DivMod stand on: variables for two results, and what is put into them. -/
import Derived.Test.YtnefdfgonolafaaDivd
import Derived.Deep.DeepCutAuto
import Derived.Deep.RegionHeld3
namespace Go.Proofs.Ytnefdfgonolafaa
open Go.RowKit

set_option maxHeartbeats 400000 in
theorem takenK (g : Bool) (a : Option Addr) (c : Nat) (xs : List Int) (w : World) (h : Sees w a c xs) :
    Calls Try.prog 47 #[.agg #[.bool g, .slice a xs.length c]] w fun e w' => ∃ a' c', e = .returned (.agg #[.bool (tkG g xs), .slice a' (tkL g xs).length c']) ∧ Sees w' a' c' (tkL g xs) ∧ (tkL g xs ≠ [] → a' = a) ∧ Below w.heap.size w w' := by
  by_cases hk : okB g xs = true
  · have e1 : tkG g xs = g := by unfold tkG; rw [hk]; simp
    have e2 : tkL g xs = xs := by unfold tkL; rw [if_pos hk]
    rw [e1, e2]
    clear e1 e2
    go_enter Try.func47, Try.ntmps47
    go_wp2_with fail
    refine (implOk g a c xs _ (h.below (below2 _ _ _))).mono ?_
    rintro e w1 ⟨rfl, hb⟩
    obtain ⟨q1, q2⟩ := at_block hb (b := w.heap.size) (by simp; omega)
    obtain ⟨q3, q4⟩ := at_block hb (b := w.heap.size + 1) (by simp)
    have hz : w.heap.size + 1 < w1.heap.size := by have := hb.size; simp at this; omega
    have hB := (below2 _ _ _).trans (hb.mono (by simp; omega))
    clear hb
    go_wp2
    have hF := (hB.setCell (p := ⟨w.heap.size + 1, 0, none⟩) (by dsimp only; omega) (.bool g)).setCell (p := ⟨w.heap.size + 1, 1, none⟩) (by dsimp only; omega) (.slice a xs.length c)
    exact bodyPost_ret (v := .agg #[.bool g, .slice a xs.length c]) (by simp [results, Try.results47, go_sem, q3]) rfl ⟨a, c, rfl, h.below hF, fun _ => rfl, hF⟩
  · have hk' : okB g xs = false := by simpa using hk
    have e1 : tkG g xs = false := by unfold tkG; rw [hk']; simp
    have e2 : tkL g xs = [] := by unfold tkL; rw [if_neg hk]
    rw [e1, e2]
    clear e1 e2 hk
    go_enter Try.func47, Try.ntmps47
    go_wp2_with fail
    refine (implOk g a c xs _ (h.below (below2 _ _ _))).mono ?_
    rintro e w1 ⟨rfl, hb⟩
    obtain ⟨q3, q4⟩ := at_block hb (b := w.heap.size + 1) (by simp)
    have hz : w.heap.size + 1 < w1.heap.size := by have := hb.size; simp at this; omega
    have hB := (below2 _ _ _).trans (hb.mono (by simp; omega))
    clear hb
    go_wp2
    exact bodyPost_ret (v := .agg #[.bool false, .slice none 0 0]) (by simp [results, Try.results47, go_sem, q3]) rfl ⟨none, 0, rfl, (Own.nil 0 _).toSees, fun hh => absurd rfl hh, (hB.setCell (by dsimp only; omega) _).setCell (by dsimp only; omega) _⟩
theorem Sees.put {w : World} {a : Option Addr} {c B : Nat} {xs : List Int} (h : Sees w a c xs) (hb : ∀ b off, a = some ⟨b, off, none⟩ → xs ≠ [] → b < B) {p : Addr} (hp : B ≤ p.block) (u : Value) : Sees (w.setCell p u) a c xs :=
  h.kept (grownBy_setCell (grownBy_refl w (some p.block)) rfl u) (fun b off e hne e2 => by have := hb b off e hne; simp at e2; omega)

/-- The rest; 0 where nothing is divided by. -/
def rz (A B : Int) : Int := if B = 0 then 0 else A % B

theorem put_cells2 {w : World} {p : Nat} {u0 u1 x0 x1 : Value} (h0 : w.cell? ⟨p, 0, none⟩ = some x0) (h1 : w.cell? ⟨p, 1, none⟩ = some x1) :
    ((w.setCell ⟨p, 0, none⟩ u0).setCell ⟨p, 1, none⟩ u1).cell? ⟨p, 0, none⟩ = some u0 ∧ ((w.setCell ⟨p, 0, none⟩ u0).setCell ⟨p, 1, none⟩ u1).cell? ⟨p, 1, none⟩ = some u1 := by
  have e : (⟨p, 0, none⟩ : Addr) ≠ ⟨p, 1, none⟩ := by simp
  have e' : (⟨p, 1, none⟩ : Addr) ≠ ⟨p, 0, none⟩ := by simp
  refine ⟨?_, ?_⟩
  · rw [World.cell?_setCell_other _ _ _ _ e', World.cell?_setCell_same _ _ _ h0]
  · exact World.cell?_setCell_same _ _ _ ((World.cell?_setCell_other _ _ _ _ e).trans h1)
/-- The results' variables are still untouched. -/
structure Cells4 (B : Nat) (W W' : World) : Prop where
  size : W.heap.size ≤ W'.heap.size
  p0 : W'.cell? ⟨B + 2, 0, none⟩ = some (.bool false)
  p1 : W'.cell? ⟨B + 2, 1, none⟩ = some (.slice none 0 0)
  r0 : W'.cell? ⟨B + 3, 0, none⟩ = some (.bool false)
  r1 : W'.cell? ⟨B + 3, 1, none⟩ = some (.slice none 0 0)
  f0 : W'.frozen? ⟨B + 2, 0, none⟩ = false
  f1 : W'.frozen? ⟨B + 2, 1, none⟩ = false
  e0 : W'.frozen? ⟨B + 3, 0, none⟩ = false
  e1 : W'.frozen? ⟨B + 3, 1, none⟩ = false
theorem Var4.cells4 {w W W' : World} {g g' : Bool} {a b : Option Addr} {n m c d : Nat} (V : Var4 w W g g' a b n m c d) (hb : Below W.heap.size W W') : Cells4 w.heap.size W W' :=
  ⟨hb.size, bat hb V.p0, bat hb V.p1, bat hb V.r0, bat hb V.r1, (hb.frozen (p := ⟨w.heap.size + 2, 0, none⟩) (by dsimp only; rw [V.size]; omega)).trans V.f0, (hb.frozen (p := ⟨w.heap.size + 2, 1, none⟩) (by dsimp only; rw [V.size]; omega)).trans V.f1,
    (hb.frozen (p := ⟨w.heap.size + 3, 0, none⟩) (by dsimp only; rw [V.size]; omega)).trans V.e0, (hb.frozen (p := ⟨w.heap.size + 3, 1, none⟩) (by dsimp only; rw [V.size]; omega)).trans V.e1⟩
theorem Cells4.below {B : Nat} {W W' W2 : World} (h : Cells4 B W W') (hb : Below W'.heap.size W' W2) : Cells4 B W W2 :=
  ⟨Nat.le_trans h.size hb.size, bat hb h.p0, bat hb h.p1, bat hb h.r0, bat hb h.r1, (hb.frozen (World.block_lt_of_cell? _ _ h.p0)).trans h.f0, (hb.frozen (World.block_lt_of_cell? _ _ h.p1)).trans h.f1,
    (hb.frozen (World.block_lt_of_cell? _ _ h.r0)).trans h.e0, (hb.frozen (World.block_lt_of_cell? _ _ h.r1)).trans h.e1⟩
theorem cells4_put {B : Nat} {W W' : World} (h : Cells4 B W W') (u0 u1 v0 v1 : Value) : Cells4 B W ((((W'.setCell ⟨B, 0, none⟩ u0).setCell ⟨B, 1, none⟩ u1).setCell ⟨B + 1, 0, none⟩ v0).setCell ⟨B + 1, 1, none⟩ v1) := by
  refine ⟨by simpa using h.size, ?_, ?_, ?_, ?_, ?_, ?_, ?_, ?_⟩
  · rw [cell_put (by omega), cell_put (by omega)]; exact h.p0
  · rw [cell_put (by omega), cell_put (by omega)]; exact h.p1
  · rw [cell_put (by omega), cell_put (by omega)]; exact h.r0
  · rw [cell_put (by omega), cell_put (by omega)]; exact h.r1
  · rw [World.frozen?_setCell, World.frozen?_setCell, World.frozen?_setCell, World.frozen?_setCell]; exact h.f0
  · rw [World.frozen?_setCell, World.frozen?_setCell, World.frozen?_setCell, World.frozen?_setCell]; exact h.f1
  · rw [World.frozen?_setCell, World.frozen?_setCell, World.frozen?_setCell, World.frozen?_setCell]; exact h.e0
  · rw [World.frozen?_setCell, World.frozen?_setCell, World.frozen?_setCell, World.frozen?_setCell]; exact h.e1
theorem var_new2 (w : World) (g : Bool) (a : Option Addr) (n c : Nat) (T : TypeId) (o : Obj) :
    ((w.alloc (.cells #[.bool g, .slice a n c] T)).alloc o).cell? ⟨w.heap.size, 0, none⟩ = some (.bool g) ∧ ((w.alloc (.cells #[.bool g, .slice a n c] T)).alloc o).cell? ⟨w.heap.size, 1, none⟩ = some (.slice a n c) := by
  refine ⟨by simp [go_sem], by simp [go_sem]⟩
theorem var_new3 (w : World) (g : Bool) (a : Option Addr) (n c : Nat) (T : TypeId) :
    (w.alloc (.cells #[.bool g, .slice a n c] T)).cell? ⟨w.heap.size, 0, none⟩ = some (.bool g) ∧ (w.alloc (.cells #[.bool g, .slice a n c] T)).cell? ⟨w.heap.size, 1, none⟩ = some (.slice a n c) := by
  refine ⟨by simp [go_sem], by simp [go_sem]⟩
theorem IsTwo.put4 {B : Nat} {W : World} {v u : Value} {z y : Int} (h : IsTwo (B + 4) W v u z y) (x0 x1 y0 y1 : Value) : IsTwo B ((((W.setCell ⟨B + 2, 0, none⟩ x0).setCell ⟨B + 2, 1, none⟩ x1).setCell ⟨B + 3, 0, none⟩ y0).setCell ⟨B + 3, 1, none⟩ y1) v u z y :=
  ((((h.setCell (p := ⟨B + 2, 0, none⟩) (by dsimp only; omega) x0).setCell (p := ⟨B + 2, 1, none⟩) (by dsimp only; omega) x1).setCell (p := ⟨B + 3, 0, none⟩) (by dsimp only; omega) y0).setCell (p := ⟨B + 3, 1, none⟩) (by dsimp only; omega) y1).base_le (by omega)
theorem IsTwo.zeros (base : Nat) (w : World) : IsTwo base w (.agg #[.bool false, .slice none 0 0]) (.agg #[.bool false, .slice none 0 0]) 0 0 :=
  ⟨none, 0, [], none, 0, [], rfl, rfl, Own.nil _ _, Own.nil _ _, trivial, trivial, rfl, rfl, fun _ _ _ hh => absurd rfl hh⟩
end Go.Proofs.Ytnefdfgonolafaa
