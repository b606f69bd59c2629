/- How great answers can be. -/
import Derived.Test.YtnefdfgonolafaaTaken
import Derived.Test.YtnefdfgonolafaaArith
namespace Go.Proofs.Ytnefdfgonolafaa
open Go.RowKit

theorem var_new (w : World) (g : Bool) (a : Option Addr) (n c : Nat) (T : TypeId) :
    (w.alloc (.cells #[.bool g, .slice a n c] T)).cell? ⟨w.heap.size, 0, none⟩ = some (.bool g) ∧ (w.alloc (.cells #[.bool g, .slice a n c] T)).cell? ⟨w.heap.size, 1, none⟩ = some (.slice a n c) :=
  ⟨cell_new w #[.bool g, .slice a n c] T 0 rfl, cell_new w #[.bool g, .slice a n c] T 1 rfl⟩

theorem tkL_lt (g : Bool) (xs : List Int) (hl : Lim xs) : val (tkL g xs) < 4294967296 ^ 24 ∧ 0 ≤ val (tkL g xs) := by
  obtain ⟨tl, _, t24, _⟩ := tk_facts g xs hl
  have h1 := val_lt tl
  have h2 := p_mono (tkL g xs).length (24 - (tkL g xs).length)
  rw [show (tkL g xs).length + (24 - (tkL g xs).length) = 24 by omega] at h2
  exact ⟨by omega, val_nonneg tl⟩
theorem tk_bounds (g : Bool) (xs : List Int) (hl : Lim xs) : - 4294967296 ^ 24 < tk g xs ∧ tk g xs < 4294967296 ^ 24 := by
  obtain ⟨h1, h2⟩ := tkL_lt g xs hl
  unfold tk sg
  have h3 := p_pos 24
  generalize (4294967296 : Int) ^ 24 = P at *
  split <;> omega
theorem neg_bound (g : Bool) (xs : List Int) (hl : Lim xs) : mg (-tk g xs) < 4294967296 ^ 24 := by
  obtain ⟨h1, h2⟩ := tk_bounds g xs hl
  unfold mg
  generalize (4294967296 : Int) ^ 24 = P at *
  split <;> omega
theorem add_bound (g g' : Bool) (xs ys : List Int) (hl : Lim xs) (kl : Lim ys) : mg (tk g xs + tk g' ys) < 4294967296 ^ 25 := by
  obtain ⟨h1, h2⟩ := tk_bounds g xs hl
  obtain ⟨h3, h4⟩ := tk_bounds g' ys kl
  unfold mg
  rw [show (4294967296 : Int) ^ 25 = 4294967296 ^ 24 * 4294967296 from Int.pow_succ _ _]
  have h5 := p_pos 24
  generalize (4294967296 : Int) ^ 24 = P at *
  split <;> omega
theorem sub_bound (g g' : Bool) (xs ys : List Int) (hl : Lim xs) (kl : Lim ys) : mg (tk g xs - tk g' ys) < 4294967296 ^ 25 := by
  obtain ⟨h1, h2⟩ := tk_bounds g xs hl
  obtain ⟨h3, h4⟩ := tk_bounds g' ys kl
  unfold mg
  rw [show (4294967296 : Int) ^ 25 = 4294967296 ^ 24 * 4294967296 from Int.pow_succ _ _]
  have h5 := p_pos 24
  generalize (4294967296 : Int) ^ 24 = P at *
  split <;> omega

theorem mul_bound (g g' : Bool) (xs ys : List Int) (hl : Lim xs) (kl : Lim ys) : mg (tk g xs * tk g' ys) < 4294967296 ^ 48 := by
  obtain ⟨h1, h2⟩ := tkL_lt g xs hl
  obtain ⟨h3, h4⟩ := tkL_lt g' ys kl
  have e : mg (tk g xs * tk g' ys) = val (tkL g xs) * val (tkL g' ys) := by
    have h0 := Int.mul_nonneg h2 h4
    unfold tk sg mg
    generalize hp : val (tkL g xs) * val (tkL g' ys) = p at *
    cases tkG g xs <;> cases tkG g' ys <;> simp [hp, Int.mul_neg, Int.neg_mul] <;> omega
  rw [e, show (4294967296 : Int) ^ 48 = 4294967296 ^ 24 * 4294967296 ^ 24 from Int.pow_add _ 24 24]
  have h5 := p_pos 24
  generalize (4294967296 : Int) ^ 24 = P at *
  exact Int.lt_of_le_of_lt (Int.mul_le_mul_of_nonneg_left (Int.le_of_lt h3) h2) (Int.mul_lt_mul_of_pos_right h1 h5)

/-- What is put into a variable is there. -/
theorem put_cells {w : World} {p : Nat} {u0 u1 : Value} (h0 : (w.cell? ⟨p, 0, none⟩).isSome = true) (h1 : (w.cell? ⟨p, 1, none⟩).isSome = true) :
    ((w.setCell ⟨p, 0, none⟩ u0).setCell ⟨p, 1, none⟩ u1).cell? ⟨p, 0, none⟩ = some u0 ∧ ((w.setCell ⟨p, 0, none⟩ u0).setCell ⟨p, 1, none⟩ u1).cell? ⟨p, 1, none⟩ = some u1 := by
  have e : (⟨p, 0, none⟩ : Addr) ≠ ⟨p, 1, none⟩ := by simp
  have e' : (⟨p, 1, none⟩ : Addr) ≠ ⟨p, 0, none⟩ := by simp
  obtain ⟨x0, hx0⟩ := Option.isSome_iff_exists.1 h0
  obtain ⟨x1, hx1⟩ := Option.isSome_iff_exists.1 h1
  refine ⟨?_, ?_⟩
  · rw [World.cell?_setCell_other _ _ _ _ e', World.cell?_setCell_same _ _ _ hx0]
  · exact World.cell?_setCell_same _ _ _ ((World.cell?_setCell_other _ _ _ _ e).trans hx1)
theorem at_blk {B : Nat} {W w1 : World} (hb : Below B W w1) {b : Nat} (h : b < B) : (∀ o, w1.cell? ⟨b, o, none⟩ = W.cell? ⟨b, o, none⟩) ∧ (∀ o, w1.frozen? ⟨b, o, none⟩ = W.frozen? ⟨b, o, none⟩) :=
  ⟨fun o => hb.cell (p := ⟨b, o, none⟩) h, fun o => hb.frozen (p := ⟨b, o, none⟩) h⟩
end Go.Proofs.Ytnefdfgonolafaa
