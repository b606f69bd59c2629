/- Lists of boxes: whether two are equal, their marks. -/
import Derived.Test.YthompofbdjdloaaGreatBxsL
import Derived.Test.YthompofbdjdloaaGreatOwns
namespace Go.Proofs.YthompofbdjdloaaGreat
open Go.RowKit

set_option maxRecDepth 20000 in
set_option maxHeartbeats 1000000 in
theorem eqBoxs (a b : Option Addr) (c d : Nat) (bs : List Bx) (w : World) (h : SeesX w a c bs) (k : SeesX w b d bs) :
    Calls Tryz.prog 13 #[.slice a bs.length c, .slice b bs.length d] w fun e w' => e = .returned (.bool true) ∧ Below w.heap.size w w' := by
  have hm := h.max
  have hf := h.fits
  unfold maxLen at hm
  have hne : ((bs.length : Int) != (bs.length : Int)) = false := by simp
  go_enter Tryz.func13, Tryz.ntmps13
  go_wp2
  go_loopw [5] (fun i wr => ∃ j : Nat, j ≤ bs.length ∧ i = .int .i64 j ∧ Below w.heap.size w wr) (fun i _ => bs.length - (intOf i).toNat)
  case atStart => exact ⟨0, Nat.zero_le _, rfl, Below.refl _ _⟩
  case round =>
    obtain ⟨j, hj, rfl, B⟩ := hrel
    rename World => wr
    by_cases hlt : j < bs.length
    · obtain ⟨b1, o1, rfl, hc⟩ := (h.below B).cells (by intro e; simp [e] at hlt)
      obtain ⟨b2, o2, rfl, hd⟩ := (k.below B).cells (by intro e; simp [e] at hlt)
      obtain ⟨g1, g2, g3, g4⟩ := hc j hlt
      obtain ⟨e1, e2, e3, e4⟩ := hd j hlt
      generalize bxAt bs j = x at *
      obtain ⟨x1, x2, x3, x4⟩ := x
      dsimp only at g1 g2 g3 g4 e1 e2 e3 e4
      clear hc hd
      go_wp2_with fail
      have k0 : Four wr b1 (o1 + j * 4) (x1, x2, x3, x4) ∧ Four wr b2 (o2 + j * 4) (x1, x2, x3, x4) := ⟨⟨g1, g2, g3, g4⟩, ⟨e1, e2, e3, e4⟩⟩
      have B1 : Below wr.heap.size wr wr := Below.refl _ _
      go_region_held3 (fun w' => w'.cell? ⟨b1, o1 + j * 4, none⟩ = some (.int .i64 x1) ∧ w'.cell? ⟨b1, o1 + j * 4 + 1, none⟩ = some (.int .i64 x2) ∧ w'.cell? ⟨b1, o1 + j * 4 + 2, none⟩ = some (.int .i64 x3) ∧ w'.cell? ⟨b1, o1 + j * 4 + 3, none⟩ = some (.int .i64 x4) ∧ w'.cell? ⟨b2, o2 + j * 4, none⟩ = some (.int .i64 x1) ∧ w'.cell? ⟨b2, o2 + j * 4 + 1, none⟩ = some (.int .i64 x2) ∧ w'.cell? ⟨b2, o2 + j * 4 + 2, none⟩ = some (.int .i64 x3) ∧ w'.cell? ⟨b2, o2 + j * 4 + 3, none⟩ = some (.int .i64 x4))
        (first | exact ⟨k0.1.1, k0.1.2.1, k0.1.2.2.1, k0.1.2.2.2, k0.2.1, k0.2.2.1, k0.2.2.2.1, k0.2.2.2.2⟩ | exact ⟨bat B1 k0.1.1, bat B1 k0.1.2.1, bat B1 k0.1.2.2.1, bat B1 k0.1.2.2.2, bat B1 k0.2.1, bat B1 k0.2.2.1, bat B1 k0.2.2.2.1, bat B1 k0.2.2.2.2⟩)
        ((go_at_call 36; refine (eqBox_any _ _ _ _ _ _ _ _ _).mono ?_; rintro e w5 ⟨rfl, hb⟩; rw [eqX_refl]; replace B1 := B1.drew.trans (hb.mono B1.drew.size)))
      replace B := B.trans (B1.mono B.size)
      go_wp2_with fail
      go_roundw
      case rel => exact ⟨j + 1, by omega, by go_num, B⟩
      case measure => simp [intOf]; omega
    · go_wp2
      go_ret
      exact ⟨rfl, B⟩

set_option maxRecDepth 20000 in
set_option maxHeartbeats 1000000 in
theorem markBoxs (g n : Nat) (bs : List Bx) (w : World) (h : RowX w g n n bs) (hs : n ≤ 1048576) :
    Calls Tryz.prog 15 #[.slice (some ⟨g, 0, none⟩) n n, .int .i64 1] w fun e w' => e = .returned (.int .i64 (1 + 4 * n)) ∧ w.grownBy w' (some g) := by
  go_enter Tryz.func15, Tryz.ntmps15
  go_wp2
  go_loopw [1, 5] (fun s1 i wr => ∃ j : Nat, j ≤ n ∧ i = .int .i64 j ∧ s1 = .int .i64 (1 + 4 * (j : Int)) ∧ RowX wr g n 0 bs ∧ w.grownBy wr (some g)) (fun _ i _ => n - (intOf i).toNat)
  case atStart => exact ⟨0, Nat.zero_le _, rfl, rfl, ⟨fun i hi => absurd hi (by omega), h.u, h.fr, h.lt⟩, grownBy_refl _ _⟩
  case round =>
    obtain ⟨j, hj, rfl, rfl, R, G⟩ := hrel
    rename World => wr
    by_cases hlt : j < n
    · obtain ⟨v0, c0⟩ := R.u (j * 4) (by omega)
      obtain ⟨v1, c1⟩ := R.u (j * 4 + 1) (by omega)
      obtain ⟨v2, c2⟩ := R.u (j * 4 + 2) (by omega)
      obtain ⟨v3, c3⟩ := R.u (j * 4 + 3) (by omega)
      have cf := R.fr
      have R2 := (((R.set (o := j * 4) (.int .i64 (1 + 4 * (j : Int)))).set (o := j * 4 + 1) (.int .i64 (1 + 4 * (j : Int) + 1))).set (o := j * 4 + 2) (.int .i64 (1 + 4 * (j : Int) + 1 + 1))).set (o := j * 4 + 3) (.int .i64 (1 + 4 * (j : Int) + 1 + 1 + 1))
      have G2 := grownBy_setCell (grownBy_setCell (grownBy_setCell (grownBy_setCell G (p := ⟨g, j * 4, none⟩) rfl (.int .i64 (1 + 4 * (j : Int)))) (p := ⟨g, j * 4 + 1, none⟩) rfl (.int .i64 (1 + 4 * (j : Int) + 1))) (p := ⟨g, j * 4 + 2, none⟩) rfl (.int .i64 (1 + 4 * (j : Int) + 1 + 1))) (p := ⟨g, j * 4 + 3, none⟩) rfl (.int .i64 (1 + 4 * (j : Int) + 1 + 1 + 1))
      clear R G
      go_wp2
      go_roundw
      case rel => exact ⟨j + 1, by omega, by go_num, by go_num, R2, G2⟩
      case measure => simp [intOf]; omega
    · obtain rfl : j = n := by omega
      go_wp2
      go_ret
      exact ⟨rfl, G⟩
end Go.Proofs.YthompofbdjdloaaGreat
