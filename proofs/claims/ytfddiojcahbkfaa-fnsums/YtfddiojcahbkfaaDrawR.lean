/- Whole numbers that are drawn: l1Int of a list that is written out, l1Odd, DrawFracOf. -/
import Derived.Test.YtfddiojcahbkfaaCurN
namespace Go.Proofs.Ytfddiojcahbkfaa
open Go.RowKit

theorem ints_cell (L : List Int) (w : World) (t : TypeId) (j : Nat) (hj : j < L.length) : (w.alloc (.cells (L.map (Value.int .i64)).toArray t)).cell? ⟨w.heap.size, 0 + j, none⟩ = some (.int .i64 L[j]) := by
  refine cell_new _ _ _ _ ?_
  simp [hj]

/-- One of a list that lies in a block of its own. -/
theorem l1Int_list (p : Nat) (a : Option Addr) (n cap : Nat) (L : List Int) (b kc : Nat) (w : World) (h : Cur w p a n cap) (hk : 0 < L.length) (hm : L.length ≤ 256) (hl : ∀ j (hj : j < L.length), w.cell? ⟨b, 0 + j, none⟩ = some (.int .i64 L[j])) (hb : b ≠ p) :
    Calls Try.prog 55 #[.pointer (some ⟨p, 0, none⟩), .slice (some ⟨b, 0, none⟩) L.length kc] w fun e w' => ∃ z : Int, z ∈ L ∧ e = .returned (.int .i64 z) ∧ Cur w' p a n cap ∧ w.grownBy w' (some p) := by
  refine (l1Int_any p a n cap b 0 L.length kc w h hk hm (fun j hj => ⟨_, hl j hj⟩) hb).mono ?_
  rintro e w' ⟨j, hj, z, hz, rfl, hc, g⟩
  rw [hl j hj] at hz
  simp only [Option.some.injEq, Value.int.injEq, true_and] at hz
  exact ⟨z, by rw [← hz]; exact List.getElem_mem hj, rfl, hc, g⟩

/-- The limits, and beyond. -/
def oddL : List Int := [-1, 0, 1, 2, 255, 256, 65535, 2147483647, 2147483648, 4294967295, 4294967296, -2147483648, 9223372036854775807, -9223372036854775808]
theorem odd_bounds : ∀ z ∈ oddL, -9223372036854775808 ≤ z ∧ z ≤ 9223372036854775807 := by decide

set_option maxRecDepth 20000 in
set_option maxHeartbeats 2000000 in
theorem l1Odd_any (p : Nat) (a : Option Addr) (n cap : Nat) (w : World) (h : Cur w p a n cap) :
    Calls Try.prog 37 #[.pointer (some ⟨p, 0, none⟩)] w fun e w' => ∃ z : Int, -9223372036854775808 ≤ z ∧ z ≤ 9223372036854775807 ∧ e = .returned (.int .i64 z) ∧ Cur w' p a n cap ∧ w.grownBy w' (some p) := by
  have hp : p < w.heap.size := h.lt
  have H1 : Cur (w.alloc (.cells (oddL.map (Value.int .i64)).toArray 3)) p a n cap := h.below (below1 _ _)
  have HL : ∀ j (hj : j < oddL.length), (w.alloc (.cells (oddL.map (Value.int .i64)).toArray 3)).cell? ⟨w.heap.size, 0 + j, none⟩ = some (.int .i64 oddL[j]) := fun j hj => ints_cell oddL w _ j hj
  go_enter Try.func37, Try.ntmps37
  go_wp2_with fail
  refine (l1Int_list p a n cap oddL w.heap.size 14 _ H1 (by decide) (by decide) HL (by omega)).mono ?_
  rintro e w1 ⟨z, hz, rfl, hc, g⟩
  have hb := odd_bounds z hz
  have G := grownBy_trans (World.grownBy_alloc w _ (some p)) g
  clear H1 HL
  go_wp2
  go_ret
  exact ⟨z, hb.1, hb.2, rfl, hc, G⟩

set_option maxRecDepth 20000 in
set_option maxHeartbeats 2000000 in
theorem drawFracOf_any (a : Option Addr) (n cap : Nat) (w : World) (hB : Byt w a n) (hm : n ≤ 1048576) :
    Calls Try.prog 20 #[.slice a n cap] w fun e w' => ∃ x y : Int, e = .returned (.tuple #[.int .i64 x, .int .i64 y]) ∧ -9223372036854775808 ≤ x ∧ x ≤ 9223372036854775807 ∧ -9223372036854775808 ≤ y ∧ y ≤ 9223372036854775807 ∧ Below w.heap.size w w' := by
  go_enter Try.func20, Try.ntmps20
  go_wp2_with fail
  refine (l1New_any a n cap w hB hm).mono ?_
  rintro e w1 ⟨rfl, hc1, b1⟩
  go_wp2_with fail
  refine (l1Once_any w.heap.size a n cap 2 _ hc1).mono ?_
  rintro e w2 ⟨o, rfl, hc2, g2⟩
  replace b1 := b1.grown g2 b1.size (fun k hk => by injection hk with hk; omega)
  clear hc1 g2
  cases o
  · go_wp2_with fail
    refine (l1Odd_any w.heap.size a n cap _ hc2).mono ?_
    rintro e w3 ⟨x, x0, x1, rfl, hc3, g3⟩
    replace b1 := b1.grown g3 b1.size (fun k hk => by injection hk with hk; omega)
    go_wp2_with fail
    refine (l1Odd_any w.heap.size a n cap _ hc3).mono ?_
    rintro e w4 ⟨y, y0, y1, rfl, hc4, g4⟩
    replace b1 := b1.grown g4 b1.size (fun k hk => by injection hk with hk; omega)
    go_wp2
    go_ret2
    exact ⟨x, y, rfl, x0, x1, y0, y1, b1⟩
  · go_wp2_with fail
    refine (l1Below_any w.heap.size a n cap 200 _ hc2).mono ?_
    rintro e w3 ⟨x, rfl, x0, x1, hc3, g3⟩
    have x2 := x1 (by omega)
    replace b1 := b1.grown g3 b1.size (fun k hk => by injection hk with hk; omega)
    go_wp2_with fail
    refine (l1Below_any w.heap.size a n cap 40 _ hc3).mono ?_
    rintro e w4 ⟨y, rfl, y0, y1, hc4, g4⟩
    have y2 := y1 (by omega)
    replace b1 := b1.grown g4 b1.size (fun k hk => by injection hk with hk; omega)
    go_wp2
    go_ret2
    exact ⟨x - 100, y - 20, rfl, by omega, by omega, by omega, by omega, b1⟩
end Go.Proofs.Ytfddiojcahbkfaa
