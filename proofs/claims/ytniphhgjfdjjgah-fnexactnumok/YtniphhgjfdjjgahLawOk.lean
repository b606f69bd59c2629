/- The law on NumOk: at every argument the program's NumOk is the specification's; it writes into no argument. -/
import Derived.Test.YtniphhgjfdjjgahOk
import Derived.Deep.RegionHeld3
namespace Go.Proofs.Ytniphhgjfdjjgah
open Go.RowKit

set_option maxHeartbeats 1000000 in
theorem lawNumOk (g : Bool) (a : Option Addr) (c : Nat) (xs : List Int) (w : World) (h : Came w a c xs) :
    Calls Try.prog 3 #[.agg #[.bool g, .slice a xs.length c]] w fun e w' => e = .returned (.bool true) ∧ Below w.heap.size w w' := by
  have hm : xs.length ≤ 9223372036854775807 := by have := h.max; have := h.fits; unfold maxLen at *; omega
  by_cases hs : xs.length ≤ 1048576
  · go_enter Try.func3, Try.ntmps3
    go_wp2_with fail
    refine (szN g a c xs.length 1048576 _ (by omega) hm).mono ?_
    rintro e w1 ⟨rfl, hb⟩
    rw [if_neg (by omega)]
    have kA0 := bat hb (cell_new w _ _ 0 rfl)
    have kA1 := bat hb (cell_new w _ _ 1 rfl)
    have hA := (h.below (below1 _ _)).below hb
    have B := (below1 _ _).trans (hb.mono (by simp))
    clear hb h
    go_wp2_with fail
    refine (toN g a c xs _ hA hs).mono ?_
    rintro e w2 ⟨a2, c2, rfl, ho2, hb⟩
    replace kA0 := bat hb kA0
    replace kA1 := bat hb kA1
    replace hA := hA.below hb
    replace B := B.trans (hb.mono B.size)
    clear hb
    go_wp2_with fail
    refine (specOk g a2 c2 xs _ ho2.toSees).mono ?_
    rintro e w3 ⟨rfl, hb⟩
    replace kA0 := bat hb kA0
    replace kA1 := bat hb kA1
    replace hA := hA.below hb
    replace B := B.trans (hb.mono B.size)
    clear hb ho2
    go_wp2_with fail
    refine (toN g a c xs _ hA hs).mono ?_
    rintro e w4 ⟨a4, c4, rfl, ho, hb⟩
    replace kA0 := bat hb kA0
    replace kA1 := bat hb kA1
    replace hA := hA.below hb
    replace B := B.trans (hb.mono B.size)
    clear hb
    have hz := World.block_lt_of_cell? _ _ kA0
    go_wp2_with fail
    have hb := below1 w4 (.cells #[.bool g, .slice a4 xs.length c4] 27)
    refine (implOk g a4 c4 xs _ (ho.toSees.below hb)).mono ?_
    have kX0 := cell_new w4 #[.bool g, .slice a4 xs.length c4] 27 0 rfl
    have kX1 := cell_new w4 #[.bool g, .slice a4 xs.length c4] 27 1 rfl
    replace kA0 := bat hb kA0
    replace kA1 := bat hb kA1
    replace hA := hA.below hb
    replace B := B.trans (hb.mono B.size)
    replace ho := ho.below hb
    clear hb
    rintro e w5 ⟨rfl, hb⟩
    replace kX0 := bat hb kX0
    replace kX1 := bat hb kX1
    replace kA0 := bat hb kA0
    replace kA1 := bat hb kA1
    replace hA := hA.below hb
    replace B := B.trans (hb.mono B.size)
    replace ho := ho.below hb
    clear hb
    go_wp2_with fail
    simp at kX0 kX1 kA0 kA1
    go_region_with (first
      | (go_at_call 10; refine (toN g a c xs _ (hA.below (Below.refl _ _).drew) hs).mono ?_; rintro e w6 ⟨a6, c6, rfl, ho6, hb6⟩; have kY0 := bat hb6 kX0; have kY1 := bat hb6 kX1)
      | (go_at_call 12; refine (eqN g a4 a6 c4 c6 xs _ (ho.toSees.below ((Below.refl _ _).drew.trans hb6)) ho6.toSees).mono ?_; rintro e w7 ⟨rfl, hb7⟩))
    all_goals (go_wp2; go_ret; exact ⟨rfl, (B.drew.trans (hb6.mono B.size)).trans (hb7.mono (Nat.le_trans B.size hb6.size))⟩)
  · go_enter Try.func3, Try.ntmps3
    go_wp2_with fail
    refine (szN g a c xs.length 1048576 _ (by omega) hm).mono ?_
    rintro e w1 ⟨rfl, hb1⟩
    rw [if_pos (by omega)]
    go_wp2
    go_ret
    exact ⟨rfl, (below1 _ _).trans (hb1.mono (by simp))⟩
end Go.Proofs.Ytniphhgjfdjjgah
