/- The law on NumText: at every argument the program's NumText is the specification's, and it writes into no argument. -/
import Derived.Test.YtfddiojcahbkfajDoorNumTx
import Derived.Test.YtfddiojcahbkfajDoorBounds
import Derived.Deep.RegionHeld3
import Derived.Deep.DeepCutAuto
namespace Go.Proofs.YtfddiojcahbkfajDoor
open Go.RowKit

set_option maxRecDepth 20000 in
set_option maxHeartbeats 4000000 in
theorem lawNumText (g : Bool) (a : Option Addr) (c : Nat) (xs : List Int) (w : World) (h : Came w a c xs) (HT : ∀ w', Below w.heap.size w w' → Pow10 w') :
    Calls Tryd.prog 3 #[.agg #[.bool g, .slice a xs.length c]] w fun e w' => e = .returned (.bool true) ∧ Below w.heap.size w w' := by
  have hm : xs.length ≤ 9223372036854775807 := by have := h.max; have := h.fits; unfold maxLen at *; omega
  obtain ⟨rz, HR⟩ : ∃ rz, Hid (numT (tk g xs) = rz) := ⟨_, rfl⟩
  have HTB : Hid (∀ w', Below w.heap.size w w' → Pow10 w') := HT
  clear HT
  by_cases hs : xs.length ≤ 1048576
  · go_enter Tryd.func3, Tryd.ntmps3
    go_wp2_with fail
    refine (szN g a c xs.length 1048576 _ (by omega) hm).mono ?_
    rintro e w1 ⟨rfl, hb⟩
    rw [if_neg (by omega)]
    obtain ⟨kA0, kA1⟩ := var_new w g a xs.length c 24
    have B := below1 w (.cells #[.bool g, .slice a xs.length c] 24)
    have hA := h.below B
    clear h
    replace kA0 := bat hb kA0
    replace kA1 := bat hb kA1
    replace hA := hA.below hb
    replace B := B.trans (hb.mono B.size)
    clear hb
    go_wp2_with fail
    refine (toN g a c xs _ hA hs).mono ?_
    rintro e w2 ⟨a2, c2, rfl, ho2, hb⟩
    replace kA0 := bat hb kA0
    replace kA1 := bat hb kA1
    replace hA := hA.below hb
    replace B := B.trans (hb.mono B.size)
    clear hb
    go_wp2_with fail
    refine (specNumText g a2 c2 xs _ ho2.toSees).mono ?_
    rintro e w3 ⟨rfl, hb⟩
    rw [HR.out]
    clear ho2
    replace kA0 := bat hb kA0
    replace kA1 := bat hb kA1
    replace hA := hA.below hb
    replace B := B.trans (hb.mono B.size)
    clear hb
    go_wp2_with fail
    refine (toN g a c xs _ hA hs).mono ?_
    rintro e w4 ⟨a4, c4, rfl, hox, hb⟩
    replace kA0 := bat hb kA0
    replace kA1 := bat hb kA1
    replace hA := hA.below hb
    replace B := B.trans (hb.mono B.size)
    clear hb
    have l_kA := World.block_lt_of_cell? _ _ kA0
    go_wp2_with fail
    clear l_kA
    obtain ⟨kX0, kX1⟩ := var_new w4 g a4 xs.length c4 27
    have hb := below1 w4 (.cells #[.bool g, .slice a4 xs.length c4] 27)
    replace kA0 := bat hb kA0
    replace kA1 := bat hb kA1
    replace hA := hA.below hb
    replace hox := hox.below hb
    replace B := B.trans (hb.mono B.size)
    clear hb
    generalize w4.alloc (.cells #[.bool g, .slice a4 xs.length c4] 27) = W4 at *
    refine (implNumText g a4 c4 xs _ hox.toSees (fun w' hw => HTB.out w' (B.trans (hw.mono B.size)))).mono ?_
    rintro e w5 ⟨rfl, hb⟩
    rw [HR.out]
    replace kA0 := bat hb kA0
    replace kA1 := bat hb kA1
    replace kX0 := bat hb kX0
    replace kX1 := bat hb kX1
    replace hA := hA.below hb
    replace hox := hox.below hb
    replace B := B.trans (hb.mono B.size)
    clear hb
    go_wp2_with fail
    go_region_held3 (fun w' => w'.cell? ⟨w4.heap.size, 0, none⟩ = some (.bool g) ∧ w'.cell? ⟨w4.heap.size, 1, none⟩ = some (.slice a4 xs.length c4) ∧ w'.cell? ⟨w.heap.size, 0, none⟩ = some (.bool g) ∧ w'.cell? ⟨w.heap.size, 1, none⟩ = some (.slice a xs.length c))
      (first | exact ⟨kX0, kX1, kA0, kA1⟩ | exact m1 | exact m2 | (simp [*]))
      (first
      | (go_at_call 6; refine (toN g a c xs _ ?_ hs).mono ?_; exact hA.below (Below.refl _ _).drew; rintro e w7 ⟨aq, cq, rfl, hoq, hbq⟩; have m1 : w7.cell? ⟨w4.heap.size, 0, none⟩ = some (.bool g) ∧ w7.cell? ⟨w4.heap.size, 1, none⟩ = some (.slice a4 xs.length c4) ∧ w7.cell? ⟨w.heap.size, 0, none⟩ = some (.bool g) ∧ w7.cell? ⟨w.heap.size, 1, none⟩ = some (.slice a xs.length c) := ⟨bat hbq kX0, bat hbq kX1, bat hbq kA0, bat hbq kA1⟩)
      | (go_at_call 8; refine (eqN g a4 aq c4 cq xs _ ?_ hoq.toSees).mono ?_; exact hox.toSees.below ((Below.refl _ _).drew.trans hbq); rintro e w8 ⟨rfl, hbr⟩; have m2 : w8.cell? ⟨w4.heap.size, 0, none⟩ = some (.bool g) ∧ w8.cell? ⟨w4.heap.size, 1, none⟩ = some (.slice a4 xs.length c4) ∧ w8.cell? ⟨w.heap.size, 0, none⟩ = some (.bool g) ∧ w8.cell? ⟨w.heap.size, 1, none⟩ = some (.slice a xs.length c) := ⟨bat hbr m1.1, bat hbr m1.2.1, bat hbr m1.2.2.1, bat hbr m1.2.2.2⟩))
    have hb := (Below.refl _ _).drew.trans (hbq.trans (hbr.mono hbq.size))
    clear hbq hbr hoq m1 m2
    replace kA0 := bat hb kA0
    replace kA1 := bat hb kA1
    replace kX0 := bat hb kX0
    replace kX1 := bat hb kX1
    replace hA := hA.below hb
    replace hox := hox.below hb
    replace B := B.trans (hb.mono B.size)
    clear hb
    go_wp2
    go_ret
    exact ⟨rfl, B⟩
  · go_enter Tryd.func3, Tryd.ntmps3
    go_wp2_with fail
    refine (szN g a c xs.length 1048576 _ (by omega) hm).mono ?_
    rintro e w1 ⟨rfl, hb1⟩
    rw [if_pos (by omega)]
    go_wp2
    go_ret
    exact ⟨rfl, (below1 _ _).trans (hb1.mono (by simp))⟩
end Go.Proofs.YtfddiojcahbkfajDoor
