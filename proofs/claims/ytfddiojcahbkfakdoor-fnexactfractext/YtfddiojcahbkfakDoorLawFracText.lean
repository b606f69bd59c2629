/- The law on FracText: at every argument the program's FracText is the specification's, and it writes into no argument. -/
import Derived.Test.YtfddiojcahbkfakDoorFracL
import Derived.Test.YtfddiojcahbkfakDoorFTxi
import Derived.Deep.RegionHeld3
namespace Go.Proofs.YtfddiojcahbkfakDoor
open Go.RowKit

set_option maxRecDepth 20000 in
set_option maxHeartbeats 4000000 in
theorem lawFracText (g g' : Bool) (a a' : Option Addr) (c c' : Nat) (xs ys : List Int) (w : World) (h : Came w a c xs) (k : Came w a' c' ys) (HT : ∀ w', Below w.heap.size w w' → Pow10 w') :
    Calls Tryd.prog 3 #[.agg #[.bool g, .slice a xs.length c, .bool g', .slice a' ys.length c']] w fun e w' => e = .returned (.bool true) ∧ Below w.heap.size w w' := by
  have hm : xs.length ≤ 9223372036854775807 := by have := h.max; have := h.fits; unfold maxLen at *; omega
  have km : ys.length ≤ 9223372036854775807 := by have := k.max; have := k.fits; unfold maxLen at *; omega
  obtain ⟨rz, HR⟩ : ∃ rz, Hid (frT (fN g xs g' ys / Int.gcd (fN g xs g' ys) (fD g xs g' ys)) (fD g xs g' ys / Int.gcd (fN g xs g' ys) (fD g xs g' ys)) = rz) := ⟨_, rfl⟩
  have HTB : Hid (∀ w', Below w.heap.size w w' → Pow10 w') := HT
  clear HT
  have B := below1 w (.cells #[.bool g, .slice a xs.length c, .bool g', .slice a' ys.length c'] 26)
  obtain ⟨kA0, kA1, kA2, kA3⟩ := fvar_new w g g' a a' xs.length ys.length c c' 26
  by_cases hs : xs.length + ys.length ≤ 1048576
  · have hA := h.below B
    have hB := k.below B
    clear h k
    go_enter Tryd.func3, Tryd.ntmps3
    go_wp2_with fail
    generalize w.alloc (.cells #[.bool g, .slice a xs.length c, .bool g', .slice a' ys.length c'] 26) = W at *
    refine (szF g g' a a' c c' xs.length ys.length 1048576 _ (by omega) hm km).mono ?_
    rintro e w1 ⟨rfl, hb⟩
    rw [if_neg (by omega)]
    have hz : ¬ (1048576 : Int) - xs.length - ys.length < 0 := by omega
    replace kA0 := bat hb kA0
    replace kA1 := bat hb kA1
    replace kA2 := bat hb kA2
    replace kA3 := bat hb kA3
    replace hA := hA.below hb
    replace hB := hB.below hb
    replace B := B.trans (hb.mono B.size)
    clear hb
    go_wp2_with fail
    refine (toF g g' a a' c c' xs ys _ hA hB (by omega) (by omega)).mono ?_
    rintro e w2 ⟨a2, c2, a3, c3, rfl, o2, o3, _, hb⟩
    replace kA0 := bat hb kA0
    replace kA1 := bat hb kA1
    replace kA2 := bat hb kA2
    replace kA3 := bat hb kA3
    replace hA := hA.below hb
    replace hB := hB.below hb
    replace B := B.trans (hb.mono B.size)
    clear hb
    go_wp2_with fail
    refine (specFracText g g' a2 a3 c2 c3 xs ys _ o2.toSees o3.toSees).mono ?_
    rintro e w3 ⟨rfl, hb⟩
    rw [HR.out]
    replace kA0 := bat hb kA0
    replace kA1 := bat hb kA1
    replace kA2 := bat hb kA2
    replace kA3 := bat hb kA3
    replace hA := hA.below hb
    replace hB := hB.below hb
    replace B := B.trans (hb.mono B.size)
    clear hb o2 o3
    go_wp2_with fail
    refine (toF g g' a a' c c' xs ys _ hA hB (by omega) (by omega)).mono ?_
    rintro e w4 ⟨a4, c4, a5, c5, rfl, o4, o5, _, hb⟩
    replace kA0 := bat hb kA0
    replace kA1 := bat hb kA1
    replace kA2 := bat hb kA2
    replace kA3 := bat hb kA3
    replace hA := hA.below hb
    replace hB := hB.below hb
    replace B := B.trans (hb.mono B.size)
    clear hb
    have lA := World.block_lt_of_cell? _ _ kA0
    go_wp2_with fail
    obtain ⟨kX0, kX1, kX2, kX3⟩ := fvar_new w4 g g' a4 a5 xs.length ys.length c4 c5 31
    have hb := below1 w4 (.cells #[.bool g, .slice a4 xs.length c4, .bool g', .slice a5 ys.length c5] 31)
    replace kA0 := bat hb kA0
    replace kA1 := bat hb kA1
    replace kA2 := bat hb kA2
    replace kA3 := bat hb kA3
    replace hA := hA.below hb
    replace hB := hB.below hb
    replace o4 := o4.below hb
    replace o5 := o5.below hb
    replace B := B.trans (hb.mono B.size)
    clear hb lA
    generalize w4.alloc (.cells #[.bool g, .slice a4 xs.length c4, .bool g', .slice a5 ys.length c5] 31) = W4 at *
    refine (implFracText g g' a4 a5 c4 c5 xs ys _ o4.toSees o5.toSees (fun w' hw => HTB.out w' (B.trans (hw.mono B.size)))).mono ?_
    rintro e w5 ⟨rfl, hb⟩
    rw [HR.out]
    replace kA0 := bat hb kA0
    replace kA1 := bat hb kA1
    replace kA2 := bat hb kA2
    replace kA3 := bat hb kA3
    replace kX0 := bat hb kX0
    replace kX1 := bat hb kX1
    replace kX2 := bat hb kX2
    replace kX3 := bat hb kX3
    replace hA := hA.below hb
    replace hB := hB.below hb
    replace o4 := o4.below hb
    replace o5 := o5.below hb
    replace B := B.trans (hb.mono B.size)
    clear hb
    go_wp2_with fail
    go_region_held3 (fun w' => w'.cell? ⟨w4.heap.size, 0, none⟩ = some (.bool g) ∧ w'.cell? ⟨w4.heap.size, 1, none⟩ = some (.slice a4 xs.length c4) ∧ w'.cell? ⟨w4.heap.size, 2, none⟩ = some (.bool g') ∧ w'.cell? ⟨w4.heap.size, 3, none⟩ = some (.slice a5 ys.length c5) ∧ w'.cell? ⟨w.heap.size, 0, none⟩ = some (.bool g) ∧ w'.cell? ⟨w.heap.size, 1, none⟩ = some (.slice a xs.length c) ∧ w'.cell? ⟨w.heap.size, 2, none⟩ = some (.bool g') ∧ w'.cell? ⟨w.heap.size, 3, none⟩ = some (.slice a' ys.length c'))
      (first | exact ⟨kX0, kX1, kX2, kX3, kA0, kA1, kA2, kA3⟩ | exact m1 | exact m2 | (simp [*]))
      (first
      | (go_at_call 6; refine (toF g g' a a' c c' xs ys _ ?_ ?_ ?_ ?_).mono ?_; exact hA.below (Below.refl _ _).drew; exact hB.below (Below.refl _ _).drew; omega; omega; rintro e w6 ⟨aq, cq, ar, cr, rfl, oq, orr, _, hbq⟩; have m1 : w6.cell? ⟨w4.heap.size, 0, none⟩ = some (.bool g) ∧ w6.cell? ⟨w4.heap.size, 1, none⟩ = some (.slice a4 xs.length c4) ∧ w6.cell? ⟨w4.heap.size, 2, none⟩ = some (.bool g') ∧ w6.cell? ⟨w4.heap.size, 3, none⟩ = some (.slice a5 ys.length c5) ∧ w6.cell? ⟨w.heap.size, 0, none⟩ = some (.bool g) ∧ w6.cell? ⟨w.heap.size, 1, none⟩ = some (.slice a xs.length c) ∧ w6.cell? ⟨w.heap.size, 2, none⟩ = some (.bool g') ∧ w6.cell? ⟨w.heap.size, 3, none⟩ = some (.slice a' ys.length c') := ⟨bat hbq kX0, bat hbq kX1, bat hbq kX2, bat hbq kX3, bat hbq kA0, bat hbq kA1, bat hbq kA2, bat hbq kA3⟩)
      | (go_at_call 8; refine (eqF g g' a4 aq a5 ar c4 cq c5 cr xs ys _ ?_ oq.toSees ?_ orr.toSees).mono ?_; exact o4.toSees.below ((Below.refl _ _).drew.trans hbq); exact o5.toSees.below ((Below.refl _ _).drew.trans hbq); rintro e w7 ⟨rfl, hbr⟩; have m2 : w7.cell? ⟨w4.heap.size, 0, none⟩ = some (.bool g) ∧ w7.cell? ⟨w4.heap.size, 1, none⟩ = some (.slice a4 xs.length c4) ∧ w7.cell? ⟨w4.heap.size, 2, none⟩ = some (.bool g') ∧ w7.cell? ⟨w4.heap.size, 3, none⟩ = some (.slice a5 ys.length c5) ∧ w7.cell? ⟨w.heap.size, 0, none⟩ = some (.bool g) ∧ w7.cell? ⟨w.heap.size, 1, none⟩ = some (.slice a xs.length c) ∧ w7.cell? ⟨w.heap.size, 2, none⟩ = some (.bool g') ∧ w7.cell? ⟨w.heap.size, 3, none⟩ = some (.slice a' ys.length c') := ⟨bat hbr m1.1, bat hbr m1.2.1, bat hbr m1.2.2.1, bat hbr m1.2.2.2.1, bat hbr m1.2.2.2.2.1, bat hbr m1.2.2.2.2.2.1, bat hbr m1.2.2.2.2.2.2.1, bat hbr m1.2.2.2.2.2.2.2⟩))
    have hb := (Below.refl _ _).drew.trans (hbq.trans (hbr.mono hbq.size))
    replace B := B.trans (hb.mono B.size)
    clear hb hbq hbr m1 m2
    go_wp2
    go_ret
    exact ⟨rfl, B⟩
  · clear kA0 kA1 kA2 kA3
    go_enter Tryd.func3, Tryd.ntmps3
    go_wp2_with fail
    refine (szF g g' a a' c c' xs.length ys.length 1048576 _ (by omega) hm km).mono ?_
    rintro e w1 ⟨rfl, hb⟩
    rw [if_pos (by omega)]
    go_wp2
    go_ret
    exact ⟨rfl, B.trans (hb.mono (by simp))⟩
end Go.Proofs.YtfddiojcahbkfakDoor
