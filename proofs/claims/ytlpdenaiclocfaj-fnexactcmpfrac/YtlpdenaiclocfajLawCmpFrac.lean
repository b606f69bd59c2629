/- The law on CmpFrac: at every argument the program's CmpFrac is the specification's, and it writes into no argument. -/
import Derived.Test.YtlpdenaiclocfajFracL
import Derived.Test.YtlpdenaiclocfajFCmpI
import Derived.Test.YtlpdenaiclocfajSFCmp
import Derived.Deep.RegionHeld3
namespace Go.Proofs.Ytlpdenaiclocfaj
open Go.RowKit

set_option maxRecDepth 20000 in
set_option maxHeartbeats 8000000 in
theorem lawCmpFrac (g h g' h' : Bool) (a b a' b' : Option Addr) (c d c' d' : Nat) (xs ys xs' ys' : List Int) (w : World) (h1 : Came w a c xs) (h2 : Came w b d ys) (k1 : Came w a' c' xs') (k2 : Came w b' d' ys') :
    Calls Try.prog 7 #[.agg #[.bool g, .slice a xs.length c, .bool h, .slice b ys.length d], .agg #[.bool g', .slice a' xs'.length c', .bool h', .slice b' ys'.length d']] w fun e w' => e = .returned (.bool true) ∧ Below w.heap.size w w' := by
  have m1 : xs.length ≤ 9223372036854775807 := by have := h1.max; have := h1.fits; unfold maxLen at *; omega
  have m2 : ys.length ≤ 9223372036854775807 := by have := h2.max; have := h2.fits; unfold maxLen at *; omega
  have m3 : xs'.length ≤ 9223372036854775807 := by have := k1.max; have := k1.fits; unfold maxLen at *; omega
  have m4 : ys'.length ≤ 9223372036854775807 := by have := k2.max; have := k2.fits; unfold maxLen at *; omega
  obtain ⟨rz, HR⟩ : ∃ rz, Hid (cmpZ (fN g xs h ys * fD g' xs' h' ys') (fN g' xs' h' ys' * fD g xs h ys) = rz) := ⟨_, rfl⟩
  by_cases hs : xs.length + ys.length ≤ 1048576
  · by_cases hs2 : xs.length + ys.length + xs'.length + ys'.length ≤ 1048576
    · have B := below2 w (.cells #[.bool g, .slice a xs.length c, .bool h, .slice b ys.length d] 32) (.cells #[.bool g', .slice a' xs'.length c', .bool h', .slice b' ys'.length d'] 32)
      have k0 := box8 w g h g' h' a b a' b' xs.length ys.length xs'.length ys'.length c d c' d' 32
      obtain ⟨kA0, kA1, kA2, kA3, kB0, kB1, kB2, kB3⟩ := k0
      have hA := h1.below B
      have hA' := h2.below B
      have hB := k1.below B
      have hB' := k2.below B
      clear h1 h2 k1 k2
      go_enter Try.func7, Try.ntmps7
      go_wp2_with fail
      generalize (w.alloc (.cells #[.bool g, .slice a xs.length c, .bool h, .slice b ys.length d] 32)).alloc (.cells #[.bool g', .slice a' xs'.length c', .bool h', .slice b' ys'.length d'] 32) = W at *
      refine (szF g h a b c d xs.length ys.length 1048576 _ (by omega) m1 m2).mono ?_
      rintro e w1 ⟨rfl, hb⟩
      rw [if_neg (by omega)]
      replace kA0 := bat hb kA0
      replace kA1 := bat hb kA1
      replace kA2 := bat hb kA2
      replace kA3 := bat hb kA3
      replace kB0 := bat hb kB0
      replace kB1 := bat hb kB1
      replace kB2 := bat hb kB2
      replace kB3 := bat hb kB3
      replace hA := hA.below hb
      replace hA' := hA'.below hb
      replace hB := hB.below hb
      replace hB' := hB'.below hb
      replace B := B.trans (hb.mono B.size)
      clear hb
      go_wp2_with fail
      refine (szF g' h' a' b' c' d' xs'.length ys'.length (1048576 - xs.length - ys.length) _ (by omega) m3 m4).mono ?_
      rintro e w2 ⟨rfl, hb⟩
      rw [if_neg (by omega)]
      replace kA0 := bat hb kA0
      replace kA1 := bat hb kA1
      replace kA2 := bat hb kA2
      replace kA3 := bat hb kA3
      replace kB0 := bat hb kB0
      replace kB1 := bat hb kB1
      replace kB2 := bat hb kB2
      replace kB3 := bat hb kB3
      replace hA := hA.below hb
      replace hA' := hA'.below hb
      replace hB := hB.below hb
      replace hB' := hB'.below hb
      replace B := B.trans (hb.mono B.size)
      clear hb
      go_wp2_with fail
      have k0 : w2.cell? ⟨w.heap.size, 0, none⟩ = some (.bool g) ∧ w2.cell? ⟨w.heap.size, 1, none⟩ = some (.slice a xs.length c) ∧ w2.cell? ⟨w.heap.size, 2, none⟩ = some (.bool h) ∧ w2.cell? ⟨w.heap.size, 3, none⟩ = some (.slice b ys.length d) ∧ w2.cell? ⟨w.heap.size + 1, 0, none⟩ = some (.bool g') ∧ w2.cell? ⟨w.heap.size + 1, 1, none⟩ = some (.slice a' xs'.length c') ∧ w2.cell? ⟨w.heap.size + 1, 2, none⟩ = some (.bool h') ∧ w2.cell? ⟨w.heap.size + 1, 3, none⟩ = some (.slice b' ys'.length d') := ⟨kA0, kA1, kA2, kA3, kB0, kB1, kB2, kB3⟩
      go_region_held3 (fun w' => w'.cell? ⟨w.heap.size, 0, none⟩ = some (.bool g) ∧ w'.cell? ⟨w.heap.size, 1, none⟩ = some (.slice a xs.length c) ∧ w'.cell? ⟨w.heap.size, 2, none⟩ = some (.bool h) ∧ w'.cell? ⟨w.heap.size, 3, none⟩ = some (.slice b ys.length d) ∧ w'.cell? ⟨w.heap.size + 1, 0, none⟩ = some (.bool g') ∧ w'.cell? ⟨w.heap.size + 1, 1, none⟩ = some (.slice a' xs'.length c') ∧ w'.cell? ⟨w.heap.size + 1, 2, none⟩ = some (.bool h') ∧ w'.cell? ⟨w.heap.size + 1, 3, none⟩ = some (.slice b' ys'.length d'))
        (first | exact k0 | exact n1 | exact n2 | exact n3 | (simp [*]))
        (first
        | (go_at_call_of 15 (Value.agg #[Value.bool g, Value.slice a xs.length c, Value.bool h, Value.slice b ys.length d]); refine (toF g h a b c d xs ys _ ?_ ?_ ?_ ?_).mono ?_; exact hA.below (Below.refl _ _).drew; exact hA'.below (Below.refl _ _).drew; omega; omega; rintro e w3 ⟨p1, q1, p2, q2, rfl, o1, o2, _, hb3⟩; have B3 : Below w2.heap.size w2 w3 := (Below.refl _ _).drew.trans hb3; have n1 : w3.cell? ⟨w.heap.size, 0, none⟩ = some (.bool g) ∧ w3.cell? ⟨w.heap.size, 1, none⟩ = some (.slice a xs.length c) ∧ w3.cell? ⟨w.heap.size, 2, none⟩ = some (.bool h) ∧ w3.cell? ⟨w.heap.size, 3, none⟩ = some (.slice b ys.length d) ∧ w3.cell? ⟨w.heap.size + 1, 0, none⟩ = some (.bool g') ∧ w3.cell? ⟨w.heap.size + 1, 1, none⟩ = some (.slice a' xs'.length c') ∧ w3.cell? ⟨w.heap.size + 1, 2, none⟩ = some (.bool h') ∧ w3.cell? ⟨w.heap.size + 1, 3, none⟩ = some (.slice b' ys'.length d') := ⟨bat B3 k0.1, bat B3 k0.2.1, bat B3 k0.2.2.1, bat B3 k0.2.2.2.1, bat B3 k0.2.2.2.2.1, bat B3 k0.2.2.2.2.2.1, bat B3 k0.2.2.2.2.2.2.1, bat B3 k0.2.2.2.2.2.2.2⟩; clear hb3)
        | (go_at_call_of 15 (Value.agg #[Value.bool g', Value.slice a' xs'.length c', Value.bool h', Value.slice b' ys'.length d']); refine (toF g' h' a' b' c' d' xs' ys' _ ?_ ?_ ?_ ?_).mono ?_; exact hB.below B3; exact hB'.below B3; omega; omega; rintro e w4 ⟨p3, q3, p4, q4, rfl, o3, o4, _, hb4⟩; have B4 : Below w2.heap.size w2 w4 := B3.trans (hb4.mono B3.size); have n2 : w4.cell? ⟨w.heap.size, 0, none⟩ = some (.bool g) ∧ w4.cell? ⟨w.heap.size, 1, none⟩ = some (.slice a xs.length c) ∧ w4.cell? ⟨w.heap.size, 2, none⟩ = some (.bool h) ∧ w4.cell? ⟨w.heap.size, 3, none⟩ = some (.slice b ys.length d) ∧ w4.cell? ⟨w.heap.size + 1, 0, none⟩ = some (.bool g') ∧ w4.cell? ⟨w.heap.size + 1, 1, none⟩ = some (.slice a' xs'.length c') ∧ w4.cell? ⟨w.heap.size + 1, 2, none⟩ = some (.bool h') ∧ w4.cell? ⟨w.heap.size + 1, 3, none⟩ = some (.slice b' ys'.length d') := ⟨bat B4 k0.1, bat B4 k0.2.1, bat B4 k0.2.2.1, bat B4 k0.2.2.2.1, bat B4 k0.2.2.2.2.1, bat B4 k0.2.2.2.2.2.1, bat B4 k0.2.2.2.2.2.2.1, bat B4 k0.2.2.2.2.2.2.2⟩; have o1' := o1.below hb4; have o2' := o2.below hb4; clear hb4)
        | (go_at_call 24; refine (specCmpFrac g h g' h' p1 p2 p3 p4 q1 q2 q3 q4 xs ys xs' ys' _ o1'.toSees o2'.toSees o3.toSees o4.toSees).mono ?_; rintro e w5 ⟨rfl, hb5⟩; have B5 : Below w2.heap.size w2 w5 := B4.trans (hb5.mono B4.size); have n3 : w5.cell? ⟨w.heap.size, 0, none⟩ = some (.bool g) ∧ w5.cell? ⟨w.heap.size, 1, none⟩ = some (.slice a xs.length c) ∧ w5.cell? ⟨w.heap.size, 2, none⟩ = some (.bool h) ∧ w5.cell? ⟨w.heap.size, 3, none⟩ = some (.slice b ys.length d) ∧ w5.cell? ⟨w.heap.size + 1, 0, none⟩ = some (.bool g') ∧ w5.cell? ⟨w.heap.size + 1, 1, none⟩ = some (.slice a' xs'.length c') ∧ w5.cell? ⟨w.heap.size + 1, 2, none⟩ = some (.bool h') ∧ w5.cell? ⟨w.heap.size + 1, 3, none⟩ = some (.slice b' ys'.length d') := ⟨bat B5 k0.1, bat B5 k0.2.1, bat B5 k0.2.2.1, bat B5 k0.2.2.2.1, bat B5 k0.2.2.2.2.1, bat B5 k0.2.2.2.2.2.1, bat B5 k0.2.2.2.2.2.2.1, bat B5 k0.2.2.2.2.2.2.2⟩; rw [HR.out]; clear hb5))
      have hb := B5
      clear o1 o2 o1' o2' o3 o4 B3 B4 B5 n1 n2 n3 k0
      replace kA0 := bat hb kA0
      replace kA1 := bat hb kA1
      replace kA2 := bat hb kA2
      replace kA3 := bat hb kA3
      replace kB0 := bat hb kB0
      replace kB1 := bat hb kB1
      replace kB2 := bat hb kB2
      replace kB3 := bat hb kB3
      replace hA := hA.below hb
      replace hA' := hA'.below hb
      replace hB := hB.below hb
      replace hB' := hB'.below hb
      replace B := B.trans (hb.mono B.size)
      clear hb
      go_wp2_with fail
      refine (toF g h a b c d xs ys _ hA hA' (by omega) (by omega)).mono ?_
      rintro e w6 ⟨a6, c6, b6, d6, rfl, o6, o6', _, hb⟩
      replace kA0 := bat hb kA0
      replace kA1 := bat hb kA1
      replace kA2 := bat hb kA2
      replace kA3 := bat hb kA3
      replace kB0 := bat hb kB0
      replace kB1 := bat hb kB1
      replace kB2 := bat hb kB2
      replace kB3 := bat hb kB3
      replace hA := hA.below hb
      replace hA' := hA'.below hb
      replace hB := hB.below hb
      replace hB' := hB'.below hb
      replace B := B.trans (hb.mono B.size)
      clear hb
      have lA := World.block_lt_of_cell? _ _ kA0
      have lB := World.block_lt_of_cell? _ _ kB0
      go_wp2_with fail
      obtain ⟨kX0, kX1, kX2, kX3⟩ := fvar_new w6 g h a6 b6 xs.length ys.length c6 d6 36
      have hb := below1 w6 (.cells #[.bool g, .slice a6 xs.length c6, .bool h, .slice b6 ys.length d6] 36)
      replace kA0 := bat hb kA0
      replace kA1 := bat hb kA1
      replace kA2 := bat hb kA2
      replace kA3 := bat hb kA3
      replace kB0 := bat hb kB0
      replace kB1 := bat hb kB1
      replace kB2 := bat hb kB2
      replace kB3 := bat hb kB3
      replace hA := hA.below hb
      replace hA' := hA'.below hb
      replace hB := hB.below hb
      replace hB' := hB'.below hb
      replace o6 := o6.below hb
      replace o6' := o6'.below hb
      replace B := B.trans (hb.mono B.size)
      clear hb
      clear lA lB
      generalize w6.alloc (.cells #[.bool g, .slice a6 xs.length c6, .bool h, .slice b6 ys.length d6] 36) = W6 at *
      refine (toF g' h' a' b' c' d' xs' ys' _ hB hB' (by omega) (by omega)).mono ?_
      rintro e w7 ⟨a7, c7, b7, d7, rfl, o7, o7', _, hb⟩
      replace kA0 := bat hb kA0
      replace kA1 := bat hb kA1
      replace kA2 := bat hb kA2
      replace kA3 := bat hb kA3
      replace kB0 := bat hb kB0
      replace kB1 := bat hb kB1
      replace kB2 := bat hb kB2
      replace kB3 := bat hb kB3
      replace kX0 := bat hb kX0
      replace kX1 := bat hb kX1
      replace kX2 := bat hb kX2
      replace kX3 := bat hb kX3
      replace hA := hA.below hb
      replace hA' := hA'.below hb
      replace hB := hB.below hb
      replace hB' := hB'.below hb
      replace o6 := o6.below hb
      replace o6' := o6'.below hb
      replace B := B.trans (hb.mono B.size)
      clear hb
      have lA := World.block_lt_of_cell? _ _ kA0
      have lB := World.block_lt_of_cell? _ _ kB0
      have lX := World.block_lt_of_cell? _ _ kX0
      go_wp2_with fail
      obtain ⟨kY0, kY1, kY2, kY3⟩ := fvar_new w7 g' h' a7 b7 xs'.length ys'.length c7 d7 36
      have hb := below1 w7 (.cells #[.bool g', .slice a7 xs'.length c7, .bool h', .slice b7 ys'.length d7] 36)
      replace kA0 := bat hb kA0
      replace kA1 := bat hb kA1
      replace kA2 := bat hb kA2
      replace kA3 := bat hb kA3
      replace kB0 := bat hb kB0
      replace kB1 := bat hb kB1
      replace kB2 := bat hb kB2
      replace kB3 := bat hb kB3
      replace kX0 := bat hb kX0
      replace kX1 := bat hb kX1
      replace kX2 := bat hb kX2
      replace kX3 := bat hb kX3
      replace hA := hA.below hb
      replace hA' := hA'.below hb
      replace hB := hB.below hb
      replace hB' := hB'.below hb
      replace o6 := o6.below hb
      replace o6' := o6'.below hb
      replace o7 := o7.below hb
      replace o7' := o7'.below hb
      replace B := B.trans (hb.mono B.size)
      clear hb
      clear lA lB lX
      generalize w7.alloc (.cells #[.bool g', .slice a7 xs'.length c7, .bool h', .slice b7 ys'.length d7] 36) = W7 at *
      refine (implCmpFrac g h g' h' a6 b6 a7 b7 c6 d6 c7 d7 xs ys xs' ys' _ o6.toSees o6'.toSees o7.toSees o7'.toSees).mono ?_
      rintro e w8 ⟨rfl, hb⟩
      rw [HR.out]
      replace kA0 := bat hb kA0
      replace kA1 := bat hb kA1
      replace kA2 := bat hb kA2
      replace kA3 := bat hb kA3
      replace kB0 := bat hb kB0
      replace kB1 := bat hb kB1
      replace kB2 := bat hb kB2
      replace kB3 := bat hb kB3
      replace kX0 := bat hb kX0
      replace kX1 := bat hb kX1
      replace kX2 := bat hb kX2
      replace kX3 := bat hb kX3
      replace kY0 := bat hb kY0
      replace kY1 := bat hb kY1
      replace kY2 := bat hb kY2
      replace kY3 := bat hb kY3
      replace hA := hA.below hb
      replace hA' := hA'.below hb
      replace hB := hB.below hb
      replace hB' := hB'.below hb
      replace o6 := o6.below hb
      replace o6' := o6'.below hb
      replace o7 := o7.below hb
      replace o7' := o7'.below hb
      replace B := B.trans (hb.mono B.size)
      clear hb
      go_wp2_with fail
      have k0 : w8.cell? ⟨w6.heap.size, 0, none⟩ = some (.bool g) ∧ w8.cell? ⟨w6.heap.size, 1, none⟩ = some (.slice a6 xs.length c6) ∧ w8.cell? ⟨w6.heap.size, 2, none⟩ = some (.bool h) ∧ w8.cell? ⟨w6.heap.size, 3, none⟩ = some (.slice b6 ys.length d6) ∧ w8.cell? ⟨w.heap.size, 0, none⟩ = some (.bool g) ∧ w8.cell? ⟨w.heap.size, 1, none⟩ = some (.slice a xs.length c) ∧ w8.cell? ⟨w.heap.size, 2, none⟩ = some (.bool h) ∧ w8.cell? ⟨w.heap.size, 3, none⟩ = some (.slice b ys.length d) := ⟨kX0, kX1, kX2, kX3, kA0, kA1, kA2, kA3⟩
      go_region_held3 (fun w' => w'.cell? ⟨w6.heap.size, 0, none⟩ = some (.bool g) ∧ w'.cell? ⟨w6.heap.size, 1, none⟩ = some (.slice a6 xs.length c6) ∧ w'.cell? ⟨w6.heap.size, 2, none⟩ = some (.bool h) ∧ w'.cell? ⟨w6.heap.size, 3, none⟩ = some (.slice b6 ys.length d6) ∧ w'.cell? ⟨w.heap.size, 0, none⟩ = some (.bool g) ∧ w'.cell? ⟨w.heap.size, 1, none⟩ = some (.slice a xs.length c) ∧ w'.cell? ⟨w.heap.size, 2, none⟩ = some (.bool h) ∧ w'.cell? ⟨w.heap.size, 3, none⟩ = some (.slice b ys.length d))
        (first | exact k0 | exact n1 | exact n2 | (simp [*]))
        (first
        | (go_at_call 15; refine (toF g h a b c d xs ys _ ?_ ?_ ?_ ?_).mono ?_; exact hA.below (Below.refl _ _).drew; exact hA'.below (Below.refl _ _).drew; omega; omega; rintro e w9 ⟨aq, cq, ar, cr, rfl, oq, orr, _, hbq⟩; have n1 : w9.cell? ⟨w6.heap.size, 0, none⟩ = some (.bool g) ∧ w9.cell? ⟨w6.heap.size, 1, none⟩ = some (.slice a6 xs.length c6) ∧ w9.cell? ⟨w6.heap.size, 2, none⟩ = some (.bool h) ∧ w9.cell? ⟨w6.heap.size, 3, none⟩ = some (.slice b6 ys.length d6) ∧ w9.cell? ⟨w.heap.size, 0, none⟩ = some (.bool g) ∧ w9.cell? ⟨w.heap.size, 1, none⟩ = some (.slice a xs.length c) ∧ w9.cell? ⟨w.heap.size, 2, none⟩ = some (.bool h) ∧ w9.cell? ⟨w.heap.size, 3, none⟩ = some (.slice b ys.length d) := ⟨bat ((Below.refl _ _).drew.trans hbq) k0.1, bat ((Below.refl _ _).drew.trans hbq) k0.2.1, bat ((Below.refl _ _).drew.trans hbq) k0.2.2.1, bat ((Below.refl _ _).drew.trans hbq) k0.2.2.2.1, bat ((Below.refl _ _).drew.trans hbq) k0.2.2.2.2.1, bat ((Below.refl _ _).drew.trans hbq) k0.2.2.2.2.2.1, bat ((Below.refl _ _).drew.trans hbq) k0.2.2.2.2.2.2.1, bat ((Below.refl _ _).drew.trans hbq) k0.2.2.2.2.2.2.2⟩)
        | (go_at_call 17; refine (eqF g h a6 aq b6 ar c6 cq d6 cr xs ys _ ?_ oq.toSees ?_ orr.toSees).mono ?_; exact o6.toSees.below ((Below.refl _ _).drew.trans hbq); exact o6'.toSees.below ((Below.refl _ _).drew.trans hbq); rintro e w10 ⟨rfl, hbr⟩; have n2 : w10.cell? ⟨w6.heap.size, 0, none⟩ = some (.bool g) ∧ w10.cell? ⟨w6.heap.size, 1, none⟩ = some (.slice a6 xs.length c6) ∧ w10.cell? ⟨w6.heap.size, 2, none⟩ = some (.bool h) ∧ w10.cell? ⟨w6.heap.size, 3, none⟩ = some (.slice b6 ys.length d6) ∧ w10.cell? ⟨w.heap.size, 0, none⟩ = some (.bool g) ∧ w10.cell? ⟨w.heap.size, 1, none⟩ = some (.slice a xs.length c) ∧ w10.cell? ⟨w.heap.size, 2, none⟩ = some (.bool h) ∧ w10.cell? ⟨w.heap.size, 3, none⟩ = some (.slice b ys.length d) := ⟨bat hbr n1.1, bat hbr n1.2.1, bat hbr n1.2.2.1, bat hbr n1.2.2.2.1, bat hbr n1.2.2.2.2.1, bat hbr n1.2.2.2.2.2.1, bat hbr n1.2.2.2.2.2.2.1, bat hbr n1.2.2.2.2.2.2.2⟩))
      have hb := (Below.refl _ _).drew.trans (hbq.trans (hbr.mono hbq.size))
      clear hbq hbr n1 n2 oq orr k0
      replace kA0 := bat hb kA0
      replace kA1 := bat hb kA1
      replace kA2 := bat hb kA2
      replace kA3 := bat hb kA3
      replace kB0 := bat hb kB0
      replace kB1 := bat hb kB1
      replace kB2 := bat hb kB2
      replace kB3 := bat hb kB3
      replace kX0 := bat hb kX0
      replace kX1 := bat hb kX1
      replace kX2 := bat hb kX2
      replace kX3 := bat hb kX3
      replace kY0 := bat hb kY0
      replace kY1 := bat hb kY1
      replace kY2 := bat hb kY2
      replace kY3 := bat hb kY3
      replace hA := hA.below hb
      replace hA' := hA'.below hb
      replace hB := hB.below hb
      replace hB' := hB'.below hb
      replace o6 := o6.below hb
      replace o6' := o6'.below hb
      replace o7 := o7.below hb
      replace o7' := o7'.below hb
      replace B := B.trans (hb.mono B.size)
      clear hb
      go_wp2_with fail
      have k0 : w10.cell? ⟨w7.heap.size, 0, none⟩ = some (.bool g') ∧ w10.cell? ⟨w7.heap.size, 1, none⟩ = some (.slice a7 xs'.length c7) ∧ w10.cell? ⟨w7.heap.size, 2, none⟩ = some (.bool h') ∧ w10.cell? ⟨w7.heap.size, 3, none⟩ = some (.slice b7 ys'.length d7) ∧ w10.cell? ⟨w.heap.size + 1, 0, none⟩ = some (.bool g') ∧ w10.cell? ⟨w.heap.size + 1, 1, none⟩ = some (.slice a' xs'.length c') ∧ w10.cell? ⟨w.heap.size + 1, 2, none⟩ = some (.bool h') ∧ w10.cell? ⟨w.heap.size + 1, 3, none⟩ = some (.slice b' ys'.length d') := ⟨kY0, kY1, kY2, kY3, kB0, kB1, kB2, kB3⟩
      go_region_held3 (fun w' => w'.cell? ⟨w7.heap.size, 0, none⟩ = some (.bool g') ∧ w'.cell? ⟨w7.heap.size, 1, none⟩ = some (.slice a7 xs'.length c7) ∧ w'.cell? ⟨w7.heap.size, 2, none⟩ = some (.bool h') ∧ w'.cell? ⟨w7.heap.size, 3, none⟩ = some (.slice b7 ys'.length d7) ∧ w'.cell? ⟨w.heap.size + 1, 0, none⟩ = some (.bool g') ∧ w'.cell? ⟨w.heap.size + 1, 1, none⟩ = some (.slice a' xs'.length c') ∧ w'.cell? ⟨w.heap.size + 1, 2, none⟩ = some (.bool h') ∧ w'.cell? ⟨w.heap.size + 1, 3, none⟩ = some (.slice b' ys'.length d'))
        (first | exact k0 | exact n1 | exact n2 | (simp [*]))
        (first
        | (go_at_call 15; refine (toF g' h' a' b' c' d' xs' ys' _ ?_ ?_ ?_ ?_).mono ?_; exact hB.below (Below.refl _ _).drew; exact hB'.below (Below.refl _ _).drew; omega; omega; rintro e w11 ⟨aq, cq, ar, cr, rfl, oq, orr, _, hbq⟩; have n1 : w11.cell? ⟨w7.heap.size, 0, none⟩ = some (.bool g') ∧ w11.cell? ⟨w7.heap.size, 1, none⟩ = some (.slice a7 xs'.length c7) ∧ w11.cell? ⟨w7.heap.size, 2, none⟩ = some (.bool h') ∧ w11.cell? ⟨w7.heap.size, 3, none⟩ = some (.slice b7 ys'.length d7) ∧ w11.cell? ⟨w.heap.size + 1, 0, none⟩ = some (.bool g') ∧ w11.cell? ⟨w.heap.size + 1, 1, none⟩ = some (.slice a' xs'.length c') ∧ w11.cell? ⟨w.heap.size + 1, 2, none⟩ = some (.bool h') ∧ w11.cell? ⟨w.heap.size + 1, 3, none⟩ = some (.slice b' ys'.length d') := ⟨bat ((Below.refl _ _).drew.trans hbq) k0.1, bat ((Below.refl _ _).drew.trans hbq) k0.2.1, bat ((Below.refl _ _).drew.trans hbq) k0.2.2.1, bat ((Below.refl _ _).drew.trans hbq) k0.2.2.2.1, bat ((Below.refl _ _).drew.trans hbq) k0.2.2.2.2.1, bat ((Below.refl _ _).drew.trans hbq) k0.2.2.2.2.2.1, bat ((Below.refl _ _).drew.trans hbq) k0.2.2.2.2.2.2.1, bat ((Below.refl _ _).drew.trans hbq) k0.2.2.2.2.2.2.2⟩)
        | (go_at_call 17; refine (eqF g' h' a7 aq b7 ar c7 cq d7 cr xs' ys' _ ?_ oq.toSees ?_ orr.toSees).mono ?_; exact o7.toSees.below ((Below.refl _ _).drew.trans hbq); exact o7'.toSees.below ((Below.refl _ _).drew.trans hbq); rintro e w12 ⟨rfl, hbr⟩; have n2 : w12.cell? ⟨w7.heap.size, 0, none⟩ = some (.bool g') ∧ w12.cell? ⟨w7.heap.size, 1, none⟩ = some (.slice a7 xs'.length c7) ∧ w12.cell? ⟨w7.heap.size, 2, none⟩ = some (.bool h') ∧ w12.cell? ⟨w7.heap.size, 3, none⟩ = some (.slice b7 ys'.length d7) ∧ w12.cell? ⟨w.heap.size + 1, 0, none⟩ = some (.bool g') ∧ w12.cell? ⟨w.heap.size + 1, 1, none⟩ = some (.slice a' xs'.length c') ∧ w12.cell? ⟨w.heap.size + 1, 2, none⟩ = some (.bool h') ∧ w12.cell? ⟨w.heap.size + 1, 3, none⟩ = some (.slice b' ys'.length d') := ⟨bat hbr n1.1, bat hbr n1.2.1, bat hbr n1.2.2.1, bat hbr n1.2.2.2.1, bat hbr n1.2.2.2.2.1, bat hbr n1.2.2.2.2.2.1, bat hbr n1.2.2.2.2.2.2.1, bat hbr n1.2.2.2.2.2.2.2⟩))
      have hb := (Below.refl _ _).drew.trans (hbq.trans (hbr.mono hbq.size))
      clear hbq hbr n1 n2 oq orr k0
      replace kA0 := bat hb kA0
      replace kA1 := bat hb kA1
      replace kA2 := bat hb kA2
      replace kA3 := bat hb kA3
      replace kB0 := bat hb kB0
      replace kB1 := bat hb kB1
      replace kB2 := bat hb kB2
      replace kB3 := bat hb kB3
      replace kX0 := bat hb kX0
      replace kX1 := bat hb kX1
      replace kX2 := bat hb kX2
      replace kX3 := bat hb kX3
      replace kY0 := bat hb kY0
      replace kY1 := bat hb kY1
      replace kY2 := bat hb kY2
      replace kY3 := bat hb kY3
      replace hA := hA.below hb
      replace hA' := hA'.below hb
      replace hB := hB.below hb
      replace hB' := hB'.below hb
      replace o6 := o6.below hb
      replace o6' := o6'.below hb
      replace o7 := o7.below hb
      replace o7' := o7'.below hb
      replace B := B.trans (hb.mono B.size)
      clear hb
      go_wp2
      go_ret
      exact ⟨rfl, B⟩
    · have B := below2 w (.cells #[.bool g, .slice a xs.length c, .bool h, .slice b ys.length d] 32) (.cells #[.bool g', .slice a' xs'.length c', .bool h', .slice b' ys'.length d'] 32)
      have k0 := box8 w g h g' h' a b a' b' xs.length ys.length xs'.length ys'.length c d c' d' 32
      obtain ⟨kA0, kA1, kA2, kA3, kB0, kB1, kB2, kB3⟩ := k0
      clear h1 h2 k1 k2
      go_enter Try.func7, Try.ntmps7
      go_wp2_with fail
      generalize (w.alloc (.cells #[.bool g, .slice a xs.length c, .bool h, .slice b ys.length d] 32)).alloc (.cells #[.bool g', .slice a' xs'.length c', .bool h', .slice b' ys'.length d'] 32) = W at *
      refine (szF g h a b c d xs.length ys.length 1048576 _ (by omega) m1 m2).mono ?_
      rintro e w1 ⟨rfl, hb⟩
      rw [if_neg (by omega)]
      replace kB0 := bat hb kB0
      replace kB1 := bat hb kB1
      replace kB2 := bat hb kB2
      replace kB3 := bat hb kB3
      replace B := B.trans (hb.mono B.size)
      clear hb
      go_wp2_with fail
      refine (szF g' h' a' b' c' d' xs'.length ys'.length (1048576 - xs.length - ys.length) _ (by omega) m3 m4).mono ?_
      rintro e w2 ⟨rfl, hb⟩
      rw [if_pos (by omega)]
      replace B := B.trans (hb.mono B.size)
      clear hb
      go_wp2
      go_ret
      exact ⟨rfl, B⟩
  · have B := below2 w (.cells #[.bool g, .slice a xs.length c, .bool h, .slice b ys.length d] 32) (.cells #[.bool g', .slice a' xs'.length c', .bool h', .slice b' ys'.length d'] 32)
    clear h1 h2 k1 k2
    go_enter Try.func7, Try.ntmps7
    go_wp2_with fail
    refine (szF g h a b c d xs.length ys.length 1048576 _ (by omega) m1 m2).mono ?_
    rintro e w1 ⟨rfl, hb⟩
    rw [if_pos (by omega)]
    go_wp2
    go_ret
    exact ⟨rfl, B.trans (hb.mono (by simp; omega))⟩
end Go.Proofs.Ytlpdenaiclocfaj
