/- The law on FloorFrac: at every argument the program's FloorFrac is the specification's, limb by limb; it writes into no argument; its answer owns its memory. -/
import Derived.Test.YtlpdenaiclocfakFracM
import Derived.Test.YtlpdenaiclocfakFloor
import Derived.Test.YtlpdenaiclocfakSFloor
import Derived.Deep.RegionHeld3
namespace Go.Proofs.Ytlpdenaiclocfak
open Go.RowKit

theorem below_two {base : Nat} {w wm w' : World} {a b : Option Addr} {c d : Nat} {xs ys : List Int} (h1 : Own base w a c xs) (h2 : Own base w b d ys) (g1 : w.grownBy wm (rowOf a xs)) (g2 : wm.grownBy w' (rowOf b ys)) (hb : base ≤ w.heap.size) : Below base w w' :=
  (below_of_grown h1 g1 hb).trans ⟨g2.os, g2.tape, g2.output, g2.size, fun i hi => g2.block i (Nat.lt_of_lt_of_le hi (Nat.le_trans hb g1.size)) (row_ne_low h2 hi)⟩
theorem floor_len {g h : Bool} {xs ys zs : List Int} (hx : Lim xs) (hz : Lim zs ∧ Nrm zs ∧ val zs = mg (fN g xs h ys / fD g xs h ys)) : zs.length ≤ 25 := by
  refine len_le hz.1 hz.2.1 ?_
  rw [hz.2.2]
  have hd := fD_pos g xs h ys
  have hb : - 4294967296 ^ 24 < fN g xs h ys ∧ fN g xs h ys < 4294967296 ^ 24 := by
    unfold fN
    split
    · exact tk_bounds g xs hx
    · have := p_pos 24; exact ⟨by omega, by omega⟩
  generalize fN g xs h ys = n at *
  generalize fD g xs h ys = m at *
  have h5 := p_pos 24
  rw [show (4294967296 : Int) ^ 25 = 4294967296 ^ 24 * 4294967296 from Int.pow_succ _ _]
  generalize (4294967296 : Int) ^ 24 = Q at *
  have e := Int.mul_ediv_add_emod n m
  have r0 := Int.emod_nonneg n (show m ≠ 0 by omega)
  have r1 := Int.emod_lt_of_pos n hd
  unfold mg
  split
  · next hneg =>
    have : n < m * (n / m + 1) := by rw [Int.mul_add, Int.mul_one]; omega
    have h7 : m * (n / m + 1) ≤ 1 * (n / m + 1) ∨ n / m + 1 = 0 ∨ True := .inr (.inr trivial)
    have h8 : n / m + 1 ≤ 0 := by omega
    have h9 : m * (n / m + 1) ≤ 1 * (n / m + 1) := by
      have := Int.mul_le_mul_of_nonpos_right (show (1 : Int) ≤ m by omega) h8
      omega
    have hq : n / m * 1 ≥ n := by
      by_cases hn : 0 ≤ n
      · have := Int.ediv_nonneg hn (show 0 ≤ m by omega); omega
      · have h10 : m * (n / m) ≤ 1 * (n / m) := by
          have := Int.mul_le_mul_of_nonpos_right (show (1 : Int) ≤ m by omega) (show n / m ≤ 0 by omega)
          omega
        omega
    omega
  · next hpos =>
    have h10 : 1 * (n / m) ≤ m * (n / m) := Int.mul_le_mul_of_nonneg_right (by omega) (by omega)
    omega

set_option maxRecDepth 20000 in
set_option maxHeartbeats 8000000 in
theorem lawFloorFrac (g h : Bool) (a b : Option Addr) (c d : Nat) (xs ys : List Int) (w : World) (h1 : Came w a c xs) (h2 : Came w b d ys) :
    Calls Try.prog 5 #[.agg #[.bool g, .slice a xs.length c, .bool h, .slice b ys.length d]] w fun e w' => e = .returned (.bool true) ∧ Below w.heap.size w w' := by
  have m1 : xs.length ≤ 9223372036854775807 := by have := h1.max; have := h1.fits; unfold maxLen at *; omega
  have m2 : ys.length ≤ 9223372036854775807 := by have := h2.max; have := h2.fits; unfold maxLen at *; omega
  obtain ⟨gz, HG⟩ : ∃ gz, Hid (decide ((fN g xs h ys / fD g xs h ys) < 0) = gz) := ⟨_, rfl⟩
  have HB : Hid (∀ zs, Lim zs ∧ Nrm zs ∧ val zs = mg (fN g xs h ys / fD g xs h ys) → zs.length ≤ 25) := fun zs hz => floor_len h1.lim hz
  have B := below1 w (.cells #[.bool g, .slice a xs.length c, .bool h, .slice b ys.length d] 26)
  obtain ⟨kA0, kA1, kA2, kA3⟩ := fvar_new w g h a b xs.length ys.length c d 26
  by_cases hs : xs.length + ys.length ≤ 1048576
  · have hA := h1.below B
    have hA' := h2.below B
    clear h1 h2
    go_enter Try.func5, Try.ntmps5
    go_wp2_with fail
    generalize w.alloc (.cells #[.bool g, .slice a xs.length c, .bool h, .slice b ys.length d] 26) = W at *
    refine (szF g h a b c d xs.length ys.length 1048576 _ (by omega) m1 m2).mono ?_
    rintro e w1 ⟨rfl, hb⟩
    rw [if_neg (by omega)]
    replace kA0 := bat hb kA0
    replace kA1 := bat hb kA1
    replace kA2 := bat hb kA2
    replace kA3 := bat hb kA3
    replace hA := hA.below hb
    replace hA' := hA'.below hb
    replace B := B.trans (hb.mono B.size)
    clear hb
    go_wp2_with fail
    refine (toF g h a b c d xs ys _ hA hA' (by omega) (by omega)).mono ?_
    rintro e w2 ⟨a2, c2, b2, d2, rfl, o2, o2', _, hb⟩
    replace kA0 := bat hb kA0
    replace kA1 := bat hb kA1
    replace kA2 := bat hb kA2
    replace kA3 := bat hb kA3
    replace hA := hA.below hb
    replace hA' := hA'.below hb
    replace B := B.trans (hb.mono B.size)
    clear hb
    go_wp2_with fail
    refine (specFloorFrac g h a2 b2 c2 d2 xs ys _ o2.toSees o2'.toSees).mono ?_
    rintro e w3 ⟨v0, rfl, hI0, hb⟩
    obtain ⟨a3, c3, zs, rfl, ho0, hn, hv⟩ := hI0
    have hl2 : zs.length ≤ 25 := HB.out zs ⟨ho0.lim, hn, hv⟩
    have HV : Hid (Lim zs ∧ Nrm zs ∧ val zs = mg (fN g xs h ys / fD g xs h ys)) := ⟨ho0.lim, hn, hv⟩
    rw [HG.out]
    clear hv hn o2 o2'
    replace kA0 := bat hb kA0
    replace kA1 := bat hb kA1
    replace kA2 := bat hb kA2
    replace kA3 := bat hb kA3
    replace hA := hA.below hb
    replace hA' := hA'.below hb
    replace B := B.trans (hb.mono B.size)
    clear hb
    have l_kA := World.block_lt_of_cell? _ _ kA0
    go_wp2_with fail
    clear l_kA
    obtain ⟨kW0, kW1⟩ := var_new w3 gz a3 zs.length c3 28
    have hb := below1 w3 (.cells #[.bool gz, .slice a3 zs.length c3] 28)
    replace kA0 := bat hb kA0
    replace kA1 := bat hb kA1
    replace kA2 := bat hb kA2
    replace kA3 := bat hb kA3
    replace hA := hA.below hb
    replace hA' := hA'.below hb
    replace ho0 := ho0.below hb
    replace B := B.trans (hb.mono B.size)
    clear hb
    generalize w3.alloc (.cells #[.bool gz, .slice a3 zs.length c3] 28) = W3 at *
    refine (toF g h a b c d xs ys _ hA hA' (by omega) (by omega)).mono ?_
    rintro e w4 ⟨a4, c4, b4, d4, rfl, ox, ox', hap, hb⟩
    have ap_hA_ox := apart_later hA ox
    have ap_hA_ox' := apart_later hA ox'
    have ap_hA'_ox := apart_later hA' ox
    have ap_hA'_ox' := apart_later hA' ox'
    have ap_ho0_ox := apart_later ho0.toCame ox
    have ap_ho0_ox' := apart_later ho0.toCame ox'
    have r_kA_ox := row_ne_low ox (World.block_lt_of_cell? _ _ kA0)
    have r_kA_ox' := row_ne_low ox' (World.block_lt_of_cell? _ _ kA0)
    have r_kW_ox := row_ne_low ox (World.block_lt_of_cell? _ _ kW0)
    have r_kW_ox' := row_ne_low ox' (World.block_lt_of_cell? _ _ kW0)
    have sB := B.size
    have SX := hb.size
    have HAP : Hid (∀ q off, a4 = some ⟨q, off, none⟩ → xs ≠ [] → rowOf b4 ys ≠ some q) := hap
    clear hap
    replace kA0 := bat hb kA0
    replace kA1 := bat hb kA1
    replace kA2 := bat hb kA2
    replace kA3 := bat hb kA3
    replace kW0 := bat hb kW0
    replace kW1 := bat hb kW1
    replace hA := hA.below hb
    replace hA' := hA'.below hb
    replace ho0 := ho0.below hb
    replace B := B.trans (hb.mono B.size)
    clear hb
    have l_kA := World.block_lt_of_cell? _ _ kA0
    have l_kW := World.block_lt_of_cell? _ _ kW0
    go_wp2_with fail
    clear l_kA l_kW
    obtain ⟨kX0, kX1, kX2, kX3⟩ := fvar_new w4 g h a4 b4 xs.length ys.length c4 d4 30
    have hb := below1 w4 (.cells #[.bool g, .slice a4 xs.length c4, .bool h, .slice b4 ys.length d4] 30)
    replace kA0 := bat hb kA0
    replace kA1 := bat hb kA1
    replace kA2 := bat hb kA2
    replace kA3 := bat hb kA3
    replace kW0 := bat hb kW0
    replace kW1 := bat hb kW1
    replace hA := hA.below hb
    replace hA' := hA'.below hb
    replace ho0 := ho0.below hb
    replace ox := ox.below hb
    replace ox' := ox'.below hb
    replace SX := Nat.le_trans SX hb.size
    replace B := B.trans (hb.mono B.size)
    clear hb
    generalize w4.alloc (.cells #[.bool g, .slice a4 xs.length c4, .bool h, .slice b4 ys.length d4] 30) = W4 at *
    refine (implFloorFrac g h a4 b4 c4 d4 xs ys _ ox.toSees ox'.toSees).mono ?_
    rintro e w5 ⟨v1, rfl, hI1, hb⟩
    obtain ⟨a5, c5, rfl, hog⟩ := hI1.as HV.out.1 HV.out.2.1 HV.out.2.2
    rw [HG.out]
    have ap_hog_ox := apart_before ox.toCame hog
    have ap_hog_ox' := apart_before ox'.toCame hog
    have ap_hA_hog := apart_later hA hog
    have ap_hA'_hog := apart_later hA' hog
    have ap_ho0_hog := apart_later ho0.toCame hog
    have r_kA_hog := row_ne_low hog (World.block_lt_of_cell? _ _ kA0)
    have r_kW_hog := row_ne_low hog (World.block_lt_of_cell? _ _ kW0)
    have sG := B.size
    have SG := hb.size
    clear hI1
    replace kA0 := bat hb kA0
    replace kA1 := bat hb kA1
    replace kA2 := bat hb kA2
    replace kA3 := bat hb kA3
    replace kW0 := bat hb kW0
    replace kW1 := bat hb kW1
    replace kX0 := bat hb kX0
    replace kX1 := bat hb kX1
    replace kX2 := bat hb kX2
    replace kX3 := bat hb kX3
    replace hA := hA.below hb
    replace hA' := hA'.below hb
    replace ho0 := ho0.below hb
    replace ox := ox.below hb
    replace ox' := ox'.below hb
    replace SX := Nat.le_trans SX hb.size
    replace B := B.trans (hb.mono B.size)
    clear hb
    have l_kA := World.block_lt_of_cell? _ _ kA0
    have l_kW := World.block_lt_of_cell? _ _ kW0
    have l_kX := World.block_lt_of_cell? _ _ kX0
    go_wp2_with fail
    clear l_kA l_kW l_kX
    have r_kG_ox := row_ne_high ox.toCame (Nat.le_refl _)
    have r_kG_ox' := row_ne_high ox'.toCame (Nat.le_refl _)
    have r_kG_hog := row_ne_high hog.toCame (Nat.le_refl _)
    obtain ⟨kG0, kG1⟩ := var_new w5 gz a5 zs.length c5 28
    have hb := below1 w5 (.cells #[.bool gz, .slice a5 zs.length c5] 28)
    replace kA0 := bat hb kA0
    replace kA1 := bat hb kA1
    replace kA2 := bat hb kA2
    replace kA3 := bat hb kA3
    replace kW0 := bat hb kW0
    replace kW1 := bat hb kW1
    replace kX0 := bat hb kX0
    replace kX1 := bat hb kX1
    replace kX2 := bat hb kX2
    replace kX3 := bat hb kX3
    replace hA := hA.below hb
    replace hA' := hA'.below hb
    replace ho0 := ho0.below hb
    replace ox := ox.below hb
    replace ox' := ox'.below hb
    replace hog := hog.below hb
    replace SX := Nat.le_trans SX hb.size
    replace SG := Nat.le_trans SG hb.size
    replace B := B.trans (hb.mono B.size)
    clear hb
    generalize w5.alloc (.cells #[.bool gz, .slice a5 zs.length c5] 28) = W5 at *
    refine (eqN gz a5 a3 c5 c3 zs _ hog.toSees ho0.toSees).mono ?_
    rintro e w6 ⟨rfl, hb⟩
    replace kA0 := bat hb kA0
    replace kA1 := bat hb kA1
    replace kA2 := bat hb kA2
    replace kA3 := bat hb kA3
    replace kW0 := bat hb kW0
    replace kW1 := bat hb kW1
    replace kX0 := bat hb kX0
    replace kX1 := bat hb kX1
    replace kX2 := bat hb kX2
    replace kX3 := bat hb kX3
    replace kG0 := bat hb kG0
    replace kG1 := bat hb kG1
    replace hA := hA.below hb
    replace hA' := hA'.below hb
    replace ho0 := ho0.below hb
    replace ox := ox.below hb
    replace ox' := ox'.below hb
    replace hog := hog.below hb
    replace SX := Nat.le_trans SX hb.size
    replace SG := Nat.le_trans SG hb.size
    replace B := B.trans (hb.mono B.size)
    clear hb
    go_wp2_with fail
    have k0 : w6.cell? ⟨w4.heap.size, 0, none⟩ = some (.bool g) ∧ w6.cell? ⟨w4.heap.size, 1, none⟩ = some (.slice a4 xs.length c4) ∧ w6.cell? ⟨w4.heap.size, 2, none⟩ = some (.bool h) ∧ w6.cell? ⟨w4.heap.size, 3, none⟩ = some (.slice b4 ys.length d4) ∧ w6.cell? ⟨w.heap.size, 0, none⟩ = some (.bool g) ∧ w6.cell? ⟨w.heap.size, 1, none⟩ = some (.slice a xs.length c) ∧ w6.cell? ⟨w.heap.size, 2, none⟩ = some (.bool h) ∧ w6.cell? ⟨w.heap.size, 3, none⟩ = some (.slice b ys.length d) := ⟨kX0, kX1, kX2, kX3, kA0, kA1, kA2, kA3⟩
    go_region_held3 (fun w' => w'.cell? ⟨w4.heap.size, 0, none⟩ = some (.bool g) ∧ w'.cell? ⟨w4.heap.size, 1, none⟩ = some (.slice a4 xs.length c4) ∧ w'.cell? ⟨w4.heap.size, 2, none⟩ = some (.bool h) ∧ w'.cell? ⟨w4.heap.size, 3, none⟩ = some (.slice b4 ys.length d4) ∧ w'.cell? ⟨w.heap.size, 0, none⟩ = some (.bool g) ∧ w'.cell? ⟨w.heap.size, 1, none⟩ = some (.slice a xs.length c) ∧ w'.cell? ⟨w.heap.size, 2, none⟩ = some (.bool h) ∧ w'.cell? ⟨w.heap.size, 3, none⟩ = some (.slice b ys.length d))
      (first | exact k0 | exact n1 | exact n2 | (simp [*]))
      (first
      | (go_at_call 8; refine (toF g h a b c d xs ys _ ?_ ?_ ?_ ?_).mono ?_; exact hA.below (Below.refl _ _).drew; exact hA'.below (Below.refl _ _).drew; omega; omega; rintro e w7 ⟨aq, cq, ar, cr, rfl, oq, orr, _, hbq⟩; have n1 : w7.cell? ⟨w4.heap.size, 0, none⟩ = some (.bool g) ∧ w7.cell? ⟨w4.heap.size, 1, none⟩ = some (.slice a4 xs.length c4) ∧ w7.cell? ⟨w4.heap.size, 2, none⟩ = some (.bool h) ∧ w7.cell? ⟨w4.heap.size, 3, none⟩ = some (.slice b4 ys.length d4) ∧ w7.cell? ⟨w.heap.size, 0, none⟩ = some (.bool g) ∧ w7.cell? ⟨w.heap.size, 1, none⟩ = some (.slice a xs.length c) ∧ w7.cell? ⟨w.heap.size, 2, none⟩ = some (.bool h) ∧ w7.cell? ⟨w.heap.size, 3, none⟩ = some (.slice b ys.length d) := ⟨bat ((Below.refl _ _).drew.trans hbq) k0.1, bat ((Below.refl _ _).drew.trans hbq) k0.2.1, bat ((Below.refl _ _).drew.trans hbq) k0.2.2.1, bat ((Below.refl _ _).drew.trans hbq) k0.2.2.2.1, bat ((Below.refl _ _).drew.trans hbq) k0.2.2.2.2.1, bat ((Below.refl _ _).drew.trans hbq) k0.2.2.2.2.2.1, bat ((Below.refl _ _).drew.trans hbq) k0.2.2.2.2.2.2.1, bat ((Below.refl _ _).drew.trans hbq) k0.2.2.2.2.2.2.2⟩)
      | (go_at_call 10; refine (eqF g h a4 aq b4 ar c4 cq d4 cr xs ys _ ?_ oq.toSees ?_ orr.toSees).mono ?_; exact ox.toSees.below ((Below.refl _ _).drew.trans hbq); exact ox'.toSees.below ((Below.refl _ _).drew.trans hbq); rintro e w8 ⟨rfl, hbr⟩; have n2 : w8.cell? ⟨w4.heap.size, 0, none⟩ = some (.bool g) ∧ w8.cell? ⟨w4.heap.size, 1, none⟩ = some (.slice a4 xs.length c4) ∧ w8.cell? ⟨w4.heap.size, 2, none⟩ = some (.bool h) ∧ w8.cell? ⟨w4.heap.size, 3, none⟩ = some (.slice b4 ys.length d4) ∧ w8.cell? ⟨w.heap.size, 0, none⟩ = some (.bool g) ∧ w8.cell? ⟨w.heap.size, 1, none⟩ = some (.slice a xs.length c) ∧ w8.cell? ⟨w.heap.size, 2, none⟩ = some (.bool h) ∧ w8.cell? ⟨w.heap.size, 3, none⟩ = some (.slice b ys.length d) := ⟨bat hbr n1.1, bat hbr n1.2.1, bat hbr n1.2.2.1, bat hbr n1.2.2.2.1, bat hbr n1.2.2.2.2.1, bat hbr n1.2.2.2.2.2.1, bat hbr n1.2.2.2.2.2.2.1, bat hbr n1.2.2.2.2.2.2.2⟩))
    have hb := (Below.refl _ _).drew.trans (hbq.trans (hbr.mono hbq.size))
    clear hbq hbr n1 n2 oq orr k0
    replace kA0 := bat hb kA0
    replace kA1 := bat hb kA1
    replace kA2 := bat hb kA2
    replace kA3 := bat hb kA3
    replace kW0 := bat hb kW0
    replace kW1 := bat hb kW1
    replace kX0 := bat hb kX0
    replace kX1 := bat hb kX1
    replace kX2 := bat hb kX2
    replace kX3 := bat hb kX3
    replace kG0 := bat hb kG0
    replace kG1 := bat hb kG1
    replace hA := hA.below hb
    replace hA' := hA'.below hb
    replace ho0 := ho0.below hb
    replace ox := ox.below hb
    replace ox' := ox'.below hb
    replace hog := hog.below hb
    replace SX := Nat.le_trans SX hb.size
    replace SG := Nat.le_trans SG hb.size
    replace B := B.trans (hb.mono B.size)
    clear hb
    go_wp2_with fail
    refine (markF _ g h a4 b4 c4 d4 xs ys 1 _ ox ox' HAP.out (by decide) (by omega)).mono ?_
    rintro e w9 ⟨rfl, wm, g1, g2, _, _⟩
    replace B := B.trans ((below_two ox ox' g1 g2 SX).mono sB)
    replace kA0 := g2.cell (g1.cell kA0 r_kA_ox) r_kA_ox'
    replace kA1 := g2.cell (g1.cell kA1 r_kA_ox) r_kA_ox'
    replace kA2 := g2.cell (g1.cell kA2 r_kA_ox) r_kA_ox'
    replace kA3 := g2.cell (g1.cell kA3 r_kA_ox) r_kA_ox'
    replace kW0 := g2.cell (g1.cell kW0 r_kW_ox) r_kW_ox'
    replace kW1 := g2.cell (g1.cell kW1 r_kW_ox) r_kW_ox'
    replace kG0 := g2.cell (g1.cell kG0 r_kG_ox) r_kG_ox'
    replace kG1 := g2.cell (g1.cell kG1 r_kG_ox) r_kG_ox'
    replace hA := (hA.kept g1 ap_hA_ox).kept g2 ap_hA_ox'
    replace hA' := (hA'.kept g1 ap_hA'_ox).kept g2 ap_hA'_ox'
    replace ho0 := (ho0.kept g1 ap_ho0_ox).kept g2 ap_ho0_ox'
    replace hog := (hog.kept g1 ap_hog_ox).kept g2 ap_hog_ox'
    replace SG := Nat.le_trans SG (Nat.le_trans g1.size g2.size)
    clear g1 g2 ox ox' HAP sB SX kX0 kX1 kX2 kX3 r_kA_ox r_kA_ox' r_kW_ox r_kW_ox' r_kG_ox r_kG_ox' ap_hA_ox ap_hA_ox' ap_hA'_ox ap_hA'_ox' ap_ho0_ox ap_ho0_ox' ap_hog_ox ap_hog_ox'
    have hkk : decide ((1 : Int) + xs.length + ys.length < 0) = false := by simp; omega
    go_wp2_with fail
    clear hkk
    refine (eqN gz a5 a3 c5 c3 zs _ hog.toSees ho0.toSees).mono ?_
    rintro e w10 ⟨rfl, hb⟩
    replace kA0 := bat hb kA0
    replace kA1 := bat hb kA1
    replace kA2 := bat hb kA2
    replace kA3 := bat hb kA3
    replace kW0 := bat hb kW0
    replace kW1 := bat hb kW1
    replace kG0 := bat hb kG0
    replace kG1 := bat hb kG1
    replace hA := hA.below hb
    replace hA' := hA'.below hb
    replace ho0 := ho0.below hb
    replace hog := hog.below hb
    replace SG := Nat.le_trans SG hb.size
    replace B := B.trans (hb.mono B.size)
    clear hb
    go_wp2_with fail
    refine (markN _ gz a5 c5 zs 1 _ hog (by decide) (by omega)).mono ?_
    rintro e w11 ⟨rfl, hog', hg⟩
    replace B := B.trans ((below_of_grown hog hg SG).mono sG)
    replace kA0 := hg.cell kA0 r_kA_hog
    replace kA1 := hg.cell kA1 r_kA_hog
    replace kA2 := hg.cell kA2 r_kA_hog
    replace kA3 := hg.cell kA3 r_kA_hog
    replace kW0 := hg.cell kW0 r_kW_hog
    replace kW1 := hg.cell kW1 r_kW_hog
    replace kG0 := hg.cell kG0 r_kG_hog
    replace kG1 := hg.cell kG1 r_kG_hog
    replace hA := hA.kept hg ap_hA_hog
    replace hA' := hA'.kept hg ap_hA'_hog
    replace ho0 := ho0.kept hg ap_ho0_hog
    clear hg hog SG sG r_kA_hog r_kW_hog r_kG_hog ap_hA_hog ap_hA'_hog ap_ho0_hog
    go_wp2_with fail
    refine (heldN gz a5 c5 zs.length 1 _ hog'.toSees (by decide) (by omega)).mono ?_
    rintro e w12 ⟨rfl, hb⟩
    replace kA0 := bat hb kA0
    replace kA1 := bat hb kA1
    replace kA2 := bat hb kA2
    replace kA3 := bat hb kA3
    replace kW0 := bat hb kW0
    replace kW1 := bat hb kW1
    replace kG0 := bat hb kG0
    replace kG1 := bat hb kG1
    replace hA := hA.below hb
    replace hA' := hA'.below hb
    replace ho0 := ho0.below hb
    replace hog' := hog'.below hb
    replace B := B.trans (hb.mono B.size)
    clear hb
    go_wp2_with fail
    refine (toF g h a b c d xs ys _ hA hA' (by omega) (by omega)).mono ?_
    rintro e w13 ⟨a13, c13, b13, d13, rfl, o13, o13', _, hb⟩
    replace kA0 := bat hb kA0
    replace kA1 := bat hb kA1
    replace kA2 := bat hb kA2
    replace kA3 := bat hb kA3
    replace kW0 := bat hb kW0
    replace kW1 := bat hb kW1
    replace kG0 := bat hb kG0
    replace kG1 := bat hb kG1
    replace hA := hA.below hb
    replace hA' := hA'.below hb
    replace ho0 := ho0.below hb
    replace hog' := hog'.below hb
    replace B := B.trans (hb.mono B.size)
    clear hb
    go_wp2_with fail
    refine (implFloorFrac g h a13 b13 c13 d13 xs ys _ o13.toSees o13'.toSees).mono ?_
    rintro e w14 ⟨v2, rfl, hI2, hb⟩
    obtain ⟨a14, c14, rfl, hoh⟩ := hI2.as HV.out.1 HV.out.2.1 HV.out.2.2
    rw [HG.out]
    clear hI2 o13 o13' hA hA' kA0 kA1 kA2 kA3
    replace kW0 := bat hb kW0
    replace kW1 := bat hb kW1
    replace kG0 := bat hb kG0
    replace kG1 := bat hb kG1
    replace ho0 := ho0.below hb
    replace hog' := hog'.below hb
    replace B := B.trans (hb.mono B.size)
    clear hb
    have l_kW := World.block_lt_of_cell? _ _ kW0
    have l_kG := World.block_lt_of_cell? _ _ kG0
    go_wp2_with fail
    clear l_kW l_kG
    obtain ⟨kH0, kH1⟩ := var_new w14 gz a14 zs.length c14 28
    have hb := below1 w14 (.cells #[.bool gz, .slice a14 zs.length c14] 28)
    replace kW0 := bat hb kW0
    replace kW1 := bat hb kW1
    replace kG0 := bat hb kG0
    replace kG1 := bat hb kG1
    replace ho0 := ho0.below hb
    replace hog' := hog'.below hb
    replace hoh := hoh.below hb
    replace B := B.trans (hb.mono B.size)
    clear hb
    generalize w14.alloc (.cells #[.bool gz, .slice a14 zs.length c14] 28) = W14 at *
    refine (eqN gz a14 a3 c14 c3 zs _ hoh.toSees ho0.toSees).mono ?_
    rintro e w15 ⟨rfl, hb⟩
    replace kW0 := bat hb kW0
    replace kW1 := bat hb kW1
    replace kG0 := bat hb kG0
    replace kG1 := bat hb kG1
    replace kH0 := bat hb kH0
    replace kH1 := bat hb kH1
    replace ho0 := ho0.below hb
    replace hog' := hog'.below hb
    replace hoh := hoh.below hb
    replace B := B.trans (hb.mono B.size)
    clear hb
    clear hoh ho0 kH0 kH1 kW0 kW1
    go_wp2_with fail
    refine (heldN gz a5 c5 zs.length 1 _ hog'.toSees (by decide) (by omega)).mono ?_
    rintro e w16 ⟨rfl, hb⟩
    replace kG0 := bat hb kG0
    replace kG1 := bat hb kG1
    replace hog' := hog'.below hb
    replace B := B.trans (hb.mono B.size)
    clear hb
    go_wp2
    go_ret
    exact ⟨rfl, B⟩
  · clear kA0 kA1 kA2 kA3
    go_enter Try.func5, Try.ntmps5
    go_wp2_with fail
    refine (szF g h a b c d xs.length ys.length 1048576 _ (by omega) m1 m2).mono ?_
    rintro e w1 ⟨rfl, hb⟩
    rw [if_pos (by omega)]
    go_wp2
    go_ret
    exact ⟨rfl, B.trans (hb.mono (by simp))⟩
end Go.Proofs.Ytlpdenaiclocfak
