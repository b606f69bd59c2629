/- The law on Neg: at every argument the program's Neg is the specification's, limb by limb; it writes into no argument; its answer owns its memory. -/
import Derived.Test.YtniphhgjfdjjgahSNeg
import Derived.Test.YtniphhgjfdjjgahBounds
import Derived.Deep.RegionHeld3
import Derived.Deep.DeepCutAuto
namespace Go.Proofs.Ytniphhgjfdjjgah
open Go.RowKit

set_option maxHeartbeats 4000000 in
theorem lawNeg (g : Bool) (a : Option Addr) (c : Nat) (xs : List Int) (w : World) (h : Came w a c xs) :
    Calls Try.prog 6 #[.agg #[.bool g, .slice a xs.length c]] w fun e w' => e = .returned (.bool true) ∧ Below w.heap.size w w' := by
  have hm : xs.length ≤ 9223372036854775807 := by have := h.max; have := h.fits; unfold maxLen at *; omega
  obtain ⟨gz, HG⟩ : ∃ gz, Hid (decide (-tk g xs < 0) = gz) := ⟨_, rfl⟩
  by_cases hs : xs.length ≤ 1048576
  · go_enter Try.func6, Try.ntmps6
    go_wp2_with fail
    refine (szN g a c xs.length 1048576 _ (by omega) hm).mono ?_
    rintro e w1 ⟨rfl, hb⟩
    rw [if_neg (by omega)]
    obtain ⟨kA0, kA1⟩ := var_new w g a xs.length c 24
    have B := below1 w (.cells #[.bool g, .slice a xs.length c] 24)
    have hA := h.below B
    clear h
    replace kA0 := bat hb kA0
    replace kA1 := bat hb kA1
    replace hA := hA.below hb
    replace B := B.trans (hb.mono B.size)
    clear hb
    go_wp2_with fail
    refine (toN g a c xs _ hA hs).mono ?_
    rintro e w2 ⟨a2, c2, rfl, ho2, hb⟩
    replace kA0 := bat hb kA0
    replace kA1 := bat hb kA1
    replace hA := hA.below hb
    replace B := B.trans (hb.mono B.size)
    clear hb
    go_wp2_with fail
    have hl := ho2.lim
    refine (specNeg g a2 c2 xs _ ho2.toSees).mono ?_
    rintro e w3 ⟨v0, rfl, hI0, hb⟩
    obtain ⟨a3, c3, ys, rfl, ho0, hn, hv⟩ := hI0
    have hl2 := len_le ho0.lim hn (hv ▸ neg_bound g xs hl)
    have HV : Hid (Lim ys ∧ Nrm ys ∧ val ys = mg (-tk g xs)) := ⟨ho0.lim, hn, hv⟩
    rw [HG.out]
    clear hv hn ho2 hl
    replace kA0 := bat hb kA0
    replace kA1 := bat hb kA1
    replace hA := hA.below hb
    replace B := B.trans (hb.mono B.size)
    clear hb
    have l_kA := World.block_lt_of_cell? _ _ kA0
    go_wp2_with fail
    clear l_kA
    obtain ⟨kW0, kW1⟩ := var_new w3 gz a3 ys.length c3 27
    have hb := below1 w3 (.cells #[.bool gz, .slice a3 ys.length c3] 27)
    replace kA0 := bat hb kA0
    replace kA1 := bat hb kA1
    replace hA := hA.below hb
    replace ho0 := ho0.below hb
    replace B := B.trans (hb.mono B.size)
    clear hb
    generalize w3.alloc (.cells #[.bool gz, .slice a3 ys.length c3] 27) = W3 at *
    refine (toN g a c xs _ hA hs).mono ?_
    rintro e w4 ⟨a4, c4, rfl, hox, hb⟩
    have ap_hA_hox := apart_later hA hox
    have ap_ho0_hox := apart_later ho0.toCame hox
    have r_kA_hox := row_ne_low hox (World.block_lt_of_cell? _ _ kA0)
    have r_kW_hox := row_ne_low hox (World.block_lt_of_cell? _ _ kW0)
    have sB_hox := B.size
    have S_hox := hb.size
    replace kA0 := bat hb kA0
    replace kA1 := bat hb kA1
    replace kW0 := bat hb kW0
    replace kW1 := bat hb kW1
    replace hA := hA.below hb
    replace ho0 := ho0.below hb
    replace B := B.trans (hb.mono B.size)
    clear hb
    have l_kA := World.block_lt_of_cell? _ _ kA0
    have l_kW := World.block_lt_of_cell? _ _ kW0
    go_wp2_with fail
    clear l_kA l_kW
    obtain ⟨kX0, kX1⟩ := var_new w4 g a4 xs.length c4 27
    have r_kX_hox := row_ne_high hox.toCame (Nat.le_refl _)
    have hb := below1 w4 (.cells #[.bool g, .slice a4 xs.length c4] 27)
    replace kA0 := bat hb kA0
    replace kA1 := bat hb kA1
    replace kW0 := bat hb kW0
    replace kW1 := bat hb kW1
    replace hA := hA.below hb
    replace ho0 := ho0.below hb
    replace hox := hox.below hb
    replace S_hox := Nat.le_trans S_hox hb.size
    replace B := B.trans (hb.mono B.size)
    clear hb
    generalize w4.alloc (.cells #[.bool g, .slice a4 xs.length c4] 27) = W4 at *
    refine (implNeg g a4 c4 xs _ hox.toSees).mono ?_
    rintro e w5 ⟨v1, rfl, hI1, hb⟩
    obtain ⟨a5, c5, rfl, hog⟩ := hI1.as HV.out.1 HV.out.2.1 HV.out.2.2
    rw [HG.out]
    clear hI1
    have ap_hA_hog := apart_later hA hog
    have ap_ho0_hog := apart_later ho0.toCame hog
    have ap_hox_hog := apart_later hox.toCame hog
    have r_kA_hog := row_ne_low hog (World.block_lt_of_cell? _ _ kA0)
    have r_kW_hog := row_ne_low hog (World.block_lt_of_cell? _ _ kW0)
    have r_kX_hog := row_ne_low hog (World.block_lt_of_cell? _ _ kX0)
    have sB_hog := B.size
    have S_hog := hb.size
    have ap_hog_hox := apart_before hox.toCame hog
    replace kA0 := bat hb kA0
    replace kA1 := bat hb kA1
    replace kW0 := bat hb kW0
    replace kW1 := bat hb kW1
    replace kX0 := bat hb kX0
    replace kX1 := bat hb kX1
    replace hA := hA.below hb
    replace ho0 := ho0.below hb
    replace hox := hox.below hb
    replace S_hox := Nat.le_trans S_hox hb.size
    replace B := B.trans (hb.mono B.size)
    clear hb
    have l_kA := World.block_lt_of_cell? _ _ kA0
    have l_kW := World.block_lt_of_cell? _ _ kW0
    have l_kX := World.block_lt_of_cell? _ _ kX0
    go_wp2_with fail
    clear l_kA l_kW l_kX
    obtain ⟨kG0, kG1⟩ := var_new w5 gz a5 ys.length c5 27
    have r_kG_hox := row_ne_high hox.toCame (Nat.le_refl _)
    have r_kG_hog := row_ne_high hog.toCame (Nat.le_refl _)
    have hb := below1 w5 (.cells #[.bool gz, .slice a5 ys.length c5] 27)
    replace kA0 := bat hb kA0
    replace kA1 := bat hb kA1
    replace kW0 := bat hb kW0
    replace kW1 := bat hb kW1
    replace kX0 := bat hb kX0
    replace kX1 := bat hb kX1
    replace hA := hA.below hb
    replace ho0 := ho0.below hb
    replace hox := hox.below hb
    replace hog := hog.below hb
    replace S_hox := Nat.le_trans S_hox hb.size
    replace S_hog := Nat.le_trans S_hog hb.size
    replace B := B.trans (hb.mono B.size)
    clear hb
    generalize w5.alloc (.cells #[.bool gz, .slice a5 ys.length c5] 27) = W5 at *
    refine (eqN gz a5 a3 c5 c3 ys _ hog.toSees ho0.toSees).mono ?_
    rintro e w6 ⟨rfl, hb⟩
    replace kA0 := bat hb kA0
    replace kA1 := bat hb kA1
    replace kW0 := bat hb kW0
    replace kW1 := bat hb kW1
    replace kX0 := bat hb kX0
    replace kX1 := bat hb kX1
    replace kG0 := bat hb kG0
    replace kG1 := bat hb kG1
    replace hA := hA.below hb
    replace ho0 := ho0.below hb
    replace hox := hox.below hb
    replace hog := hog.below hb
    replace S_hox := Nat.le_trans S_hox hb.size
    replace S_hog := Nat.le_trans S_hog hb.size
    replace B := B.trans (hb.mono B.size)
    clear hb
    go_wp2_with fail
    go_region_held3 (fun w' => w'.cell? ⟨w4.heap.size, 0, none⟩ = some (.bool g) ∧ w'.cell? ⟨w4.heap.size, 1, none⟩ = some (.slice a4 xs.length c4) ∧ w'.cell? ⟨w.heap.size, 0, none⟩ = some (.bool g) ∧ w'.cell? ⟨w.heap.size, 1, none⟩ = some (.slice a xs.length c))
      (first | exact ⟨kX0, kX1, kA0, kA1⟩ | exact m1 | exact m2 | (simp [*]))
      (first
      | (go_at_call 10; refine (toN g a c xs _ ?_ hs).mono ?_; exact hA.below (Below.refl _ _).drew; rintro e w7 ⟨a6, c6, rfl, ho6, hb6⟩; have m1 : w7.cell? ⟨w4.heap.size, 0, none⟩ = some (.bool g) ∧ w7.cell? ⟨w4.heap.size, 1, none⟩ = some (.slice a4 xs.length c4) ∧ w7.cell? ⟨w.heap.size, 0, none⟩ = some (.bool g) ∧ w7.cell? ⟨w.heap.size, 1, none⟩ = some (.slice a xs.length c) := ⟨bat hb6 kX0, bat hb6 kX1, bat hb6 kA0, bat hb6 kA1⟩)
      | (go_at_call 12; refine (eqN g a4 a6 c4 c6 xs _ ?_ ho6.toSees).mono ?_; exact hox.toSees.below ((Below.refl _ _).drew.trans hb6); rintro e w8 ⟨rfl, hb7⟩; have m2 : w8.cell? ⟨w4.heap.size, 0, none⟩ = some (.bool g) ∧ w8.cell? ⟨w4.heap.size, 1, none⟩ = some (.slice a4 xs.length c4) ∧ w8.cell? ⟨w.heap.size, 0, none⟩ = some (.bool g) ∧ w8.cell? ⟨w.heap.size, 1, none⟩ = some (.slice a xs.length c) := ⟨bat hb7 m1.1, bat hb7 m1.2.1, bat hb7 m1.2.2.1, bat hb7 m1.2.2.2⟩))
    have hb := (Below.refl _ _).drew.trans (hb6.trans (hb7.mono hb6.size))
    clear hb6 hb7 ho6 m1 m2
    replace kA0 := bat hb kA0
    replace kA1 := bat hb kA1
    replace kW0 := bat hb kW0
    replace kW1 := bat hb kW1
    replace kX0 := bat hb kX0
    replace kX1 := bat hb kX1
    replace kG0 := bat hb kG0
    replace kG1 := bat hb kG1
    replace hA := hA.below hb
    replace ho0 := ho0.below hb
    replace hox := hox.below hb
    replace hog := hog.below hb
    replace S_hox := Nat.le_trans S_hox hb.size
    replace S_hog := Nat.le_trans S_hog hb.size
    replace B := B.trans (hb.mono B.size)
    clear hb
    go_wp2_with fail
    refine (markN _ g a4 c4 xs 1 _ hox (by decide) (by omega)).mono ?_
    rintro e w9 ⟨rfl, hox', hg⟩
    replace B := B.trans ((below_of_grown hox hg S_hox).mono sB_hox)
    replace kA0 := hg.cell kA0 r_kA_hox
    replace kA1 := hg.cell kA1 r_kA_hox
    replace kW0 := hg.cell kW0 r_kW_hox
    replace kW1 := hg.cell kW1 r_kW_hox
    replace kX0 := hg.cell kX0 r_kX_hox
    replace kX1 := hg.cell kX1 r_kX_hox
    replace kG0 := hg.cell kG0 r_kG_hox
    replace kG1 := hg.cell kG1 r_kG_hox
    replace hA := hA.kept hg ap_hA_hox
    replace ho0 := ho0.kept hg ap_ho0_hox
    replace hog := hog.kept hg ap_hog_hox
    replace S_hox := Nat.le_trans S_hox hg.size
    replace S_hog := Nat.le_trans S_hog hg.size
    clear hg hox
    clear r_kA_hox r_kW_hox r_kX_hox r_kG_hox ap_hA_hox ap_ho0_hox ap_hog_hox S_hox sB_hox
    clear hox'
    clear kX0 kX1
    go_wp2_with fail
    refine (eqN gz a5 a3 c5 c3 ys _ hog.toSees ho0.toSees).mono ?_
    rintro e w10 ⟨rfl, hb⟩
    replace kA0 := bat hb kA0
    replace kA1 := bat hb kA1
    replace kW0 := bat hb kW0
    replace kW1 := bat hb kW1
    replace kG0 := bat hb kG0
    replace kG1 := bat hb kG1
    replace hA := hA.below hb
    replace ho0 := ho0.below hb
    replace hog := hog.below hb
    replace S_hog := Nat.le_trans S_hog hb.size
    replace B := B.trans (hb.mono B.size)
    clear hb
    go_wp2_with fail
    refine (markN _ gz a5 c5 ys 1 _ hog (by decide) (by omega)).mono ?_
    rintro e w11 ⟨rfl, hog', hg⟩
    replace B := B.trans ((below_of_grown hog hg S_hog).mono sB_hog)
    replace kA0 := hg.cell kA0 r_kA_hog
    replace kA1 := hg.cell kA1 r_kA_hog
    replace kW0 := hg.cell kW0 r_kW_hog
    replace kW1 := hg.cell kW1 r_kW_hog
    replace kG0 := hg.cell kG0 r_kG_hog
    replace kG1 := hg.cell kG1 r_kG_hog
    replace hA := hA.kept hg ap_hA_hog
    replace ho0 := ho0.kept hg ap_ho0_hog
    replace S_hog := Nat.le_trans S_hog hg.size
    clear hg hog
    clear r_kA_hog r_kW_hog r_kG_hog ap_hA_hog ap_ho0_hog S_hog sB_hog
    go_wp2_with fail
    refine (heldN gz a5 c5 ys.length 1 _ hog'.toSees (by decide) (by omega)).mono ?_
    rintro e w12 ⟨rfl, hb⟩
    replace kA0 := bat hb kA0
    replace kA1 := bat hb kA1
    replace kW0 := bat hb kW0
    replace kW1 := bat hb kW1
    replace kG0 := bat hb kG0
    replace kG1 := bat hb kG1
    replace hA := hA.below hb
    replace ho0 := ho0.below hb
    replace hog' := hog'.below hb
    replace B := B.trans (hb.mono B.size)
    clear hb
    go_wp2_with fail
    refine (toN g a c xs _ hA hs).mono ?_
    rintro e w13 ⟨a13, c13, rfl, ho13, hb⟩
    replace kA0 := bat hb kA0
    replace kA1 := bat hb kA1
    replace kW0 := bat hb kW0
    replace kW1 := bat hb kW1
    replace kG0 := bat hb kG0
    replace kG1 := bat hb kG1
    replace hA := hA.below hb
    replace ho0 := ho0.below hb
    replace hog' := hog'.below hb
    replace B := B.trans (hb.mono B.size)
    clear hb
    clear kA0 kA1
    clear hA
    go_wp2_with fail
    refine (implNeg g a13 c13 xs _ ho13.toSees).mono ?_
    rintro e w14 ⟨v2, rfl, hI2, hb⟩
    obtain ⟨a14, c14, rfl, hoh⟩ := hI2.as HV.out.1 HV.out.2.1 HV.out.2.2
    rw [HG.out]
    clear hI2 ho13
    replace kW0 := bat hb kW0
    replace kW1 := bat hb kW1
    replace kG0 := bat hb kG0
    replace kG1 := bat hb kG1
    replace ho0 := ho0.below hb
    replace hog' := hog'.below hb
    replace B := B.trans (hb.mono B.size)
    clear hb
    have l_kW := World.block_lt_of_cell? _ _ kW0
    have l_kG := World.block_lt_of_cell? _ _ kG0
    go_wp2_with fail
    clear l_kW l_kG
    obtain ⟨kH0, kH1⟩ := var_new w14 gz a14 ys.length c14 27
    have hb := below1 w14 (.cells #[.bool gz, .slice a14 ys.length c14] 27)
    replace kW0 := bat hb kW0
    replace kW1 := bat hb kW1
    replace kG0 := bat hb kG0
    replace kG1 := bat hb kG1
    replace ho0 := ho0.below hb
    replace hog' := hog'.below hb
    replace hoh := hoh.below hb
    replace B := B.trans (hb.mono B.size)
    clear hb
    generalize w14.alloc (.cells #[.bool gz, .slice a14 ys.length c14] 27) = W14 at *
    refine (eqN gz a14 a3 c14 c3 ys _ hoh.toSees ho0.toSees).mono ?_
    rintro e w15 ⟨rfl, hb⟩
    replace kW0 := bat hb kW0
    replace kW1 := bat hb kW1
    replace kG0 := bat hb kG0
    replace kG1 := bat hb kG1
    replace kH0 := bat hb kH0
    replace kH1 := bat hb kH1
    replace ho0 := ho0.below hb
    replace hog' := hog'.below hb
    replace hoh := hoh.below hb
    replace B := B.trans (hb.mono B.size)
    clear hb
    clear hoh
    clear ho0
    clear kH0 kH1
    clear kW0 kW1
    go_wp2_with fail
    refine (heldN gz a5 c5 ys.length 1 _ hog'.toSees (by decide) (by omega)).mono ?_
    rintro e w16 ⟨rfl, hb⟩
    replace kG0 := bat hb kG0
    replace kG1 := bat hb kG1
    replace hog' := hog'.below hb
    replace B := B.trans (hb.mono B.size)
    clear hb
    go_wp2
    go_ret
    exact ⟨rfl, B⟩
  · go_enter Try.func6, Try.ntmps6
    go_wp2_with fail
    refine (szN g a c xs.length 1048576 _ (by omega) hm).mono ?_
    rintro e w1 ⟨rfl, hb1⟩
    rw [if_pos (by omega)]
    go_wp2
    go_ret
    exact ⟨rfl, (below1 _ _).trans (hb1.mono (by simp))⟩
end Go.Proofs.Ytniphhgjfdjjgah
