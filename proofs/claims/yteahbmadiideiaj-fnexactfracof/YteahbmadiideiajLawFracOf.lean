/- The law on FracOf: at every two ints the program's FracOf is the specification's, limb by limb, its flag too; its answer owns its memory. -/
import Derived.Test.YteahbmadiideiajFracA
import Derived.Test.YteahbmadiideiajFracH
import Derived.Test.YteahbmadiideiajSFOf
namespace Go.Proofs.Yteahbmadiideiaj
open Go.RowKit

theorem of_len {n d : Int} {zs ts : List Int} (h1 : -9223372036854775808 ≤ n) (h2 : n ≤ 9223372036854775807) (h3 : -9223372036854775808 ≤ d) (h4 : d ≤ 9223372036854775807)
    (hz : Lim zs ∧ Nrm zs ∧ val zs = mg (zN n d) ∧ Lim ts ∧ Nrm ts ∧ val ts = mg (zD n d)) : zs.length ≤ 25 ∧ ts.length ≤ 25 := by
  obtain ⟨l1, n1, v1, l2, n2, v2⟩ := hz
  have e2 : (4294967296 : Int) ^ 2 = 18446744073709551616 := by decide
  have b : mg (zN n d) < 4294967296 ^ 2 ∧ mg (zD n d) < 4294967296 ^ 2 := by
    rw [e2]
    unfold zN zD
    by_cases hd : d = 0
    · rw [if_pos hd, if_pos hd]; decide
    · rw [if_neg hd, if_neg hd]
      have gp : (0 : Int) < Int.gcd n d := by
        have : 0 < Int.gcd n d := Int.gcd_pos_of_ne_zero_right _ hd
        omega
      have q1 := quot_le (n := if d < 0 then -n else n) gp
      have q2 := quot_le (n := mg d) gp
      have b1 : mg (if d < 0 then -n else n) ≤ 9223372036854775808 := by unfold mg; split <;> split <;> omega
      have b2 : mg (mg d) ≤ 9223372036854775808 := by unfold mg; split <;> (try split) <;> omega
      omega
  exact ⟨Nat.le_trans (len_le l1 n1 (k := 2) (by rw [v1]; exact b.1)) (by decide), Nat.le_trans (len_le l2 n2 (k := 2) (by rw [v2]; exact b.2)) (by decide)⟩

set_option maxRecDepth 20000 in
set_option maxHeartbeats 8000000 in
theorem lawFracOf (n d : Int) (w : World) (h1 : -9223372036854775808 ≤ n) (h2 : n ≤ 9223372036854775807) (h3 : -9223372036854775808 ≤ d) (h4 : d ≤ 9223372036854775807) :
    Calls Try.prog 5 #[.int .i64 n, .int .i64 d] w fun e w' => e = .returned (.bool true) ∧ Below w.heap.size w w' := by
  obtain ⟨gz, HG⟩ : ∃ gz, Hid (decide (zN n d < 0) = gz) := ⟨_, rfl⟩
  obtain ⟨gy, HY⟩ : ∃ gy, Hid (decide (zD n d < 0) = gy) := ⟨_, rfl⟩
  obtain ⟨f, HF⟩ : ∃ f, Hid (decide (d ≠ 0) = f) := ⟨_, rfl⟩
  have HB : Hid (∀ zs ts, Lim zs ∧ Nrm zs ∧ val zs = mg (zN n d) ∧ Lim ts ∧ Nrm ts ∧ val ts = mg (zD n d) → zs.length ≤ 25 ∧ ts.length ≤ 25) := fun zs ts hz => of_len h1 h2 h3 h4 hz
  have HN : Hid (-9223372036854775808 ≤ n ∧ n ≤ 9223372036854775807 ∧ -9223372036854775808 ≤ d ∧ d ≤ 9223372036854775807) := ⟨h1, h2, h3, h4⟩
  clear h1 h2 h3 h4
  go_enter Try.func5, Try.ntmps5
  go_wp2_with fail
  refine (specFracOf n d _ HN.out.1 HN.out.2.1 HN.out.2.2.1 HN.out.2.2.2).mono ?_
  rintro e w1 ⟨v0, rfl, hI0, B⟩
  obtain ⟨a3, c3, zs, b3, d3, ts, rfl, ho0, ho1, hn, hn', hv, hv', _⟩ := hI0
  obtain ⟨hl2, hl3⟩ : zs.length ≤ 25 ∧ ts.length ≤ 25 := HB.out zs ts ⟨ho0.lim, hn, hv, ho1.lim, hn', hv'⟩
  have HV : Hid (Lim zs ∧ Nrm zs ∧ val zs = mg (zN n d) ∧ Lim ts ∧ Nrm ts ∧ val ts = mg (zD n d)) := ⟨ho0.lim, hn, hv, ho1.lim, hn', hv'⟩
  rw [HG.out, HY.out, HF.out]
  clear hn hn' hv hv' HB
  go_wp2_with fail
  obtain ⟨kW0, kW1, kW2, kW3⟩ := fvar_new w1 gz gy a3 b3 zs.length ts.length c3 d3 36
  have hb := below1 w1 (.cells #[.bool gz, .slice a3 zs.length c3, .bool gy, .slice b3 ts.length d3] 36)
  replace ho0 := ho0.below hb
  replace ho1 := ho1.below hb
  replace B := B.trans (hb.mono B.size)
  clear hb
  generalize w1.alloc (.cells #[.bool gz, .slice a3 zs.length c3, .bool gy, .slice b3 ts.length d3] 36) = W3 at *
  refine (implFracOf n d _ HN.out.1 HN.out.2.1 HN.out.2.2.1 HN.out.2.2.2).mono ?_
  rintro e w5 ⟨v1, rfl, hI1, hb⟩
  obtain ⟨a5, c5, b5, d5, rfl, hog, hoh, apg⟩ := hI1.as HV.out
  rw [HG.out, HY.out, HF.out]
  have APG : Hid (Apart a5 zs b5 ts) := apg
  clear apg
  have ap_ho0_hog := apart_later ho0.toCame hog
  have ap_ho0_hoh := apart_later ho0.toCame hoh
  have ap_ho1_hog := apart_later ho1.toCame hog
  have ap_ho1_hoh := apart_later ho1.toCame hoh
  have r_kW_hog := row_ne_low hog (World.block_lt_of_cell? _ _ kW0)
  have r_kW_hoh := row_ne_low hoh (World.block_lt_of_cell? _ _ kW0)
  have sG := B.size
  have SG := hb.size
  clear hI1
  replace kW0 := bat hb kW0
  replace kW1 := bat hb kW1
  replace kW2 := bat hb kW2
  replace kW3 := bat hb kW3
  replace ho0 := ho0.below hb
  replace ho1 := ho1.below hb
  replace B := B.trans (hb.mono B.size)
  clear hb
  have l_kW := World.block_lt_of_cell? _ _ kW0
  go_wp2_with fail
  clear l_kW
  have r_kG_hog := row_ne_high hog.toCame (Nat.le_refl _)
  have r_kG_hoh := row_ne_high hoh.toCame (Nat.le_refl _)
  obtain ⟨kG0, kG1, kG2, kG3⟩ := fvar_new w5 gz gy a5 b5 zs.length ts.length c5 d5 36
  have hb := below1 w5 (.cells #[.bool gz, .slice a5 zs.length c5, .bool gy, .slice b5 ts.length d5] 36)
  replace kW0 := bat hb kW0
  replace kW1 := bat hb kW1
  replace kW2 := bat hb kW2
  replace kW3 := bat hb kW3
  replace ho0 := ho0.below hb
  replace ho1 := ho1.below hb
  replace hog := hog.below hb
  replace hoh := hoh.below hb
  replace SG := Nat.le_trans SG hb.size
  replace B := B.trans (hb.mono B.size)
  clear hb
  generalize w5.alloc (.cells #[.bool gz, .slice a5 zs.length c5, .bool gy, .slice b5 ts.length d5] 36) = W5 at *
  refine (eqF gz gy a5 a3 b5 b3 c5 c3 d5 d3 zs ts _ hog.toSees ho0.toSees hoh.toSees ho1.toSees).mono ?_
  rintro e w6 ⟨rfl, hb⟩
  replace kW0 := bat hb kW0
  replace kW1 := bat hb kW1
  replace kW2 := bat hb kW2
  replace kW3 := bat hb kW3
  replace kG0 := bat hb kG0
  replace kG1 := bat hb kG1
  replace kG2 := bat hb kG2
  replace kG3 := bat hb kG3
  replace ho0 := ho0.below hb
  replace ho1 := ho1.below hb
  replace hog := hog.below hb
  replace hoh := hoh.below hb
  replace SG := Nat.le_trans SG hb.size
  replace B := B.trans (hb.mono B.size)
  clear hb
  go_wp2_with fail
  refine (markF _ gz gy a5 b5 c5 d5 zs ts 1 _ hog hoh APG.out (by decide) (by omega)).mono ?_
  rintro e w11 ⟨rfl, wn, g1, g2, hog', hoh'⟩
  replace B := B.trans ((below_two hog hoh g1 g2 SG).mono sG)
  replace kW0 := g2.cell (g1.cell kW0 r_kW_hog) r_kW_hoh
  replace kW1 := g2.cell (g1.cell kW1 r_kW_hog) r_kW_hoh
  replace kW2 := g2.cell (g1.cell kW2 r_kW_hog) r_kW_hoh
  replace kW3 := g2.cell (g1.cell kW3 r_kW_hog) r_kW_hoh
  replace kG0 := g2.cell (g1.cell kG0 r_kG_hog) r_kG_hoh
  replace kG1 := g2.cell (g1.cell kG1 r_kG_hog) r_kG_hoh
  replace kG2 := g2.cell (g1.cell kG2 r_kG_hog) r_kG_hoh
  replace kG3 := g2.cell (g1.cell kG3 r_kG_hog) r_kG_hoh
  replace ho0 := (ho0.kept g1 ap_ho0_hog).kept g2 ap_ho0_hoh
  replace ho1 := (ho1.kept g1 ap_ho1_hog).kept g2 ap_ho1_hoh
  clear g1 g2 hog hoh SG sG APG r_kW_hog r_kW_hoh r_kG_hog r_kG_hoh ap_ho0_hog ap_ho0_hoh ap_ho1_hog ap_ho1_hoh
  go_wp2_with fail
  refine (heldF gz gy a5 b5 c5 d5 zs.length ts.length 1 _ hog'.toSees hoh'.toSees (by decide) (by omega)).mono ?_
  rintro e w12 ⟨rfl, hb⟩
  replace kW0 := bat hb kW0
  replace kW1 := bat hb kW1
  replace kW2 := bat hb kW2
  replace kW3 := bat hb kW3
  replace kG0 := bat hb kG0
  replace kG1 := bat hb kG1
  replace kG2 := bat hb kG2
  replace kG3 := bat hb kG3
  replace ho0 := ho0.below hb
  replace ho1 := ho1.below hb
  replace hog' := hog'.below hb
  replace hoh' := hoh'.below hb
  replace B := B.trans (hb.mono B.size)
  clear hb
  go_wp2_with fail
  refine (implFracOf n d _ HN.out.1 HN.out.2.1 HN.out.2.2.1 HN.out.2.2.2).mono ?_
  rintro e w14 ⟨v2, rfl, hI2, hb⟩
  obtain ⟨a14, c14, b14, d14, rfl, hoi, hoj, _⟩ := hI2.as HV.out
  rw [HG.out, HY.out, HF.out]
  clear hI2
  replace kW0 := bat hb kW0
  replace kW1 := bat hb kW1
  replace kW2 := bat hb kW2
  replace kW3 := bat hb kW3
  replace kG0 := bat hb kG0
  replace kG1 := bat hb kG1
  replace kG2 := bat hb kG2
  replace kG3 := bat hb kG3
  replace ho0 := ho0.below hb
  replace ho1 := ho1.below hb
  replace hog' := hog'.below hb
  replace hoh' := hoh'.below hb
  replace B := B.trans (hb.mono B.size)
  clear hb
  have l_kW := World.block_lt_of_cell? _ _ kW0
  have l_kG := World.block_lt_of_cell? _ _ kG0
  go_wp2_with fail
  clear l_kW l_kG
  obtain ⟨kH0, kH1, kH2, kH3⟩ := fvar_new w14 gz gy a14 b14 zs.length ts.length c14 d14 36
  have hb := below1 w14 (.cells #[.bool gz, .slice a14 zs.length c14, .bool gy, .slice b14 ts.length d14] 36)
  replace kW0 := bat hb kW0
  replace kW1 := bat hb kW1
  replace kW2 := bat hb kW2
  replace kW3 := bat hb kW3
  replace kG0 := bat hb kG0
  replace kG1 := bat hb kG1
  replace kG2 := bat hb kG2
  replace kG3 := bat hb kG3
  replace ho0 := ho0.below hb
  replace ho1 := ho1.below hb
  replace hog' := hog'.below hb
  replace hoh' := hoh'.below hb
  replace hoi := hoi.below hb
  replace hoj := hoj.below hb
  replace B := B.trans (hb.mono B.size)
  clear hb
  generalize w14.alloc (.cells #[.bool gz, .slice a14 zs.length c14, .bool gy, .slice b14 ts.length d14] 36) = W14 at *
  refine (eqF gz gy a14 a3 b14 b3 c14 c3 d14 d3 zs ts _ hoi.toSees ho0.toSees hoj.toSees ho1.toSees).mono ?_
  rintro e w15 ⟨rfl, hb⟩
  replace kW0 := bat hb kW0
  replace kW1 := bat hb kW1
  replace kW2 := bat hb kW2
  replace kW3 := bat hb kW3
  replace kG0 := bat hb kG0
  replace kG1 := bat hb kG1
  replace kG2 := bat hb kG2
  replace kG3 := bat hb kG3
  replace kH0 := bat hb kH0
  replace kH1 := bat hb kH1
  replace kH2 := bat hb kH2
  replace kH3 := bat hb kH3
  replace ho0 := ho0.below hb
  replace ho1 := ho1.below hb
  replace hog' := hog'.below hb
  replace hoh' := hoh'.below hb
  replace hoi := hoi.below hb
  replace hoj := hoj.below hb
  replace B := B.trans (hb.mono B.size)
  clear hb
  clear hoi hoj ho0 ho1 kH0 kH1 kH2 kH3 kW0 kW1 kW2 kW3
  go_wp2_with fail
  refine (heldF gz gy a5 b5 c5 d5 zs.length ts.length 1 _ hog'.toSees hoh'.toSees (by decide) (by omega)).mono ?_
  rintro e w16 ⟨rfl, hb⟩
  replace kG0 := bat hb kG0
  replace kG1 := bat hb kG1
  replace kG2 := bat hb kG2
  replace kG3 := bat hb kG3
  replace hog' := hog'.below hb
  replace hoh' := hoh'.below hb
  replace B := B.trans (hb.mono B.size)
  clear hb
  go_wp2
  go_ret
  exact ⟨rfl, B⟩
end Go.Proofs.Yteahbmadiideiaj
