/- The law on Lowest: at every argument the program's Lowest is the specification's, limb by limb; it writes into no argument; its answer owns its memory. -/
import Derived.Test.YtlpdenaiclocfajFracM
import Derived.Test.YtlpdenaiclocfajFracH
import Derived.Test.YtlpdenaiclocfajLows
import Derived.Deep.RegionHeld3
namespace Go.Proofs.Ytlpdenaiclocfaj
open Go.RowKit

theorem below_two {base : Nat} {w wm w' : World} {a b : Option Addr} {c d : Nat} {xs ys : List Int} (h1 : Own base w a c xs) (h2 : Own base w b d ys) (g1 : w.grownBy wm (rowOf a xs)) (g2 : wm.grownBy w' (rowOf b ys)) (hb : base ≤ w.heap.size) : Below base w w' :=
  (below_of_grown h1 g1 hb).trans ⟨g2.os, g2.tape, g2.output, g2.size, fun i hi => g2.block i (Nat.lt_of_lt_of_le hi (Nat.le_trans hb g1.size)) (row_ne_low h2 hi)⟩
theorem IsFrac.as {b : Nat} {w : World} {v : Value} {n d : Int} (h : IsFrac b w v n d) {zs ts : List Int} (hh : Lim zs ∧ Nrm zs ∧ val zs = mg n ∧ Lim ts ∧ Nrm ts ∧ val ts = mg d) :
    ∃ a c a' c', v = .agg #[.bool (decide (n < 0)), .slice a zs.length c, .bool (decide (d < 0)), .slice a' ts.length c'] ∧ Own b w a c zs ∧ Own b w a' c' ts ∧ Apart a zs a' ts := by
  obtain ⟨a1, c1, qs, a2, c2, rs, e, o1, o2, n1, n2, v1, v2, ap⟩ := h
  obtain ⟨l1, m1, w1, l2, m2, w2⟩ := hh
  obtain rfl : zs = qs := val_inj l1 o1.lim m1 n1 (w1.trans v1.symm)
  obtain rfl : ts = rs := val_inj l2 o2.lim m2 n2 (w2.trans v2.symm)
  exact ⟨a1, c1, a2, c2, e, o1, o2, ap⟩
theorem quot_le {n m : Int} (hm : 0 < m) : mg (n / m) ≤ mg n := by
  have e := Int.mul_ediv_add_emod n m
  have r0 := Int.emod_nonneg n (show m ≠ 0 by omega)
  have r1 := Int.emod_lt_of_pos n hm
  by_cases hn : 0 ≤ n
  · have q0 := Int.ediv_nonneg hn (show 0 ≤ m by omega)
    have q1 := Int.ediv_le_self m hn
    unfold mg
    rw [if_neg (by omega), if_neg (by omega)]
    exact q1
  · have hq : n / m < 0 := Int.ediv_neg_of_neg_of_pos (by omega) hm
    have h11 : n < m * (n / m + 1) := by rw [Int.mul_add, Int.mul_one]; omega
    have h12 : m * (n / m + 1) ≤ 1 * (n / m + 1) := Int.mul_le_mul_of_nonpos_right (by omega) (by omega)
    unfold mg
    rw [if_pos hq, if_pos (by omega)]
    omega
theorem low_len {g h : Bool} {xs ys zs ts : List Int} (hx : Lim xs) (hy : Lim ys) (hz : Lim zs ∧ Nrm zs ∧ val zs = mg (fN g xs h ys / Int.gcd (fN g xs h ys) (fD g xs h ys)) ∧ Lim ts ∧ Nrm ts ∧ val ts = mg (fD g xs h ys / Int.gcd (fN g xs h ys) (fD g xs h ys))) : zs.length ≤ 25 ∧ ts.length ≤ 25 := by
  have hd := fD_gt g xs h ys
  have gp : (0 : Int) < Int.gcd (fN g xs h ys) (fD g xs h ys) := by
    have : 0 < Int.gcd (fN g xs h ys) (fD g xs h ys) := Int.gcd_pos_of_ne_zero_right _ (by omega)
    omega
  have h5 := p_pos 24
  have b1 : mg (fN g xs h ys) < 4294967296 ^ 24 := by
    unfold fN
    split
    · have := tk_bounds g xs hx
      unfold mg
      split <;> omega
    · unfold mg; simp only [Int.lt_irrefl, if_false]; omega
  have b2 : mg (fD g xs h ys) < 4294967296 ^ 24 := by
    unfold fD
    split
    · have := tk_bounds h ys hy
      unfold mg
      split <;> omega
    · show (1 : Int) < _
      exact (by decide : (1 : Int) < 4294967296 ^ 24)
  obtain ⟨l1, n1, v1, l2, n2, v2⟩ := hz
  have q1 := quot_le (n := fN g xs h ys) gp
  have q2 := quot_le (n := fD g xs h ys) gp
  exact ⟨Nat.le_trans (len_le l1 n1 (k := 24) (by omega)) (by decide), Nat.le_trans (len_le l2 n2 (k := 24) (by omega)) (by decide)⟩

set_option maxRecDepth 20000 in
set_option maxHeartbeats 8000000 in
theorem lawLowest (g h : Bool) (a b : Option Addr) (c d : Nat) (xs ys : List Int) (w : World) (h1 : Came w a c xs) (h2 : Came w b d ys) :
    Calls Try.prog 6 #[.agg #[.bool g, .slice a xs.length c, .bool h, .slice b ys.length d]] w fun e w' => e = .returned (.bool true) ∧ Below w.heap.size w w' := by
  have m1 : xs.length ≤ 9223372036854775807 := by have := h1.max; have := h1.fits; unfold maxLen at *; omega
  have m2 : ys.length ≤ 9223372036854775807 := by have := h2.max; have := h2.fits; unfold maxLen at *; omega
  obtain ⟨gz, HG⟩ : ∃ gz, Hid (decide ((fN g xs h ys / Int.gcd (fN g xs h ys) (fD g xs h ys)) < 0) = gz) := ⟨_, rfl⟩
  obtain ⟨gy, HY⟩ : ∃ gy, Hid (decide ((fD g xs h ys / Int.gcd (fN g xs h ys) (fD g xs h ys)) < 0) = gy) := ⟨_, rfl⟩
  have HB : Hid (∀ zs ts, Lim zs ∧ Nrm zs ∧ val zs = mg (fN g xs h ys / Int.gcd (fN g xs h ys) (fD g xs h ys)) ∧ Lim ts ∧ Nrm ts ∧ val ts = mg (fD g xs h ys / Int.gcd (fN g xs h ys) (fD g xs h ys)) → zs.length ≤ 25 ∧ ts.length ≤ 25) := fun zs ts hz => low_len h1.lim h2.lim hz
  have B := below1 w (.cells #[.bool g, .slice a xs.length c, .bool h, .slice b ys.length d] 32)
  obtain ⟨kA0, kA1, kA2, kA3⟩ := fvar_new w g h a b xs.length ys.length c d 32
  by_cases hs : xs.length + ys.length ≤ 1048576
  · have hA := h1.below B
    have hA' := h2.below B
    clear h1 h2
    go_enter Try.func6, Try.ntmps6
    go_wp2_with fail
    generalize w.alloc (.cells #[.bool g, .slice a xs.length c, .bool h, .slice b ys.length d] 32) = W at *
    refine (szF g h a b c d xs.length ys.length 1048576 _ (by omega) m1 m2).mono ?_
    rintro e w1 ⟨rfl, hb⟩
    rw [if_neg (by omega)]
    replace kA0 := bat hb kA0
    replace kA1 := bat hb kA1
    replace kA2 := bat hb kA2
    replace kA3 := bat hb kA3
    replace hA := hA.below hb
    replace hA' := hA'.below hb
    replace B := B.trans (hb.mono B.size)
    clear hb
    go_wp2_with fail
    refine (toF g h a b c d xs ys _ hA hA' (by omega) (by omega)).mono ?_
    rintro e w2 ⟨a2, c2, b2, d2, rfl, o2, o2', _, hb⟩
    replace kA0 := bat hb kA0
    replace kA1 := bat hb kA1
    replace kA2 := bat hb kA2
    replace kA3 := bat hb kA3
    replace hA := hA.below hb
    replace hA' := hA'.below hb
    replace B := B.trans (hb.mono B.size)
    clear hb
    go_wp2_with fail
    refine (specLowest g h a2 b2 c2 d2 xs ys _ o2.toSees o2'.toSees).mono ?_
    rintro e w3 ⟨v0, rfl, hI0, hb⟩
    obtain ⟨a3, c3, zs, b3, d3, ts, rfl, ho0, ho1, hn, hn', hv, hv', _⟩ := hI0
    obtain ⟨hl2, hl3⟩ : zs.length ≤ 25 ∧ ts.length ≤ 25 := HB.out zs ts ⟨ho0.lim, hn, hv, ho1.lim, hn', hv'⟩
    have HV : Hid (Lim zs ∧ Nrm zs ∧ val zs = mg (fN g xs h ys / Int.gcd (fN g xs h ys) (fD g xs h ys)) ∧ Lim ts ∧ Nrm ts ∧ val ts = mg (fD g xs h ys / Int.gcd (fN g xs h ys) (fD g xs h ys))) := ⟨ho0.lim, hn, hv, ho1.lim, hn', hv'⟩
    rw [HG.out, HY.out]
    clear hv hn hv' hn' o2 o2'
    replace kA0 := bat hb kA0
    replace kA1 := bat hb kA1
    replace kA2 := bat hb kA2
    replace kA3 := bat hb kA3
    replace hA := hA.below hb
    replace hA' := hA'.below hb
    replace B := B.trans (hb.mono B.size)
    clear hb
    have l_kA := World.block_lt_of_cell? _ _ kA0
    go_wp2_with fail
    clear l_kA
    obtain ⟨kW0, kW1, kW2, kW3⟩ := fvar_new w3 gz gy a3 b3 zs.length ts.length c3 d3 36
    have hb := below1 w3 (.cells #[.bool gz, .slice a3 zs.length c3, .bool gy, .slice b3 ts.length d3] 36)
    replace kA0 := bat hb kA0
    replace kA1 := bat hb kA1
    replace kA2 := bat hb kA2
    replace kA3 := bat hb kA3
    replace hA := hA.below hb
    replace hA' := hA'.below hb
    replace ho0 := ho0.below hb
    replace ho1 := ho1.below hb
    replace B := B.trans (hb.mono B.size)
    clear hb
    generalize w3.alloc (.cells #[.bool gz, .slice a3 zs.length c3, .bool gy, .slice b3 ts.length d3] 36) = W3 at *
    refine (toF g h a b c d xs ys _ hA hA' (by omega) (by omega)).mono ?_
    rintro e w4 ⟨a4, c4, b4, d4, rfl, ox, ox', hap, hb⟩
    have ap_hA_ox := apart_later hA ox
    have ap_hA_ox' := apart_later hA ox'
    have ap_hA'_ox := apart_later hA' ox
    have ap_hA'_ox' := apart_later hA' ox'
    have ap_ho0_ox := apart_later ho0.toCame ox
    have ap_ho0_ox' := apart_later ho0.toCame ox'
    have ap_ho1_ox := apart_later ho1.toCame ox
    have ap_ho1_ox' := apart_later ho1.toCame ox'
    have r_kA_ox := row_ne_low ox (World.block_lt_of_cell? _ _ kA0)
    have r_kA_ox' := row_ne_low ox' (World.block_lt_of_cell? _ _ kA0)
    have r_kW_ox := row_ne_low ox (World.block_lt_of_cell? _ _ kW0)
    have r_kW_ox' := row_ne_low ox' (World.block_lt_of_cell? _ _ kW0)
    have sB := B.size
    have SX := hb.size
    have HAP : Hid (∀ q off, a4 = some ⟨q, off, none⟩ → xs ≠ [] → rowOf b4 ys ≠ some q) := hap
    clear hap
    replace kA0 := bat hb kA0
    replace kA1 := bat hb kA1
    replace kA2 := bat hb kA2
    replace kA3 := bat hb kA3
    replace kW0 := bat hb kW0
    replace kW1 := bat hb kW1
    replace kW2 := bat hb kW2
    replace kW3 := bat hb kW3
    replace hA := hA.below hb
    replace hA' := hA'.below hb
    replace ho0 := ho0.below hb
    replace ho1 := ho1.below hb
    replace B := B.trans (hb.mono B.size)
    clear hb
    have l_kA := World.block_lt_of_cell? _ _ kA0
    have l_kW := World.block_lt_of_cell? _ _ kW0
    go_wp2_with fail
    clear l_kA l_kW
    obtain ⟨kX0, kX1, kX2, kX3⟩ := fvar_new w4 g h a4 b4 xs.length ys.length c4 d4 36
    have hb := below1 w4 (.cells #[.bool g, .slice a4 xs.length c4, .bool h, .slice b4 ys.length d4] 36)
    replace kA0 := bat hb kA0
    replace kA1 := bat hb kA1
    replace kA2 := bat hb kA2
    replace kA3 := bat hb kA3
    replace kW0 := bat hb kW0
    replace kW1 := bat hb kW1
    replace kW2 := bat hb kW2
    replace kW3 := bat hb kW3
    replace hA := hA.below hb
    replace hA' := hA'.below hb
    replace ho0 := ho0.below hb
    replace ho1 := ho1.below hb
    replace ox := ox.below hb
    replace ox' := ox'.below hb
    replace SX := Nat.le_trans SX hb.size
    replace B := B.trans (hb.mono B.size)
    clear hb
    generalize w4.alloc (.cells #[.bool g, .slice a4 xs.length c4, .bool h, .slice b4 ys.length d4] 36) = W4 at *
    refine (implLowest g h a4 b4 c4 d4 xs ys _ ox.toSees ox'.toSees).mono ?_
    rintro e w5 ⟨v1, rfl, hI1, hb⟩
    obtain ⟨a5, c5, b5, d5, rfl, hog, hoh, apg⟩ := hI1.as HV.out
    rw [HG.out, HY.out]
    have ap_hog_ox := apart_before ox.toCame hog
    have ap_hog_ox' := apart_before ox'.toCame hog
    have ap_hoh_ox := apart_before ox.toCame hoh
    have ap_hoh_ox' := apart_before ox'.toCame hoh
    have APG : Hid (Apart a5 zs b5 ts) := apg
    clear apg
    have ap_hA_hog := apart_later hA hog
    have ap_hA_hoh := apart_later hA hoh
    have ap_hA'_hog := apart_later hA' hog
    have ap_hA'_hoh := apart_later hA' hoh
    have ap_ho0_hog := apart_later ho0.toCame hog
    have ap_ho0_hoh := apart_later ho0.toCame hoh
    have ap_ho1_hog := apart_later ho1.toCame hog
    have ap_ho1_hoh := apart_later ho1.toCame hoh
    have r_kA_hog := row_ne_low hog (World.block_lt_of_cell? _ _ kA0)
    have r_kA_hoh := row_ne_low hoh (World.block_lt_of_cell? _ _ kA0)
    have r_kW_hog := row_ne_low hog (World.block_lt_of_cell? _ _ kW0)
    have r_kW_hoh := row_ne_low hoh (World.block_lt_of_cell? _ _ kW0)
    have sG := B.size
    have SG := hb.size
    clear hI1
    replace kA0 := bat hb kA0
    replace kA1 := bat hb kA1
    replace kA2 := bat hb kA2
    replace kA3 := bat hb kA3
    replace kW0 := bat hb kW0
    replace kW1 := bat hb kW1
    replace kW2 := bat hb kW2
    replace kW3 := bat hb kW3
    replace kX0 := bat hb kX0
    replace kX1 := bat hb kX1
    replace kX2 := bat hb kX2
    replace kX3 := bat hb kX3
    replace hA := hA.below hb
    replace hA' := hA'.below hb
    replace ho0 := ho0.below hb
    replace ho1 := ho1.below hb
    replace ox := ox.below hb
    replace ox' := ox'.below hb
    replace SX := Nat.le_trans SX hb.size
    replace B := B.trans (hb.mono B.size)
    clear hb
    have l_kA := World.block_lt_of_cell? _ _ kA0
    have l_kW := World.block_lt_of_cell? _ _ kW0
    have l_kX := World.block_lt_of_cell? _ _ kX0
    go_wp2_with fail
    clear l_kA l_kW l_kX
    have r_kG_ox := row_ne_high ox.toCame (Nat.le_refl _)
    have r_kG_ox' := row_ne_high ox'.toCame (Nat.le_refl _)
    have r_kG_hog := row_ne_high hog.toCame (Nat.le_refl _)
    have r_kG_hoh := row_ne_high hoh.toCame (Nat.le_refl _)
    obtain ⟨kG0, kG1, kG2, kG3⟩ := fvar_new w5 gz gy a5 b5 zs.length ts.length c5 d5 36
    have hb := below1 w5 (.cells #[.bool gz, .slice a5 zs.length c5, .bool gy, .slice b5 ts.length d5] 36)
    replace kA0 := bat hb kA0
    replace kA1 := bat hb kA1
    replace kA2 := bat hb kA2
    replace kA3 := bat hb kA3
    replace kW0 := bat hb kW0
    replace kW1 := bat hb kW1
    replace kW2 := bat hb kW2
    replace kW3 := bat hb kW3
    replace kX0 := bat hb kX0
    replace kX1 := bat hb kX1
    replace kX2 := bat hb kX2
    replace kX3 := bat hb kX3
    replace hA := hA.below hb
    replace hA' := hA'.below hb
    replace ho0 := ho0.below hb
    replace ho1 := ho1.below hb
    replace ox := ox.below hb
    replace ox' := ox'.below hb
    replace hog := hog.below hb
    replace hoh := hoh.below hb
    replace SX := Nat.le_trans SX hb.size
    replace SG := Nat.le_trans SG hb.size
    replace B := B.trans (hb.mono B.size)
    clear hb
    generalize w5.alloc (.cells #[.bool gz, .slice a5 zs.length c5, .bool gy, .slice b5 ts.length d5] 36) = W5 at *
    refine (eqF gz gy a5 a3 b5 b3 c5 c3 d5 d3 zs ts _ hog.toSees ho0.toSees hoh.toSees ho1.toSees).mono ?_
    rintro e w6 ⟨rfl, hb⟩
    replace kA0 := bat hb kA0
    replace kA1 := bat hb kA1
    replace kA2 := bat hb kA2
    replace kA3 := bat hb kA3
    replace kW0 := bat hb kW0
    replace kW1 := bat hb kW1
    replace kW2 := bat hb kW2
    replace kW3 := bat hb kW3
    replace kX0 := bat hb kX0
    replace kX1 := bat hb kX1
    replace kX2 := bat hb kX2
    replace kX3 := bat hb kX3
    replace kG0 := bat hb kG0
    replace kG1 := bat hb kG1
    replace kG2 := bat hb kG2
    replace kG3 := bat hb kG3
    replace hA := hA.below hb
    replace hA' := hA'.below hb
    replace ho0 := ho0.below hb
    replace ho1 := ho1.below hb
    replace ox := ox.below hb
    replace ox' := ox'.below hb
    replace hog := hog.below hb
    replace hoh := hoh.below hb
    replace SX := Nat.le_trans SX hb.size
    replace SG := Nat.le_trans SG hb.size
    replace B := B.trans (hb.mono B.size)
    clear hb
    go_wp2_with fail
    have k0 : w6.cell? ⟨w4.heap.size, 0, none⟩ = some (.bool g) ∧ w6.cell? ⟨w4.heap.size, 1, none⟩ = some (.slice a4 xs.length c4) ∧ w6.cell? ⟨w4.heap.size, 2, none⟩ = some (.bool h) ∧ w6.cell? ⟨w4.heap.size, 3, none⟩ = some (.slice b4 ys.length d4) ∧ w6.cell? ⟨w.heap.size, 0, none⟩ = some (.bool g) ∧ w6.cell? ⟨w.heap.size, 1, none⟩ = some (.slice a xs.length c) ∧ w6.cell? ⟨w.heap.size, 2, none⟩ = some (.bool h) ∧ w6.cell? ⟨w.heap.size, 3, none⟩ = some (.slice b ys.length d) := ⟨kX0, kX1, kX2, kX3, kA0, kA1, kA2, kA3⟩
    go_region_held3 (fun w' => w'.cell? ⟨w4.heap.size, 0, none⟩ = some (.bool g) ∧ w'.cell? ⟨w4.heap.size, 1, none⟩ = some (.slice a4 xs.length c4) ∧ w'.cell? ⟨w4.heap.size, 2, none⟩ = some (.bool h) ∧ w'.cell? ⟨w4.heap.size, 3, none⟩ = some (.slice b4 ys.length d4) ∧ w'.cell? ⟨w.heap.size, 0, none⟩ = some (.bool g) ∧ w'.cell? ⟨w.heap.size, 1, none⟩ = some (.slice a xs.length c) ∧ w'.cell? ⟨w.heap.size, 2, none⟩ = some (.bool h) ∧ w'.cell? ⟨w.heap.size, 3, none⟩ = some (.slice b ys.length d))
      (first | exact k0 | exact n1 | exact n2 | (simp [*]))
      (first
      | (go_at_call 15; refine (toF g h a b c d xs ys _ ?_ ?_ ?_ ?_).mono ?_; exact hA.below (Below.refl _ _).drew; exact hA'.below (Below.refl _ _).drew; omega; omega; rintro e w7 ⟨aq, cq, ar, cr, rfl, oq, orr, _, hbq⟩; have n1 : w7.cell? ⟨w4.heap.size, 0, none⟩ = some (.bool g) ∧ w7.cell? ⟨w4.heap.size, 1, none⟩ = some (.slice a4 xs.length c4) ∧ w7.cell? ⟨w4.heap.size, 2, none⟩ = some (.bool h) ∧ w7.cell? ⟨w4.heap.size, 3, none⟩ = some (.slice b4 ys.length d4) ∧ w7.cell? ⟨w.heap.size, 0, none⟩ = some (.bool g) ∧ w7.cell? ⟨w.heap.size, 1, none⟩ = some (.slice a xs.length c) ∧ w7.cell? ⟨w.heap.size, 2, none⟩ = some (.bool h) ∧ w7.cell? ⟨w.heap.size, 3, none⟩ = some (.slice b ys.length d) := ⟨bat ((Below.refl _ _).drew.trans hbq) k0.1, bat ((Below.refl _ _).drew.trans hbq) k0.2.1, bat ((Below.refl _ _).drew.trans hbq) k0.2.2.1, bat ((Below.refl _ _).drew.trans hbq) k0.2.2.2.1, bat ((Below.refl _ _).drew.trans hbq) k0.2.2.2.2.1, bat ((Below.refl _ _).drew.trans hbq) k0.2.2.2.2.2.1, bat ((Below.refl _ _).drew.trans hbq) k0.2.2.2.2.2.2.1, bat ((Below.refl _ _).drew.trans hbq) k0.2.2.2.2.2.2.2⟩)
      | (go_at_call 17; refine (eqF g h a4 aq b4 ar c4 cq d4 cr xs ys _ ?_ oq.toSees ?_ orr.toSees).mono ?_; exact ox.toSees.below ((Below.refl _ _).drew.trans hbq); exact ox'.toSees.below ((Below.refl _ _).drew.trans hbq); rintro e w8 ⟨rfl, hbr⟩; have n2 : w8.cell? ⟨w4.heap.size, 0, none⟩ = some (.bool g) ∧ w8.cell? ⟨w4.heap.size, 1, none⟩ = some (.slice a4 xs.length c4) ∧ w8.cell? ⟨w4.heap.size, 2, none⟩ = some (.bool h) ∧ w8.cell? ⟨w4.heap.size, 3, none⟩ = some (.slice b4 ys.length d4) ∧ w8.cell? ⟨w.heap.size, 0, none⟩ = some (.bool g) ∧ w8.cell? ⟨w.heap.size, 1, none⟩ = some (.slice a xs.length c) ∧ w8.cell? ⟨w.heap.size, 2, none⟩ = some (.bool h) ∧ w8.cell? ⟨w.heap.size, 3, none⟩ = some (.slice b ys.length d) := ⟨bat hbr n1.1, bat hbr n1.2.1, bat hbr n1.2.2.1, bat hbr n1.2.2.2.1, bat hbr n1.2.2.2.2.1, bat hbr n1.2.2.2.2.2.1, bat hbr n1.2.2.2.2.2.2.1, bat hbr n1.2.2.2.2.2.2.2⟩))
    have hb := (Below.refl _ _).drew.trans (hbq.trans (hbr.mono hbq.size))
    clear hbq hbr n1 n2 oq orr k0
    replace kA0 := bat hb kA0
    replace kA1 := bat hb kA1
    replace kA2 := bat hb kA2
    replace kA3 := bat hb kA3
    replace kW0 := bat hb kW0
    replace kW1 := bat hb kW1
    replace kW2 := bat hb kW2
    replace kW3 := bat hb kW3
    replace kX0 := bat hb kX0
    replace kX1 := bat hb kX1
    replace kX2 := bat hb kX2
    replace kX3 := bat hb kX3
    replace kG0 := bat hb kG0
    replace kG1 := bat hb kG1
    replace kG2 := bat hb kG2
    replace kG3 := bat hb kG3
    replace hA := hA.below hb
    replace hA' := hA'.below hb
    replace ho0 := ho0.below hb
    replace ho1 := ho1.below hb
    replace ox := ox.below hb
    replace ox' := ox'.below hb
    replace hog := hog.below hb
    replace hoh := hoh.below hb
    replace SX := Nat.le_trans SX hb.size
    replace SG := Nat.le_trans SG hb.size
    replace B := B.trans (hb.mono B.size)
    clear hb
    go_wp2_with fail
    refine (markF _ g h a4 b4 c4 d4 xs ys 1 _ ox ox' HAP.out (by decide) (by omega)).mono ?_
    rintro e w9 ⟨rfl, wm, g1, g2, _, _⟩
    replace B := B.trans ((below_two ox ox' g1 g2 SX).mono sB)
    replace kA0 := g2.cell (g1.cell kA0 r_kA_ox) r_kA_ox'
    replace kA1 := g2.cell (g1.cell kA1 r_kA_ox) r_kA_ox'
    replace kA2 := g2.cell (g1.cell kA2 r_kA_ox) r_kA_ox'
    replace kA3 := g2.cell (g1.cell kA3 r_kA_ox) r_kA_ox'
    replace kW0 := g2.cell (g1.cell kW0 r_kW_ox) r_kW_ox'
    replace kW1 := g2.cell (g1.cell kW1 r_kW_ox) r_kW_ox'
    replace kW2 := g2.cell (g1.cell kW2 r_kW_ox) r_kW_ox'
    replace kW3 := g2.cell (g1.cell kW3 r_kW_ox) r_kW_ox'
    replace kG0 := g2.cell (g1.cell kG0 r_kG_ox) r_kG_ox'
    replace kG1 := g2.cell (g1.cell kG1 r_kG_ox) r_kG_ox'
    replace kG2 := g2.cell (g1.cell kG2 r_kG_ox) r_kG_ox'
    replace kG3 := g2.cell (g1.cell kG3 r_kG_ox) r_kG_ox'
    replace hA := (hA.kept g1 ap_hA_ox).kept g2 ap_hA_ox'
    replace hA' := (hA'.kept g1 ap_hA'_ox).kept g2 ap_hA'_ox'
    replace ho0 := (ho0.kept g1 ap_ho0_ox).kept g2 ap_ho0_ox'
    replace ho1 := (ho1.kept g1 ap_ho1_ox).kept g2 ap_ho1_ox'
    replace hog := (hog.kept g1 ap_hog_ox).kept g2 ap_hog_ox'
    replace hoh := (hoh.kept g1 ap_hoh_ox).kept g2 ap_hoh_ox'
    replace SG := Nat.le_trans SG (Nat.le_trans g1.size g2.size)
    clear g1 g2 ox ox' HAP sB SX kX0 kX1 kX2 kX3 r_kA_ox r_kA_ox' r_kW_ox r_kW_ox' r_kG_ox r_kG_ox' ap_hA_ox ap_hA_ox' ap_hA'_ox ap_hA'_ox' ap_ho0_ox ap_ho0_ox' ap_ho1_ox ap_ho1_ox' ap_hog_ox ap_hog_ox' ap_hoh_ox ap_hoh_ox'
    have hkk : decide ((1 : Int) + xs.length + ys.length < 0) = false := by simp; omega
    go_wp2_with fail
    clear hkk
    refine (eqF gz gy a5 a3 b5 b3 c5 c3 d5 d3 zs ts _ hog.toSees ho0.toSees hoh.toSees ho1.toSees).mono ?_
    rintro e w10 ⟨rfl, hb⟩
    replace kA0 := bat hb kA0
    replace kA1 := bat hb kA1
    replace kA2 := bat hb kA2
    replace kA3 := bat hb kA3
    replace kW0 := bat hb kW0
    replace kW1 := bat hb kW1
    replace kW2 := bat hb kW2
    replace kW3 := bat hb kW3
    replace kG0 := bat hb kG0
    replace kG1 := bat hb kG1
    replace kG2 := bat hb kG2
    replace kG3 := bat hb kG3
    replace hA := hA.below hb
    replace hA' := hA'.below hb
    replace ho0 := ho0.below hb
    replace ho1 := ho1.below hb
    replace hog := hog.below hb
    replace hoh := hoh.below hb
    replace SG := Nat.le_trans SG hb.size
    replace B := B.trans (hb.mono B.size)
    clear hb
    go_wp2_with fail
    refine (markF _ gz gy a5 b5 c5 d5 zs ts 1 _ hog hoh APG.out (by decide) (by omega)).mono ?_
    rintro e w11 ⟨rfl, wn, g1, g2, hog', hoh'⟩
    replace B := B.trans ((below_two hog hoh g1 g2 SG).mono sG)
    replace kA0 := g2.cell (g1.cell kA0 r_kA_hog) r_kA_hoh
    replace kA1 := g2.cell (g1.cell kA1 r_kA_hog) r_kA_hoh
    replace kA2 := g2.cell (g1.cell kA2 r_kA_hog) r_kA_hoh
    replace kA3 := g2.cell (g1.cell kA3 r_kA_hog) r_kA_hoh
    replace kW0 := g2.cell (g1.cell kW0 r_kW_hog) r_kW_hoh
    replace kW1 := g2.cell (g1.cell kW1 r_kW_hog) r_kW_hoh
    replace kW2 := g2.cell (g1.cell kW2 r_kW_hog) r_kW_hoh
    replace kW3 := g2.cell (g1.cell kW3 r_kW_hog) r_kW_hoh
    replace kG0 := g2.cell (g1.cell kG0 r_kG_hog) r_kG_hoh
    replace kG1 := g2.cell (g1.cell kG1 r_kG_hog) r_kG_hoh
    replace kG2 := g2.cell (g1.cell kG2 r_kG_hog) r_kG_hoh
    replace kG3 := g2.cell (g1.cell kG3 r_kG_hog) r_kG_hoh
    replace hA := (hA.kept g1 ap_hA_hog).kept g2 ap_hA_hoh
    replace hA' := (hA'.kept g1 ap_hA'_hog).kept g2 ap_hA'_hoh
    replace ho0 := (ho0.kept g1 ap_ho0_hog).kept g2 ap_ho0_hoh
    replace ho1 := (ho1.kept g1 ap_ho1_hog).kept g2 ap_ho1_hoh
    clear g1 g2 hog hoh SG sG APG r_kA_hog r_kA_hoh r_kW_hog r_kW_hoh r_kG_hog r_kG_hoh ap_hA_hog ap_hA_hoh ap_hA'_hog ap_hA'_hoh ap_ho0_hog ap_ho0_hoh ap_ho1_hog ap_ho1_hoh
    go_wp2_with fail
    refine (heldF gz gy a5 b5 c5 d5 zs.length ts.length 1 _ hog'.toSees hoh'.toSees (by decide) (by omega)).mono ?_
    rintro e w12 ⟨rfl, hb⟩
    replace kA0 := bat hb kA0
    replace kA1 := bat hb kA1
    replace kA2 := bat hb kA2
    replace kA3 := bat hb kA3
    replace kW0 := bat hb kW0
    replace kW1 := bat hb kW1
    replace kW2 := bat hb kW2
    replace kW3 := bat hb kW3
    replace kG0 := bat hb kG0
    replace kG1 := bat hb kG1
    replace kG2 := bat hb kG2
    replace kG3 := bat hb kG3
    replace hA := hA.below hb
    replace hA' := hA'.below hb
    replace ho0 := ho0.below hb
    replace ho1 := ho1.below hb
    replace hog' := hog'.below hb
    replace hoh' := hoh'.below hb
    replace B := B.trans (hb.mono B.size)
    clear hb
    go_wp2_with fail
    refine (toF g h a b c d xs ys _ hA hA' (by omega) (by omega)).mono ?_
    rintro e w13 ⟨a13, c13, b13, d13, rfl, o13, o13', _, hb⟩
    replace kA0 := bat hb kA0
    replace kA1 := bat hb kA1
    replace kA2 := bat hb kA2
    replace kA3 := bat hb kA3
    replace kW0 := bat hb kW0
    replace kW1 := bat hb kW1
    replace kW2 := bat hb kW2
    replace kW3 := bat hb kW3
    replace kG0 := bat hb kG0
    replace kG1 := bat hb kG1
    replace kG2 := bat hb kG2
    replace kG3 := bat hb kG3
    replace hA := hA.below hb
    replace hA' := hA'.below hb
    replace ho0 := ho0.below hb
    replace ho1 := ho1.below hb
    replace hog' := hog'.below hb
    replace hoh' := hoh'.below hb
    replace B := B.trans (hb.mono B.size)
    clear hb
    go_wp2_with fail
    refine (implLowest g h a13 b13 c13 d13 xs ys _ o13.toSees o13'.toSees).mono ?_
    rintro e w14 ⟨v2, rfl, hI2, hb⟩
    obtain ⟨a14, c14, b14, d14, rfl, hoi, hoj, _⟩ := hI2.as HV.out
    rw [HG.out, HY.out]
    clear hI2 o13 o13' hA hA' kA0 kA1 kA2 kA3
    replace kW0 := bat hb kW0
    replace kW1 := bat hb kW1
    replace kW2 := bat hb kW2
    replace kW3 := bat hb kW3
    replace kG0 := bat hb kG0
    replace kG1 := bat hb kG1
    replace kG2 := bat hb kG2
    replace kG3 := bat hb kG3
    replace ho0 := ho0.below hb
    replace ho1 := ho1.below hb
    replace hog' := hog'.below hb
    replace hoh' := hoh'.below hb
    replace B := B.trans (hb.mono B.size)
    clear hb
    have l_kW := World.block_lt_of_cell? _ _ kW0
    have l_kG := World.block_lt_of_cell? _ _ kG0
    go_wp2_with fail
    clear l_kW l_kG
    obtain ⟨kH0, kH1, kH2, kH3⟩ := fvar_new w14 gz gy a14 b14 zs.length ts.length c14 d14 36
    have hb := below1 w14 (.cells #[.bool gz, .slice a14 zs.length c14, .bool gy, .slice b14 ts.length d14] 36)
    replace kW0 := bat hb kW0
    replace kW1 := bat hb kW1
    replace kW2 := bat hb kW2
    replace kW3 := bat hb kW3
    replace kG0 := bat hb kG0
    replace kG1 := bat hb kG1
    replace kG2 := bat hb kG2
    replace kG3 := bat hb kG3
    replace ho0 := ho0.below hb
    replace ho1 := ho1.below hb
    replace hog' := hog'.below hb
    replace hoh' := hoh'.below hb
    replace hoi := hoi.below hb
    replace hoj := hoj.below hb
    replace B := B.trans (hb.mono B.size)
    clear hb
    generalize w14.alloc (.cells #[.bool gz, .slice a14 zs.length c14, .bool gy, .slice b14 ts.length d14] 36) = W14 at *
    refine (eqF gz gy a14 a3 b14 b3 c14 c3 d14 d3 zs ts _ hoi.toSees ho0.toSees hoj.toSees ho1.toSees).mono ?_
    rintro e w15 ⟨rfl, hb⟩
    replace kW0 := bat hb kW0
    replace kW1 := bat hb kW1
    replace kW2 := bat hb kW2
    replace kW3 := bat hb kW3
    replace kG0 := bat hb kG0
    replace kG1 := bat hb kG1
    replace kG2 := bat hb kG2
    replace kG3 := bat hb kG3
    replace kH0 := bat hb kH0
    replace kH1 := bat hb kH1
    replace kH2 := bat hb kH2
    replace kH3 := bat hb kH3
    replace ho0 := ho0.below hb
    replace ho1 := ho1.below hb
    replace hog' := hog'.below hb
    replace hoh' := hoh'.below hb
    replace hoi := hoi.below hb
    replace hoj := hoj.below hb
    replace B := B.trans (hb.mono B.size)
    clear hb
    clear hoi hoj ho0 ho1 kH0 kH1 kH2 kH3 kW0 kW1 kW2 kW3
    go_wp2_with fail
    refine (heldF gz gy a5 b5 c5 d5 zs.length ts.length 1 _ hog'.toSees hoh'.toSees (by decide) (by omega)).mono ?_
    rintro e w16 ⟨rfl, hb⟩
    replace kG0 := bat hb kG0
    replace kG1 := bat hb kG1
    replace kG2 := bat hb kG2
    replace kG3 := bat hb kG3
    replace hog' := hog'.below hb
    replace hoh' := hoh'.below hb
    replace B := B.trans (hb.mono B.size)
    clear hb
    go_wp2
    go_ret
    exact ⟨rfl, B⟩
  · clear kA0 kA1 kA2 kA3
    go_enter Try.func6, Try.ntmps6
    go_wp2_with fail
    refine (szF g h a b c d xs.length ys.length 1048576 _ (by omega) m1 m2).mono ?_
    rintro e w1 ⟨rfl, hb⟩
    rw [if_pos (by omega)]
    go_wp2
    go_ret
    exact ⟨rfl, B.trans (hb.mono (by simp))⟩
end Go.Proofs.Ytlpdenaiclocfaj
