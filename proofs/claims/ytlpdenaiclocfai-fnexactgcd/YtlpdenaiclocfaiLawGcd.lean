/- The law on Gcd: at every argument the program's Gcd is the specification's, limb by limb; it writes into no argument; its answer owns its memory. -/
import Derived.Test.YtlpdenaiclocfaiGcdI
import Derived.Test.YtlpdenaiclocfaiSGcd
import Derived.Test.YtlpdenaiclocfaiGcdB
import Derived.Deep.RegionHeld3
import Derived.Deep.DeepCutAuto
namespace Go.Proofs.Ytlpdenaiclocfai
open Go.RowKit

set_option maxRecDepth 20000 in
set_option maxHeartbeats 8000000 in
theorem lawGcd (g g' : Bool) (a a' : Option Addr) (c c' : Nat) (xs ys : List Int) (w : World) (h : Came w a c xs) (k : Came w a' c' ys) :
    Calls Try.prog 8 #[.agg #[.bool g, .slice a xs.length c], .agg #[.bool g', .slice a' ys.length c']] w fun e w' => e = .returned (.bool true) ∧ Below w.heap.size w w' := by
  have hm : xs.length ≤ 9223372036854775807 := by have := h.max; have := h.fits; unfold maxLen at *; omega
  have km : ys.length ≤ 9223372036854775807 := by have := k.max; have := k.fits; unfold maxLen at *; omega
  obtain ⟨gz, HG⟩ : ∃ gz, Hid (decide ((Int.gcd (tk g xs) (tk g' ys) : Int) < 0) = gz) := ⟨_, rfl⟩
  have HB : Hid (∀ zs, Lim zs ∧ Nrm zs ∧ val zs = mg ((Int.gcd (tk g xs) (tk g' ys) : Int)) → zs.length ≤ 24) := fun zs hz => len_le hz.1 hz.2.1 (hz.2.2 ▸ gcd_bound g g' xs ys h.lim k.lim)
  by_cases hs : xs.length ≤ 1048576
  · by_cases hs2 : xs.length + ys.length ≤ 1048576
    · have ks : ys.length ≤ 1048576 := by omega
      go_enter Try.func8, Try.ntmps8
      go_wp2_with fail
      refine (szN g a c xs.length 1048576 _ (by omega) hm).mono ?_
      rintro e w1 ⟨rfl, hb⟩
      rw [if_neg (by omega)]
      obtain ⟨kA0, kA1⟩ := var_new w g a xs.length c 24
      obtain ⟨kB0, kB1⟩ := var_new (w.alloc (.cells #[.bool g, .slice a xs.length c] 24)) g' a' ys.length c' 24
      have hbb := below1 (w.alloc (.cells #[.bool g, .slice a xs.length c] 24)) (.cells #[.bool g', .slice a' ys.length c'] 24)
      replace kA0 := bat hbb kA0
      replace kA1 := bat hbb kA1
      have B := below2 w (.cells #[.bool g, .slice a xs.length c] 24) (.cells #[.bool g', .slice a' ys.length c'] 24)
      have hA := h.below B
      have hB := k.below B
      rw [World.size_alloc] at kB0 kB1
      clear h k hbb
      replace kA0 := bat hb kA0
      replace kA1 := bat hb kA1
      replace kB0 := bat hb kB0
      replace kB1 := bat hb kB1
      replace hA := hA.below hb
      replace hB := hB.below hb
      replace B := B.trans (hb.mono B.size)
      clear hb
      go_wp2_with fail
      refine (szN g' a' c' ys.length (1048576 - xs.length) _ (by omega) km).mono ?_
      rintro e w2 ⟨rfl, hb⟩
      rw [if_neg (by omega)]
      replace kA0 := bat hb kA0
      replace kA1 := bat hb kA1
      replace kB0 := bat hb kB0
      replace kB1 := bat hb kB1
      replace hA := hA.below hb
      replace hB := hB.below hb
      replace B := B.trans (hb.mono B.size)
      clear hb
      go_wp2_with fail
      go_cut [6] (fun s6 W => ∃ p a3 c3 zs, s6 = .pointer (some ⟨p, 0, none⟩) ∧ W.cell? ⟨p, 0, none⟩ = some (.bool gz) ∧ W.cell? ⟨p, 1, none⟩ = some (.slice a3 zs.length c3) ∧ Own w.heap.size W a3 c3 zs ∧ Hid (Lim zs ∧ Nrm zs ∧ val zs = mg ((Int.gcd (tk g xs) (tk g' ys) : Int))) ∧ Below w2.heap.size w2 W)
      case first =>
        have sz := B.size
        have lA : w.heap.size < w2.heap.size := World.block_lt_of_cell? _ _ kA0
        have lB : w.heap.size + 1 < w2.heap.size := World.block_lt_of_cell? _ _ kB0
        go_region_held3 (fun w' => w'.cell? ⟨w.heap.size, 0, none⟩ = some (.bool g) ∧ w'.cell? ⟨w.heap.size, 1, none⟩ = some (.slice a xs.length c) ∧ w'.cell? ⟨w.heap.size + 1, 0, none⟩ = some (.bool g') ∧ w'.cell? ⟨w.heap.size + 1, 1, none⟩ = some (.slice a' ys.length c'))
          (first | exact ⟨kA0, kA1, kB0, kB1⟩ | exact m3 | exact m4 | exact m5 | exact ⟨bat (below1 _ _) kA0, bat (below1 _ _) kA1, bat (below1 _ _) kB0, bat (below1 _ _) kB1⟩ | exact ⟨bat (below1 _ _) m3.1, bat (below1 _ _) m3.2.1, bat (below1 _ _) m3.2.2.1, bat (below1 _ _) m3.2.2.2⟩ | exact ⟨bat (below1 _ _) m4.1, bat (below1 _ _) m4.2.1, bat (below1 _ _) m4.2.2.1, bat (below1 _ _) m4.2.2.2⟩ | exact ⟨bat (below1 _ _) m5.1, bat (below1 _ _) m5.2.1, bat (below1 _ _) m5.2.2.1, bat (below1 _ _) m5.2.2.2⟩ | exact ⟨(cell_put (by omega)).trans m5.1, (cell_put (by omega)).trans m5.2.1, (cell_put (by omega)).trans m5.2.2.1, (cell_put (by omega)).trans m5.2.2.2⟩ | (simp [*]))
          (first
          | (go_at_call_of 11 (Value.agg #[Value.bool g, Value.slice a xs.length c]); refine (toN g a c xs _ ?_ hs).mono ?_; (first | exact hA.below (Below.refl _ _).drew | exact hA.below (below1 _ _).drew); rintro e w3 ⟨aa, ca, rfl, ho3, hb3⟩; have n3 : Below w2.heap.size w2 w3 := (by first | exact (Below.refl _ _).drew.trans hb3 | exact (below1 _ _).drew.trans (hb3.mono (by simp))); have m3 : w3.cell? ⟨w.heap.size, 0, none⟩ = some (.bool g) ∧ w3.cell? ⟨w.heap.size, 1, none⟩ = some (.slice a xs.length c) ∧ w3.cell? ⟨w.heap.size + 1, 0, none⟩ = some (.bool g') ∧ w3.cell? ⟨w.heap.size + 1, 1, none⟩ = some (.slice a' ys.length c') := ⟨bat n3 kA0, bat n3 kA1, bat n3 kB0, bat n3 kB1⟩; have hs3 := ho3.toSees; have z3 : w2.heap.size ≤ w3.heap.size := n3.size; (first | (have hz3 := hb3; rw [World.size_drew, World.size_alloc] at hz3; have z3' := hz3.size; rw [World.size_drew, World.size_alloc] at z3'; obtain ⟨p30, r30⟩ := at_blk hz3 (b := w2.heap.size) (Nat.lt_succ_self _); clear hz3) | skip); clear hb3 ho3)
          | (go_at_call_of 11 (Value.agg #[Value.bool g', Value.slice a' ys.length c']); refine (toN g' a' c' ys _ ?_ ks).mono ?_; (first | exact hB.below n3 | exact hB.below (n3.trans ((below1 _ _).mono n3.size))); rintro e w4 ⟨ab, cb, rfl, ho4, hb4⟩; have n4 : Below w2.heap.size w2 w4 := (by first | exact n3.trans (hb4.mono n3.size) | exact (n3.trans ((below1 _ _).mono n3.size)).trans (hb4.mono (by have := n3.size; simp; omega))); have m4 : w4.cell? ⟨w.heap.size, 0, none⟩ = some (.bool g) ∧ w4.cell? ⟨w.heap.size, 1, none⟩ = some (.slice a xs.length c) ∧ w4.cell? ⟨w.heap.size + 1, 0, none⟩ = some (.bool g') ∧ w4.cell? ⟨w.heap.size + 1, 1, none⟩ = some (.slice a' ys.length c') := ⟨bat n4 kA0, bat n4 kA1, bat n4 kB0, bat n4 kB1⟩; have hs5 : Sees w4 aa ca xs := (by first | exact hs3.below hb4 | exact (hs3.below (below1 _ _)).below hb4); have hs4 := ho4.toSees; have z4 : w3.heap.size ≤ w4.heap.size := Nat.le_trans (by simp) hb4.size; (first | (have hz4 := hb4; rw [World.size_alloc] at hz4; have z4' := hz4.size; rw [World.size_alloc] at z4'; obtain ⟨p41, r41⟩ := at_blk hz4 (b := w3.heap.size) (Nat.lt_succ_self _); clear hz4) | skip); (first | (by_cases hq40 : w2.heap.size < w3.heap.size; rotate_left; (exfalso; omega); obtain ⟨p40, r40⟩ := at_block hb4 (b := w2.heap.size) (Nat.lt_of_lt_of_le hq40 (by simp))) | skip); clear hb4 ho4 hs3)
          | (go_at_call 24; refine (specGcd g g' aa ab ca cb xs ys _ ?_ ?_).mono ?_; (first | exact hs5 | exact hs5.below (below1 _ _)); (first | exact hs4 | exact hs4.below (below1 _ _)); rintro e w5 ⟨v, rfl, hI, hb5⟩; have n5 : Below w2.heap.size w2 w5 := (by first | exact n4.trans (hb5.mono n4.size) | exact (n4.trans ((below1 _ _).mono n4.size)).trans (hb5.mono (by have := n4.size; simp; omega))); have m5 : w5.cell? ⟨w.heap.size, 0, none⟩ = some (.bool g) ∧ w5.cell? ⟨w.heap.size, 1, none⟩ = some (.slice a xs.length c) ∧ w5.cell? ⟨w.heap.size + 1, 0, none⟩ = some (.bool g') ∧ w5.cell? ⟨w.heap.size + 1, 1, none⟩ = some (.slice a' ys.length c') := ⟨bat n5 kA0, bat n5 kA1, bat n5 kB0, bat n5 kB1⟩; obtain ⟨a5, c5, zs, rfl, hoz, hnz, hvz⟩ := hI; rw [HG.out]; have z5 : w4.heap.size ≤ w5.heap.size := Nat.le_trans (by simp) hb5.size; (first | (have hz5 := hb5; rw [World.size_alloc] at hz5; have z5' := hz5.size; rw [World.size_alloc] at z5'; obtain ⟨p52, r52⟩ := at_blk hz5 (b := w4.heap.size) (Nat.lt_succ_self _); clear hz5) | skip); (first | (by_cases hq50 : w2.heap.size < w4.heap.size; rotate_left; (exfalso; omega); obtain ⟨p50, r50⟩ := at_block hb5 (b := w2.heap.size) (Nat.lt_of_lt_of_le hq50 (by simp))) | skip); (first | (by_cases hq51 : w3.heap.size < w4.heap.size; rotate_left; (exfalso; omega); obtain ⟨p51, r51⟩ := at_block hb5 (b := w3.heap.size) (Nat.lt_of_lt_of_le hq51 (by simp))) | skip); (try simp at hoz); clear hb5 hs4 hs5))
        all_goals
          have HZ : Hid (Lim zs ∧ Nrm zs ∧ val zs = mg ((Int.gcd (tk g xs) (tk g' ys) : Int))) := ⟨hoz.lim, hnz, hvz⟩
          have s5 := n5.size
          go_wp2
          go_meet
          case rel =>
            first
            | exact ⟨_, a5, c5, zs, rfl, (put_cells (by simp [*]) (by simp [*])).1, (put_cells (by simp [*]) (by simp [*])).2, ((hoz.setCell (by dsimp only; omega) _).setCell (by dsimp only; omega) _).base_le (by omega), HZ, (n5.setCell (by dsimp only; omega) _).setCell (by dsimp only; omega) _⟩
            | exact ⟨_, a5, c5, zs, rfl, (var_new _ _ _ _ _ _).1, (var_new _ _ _ _ _ _).2, (hoz.below (below1 _ _)).base_le (by omega), HZ, n5.trans ((below1 _ _).mono n5.size)⟩
      obtain ⟨p, a3, c3, zs, rfl, kW0, kW1, ho0, HV, hb⟩ := hcut
      replace kA0 := bat hb kA0
      replace kA1 := bat hb kA1
      replace kB0 := bat hb kB0
      replace kB1 := bat hb kB1
      replace hA := hA.below hb
      replace hB := hB.below hb
      replace B := B.trans (hb.mono B.size)
      clear hb
      have hl2 : zs.length ≤ 24 := HB.out zs HV.out
      go_wp2_with fail
      refine (toN g a c xs _ hA hs).mono ?_
      rintro e w4 ⟨a4, c4, rfl, hox, hb⟩
      have ap_hA_hox := apart_later hA hox
      have ap_hB_hox := apart_later hB hox
      have ap_ho0_hox := apart_later ho0.toCame hox
      have r_kA_hox := row_ne_low hox (World.block_lt_of_cell? _ _ kA0)
      have r_kB_hox := row_ne_low hox (World.block_lt_of_cell? _ _ kB0)
      have r_kW_hox := row_ne_low hox (World.block_lt_of_cell? _ _ kW0)
      have sB_hox := B.size
      have S_hox := hb.size
      replace kA0 := bat hb kA0
      replace kA1 := bat hb kA1
      replace kB0 := bat hb kB0
      replace kB1 := bat hb kB1
      replace kW0 := bat hb kW0
      replace kW1 := bat hb kW1
      replace hA := hA.below hb
      replace hB := hB.below hb
      replace ho0 := ho0.below hb
      replace B := B.trans (hb.mono B.size)
      clear hb
      have l_kA := World.block_lt_of_cell? _ _ kA0
      have l_kB := World.block_lt_of_cell? _ _ kB0
      have l_kW := World.block_lt_of_cell? _ _ kW0
      go_wp2_with fail
      clear l_kA l_kB l_kW
      obtain ⟨kX0, kX1⟩ := var_new w4 g a4 xs.length c4 26
      have r_kX_hox := row_ne_high hox.toCame (Nat.le_refl _)
      have hb := below1 w4 (.cells #[.bool g, .slice a4 xs.length c4] 26)
      replace kA0 := bat hb kA0
      replace kA1 := bat hb kA1
      replace kB0 := bat hb kB0
      replace kB1 := bat hb kB1
      replace kW0 := bat hb kW0
      replace kW1 := bat hb kW1
      replace hA := hA.below hb
      replace hB := hB.below hb
      replace ho0 := ho0.below hb
      replace hox := hox.below hb
      replace S_hox := Nat.le_trans S_hox hb.size
      replace B := B.trans (hb.mono B.size)
      clear hb
      generalize w4.alloc (.cells #[.bool g, .slice a4 xs.length c4] 26) = W4 at *
      refine (toN g' a' c' ys _ hB ks).mono ?_
      rintro e w5 ⟨a5, c5, rfl, hoy, hb⟩
      have ap_hA_hoy := apart_later hA hoy
      have ap_hB_hoy := apart_later hB hoy
      have ap_ho0_hoy := apart_later ho0.toCame hoy
      have ap_hox_hoy := apart_later hox.toCame hoy
      have r_kA_hoy := row_ne_low hoy (World.block_lt_of_cell? _ _ kA0)
      have r_kB_hoy := row_ne_low hoy (World.block_lt_of_cell? _ _ kB0)
      have r_kW_hoy := row_ne_low hoy (World.block_lt_of_cell? _ _ kW0)
      have r_kX_hoy := row_ne_low hoy (World.block_lt_of_cell? _ _ kX0)
      have sB_hoy := B.size
      have S_hoy := hb.size
      have ap_hoy_hox := apart_before hox.toCame hoy
      replace kA0 := bat hb kA0
      replace kA1 := bat hb kA1
      replace kB0 := bat hb kB0
      replace kB1 := bat hb kB1
      replace kW0 := bat hb kW0
      replace kW1 := bat hb kW1
      replace kX0 := bat hb kX0
      replace kX1 := bat hb kX1
      replace hA := hA.below hb
      replace hB := hB.below hb
      replace ho0 := ho0.below hb
      replace hox := hox.below hb
      replace S_hox := Nat.le_trans S_hox hb.size
      replace B := B.trans (hb.mono B.size)
      clear hb
      have l_kA := World.block_lt_of_cell? _ _ kA0
      have l_kB := World.block_lt_of_cell? _ _ kB0
      have l_kW := World.block_lt_of_cell? _ _ kW0
      have l_kX := World.block_lt_of_cell? _ _ kX0
      go_wp2_with fail
      clear l_kA l_kB l_kW l_kX
      obtain ⟨kY0, kY1⟩ := var_new w5 g' a5 ys.length c5 26
      have r_kY_hox := row_ne_high hox.toCame (Nat.le_refl _)
      have r_kY_hoy := row_ne_high hoy.toCame (Nat.le_refl _)
      have hb := below1 w5 (.cells #[.bool g', .slice a5 ys.length c5] 26)
      replace kA0 := bat hb kA0
      replace kA1 := bat hb kA1
      replace kB0 := bat hb kB0
      replace kB1 := bat hb kB1
      replace kW0 := bat hb kW0
      replace kW1 := bat hb kW1
      replace kX0 := bat hb kX0
      replace kX1 := bat hb kX1
      replace hA := hA.below hb
      replace hB := hB.below hb
      replace ho0 := ho0.below hb
      replace hox := hox.below hb
      replace hoy := hoy.below hb
      replace S_hox := Nat.le_trans S_hox hb.size
      replace S_hoy := Nat.le_trans S_hoy hb.size
      replace B := B.trans (hb.mono B.size)
      clear hb
      generalize w5.alloc (.cells #[.bool g', .slice a5 ys.length c5] 26) = W5 at *
      refine (implGcd g g' a4 a5 c4 c5 xs ys _ hox.toSees hoy.toSees).mono ?_
      rintro e w6 ⟨v1, rfl, hI1, hb⟩
      obtain ⟨a6, c6, rfl, hog⟩ := hI1.as HV.out.1 HV.out.2.1 HV.out.2.2
      rw [HG.out]
      clear hI1
      have ap_hA_hog := apart_later hA hog
      have ap_hB_hog := apart_later hB hog
      have ap_ho0_hog := apart_later ho0.toCame hog
      have ap_hox_hog := apart_later hox.toCame hog
      have ap_hoy_hog := apart_later hoy.toCame hog
      have r_kA_hog := row_ne_low hog (World.block_lt_of_cell? _ _ kA0)
      have r_kB_hog := row_ne_low hog (World.block_lt_of_cell? _ _ kB0)
      have r_kW_hog := row_ne_low hog (World.block_lt_of_cell? _ _ kW0)
      have r_kX_hog := row_ne_low hog (World.block_lt_of_cell? _ _ kX0)
      have r_kY_hog := row_ne_low hog (World.block_lt_of_cell? _ _ kY0)
      have sB_hog := B.size
      have S_hog := hb.size
      have ap_hog_hox := apart_before hox.toCame hog
      have ap_hog_hoy := apart_before hoy.toCame hog
      replace kA0 := bat hb kA0
      replace kA1 := bat hb kA1
      replace kB0 := bat hb kB0
      replace kB1 := bat hb kB1
      replace kW0 := bat hb kW0
      replace kW1 := bat hb kW1
      replace kX0 := bat hb kX0
      replace kX1 := bat hb kX1
      replace kY0 := bat hb kY0
      replace kY1 := bat hb kY1
      replace hA := hA.below hb
      replace hB := hB.below hb
      replace ho0 := ho0.below hb
      replace hox := hox.below hb
      replace hoy := hoy.below hb
      replace S_hox := Nat.le_trans S_hox hb.size
      replace S_hoy := Nat.le_trans S_hoy hb.size
      replace B := B.trans (hb.mono B.size)
      clear hb
      have l_kA := World.block_lt_of_cell? _ _ kA0
      have l_kB := World.block_lt_of_cell? _ _ kB0
      have l_kW := World.block_lt_of_cell? _ _ kW0
      have l_kX := World.block_lt_of_cell? _ _ kX0
      have l_kY := World.block_lt_of_cell? _ _ kY0
      go_wp2_with fail
      clear l_kA l_kB l_kW l_kX l_kY
      obtain ⟨kG0, kG1⟩ := var_new w6 gz a6 zs.length c6 26
      have r_kG_hox := row_ne_high hox.toCame (Nat.le_refl _)
      have r_kG_hoy := row_ne_high hoy.toCame (Nat.le_refl _)
      have r_kG_hog := row_ne_high hog.toCame (Nat.le_refl _)
      have hb := below1 w6 (.cells #[.bool gz, .slice a6 zs.length c6] 26)
      replace kA0 := bat hb kA0
      replace kA1 := bat hb kA1
      replace kB0 := bat hb kB0
      replace kB1 := bat hb kB1
      replace kW0 := bat hb kW0
      replace kW1 := bat hb kW1
      replace kX0 := bat hb kX0
      replace kX1 := bat hb kX1
      replace kY0 := bat hb kY0
      replace kY1 := bat hb kY1
      replace hA := hA.below hb
      replace hB := hB.below hb
      replace ho0 := ho0.below hb
      replace hox := hox.below hb
      replace hoy := hoy.below hb
      replace hog := hog.below hb
      replace S_hox := Nat.le_trans S_hox hb.size
      replace S_hoy := Nat.le_trans S_hoy hb.size
      replace S_hog := Nat.le_trans S_hog hb.size
      replace B := B.trans (hb.mono B.size)
      clear hb
      generalize w6.alloc (.cells #[.bool gz, .slice a6 zs.length c6] 26) = W6 at *
      refine (eqN gz a6 a3 c6 c3 zs _ hog.toSees ho0.toSees).mono ?_
      rintro e w7 ⟨rfl, hb⟩
      replace kA0 := bat hb kA0
      replace kA1 := bat hb kA1
      replace kB0 := bat hb kB0
      replace kB1 := bat hb kB1
      replace kW0 := bat hb kW0
      replace kW1 := bat hb kW1
      replace kX0 := bat hb kX0
      replace kX1 := bat hb kX1
      replace kY0 := bat hb kY0
      replace kY1 := bat hb kY1
      replace kG0 := bat hb kG0
      replace kG1 := bat hb kG1
      replace hA := hA.below hb
      replace hB := hB.below hb
      replace ho0 := ho0.below hb
      replace hox := hox.below hb
      replace hoy := hoy.below hb
      replace hog := hog.below hb
      replace S_hox := Nat.le_trans S_hox hb.size
      replace S_hoy := Nat.le_trans S_hoy hb.size
      replace S_hog := Nat.le_trans S_hog hb.size
      replace B := B.trans (hb.mono B.size)
      clear hb
      go_wp2_with fail
      go_region_held3 (fun w' => w'.cell? ⟨w4.heap.size, 0, none⟩ = some (.bool g) ∧ w'.cell? ⟨w4.heap.size, 1, none⟩ = some (.slice a4 xs.length c4) ∧ w'.cell? ⟨w.heap.size, 0, none⟩ = some (.bool g) ∧ w'.cell? ⟨w.heap.size, 1, none⟩ = some (.slice a xs.length c))
        (first | exact ⟨kX0, kX1, kA0, kA1⟩ | exact m1 | exact m2 | (simp [*]))
        (first
        | (go_at_call 11; refine (toN g a c xs _ ?_ hs).mono ?_; exact hA.below (Below.refl _ _).drew; rintro e w8 ⟨aq, cq, rfl, hoq, hbq⟩; have m1 : w8.cell? ⟨w4.heap.size, 0, none⟩ = some (.bool g) ∧ w8.cell? ⟨w4.heap.size, 1, none⟩ = some (.slice a4 xs.length c4) ∧ w8.cell? ⟨w.heap.size, 0, none⟩ = some (.bool g) ∧ w8.cell? ⟨w.heap.size, 1, none⟩ = some (.slice a xs.length c) := ⟨bat hbq kX0, bat hbq kX1, bat hbq kA0, bat hbq kA1⟩)
        | (go_at_call 13; refine (eqN g a4 aq c4 cq xs _ ?_ hoq.toSees).mono ?_; exact hox.toSees.below ((Below.refl _ _).drew.trans hbq); rintro e w9 ⟨rfl, hbr⟩; have m2 : w9.cell? ⟨w4.heap.size, 0, none⟩ = some (.bool g) ∧ w9.cell? ⟨w4.heap.size, 1, none⟩ = some (.slice a4 xs.length c4) ∧ w9.cell? ⟨w.heap.size, 0, none⟩ = some (.bool g) ∧ w9.cell? ⟨w.heap.size, 1, none⟩ = some (.slice a xs.length c) := ⟨bat hbr m1.1, bat hbr m1.2.1, bat hbr m1.2.2.1, bat hbr m1.2.2.2⟩))
      have hb := (Below.refl _ _).drew.trans (hbq.trans (hbr.mono hbq.size))
      clear hbq hbr hoq m1 m2
      replace kA0 := bat hb kA0
      replace kA1 := bat hb kA1
      replace kB0 := bat hb kB0
      replace kB1 := bat hb kB1
      replace kW0 := bat hb kW0
      replace kW1 := bat hb kW1
      replace kX0 := bat hb kX0
      replace kX1 := bat hb kX1
      replace kY0 := bat hb kY0
      replace kY1 := bat hb kY1
      replace kG0 := bat hb kG0
      replace kG1 := bat hb kG1
      replace hA := hA.below hb
      replace hB := hB.below hb
      replace ho0 := ho0.below hb
      replace hox := hox.below hb
      replace hoy := hoy.below hb
      replace hog := hog.below hb
      replace S_hox := Nat.le_trans S_hox hb.size
      replace S_hoy := Nat.le_trans S_hoy hb.size
      replace S_hog := Nat.le_trans S_hog hb.size
      replace B := B.trans (hb.mono B.size)
      clear hb
      go_wp2_with fail
      go_region_held3 (fun w' => w'.cell? ⟨w5.heap.size, 0, none⟩ = some (.bool g') ∧ w'.cell? ⟨w5.heap.size, 1, none⟩ = some (.slice a5 ys.length c5) ∧ w'.cell? ⟨w.heap.size + 1, 0, none⟩ = some (.bool g') ∧ w'.cell? ⟨w.heap.size + 1, 1, none⟩ = some (.slice a' ys.length c'))
        (first | exact ⟨kY0, kY1, kB0, kB1⟩ | exact m1 | exact m2 | (simp [*]))
        (first
        | (go_at_call 11; refine (toN g' a' c' ys _ ?_ ks).mono ?_; exact hB.below (Below.refl _ _).drew; rintro e w10 ⟨aq, cq, rfl, hoq, hbq⟩; have m1 : w10.cell? ⟨w5.heap.size, 0, none⟩ = some (.bool g') ∧ w10.cell? ⟨w5.heap.size, 1, none⟩ = some (.slice a5 ys.length c5) ∧ w10.cell? ⟨w.heap.size + 1, 0, none⟩ = some (.bool g') ∧ w10.cell? ⟨w.heap.size + 1, 1, none⟩ = some (.slice a' ys.length c') := ⟨bat hbq kY0, bat hbq kY1, bat hbq kB0, bat hbq kB1⟩)
        | (go_at_call 13; refine (eqN g' a5 aq c5 cq ys _ ?_ hoq.toSees).mono ?_; exact hoy.toSees.below ((Below.refl _ _).drew.trans hbq); rintro e w11 ⟨rfl, hbr⟩; have m2 : w11.cell? ⟨w5.heap.size, 0, none⟩ = some (.bool g') ∧ w11.cell? ⟨w5.heap.size, 1, none⟩ = some (.slice a5 ys.length c5) ∧ w11.cell? ⟨w.heap.size + 1, 0, none⟩ = some (.bool g') ∧ w11.cell? ⟨w.heap.size + 1, 1, none⟩ = some (.slice a' ys.length c') := ⟨bat hbr m1.1, bat hbr m1.2.1, bat hbr m1.2.2.1, bat hbr m1.2.2.2⟩))
      have hb := (Below.refl _ _).drew.trans (hbq.trans (hbr.mono hbq.size))
      clear hbq hbr hoq m1 m2
      replace kA0 := bat hb kA0
      replace kA1 := bat hb kA1
      replace kB0 := bat hb kB0
      replace kB1 := bat hb kB1
      replace kW0 := bat hb kW0
      replace kW1 := bat hb kW1
      replace kX0 := bat hb kX0
      replace kX1 := bat hb kX1
      replace kY0 := bat hb kY0
      replace kY1 := bat hb kY1
      replace kG0 := bat hb kG0
      replace kG1 := bat hb kG1
      replace hA := hA.below hb
      replace hB := hB.below hb
      replace ho0 := ho0.below hb
      replace hox := hox.below hb
      replace hoy := hoy.below hb
      replace hog := hog.below hb
      replace S_hox := Nat.le_trans S_hox hb.size
      replace S_hoy := Nat.le_trans S_hoy hb.size
      replace S_hog := Nat.le_trans S_hog hb.size
      replace B := B.trans (hb.mono B.size)
      clear hb
      go_wp2_with fail
      refine (markN _ g a4 c4 xs 1 _ hox (by decide) (by omega)).mono ?_
      rintro e w12 ⟨rfl, hox', hg⟩
      replace B := B.trans ((below_of_grown hox hg S_hox).mono sB_hox)
      replace kA0 := hg.cell kA0 r_kA_hox
      replace kA1 := hg.cell kA1 r_kA_hox
      replace kB0 := hg.cell kB0 r_kB_hox
      replace kB1 := hg.cell kB1 r_kB_hox
      replace kW0 := hg.cell kW0 r_kW_hox
      replace kW1 := hg.cell kW1 r_kW_hox
      replace kX0 := hg.cell kX0 r_kX_hox
      replace kX1 := hg.cell kX1 r_kX_hox
      replace kY0 := hg.cell kY0 r_kY_hox
      replace kY1 := hg.cell kY1 r_kY_hox
      replace kG0 := hg.cell kG0 r_kG_hox
      replace kG1 := hg.cell kG1 r_kG_hox
      replace hA := hA.kept hg ap_hA_hox
      replace hB := hB.kept hg ap_hB_hox
      replace ho0 := ho0.kept hg ap_ho0_hox
      replace hoy := hoy.kept hg ap_hoy_hox
      replace hog := hog.kept hg ap_hog_hox
      replace S_hox := Nat.le_trans S_hox hg.size
      replace S_hoy := Nat.le_trans S_hoy hg.size
      replace S_hog := Nat.le_trans S_hog hg.size
      clear hg hox
      clear r_kA_hox r_kB_hox r_kW_hox r_kX_hox r_kY_hox r_kG_hox ap_hA_hox ap_hB_hox ap_ho0_hox ap_hoy_hox ap_hog_hox S_hox sB_hox
      clear hox'
      clear kX0 kX1
      go_wp2_with fail
      refine (markN _ g' a5 c5 ys (1 + xs.length) _ hoy (by omega) (by omega)).mono ?_
      rintro e w13 ⟨rfl, hoy', hg⟩
      replace B := B.trans ((below_of_grown hoy hg S_hoy).mono sB_hoy)
      replace kA0 := hg.cell kA0 r_kA_hoy
      replace kA1 := hg.cell kA1 r_kA_hoy
      replace kB0 := hg.cell kB0 r_kB_hoy
      replace kB1 := hg.cell kB1 r_kB_hoy
      replace kW0 := hg.cell kW0 r_kW_hoy
      replace kW1 := hg.cell kW1 r_kW_hoy
      replace kY0 := hg.cell kY0 r_kY_hoy
      replace kY1 := hg.cell kY1 r_kY_hoy
      replace kG0 := hg.cell kG0 r_kG_hoy
      replace kG1 := hg.cell kG1 r_kG_hoy
      replace hA := hA.kept hg ap_hA_hoy
      replace hB := hB.kept hg ap_hB_hoy
      replace ho0 := ho0.kept hg ap_ho0_hoy
      replace hog := hog.kept hg ap_hog_hoy
      replace S_hoy := Nat.le_trans S_hoy hg.size
      replace S_hog := Nat.le_trans S_hog hg.size
      clear hg hoy
      clear r_kA_hoy r_kB_hoy r_kW_hoy r_kY_hoy r_kG_hoy ap_hA_hoy ap_hB_hoy ap_ho0_hoy ap_hog_hoy S_hoy sB_hoy
      clear hoy'
      clear kY0 kY1
      have hkk : decide ((1 : Int) + xs.length + ys.length < 0) = false := by simp; omega
      go_wp2_with fail
      clear hkk
      refine (eqN gz a6 a3 c6 c3 zs _ hog.toSees ho0.toSees).mono ?_
      rintro e w14 ⟨rfl, hb⟩
      replace kA0 := bat hb kA0
      replace kA1 := bat hb kA1
      replace kB0 := bat hb kB0
      replace kB1 := bat hb kB1
      replace kW0 := bat hb kW0
      replace kW1 := bat hb kW1
      replace kG0 := bat hb kG0
      replace kG1 := bat hb kG1
      replace hA := hA.below hb
      replace hB := hB.below hb
      replace ho0 := ho0.below hb
      replace hog := hog.below hb
      replace S_hog := Nat.le_trans S_hog hb.size
      replace B := B.trans (hb.mono B.size)
      clear hb
      go_wp2_with fail
      refine (markN _ gz a6 c6 zs 1 _ hog (by decide) (by omega)).mono ?_
      rintro e w15 ⟨rfl, hog', hg⟩
      replace B := B.trans ((below_of_grown hog hg S_hog).mono sB_hog)
      replace kA0 := hg.cell kA0 r_kA_hog
      replace kA1 := hg.cell kA1 r_kA_hog
      replace kB0 := hg.cell kB0 r_kB_hog
      replace kB1 := hg.cell kB1 r_kB_hog
      replace kW0 := hg.cell kW0 r_kW_hog
      replace kW1 := hg.cell kW1 r_kW_hog
      replace kG0 := hg.cell kG0 r_kG_hog
      replace kG1 := hg.cell kG1 r_kG_hog
      replace hA := hA.kept hg ap_hA_hog
      replace hB := hB.kept hg ap_hB_hog
      replace ho0 := ho0.kept hg ap_ho0_hog
      replace S_hog := Nat.le_trans S_hog hg.size
      clear hg hog
      clear r_kA_hog r_kB_hog r_kW_hog r_kG_hog ap_hA_hog ap_hB_hog ap_ho0_hog S_hog sB_hog
      go_wp2_with fail
      refine (heldN gz a6 c6 zs.length 1 _ hog'.toSees (by decide) (by omega)).mono ?_
      rintro e w16 ⟨rfl, hb⟩
      replace kA0 := bat hb kA0
      replace kA1 := bat hb kA1
      replace kB0 := bat hb kB0
      replace kB1 := bat hb kB1
      replace kW0 := bat hb kW0
      replace kW1 := bat hb kW1
      replace kG0 := bat hb kG0
      replace kG1 := bat hb kG1
      replace hA := hA.below hb
      replace hB := hB.below hb
      replace ho0 := ho0.below hb
      replace hog' := hog'.below hb
      replace B := B.trans (hb.mono B.size)
      clear hb
      go_wp2_with fail
      go_cut [13] (fun s6 W => ∃ p a3 c3 zs, s6 = .pointer (some ⟨p, 0, none⟩) ∧ W.cell? ⟨p, 0, none⟩ = some (.bool gz) ∧ W.cell? ⟨p, 1, none⟩ = some (.slice a3 zs.length c3) ∧ Own w.heap.size W a3 c3 zs ∧ Hid (Lim zs ∧ Nrm zs ∧ val zs = mg ((Int.gcd (tk g xs) (tk g' ys) : Int))) ∧ Below w16.heap.size w16 W)
      case first =>
        have sz := B.size
        have lA : w.heap.size < w16.heap.size := World.block_lt_of_cell? _ _ kA0
        have lB : w.heap.size + 1 < w16.heap.size := World.block_lt_of_cell? _ _ kB0
        go_region_held3 (fun w' => w'.cell? ⟨w.heap.size, 0, none⟩ = some (.bool g) ∧ w'.cell? ⟨w.heap.size, 1, none⟩ = some (.slice a xs.length c) ∧ w'.cell? ⟨w.heap.size + 1, 0, none⟩ = some (.bool g') ∧ w'.cell? ⟨w.heap.size + 1, 1, none⟩ = some (.slice a' ys.length c'))
          (first | exact ⟨kA0, kA1, kB0, kB1⟩ | exact m3 | exact m4 | exact m5 | exact ⟨bat (below1 _ _) kA0, bat (below1 _ _) kA1, bat (below1 _ _) kB0, bat (below1 _ _) kB1⟩ | exact ⟨bat (below1 _ _) m3.1, bat (below1 _ _) m3.2.1, bat (below1 _ _) m3.2.2.1, bat (below1 _ _) m3.2.2.2⟩ | exact ⟨bat (below1 _ _) m4.1, bat (below1 _ _) m4.2.1, bat (below1 _ _) m4.2.2.1, bat (below1 _ _) m4.2.2.2⟩ | exact ⟨bat (below1 _ _) m5.1, bat (below1 _ _) m5.2.1, bat (below1 _ _) m5.2.2.1, bat (below1 _ _) m5.2.2.2⟩ | exact ⟨(cell_put (by omega)).trans m5.1, (cell_put (by omega)).trans m5.2.1, (cell_put (by omega)).trans m5.2.2.1, (cell_put (by omega)).trans m5.2.2.2⟩ | (simp [*]))
          (first
          | (go_at_call_of 11 (Value.agg #[Value.bool g, Value.slice a xs.length c]); refine (toN g a c xs _ ?_ hs).mono ?_; (first | exact hA.below (Below.refl _ _).drew | exact hA.below (below1 _ _).drew); rintro e w3 ⟨aa, ca, rfl, ho3, hb3⟩; have n3 : Below w16.heap.size w16 w3 := (by first | exact (Below.refl _ _).drew.trans hb3 | exact (below1 _ _).drew.trans (hb3.mono (by simp))); have m3 : w3.cell? ⟨w.heap.size, 0, none⟩ = some (.bool g) ∧ w3.cell? ⟨w.heap.size, 1, none⟩ = some (.slice a xs.length c) ∧ w3.cell? ⟨w.heap.size + 1, 0, none⟩ = some (.bool g') ∧ w3.cell? ⟨w.heap.size + 1, 1, none⟩ = some (.slice a' ys.length c') := ⟨bat n3 kA0, bat n3 kA1, bat n3 kB0, bat n3 kB1⟩; have hs3 := ho3.toSees; have z3 : w16.heap.size ≤ w3.heap.size := n3.size; (first | (have hz3 := hb3; rw [World.size_drew, World.size_alloc] at hz3; have z3' := hz3.size; rw [World.size_drew, World.size_alloc] at z3'; obtain ⟨p30, r30⟩ := at_blk hz3 (b := w16.heap.size) (Nat.lt_succ_self _); clear hz3) | skip); clear hb3 ho3)
          | (go_at_call_of 11 (Value.agg #[Value.bool g', Value.slice a' ys.length c']); refine (toN g' a' c' ys _ ?_ ks).mono ?_; (first | exact hB.below n3 | exact hB.below (n3.trans ((below1 _ _).mono n3.size))); rintro e w4 ⟨ab, cb, rfl, ho4, hb4⟩; have n4 : Below w16.heap.size w16 w4 := (by first | exact n3.trans (hb4.mono n3.size) | exact (n3.trans ((below1 _ _).mono n3.size)).trans (hb4.mono (by have := n3.size; simp; omega))); have m4 : w4.cell? ⟨w.heap.size, 0, none⟩ = some (.bool g) ∧ w4.cell? ⟨w.heap.size, 1, none⟩ = some (.slice a xs.length c) ∧ w4.cell? ⟨w.heap.size + 1, 0, none⟩ = some (.bool g') ∧ w4.cell? ⟨w.heap.size + 1, 1, none⟩ = some (.slice a' ys.length c') := ⟨bat n4 kA0, bat n4 kA1, bat n4 kB0, bat n4 kB1⟩; have hs5 : Sees w4 aa ca xs := (by first | exact hs3.below hb4 | exact (hs3.below (below1 _ _)).below hb4); have hs4 := ho4.toSees; have z4 : w3.heap.size ≤ w4.heap.size := Nat.le_trans (by simp) hb4.size; (first | (have hz4 := hb4; rw [World.size_alloc] at hz4; have z4' := hz4.size; rw [World.size_alloc] at z4'; obtain ⟨p41, r41⟩ := at_blk hz4 (b := w3.heap.size) (Nat.lt_succ_self _); clear hz4) | skip); (first | (by_cases hq40 : w16.heap.size < w3.heap.size; rotate_left; (exfalso; omega); obtain ⟨p40, r40⟩ := at_block hb4 (b := w16.heap.size) (Nat.lt_of_lt_of_le hq40 (by simp))) | skip); clear hb4 ho4 hs3)
          | (go_at_call 25; refine (implGcd g g' aa ab ca cb xs ys _ ?_ ?_).mono ?_; (first | exact hs5 | exact hs5.below (below1 _ _)); (first | exact hs4 | exact hs4.below (below1 _ _)); rintro e w5 ⟨v, rfl, hI, hb5⟩; have n5 : Below w16.heap.size w16 w5 := (by first | exact n4.trans (hb5.mono n4.size) | exact (n4.trans ((below1 _ _).mono n4.size)).trans (hb5.mono (by have := n4.size; simp; omega))); have m5 : w5.cell? ⟨w.heap.size, 0, none⟩ = some (.bool g) ∧ w5.cell? ⟨w.heap.size, 1, none⟩ = some (.slice a xs.length c) ∧ w5.cell? ⟨w.heap.size + 1, 0, none⟩ = some (.bool g') ∧ w5.cell? ⟨w.heap.size + 1, 1, none⟩ = some (.slice a' ys.length c') := ⟨bat n5 kA0, bat n5 kA1, bat n5 kB0, bat n5 kB1⟩; obtain ⟨a5, c5, zs, rfl, hoz, hnz, hvz⟩ := hI; rw [HG.out]; have z5 : w4.heap.size ≤ w5.heap.size := Nat.le_trans (by simp) hb5.size; (first | (have hz5 := hb5; rw [World.size_alloc] at hz5; have z5' := hz5.size; rw [World.size_alloc] at z5'; obtain ⟨p52, r52⟩ := at_blk hz5 (b := w4.heap.size) (Nat.lt_succ_self _); clear hz5) | skip); (first | (by_cases hq50 : w16.heap.size < w4.heap.size; rotate_left; (exfalso; omega); obtain ⟨p50, r50⟩ := at_block hb5 (b := w16.heap.size) (Nat.lt_of_lt_of_le hq50 (by simp))) | skip); (first | (by_cases hq51 : w3.heap.size < w4.heap.size; rotate_left; (exfalso; omega); obtain ⟨p51, r51⟩ := at_block hb5 (b := w3.heap.size) (Nat.lt_of_lt_of_le hq51 (by simp))) | skip); (try simp at hoz); clear hb5 hs4 hs5))
        all_goals
          have HZ : Hid (Lim zs ∧ Nrm zs ∧ val zs = mg ((Int.gcd (tk g xs) (tk g' ys) : Int))) := ⟨hoz.lim, hnz, hvz⟩
          have s5 := n5.size
          go_wp2
          go_meet
          case rel =>
            first
            | exact ⟨_, a5, c5, zs, rfl, (put_cells (by simp [*]) (by simp [*])).1, (put_cells (by simp [*]) (by simp [*])).2, ((hoz.setCell (by dsimp only; omega) _).setCell (by dsimp only; omega) _).base_le (by omega), HZ, (n5.setCell (by dsimp only; omega) _).setCell (by dsimp only; omega) _⟩
            | exact ⟨_, a5, c5, zs, rfl, (var_new _ _ _ _ _ _).1, (var_new _ _ _ _ _ _).2, (hoz.below (below1 _ _)).base_le (by omega), HZ, n5.trans ((below1 _ _).mono n5.size)⟩
      obtain ⟨p2, a17, c17, zs2, rfl, kH0, kH1, hoh, HV2, hb⟩ := hcut
      obtain rfl : zs = zs2 := val_inj HV.out.1 HV2.out.1 HV.out.2.1 HV2.out.2.1 (HV.out.2.2.trans HV2.out.2.2.symm)
      clear HV2
      clear kA0 kA1
      clear kB0 kB1
      clear hA
      clear hB
      replace kW0 := bat hb kW0
      replace kW1 := bat hb kW1
      replace kG0 := bat hb kG0
      replace kG1 := bat hb kG1
      replace ho0 := ho0.below hb
      replace hog' := hog'.below hb
      replace B := B.trans (hb.mono B.size)
      clear hb
      go_wp2_with fail
      refine (eqN gz a17 a3 c17 c3 zs _ hoh.toSees ho0.toSees).mono ?_
      rintro e w18 ⟨rfl, hb⟩
      replace kW0 := bat hb kW0
      replace kW1 := bat hb kW1
      replace kG0 := bat hb kG0
      replace kG1 := bat hb kG1
      replace kH0 := bat hb kH0
      replace kH1 := bat hb kH1
      replace ho0 := ho0.below hb
      replace hog' := hog'.below hb
      replace hoh := hoh.below hb
      replace B := B.trans (hb.mono B.size)
      clear hb
      clear hoh
      clear ho0
      clear kH0 kH1
      clear kW0 kW1
      go_wp2_with fail
      refine (heldN gz a6 c6 zs.length 1 _ hog'.toSees (by decide) (by omega)).mono ?_
      rintro e w19 ⟨rfl, hb⟩
      replace kG0 := bat hb kG0
      replace kG1 := bat hb kG1
      replace hog' := hog'.below hb
      replace B := B.trans (hb.mono B.size)
      clear hb
      go_wp2
      go_ret
      exact ⟨rfl, B⟩
    · go_enter Try.func8, Try.ntmps8
      go_wp2_with fail
      refine (szN g a c xs.length 1048576 _ (by omega) hm).mono ?_
      rintro e w1 ⟨rfl, hb⟩
      rw [if_neg (by omega)]
      have hbb := below1 (w.alloc (.cells #[.bool g, .slice a xs.length c] 24)) (.cells #[.bool g', .slice a' ys.length c'] 24)
      obtain ⟨kB0, kB1⟩ := var_new (w.alloc (.cells #[.bool g, .slice a xs.length c] 24)) g' a' ys.length c' 24
      rw [World.size_alloc] at kB0 kB1
      replace kB0 := bat hb kB0
      replace kB1 := bat hb kB1
      have B := (below2 w _ _).trans (hb.mono (by simp; omega))
      clear hb hbb h k
      go_wp2_with fail
      refine (szN g' a' c' ys.length (1048576 - xs.length) _ (by omega) km).mono ?_
      rintro e w2 ⟨rfl, hb⟩
      rw [if_pos (by omega)]
      go_wp2
      go_ret
      exact ⟨rfl, B.trans (hb.mono B.size)⟩
  · go_enter Try.func8, Try.ntmps8
    go_wp2_with fail
    refine (szN g a c xs.length 1048576 _ (by omega) hm).mono ?_
    rintro e w1 ⟨rfl, hb1⟩
    rw [if_pos (by omega)]
    go_wp2
    go_ret
    exact ⟨rfl, (below2 _ _ _).trans (hb1.mono (by simp; omega))⟩
end Go.Proofs.Ytlpdenaiclocfai
