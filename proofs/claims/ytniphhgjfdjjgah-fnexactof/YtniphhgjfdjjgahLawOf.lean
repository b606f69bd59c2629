/- The law on Of: at every int the program's Of is the specification's, limb by limb, and its answer owns its memory. -/
import Derived.Test.YtniphhgjfdjjgahOfW
namespace Go.Proofs.Ytniphhgjfdjjgah
open Go.RowKit

theorem mg_int {n : Int} (h1 : -9223372036854775808 ≤ n) (h2 : n ≤ 9223372036854775807) : mg n < 4294967296 ^ 2 := by
  unfold mg
  have : (4294967296 : Int) ^ 2 = 18446744073709551616 := by decide
  rw [this]
  split <;> omega

set_option maxHeartbeats 2000000 in
theorem lawOf (n : Int) (w : World) (h1 : -9223372036854775808 ≤ n) (h2 : n ≤ 9223372036854775807) :
    Calls Try.prog 4 #[.int .i64 n] w fun e w' => e = .returned (.bool true) ∧ Below w.heap.size w w' := by
  obtain ⟨g, HG⟩ : ∃ g, Hid (decide (n < 0) = g) := ⟨_, rfl⟩
  have HN : Hid (-9223372036854775808 ≤ n ∧ n ≤ 9223372036854775807) := ⟨h1, h2⟩
  clear h1 h2
  go_enter Try.func4, Try.ntmps4
  go_wp2_with fail
  refine (specOf n _ HN.out.1 HN.out.2).mono ?_
  rintro e w1 ⟨v0, rfl, hI0, hB⟩
  obtain ⟨a0, c0, ys, rfl, ho0, hn, hv⟩ := hI0
  have hl2 := len_le ho0.lim hn (hv ▸ mg_int HN.out.1 HN.out.2)
  have HV : Hid (Lim ys ∧ Nrm ys ∧ val ys = mg n) := ⟨ho0.lim, hn, hv⟩
  rw [HG.out]
  clear hv hn
  go_wp2_with fail
  -- the answer
  have kW0 := cell_new w1 #[.bool g, .slice a0 ys.length c0] 27 0 rfl
  have kW1 := cell_new w1 #[.bool g, .slice a0 ys.length c0] 27 1 rfl
  have hb0 := below1 w1 (.cells #[.bool g, .slice a0 ys.length c0] 27)
  have z3 : w1.heap.size < (w1.alloc (.cells #[.bool g, .slice a0 ys.length c0] 27)).heap.size := by simp
  have B : Below w.heap.size w (w1.alloc (.cells #[.bool g, .slice a0 ys.length c0] 27)) := hB.trans (hb0.mono hB.size)
  replace ho0 := ho0.below hb0
  clear hb0 hB
  generalize w1.alloc (.cells #[.bool g, .slice a0 ys.length c0] 27) = W1 at *
  refine (implOf n _ HN.out.1 HN.out.2).mono ?_
  rintro e w2 ⟨v1, rfl, hI1, hb⟩
  obtain ⟨a1, c1, rfl, ho1⟩ := hI1.as HV.out.1 HV.out.2.1 HV.out.2.2
  rw [HG.out]
  have ap0 := apart_later ho0.toCame ho1
  have sB := B.size
  have S := hb.size
  replace kW0 := bat hb kW0
  replace kW1 := bat hb kW1
  replace B := B.trans (hb.mono B.size)
  replace ho0 := ho0.below hb
  have r3 := row_ne_low ho1 z3
  have r4 := row_ne_high ho1.toCame (Nat.le_refl _)
  have hlt3 := World.block_lt_of_cell? _ _ kW0
  clear hb hI1
  go_wp2_with fail
  have hb := below1 w2 (.cells #[.bool g, .slice a1 ys.length c1] 27)
  have kG0 := cell_new w2 #[.bool g, .slice a1 ys.length c1] 27 0 rfl
  have kG1 := cell_new w2 #[.bool g, .slice a1 ys.length c1] 27 1 rfl
  replace kW0 := bat hb kW0
  replace kW1 := bat hb kW1
  replace B := B.trans (hb.mono B.size)
  replace ho0 := ho0.below hb
  replace ho1 := ho1.below hb
  replace S := Nat.le_trans S hb.size
  clear hb
  generalize w2.alloc (.cells #[.bool g, .slice a1 ys.length c1] 27) = W2 at *
  -- as the specification's
  refine (eqN g a1 a0 c1 c0 ys _ ho1.toSees ho0.toSees).mono ?_
  rintro e w3 ⟨rfl, hb⟩
  replace kW0 := bat hb kW0
  replace kW1 := bat hb kW1
  replace kG0 := bat hb kG0
  replace kG1 := bat hb kG1
  replace B := B.trans (hb.mono B.size)
  replace ho0 := ho0.below hb
  replace ho1 := ho1.below hb
  replace S := Nat.le_trans S hb.size
  clear hb
  simp at kW0 kW1 kG0 kG1
  go_wp2_with fail
  -- its marks
  refine (markN _ g a1 c1 ys 1 _ ho1 (by decide) (by omega)).mono ?_
  rintro e w4 ⟨rfl, ho4, hg⟩
  replace B := B.trans ((below_of_grown ho1 hg S).mono sB)
  replace kW0 := hg.cell kW0 r3
  replace kW1 := hg.cell kW1 r3
  replace kG0 := hg.cell kG0 r4
  replace kG1 := hg.cell kG1 r4
  replace ho0 := ho0.kept hg ap0
  replace S := Nat.le_trans S hg.size
  clear hg ho1 r3 r4 ap0
  go_wp2_with fail
  refine (heldN g a1 c1 ys.length 1 _ ho4.toSees (by decide) (by omega)).mono ?_
  rintro e w5 ⟨rfl, hb⟩
  replace kW0 := bat hb kW0
  replace kW1 := bat hb kW1
  replace kG0 := bat hb kG0
  replace kG1 := bat hb kG1
  replace B := B.trans (hb.mono B.size)
  replace ho0 := ho0.below hb
  replace ho4 := ho4.below hb
  clear hb
  go_wp2_with fail
  -- another call
  refine (implOf n _ HN.out.1 HN.out.2).mono ?_
  rintro e w6 ⟨v2, rfl, hI2, hb⟩
  obtain ⟨a2, c2, rfl, ho2⟩ := hI2.as HV.out.1 HV.out.2.1 HV.out.2.2
  rw [HG.out]
  replace kW0 := bat hb kW0
  replace kW1 := bat hb kW1
  replace kG0 := bat hb kG0
  replace kG1 := bat hb kG1
  replace B := B.trans (hb.mono B.size)
  replace ho0 := ho0.below hb
  replace ho4 := ho4.below hb
  have hlt3 := World.block_lt_of_cell? _ _ kW0
  have hlt4 := World.block_lt_of_cell? _ _ kG0
  clear hb hI2
  go_wp2_with fail
  have hb := below1 w6 (.cells #[.bool g, .slice a2 ys.length c2] 27)
  replace kG0 := bat hb kG0
  replace kG1 := bat hb kG1
  replace B := B.trans (hb.mono B.size)
  replace ho0 := ho0.below hb
  replace ho4 := ho4.below hb
  replace ho2 := ho2.below hb
  clear hb
  generalize w6.alloc (.cells #[.bool g, .slice a2 ys.length c2] 27) = W6 at *
  refine (eqN g a2 a0 c2 c0 ys _ ho2.toSees ho0.toSees).mono ?_
  rintro e w7 ⟨rfl, hb⟩
  replace kG0 := bat hb kG0
  replace kG1 := bat hb kG1
  replace B := B.trans (hb.mono B.size)
  replace ho4 := ho4.below hb
  clear hb ho0 ho2
  go_wp2_with fail
  refine (heldN g a1 c1 ys.length 1 _ ho4.toSees (by decide) (by omega)).mono ?_
  rintro e w8 ⟨rfl, hb⟩
  replace B := B.trans (hb.mono B.size)
  clear hb
  go_wp2
  go_ret
  exact ⟨rfl, B⟩

end Go.Proofs.Ytniphhgjfdjjgah
