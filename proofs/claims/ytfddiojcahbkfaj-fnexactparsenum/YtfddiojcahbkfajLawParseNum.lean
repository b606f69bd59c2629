/- The law on ParseNum: at every text the program's ParseNum is the specification's, limb by limb, and its answer owns its memory. -/
import Derived.Test.YtfddiojcahbkfajParseI
import Derived.Test.YtfddiojcahbkfajParseS
namespace Go.Proofs.Ytfddiojcahbkfaj
open Go.RowKit

theorem pZ_bound (g : Bool) (ds : List Int) : mg (pZ g ds) < 4294967296 ^ 300 := by
  unfold pZ
  split
  · next h =>
    unfold pOk at h
    simp only [Bool.and_eq_true, decide_eq_true_eq] at h
    obtain ⟨⟨⟨_, hl⟩, ha⟩, _⟩ := h
    have hd : dOk ds ds.length = true := by unfold dOk; rw [List.take_length]; exact ha
    obtain ⟨p0, _⟩ := pv_bound ds ds.length (Nat.le_refl _) hd
    have p1 := pv_len (Nat.le_refl _) hd
    rw [mg_sg p0]
    have := p_mono ds.length (300 - ds.length)
    rw [show ds.length + (300 - ds.length) = 300 by omega] at this
    exact Int.lt_of_lt_of_le p1 this
  · have : mg 0 = 0 := by simp [mg]
    rw [this]
    exact p_pos 300

set_option maxHeartbeats 2000000 in
theorem lawParse (s : ByteArray) (w : World) (hs : s.size ≤ 1048576) :
    Calls Try.prog 3 #[.string s] w fun e w' => e = .returned (.bool true) ∧ Below w.heap.size w w' := by
  have hbd := pZ_bound (mnB s) (pd s)
  obtain ⟨n, hn⟩ : ∃ n, Hid (pZ (mnB s) (pd s) = n) := ⟨_, rfl⟩
  obtain ⟨b, hb0⟩ : ∃ b, Hid (pOk (mnB s) (pd s) = b) := ⟨_, rfl⟩
  rw [hn.out] at hbd
  have HBD : Hid (mg n < 4294967296 ^ 300) := hbd
  have hbb : (b != b) = false := by cases b <;> rfl
  obtain ⟨g, HG⟩ : ∃ g, Hid (decide (n < 0) = g) := ⟨_, rfl⟩
  have HS : Hid (s.size ≤ 1048576) := hs
  clear hbd
  go_enter Try.func3, Try.ntmps3
  go_wp2_with fail
  refine (specParse s _ HS.out).mono ?_
  rintro e w1 ⟨v0, rfl, hI0, hB⟩
  rw [hn.out] at hI0
  rw [hb0.out]
  obtain ⟨a0, c0, ys, rfl, ho0, hnr, hv⟩ := hI0
  have hl2 := len_le ho0.lim hnr (hv ▸ HBD.out)
  have HV : Hid (Lim ys ∧ Nrm ys ∧ val ys = mg n) := ⟨ho0.lim, hnr, hv⟩
  rw [HG.out]
  clear hv hnr
  go_wp2_with fail
  -- the answer
  have kW0 := cell_new w1 #[.bool g, .slice a0 ys.length c0] 24 0 rfl
  have kW1 := cell_new w1 #[.bool g, .slice a0 ys.length c0] 24 1 rfl
  have hb0 := below1 w1 (.cells #[.bool g, .slice a0 ys.length c0] 24)
  have z3 : w1.heap.size < (w1.alloc (.cells #[.bool g, .slice a0 ys.length c0] 24)).heap.size := by simp
  have B : Below w.heap.size w (w1.alloc (.cells #[.bool g, .slice a0 ys.length c0] 24)) := hB.trans (hb0.mono hB.size)
  replace ho0 := ho0.below hb0
  clear hb0 hB
  generalize w1.alloc (.cells #[.bool g, .slice a0 ys.length c0] 24) = W1 at *
  refine (implParse s _ HS.out).mono ?_
  rintro e w2 ⟨v1, rfl, hI1, hb⟩
  rw [hn.out] at hI1
  rw [hb0.out]
  obtain ⟨a1, c1, rfl, ho1⟩ := hI1.as HV.out.1 HV.out.2.1 HV.out.2.2
  rw [HG.out]
  have ap0 := apart_later ho0.toCame ho1
  have sB := B.size
  have S := hb.size
  replace kW0 := bat hb kW0
  replace kW1 := bat hb kW1
  replace B := B.trans (hb.mono B.size)
  replace ho0 := ho0.below hb
  have r3 := row_ne_low ho1 z3
  have r4 := row_ne_high ho1.toCame (Nat.le_refl _)
  have hlt3 := World.block_lt_of_cell? _ _ kW0
  clear hb hI1
  go_wp2_with fail
  have hb := below1 w2 (.cells #[.bool g, .slice a1 ys.length c1] 24)
  have kG0 := cell_new w2 #[.bool g, .slice a1 ys.length c1] 24 0 rfl
  have kG1 := cell_new w2 #[.bool g, .slice a1 ys.length c1] 24 1 rfl
  replace kW0 := bat hb kW0
  replace kW1 := bat hb kW1
  replace B := B.trans (hb.mono B.size)
  replace ho0 := ho0.below hb
  replace ho1 := ho1.below hb
  replace S := Nat.le_trans S hb.size
  clear hb
  generalize w2.alloc (.cells #[.bool g, .slice a1 ys.length c1] 24) = W2 at *
  -- as the specification's
  refine (eqN g a1 a0 c1 c0 ys _ ho1.toSees ho0.toSees).mono ?_
  rintro e w3 ⟨rfl, hb⟩
  replace kW0 := bat hb kW0
  replace kW1 := bat hb kW1
  replace kG0 := bat hb kG0
  replace kG1 := bat hb kG1
  replace B := B.trans (hb.mono B.size)
  replace ho0 := ho0.below hb
  replace ho1 := ho1.below hb
  replace S := Nat.le_trans S hb.size
  clear hb
  simp at kW0 kW1 kG0 kG1
  go_wp2_with fail
  -- its marks
  refine (markN _ g a1 c1 ys 1 _ ho1 (by decide) (by omega)).mono ?_
  rintro e w4 ⟨rfl, ho4, hg⟩
  replace B := B.trans ((below_of_grown ho1 hg S).mono sB)
  replace kW0 := hg.cell kW0 r3
  replace kW1 := hg.cell kW1 r3
  replace kG0 := hg.cell kG0 r4
  replace kG1 := hg.cell kG1 r4
  replace ho0 := ho0.kept hg ap0
  replace S := Nat.le_trans S hg.size
  clear hg ho1 r3 r4 ap0
  go_wp2_with fail
  refine (heldN g a1 c1 ys.length 1 _ ho4.toSees (by decide) (by omega)).mono ?_
  rintro e w5 ⟨rfl, hb⟩
  replace kW0 := bat hb kW0
  replace kW1 := bat hb kW1
  replace kG0 := bat hb kG0
  replace kG1 := bat hb kG1
  replace B := B.trans (hb.mono B.size)
  replace ho0 := ho0.below hb
  replace ho4 := ho4.below hb
  clear hb
  go_wp2_with fail
  -- another call
  refine (implParse s _ HS.out).mono ?_
  rintro e w6 ⟨v2, rfl, hI2, hb⟩
  rw [hn.out] at hI2
  rw [hb0.out]
  obtain ⟨a2, c2, rfl, ho2⟩ := hI2.as HV.out.1 HV.out.2.1 HV.out.2.2
  rw [HG.out]
  replace kW0 := bat hb kW0
  replace kW1 := bat hb kW1
  replace kG0 := bat hb kG0
  replace kG1 := bat hb kG1
  replace B := B.trans (hb.mono B.size)
  replace ho0 := ho0.below hb
  replace ho4 := ho4.below hb
  have hlt3 := World.block_lt_of_cell? _ _ kW0
  have hlt4 := World.block_lt_of_cell? _ _ kG0
  clear hb hI2
  go_wp2_with fail
  have hb := below1 w6 (.cells #[.bool g, .slice a2 ys.length c2] 24)
  replace kG0 := bat hb kG0
  replace kG1 := bat hb kG1
  replace B := B.trans (hb.mono B.size)
  replace ho0 := ho0.below hb
  replace ho4 := ho4.below hb
  replace ho2 := ho2.below hb
  clear hb
  generalize w6.alloc (.cells #[.bool g, .slice a2 ys.length c2] 24) = W6 at *
  refine (eqN g a2 a0 c2 c0 ys _ ho2.toSees ho0.toSees).mono ?_
  rintro e w7 ⟨rfl, hb⟩
  replace kG0 := bat hb kG0
  replace kG1 := bat hb kG1
  replace B := B.trans (hb.mono B.size)
  replace ho4 := ho4.below hb
  clear hb ho0 ho2
  go_wp2_with fail
  refine (heldN g a1 c1 ys.length 1 _ ho4.toSees (by decide) (by omega)).mono ?_
  rintro e w8 ⟨rfl, hb⟩
  replace B := B.trans (hb.mono B.size)
  clear hb
  go_wp2
  go_ret
  exact ⟨rfl, B⟩

/-- Texts longer than the law looks at: it answers true at once. -/
theorem lawParseBig (s : ByteArray) (w : World) (hs : 1048576 < s.size) :
    Calls Try.prog 3 #[.string s] w fun e w' => e = .returned (.bool true) ∧ Below w.heap.size w w' := by
  go_enter Try.func3, Try.ntmps3
  go_wp2
  go_ret
  exact ⟨rfl, Below.refl _ _⟩

theorem lawParseAny (s : ByteArray) (w : World) :
    Calls Try.prog 3 #[.string s] w fun e w' => e = .returned (.bool true) ∧ Below w.heap.size w w' := by
  by_cases h : s.size ≤ 1048576
  · exact lawParse s w h
  · exact lawParseBig s w (by omega)

end Go.Proofs.Ytfddiojcahbkfaj
