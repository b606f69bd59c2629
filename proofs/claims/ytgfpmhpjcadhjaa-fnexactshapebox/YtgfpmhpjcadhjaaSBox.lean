/- The box of a shape: of both (ShapeBox). -/
import Derived.Test.YtgfpmhpjcadhjaaGoodI
import Derived.Test.YtgfpmhpjcadhjaaPtsA
import Derived.Test.YtgfpmhpjcadhjaaBoxL
import Derived.Test.YtgfpmhpjcadhjaaBoxS
namespace Go.Proofs.Ytgfpmhpjcadhjaa
open Go.RowKit

theorem Box4.reads {lo p : Nat} {w : World} {x0 x1 x2 x3 : Value} (h : Box4 lo w p x0 x1 x2 x3) (u0 u1 u2 u3 : Value) : (w.setCell ⟨p, 0, none⟩ u0).cell? ⟨p, 0, none⟩ = some u0 ∧ ((w.setCell ⟨p, 0, none⟩ u0).setCell ⟨p, 1, none⟩ u1).cell? ⟨p, 1, none⟩ = some u1 ∧ (((w.setCell ⟨p, 0, none⟩ u0).setCell ⟨p, 1, none⟩ u1).setCell ⟨p, 2, none⟩ u2).cell? ⟨p, 2, none⟩ = some u2 ∧ ((((w.setCell ⟨p, 0, none⟩ u0).setCell ⟨p, 1, none⟩ u1).setCell ⟨p, 2, none⟩ u2).setCell ⟨p, 3, none⟩ u3).cell? ⟨p, 3, none⟩ = some u3 :=
  ⟨cell_same h.c0 _, cell_same ((cell_other (.inr (by decide)) _).trans h.c1) _, cell_same ((cell_other (.inr (by decide)) _).trans ((cell_other (.inr (by decide)) _).trans h.c2)) _, cell_same ((cell_other (.inr (by decide)) _).trans ((cell_other (.inr (by decide)) _).trans ((cell_other (.inr (by decide)) _).trans h.c3))) _⟩
/-- What a good shape's rows are. -/
theorem good_rows {k : Int} {rs : List (List (Int × Int))} (h : goodB k rs = true) : rs.length ≤ 12 ∧ ∀ i, i < rs.length → 0 < (rowA rs i).length ∧ (rowA rs i).length ≤ 60 := by
  have hk : 1 ≤ k ∧ k ≤ 5 := by
    rcases Classical.em (1 ≤ k ∧ k ≤ 5) with c | c
    · exact c
    · rw [good_none c] at h
      cases h
  have hf : formB k rs = true := by
    unfold goodB goodTo at h
    rw [Bool.and_eq_true] at h
    exact h.1
  refine ⟨?_, fun i hi => ?_⟩
  · have e := hf
    unfold formB at e
    cases c : inB rs.length 1 12
    · rw [c] at e
      simp at e
    · have := inB_true.1 c
      omega
  · obtain ⟨h1, _⟩ := form_row hf hi
    have h2 := inB_true.1 h1
    have h3 : 1 ≤ leastN k ∧ mostN k ≤ 60 := by rcases kinds hk with rfl | rfl | rfl | rfl | rfl <;> decide
    omega
def sbA (k : Int) (rs : List (List (Int × Int))) : Int := if goodB k rs then bA rs.flatten else 0
def sbB (k : Int) (rs : List (List (Int × Int))) : Int := if goodB k rs then bB rs.flatten else 0
def sbC (k : Int) (rs : List (List (Int × Int))) : Int := if goodB k rs then bC rs.flatten else 0
def sbD (k : Int) (rs : List (List (Int × Int))) : Int := if goodB k rs then bD rs.flatten else 0
theorem sb_bad {k : Int} {rs : List (List (Int × Int))} (h : goodB k rs = false) : sbA k rs = 0 ∧ sbB k rs = 0 ∧ sbC k rs = 0 ∧ sbD k rs = 0 := by
  unfold sbA sbB sbC sbD
  rw [h]
  exact ⟨rfl, rfl, rfl, rfl⟩
theorem sb_good {k : Int} {rs : List (List (Int × Int))} (h : goodB k rs = true) : sbA k rs = bA rs.flatten ∧ sbB k rs = bB rs.flatten ∧ sbC k rs = bC rs.flatten ∧ sbD k rs = bD rs.flatten := by
  unfold sbA sbB sbC sbD
  rw [h]
  exact ⟨rfl, rfl, rfl, rfl⟩


set_option maxRecDepth 20000 in
set_option maxHeartbeats 2000000 in
theorem specShapeBox (n : Int) (a : Option Addr) (c : Nat) (rs : List (List (Int × Int))) (w : World) (h : SeesS w a c rs) :
    Calls Try.prog 6 #[.agg #[.int .i64 n, .slice a rs.length c]] w fun e w' => e = .returned (.agg #[.int .i64 (sbA n rs), .int .i64 (sbB n rs), .int .i64 (sbC n rs), .int .i64 (sbD n rs)]) ∧ Below w.heap.size w w' := by
  have bn := below1 w (.cells #[.int .i64 n, .slice a rs.length c] 33)
  have bz := bn.size
  have B0 := bn.trans ((below1 _ (.cells #[.int .i64 0, .int .i64 0, .int .i64 0, .int .i64 0] 29)).mono bz)
  have V0 := Box4.new (w.alloc (.cells #[.int .i64 n, .slice a rs.length c] 33)) (lo := w.heap.size) bz (.int .i64 0) (.int .i64 0) (.int .i64 0) (.int .i64 0) 29
  have VS := (Box2.new w (lo := w.heap.size) (Nat.le_refl _) (.int .i64 n) (.slice a rs.length c) 33).below (below1 _ (.cells #[.int .i64 0, .int .i64 0, .int .i64 0, .int .i64 0] 29))
  rw [World.size_alloc] at V0
  clear bn bz
  have SW := h.below B0
  obtain ⟨k0, k1, _, _⟩ := id VS
  go_enter Try.func6, Try.ntmps6
  go_wp2_with fail
  generalize (w.alloc (.cells #[.int .i64 n, .slice a rs.length c] 33)).alloc (.cells #[.int .i64 0, .int .i64 0, .int .i64 0, .int .i64 0] 29) = W at *
  refine (l5Good_any n a c rs _ SW).mono ?_
  rintro e w1 ⟨rfl, hb⟩
  replace V0 := V0.below hb
  replace VS := VS.below hb
  replace B0 := B0.trans (hb.mono B0.size)
  replace SW := SW.below hb
  clear hb k0 k1 h
  cases hg : goodB n rs
  · have F : Hid (sbA n rs = 0 ∧ sbB n rs = 0 ∧ sbC n rs = 0 ∧ sbD n rs = 0) := sb_bad hg
    clear hg
    have RC := Box4.chain B0 V0 (.int .i64 0) (.int .i64 0) (.int .i64 0) (.int .i64 0)
    obtain ⟨r0, r1, r2, r3⟩ := V0.reads (.int .i64 0) (.int .i64 0) (.int .i64 0) (.int .i64 0)
    obtain ⟨o0, o1, o2, o3, of, _⟩ := id V0
    go_wp2
    refine bodyPost_ret (v := .agg #[.int .i64 0, .int .i64 0, .int .i64 0, .int .i64 0]) (by simp [results, Try.results6, go_sem, r0, r1, r2, r3]) rfl ?_
    exact ⟨by rw [F.out.1, F.out.2.1, F.out.2.2.1, F.out.2.2.2], RC⟩
  · obtain ⟨hle, hrow⟩ := good_rows hg
    have F : Hid (sbA n rs = bA rs.flatten ∧ sbB n rs = bB rs.flatten ∧ sbC n rs = bC rs.flatten ∧ sbD n rs = bD rs.flatten) := sb_good hg
    clear hg
    obtain ⟨k0, k1, _, _⟩ := id VS
    go_wp2_with fail
    refine (l5Points_any n a c rs _ SW hle hrow).mono ?_
    rintro e w2 ⟨v, rfl, R, hb⟩
    replace V0 := V0.below hb
    replace B0 := B0.trans (hb.mono B0.size)
    clear hb k0 k1 hrow VS SW
    obtain ⟨a2, c2, rfl, _, _⟩ := R.shape
    generalize rs.flatten = ps at *
    go_wp2_with fail
    refine (specBoxOf _ _ ps _ R.seesP).mono ?_
    rintro e w3 ⟨rfl, hb⟩
    replace V0 := V0.below hb
    replace B0 := B0.trans (hb.mono B0.size)
    clear hb R
    generalize bA ps = u1 at *
    generalize bB ps = u2 at *
    generalize bC ps = u3 at *
    generalize bD ps = u4 at *
    generalize bOk ps = u5 at *
    have bn := below1 w3 (.cells #[.int .i64 u1, .int .i64 u2, .int .i64 u3, .int .i64 u4] 29)
    have V1 := Box4.new w3 (lo := w.heap.size) B0.size (.int .i64 u1) (.int .i64 u2) (.int .i64 u3) (.int .i64 u4) 29
    replace V0 := V0.below bn
    replace B0 := B0.trans (bn.mono B0.size)
    clear bn
    go_upto_region 4 with fail
    generalize w3.alloc (.cells #[.int .i64 u1, .int .i64 u2, .int .i64 u3, .int .i64 u4] 29) = W4 at *
    generalize w3.heap.size = q4 at *
    have RC := Box4.chain B0 V0 (.int .i64 u1) (.int .i64 u2) (.int .i64 u3) (.int .i64 u4)
    obtain ⟨r0, r1, r2, r3⟩ := V0.reads (.int .i64 u1) (.int .i64 u2) (.int .i64 u3) (.int .i64 u4)
    obtain ⟨o0, o1, o2, o3, of, _⟩ := id V0
    obtain ⟨p0, p1, p2, p3, _, _⟩ := id V1
    go_wp2
    refine bodyPost_ret (v := .agg #[.int .i64 u1, .int .i64 u2, .int .i64 u3, .int .i64 u4]) (by simp [results, Try.results6, go_sem, r0, r1, r2, r3]) rfl ?_
    exact ⟨by rw [F.out.1, F.out.2.1, F.out.2.2.1, F.out.2.2.2], RC⟩

set_option maxRecDepth 20000 in
set_option maxHeartbeats 2000000 in
theorem boxAround_any (n : Int) (a : Option Addr) (c : Nat) (rs : List (List (Int × Int))) (w : World) (h : SeesS w a c rs) (hg : goodB n rs = true) :
    Calls Try.prog 20 #[.agg #[.int .i64 n, .slice a rs.length c]] w fun e w' => e = .returned (.agg #[.int .i64 (bA rs.flatten), .int .i64 (bB rs.flatten), .int .i64 (bC rs.flatten), .int .i64 (bD rs.flatten)]) ∧ Below w.heap.size w w' := by
  have bn := below1 w (.cells #[.int .i64 n, .slice a rs.length c] 33)
  have bz := bn.size
  have B0 := bn.trans ((below1 _ (.cells #[.int .i64 0, .int .i64 0, .int .i64 0, .int .i64 0] 29)).mono bz)
  have V0 := Box4.new (w.alloc (.cells #[.int .i64 n, .slice a rs.length c] 33)) (lo := w.heap.size) bz (.int .i64 0) (.int .i64 0) (.int .i64 0) (.int .i64 0) 29
  have VS := (Box2.new w (lo := w.heap.size) (Nat.le_refl _) (.int .i64 n) (.slice a rs.length c) 33).below (below1 _ (.cells #[.int .i64 0, .int .i64 0, .int .i64 0, .int .i64 0] 29))
  rw [World.size_alloc] at V0
  clear bn bz
  have SW := h.below B0
  obtain ⟨k0, k1, _, _⟩ := id VS
  go_enter Try.func20, Try.ntmps20
  obtain ⟨hle, hrow⟩ := good_rows hg
  clear hg h
  go_wp2_with fail
  generalize (w.alloc (.cells #[.int .i64 n, .slice a rs.length c] 33)).alloc (.cells #[.int .i64 0, .int .i64 0, .int .i64 0, .int .i64 0] 29) = W at *
  refine (concatP a c rs _ SW hle hrow).mono ?_
  rintro e w2 ⟨v, rfl, R, hb⟩
  replace V0 := V0.below hb
  replace B0 := B0.trans (hb.mono B0.size)
  clear hb k0 k1 hrow VS SW
  obtain ⟨a2, c2, rfl, _, _⟩ := R.shape
  obtain ⟨ps, hps⟩ : ∃ ps, Hid (rs.flatten = ps) := ⟨_, rfl⟩
  have F : Hid (bA rs.flatten = bA ps ∧ bB rs.flatten = bB ps ∧ bC rs.flatten = bC ps ∧ bD rs.flatten = bD ps) := by show _ ∧ _; rw [hps.out]; exact ⟨rfl, rfl, rfl, rfl⟩
  rw [hps.out] at R ⊢
  clear hps
  go_wp2_with fail
  refine (implBoxOf _ _ ps _ R.seesP).mono ?_
  rintro e w3 ⟨rfl, hb⟩
  replace V0 := V0.below hb
  replace B0 := B0.trans (hb.mono B0.size)
  clear hb R
  generalize bA ps = u1 at *
  generalize bB ps = u2 at *
  generalize bC ps = u3 at *
  generalize bD ps = u4 at *
  generalize bOk ps = u5 at *
  have bn := below1 w3 (.cells #[.int .i64 u1, .int .i64 u2, .int .i64 u3, .int .i64 u4] 29)
  have V1 := Box4.new w3 (lo := w.heap.size) B0.size (.int .i64 u1) (.int .i64 u2) (.int .i64 u3) (.int .i64 u4) 29
  replace V0 := V0.below bn
  replace B0 := B0.trans (bn.mono B0.size)
  clear bn
  go_upto_region 2 with fail
  generalize w3.alloc (.cells #[.int .i64 u1, .int .i64 u2, .int .i64 u3, .int .i64 u4] 29) = W4 at *
  generalize w3.heap.size = q4 at *
  have RC := Box4.chain B0 V0 (.int .i64 u1) (.int .i64 u2) (.int .i64 u3) (.int .i64 u4)
  obtain ⟨r0, r1, r2, r3⟩ := V0.reads (.int .i64 u1) (.int .i64 u2) (.int .i64 u3) (.int .i64 u4)
  obtain ⟨o0, o1, o2, o3, of, _⟩ := id V0
  obtain ⟨p0, p1, p2, p3, _, _⟩ := id V1
  go_wp2
  refine bodyPost_ret (v := .agg #[.int .i64 u1, .int .i64 u2, .int .i64 u3, .int .i64 u4]) (by simp [results, Try.results20, go_sem, r0, r1, r2, r3]) rfl ?_
  exact ⟨by rw [F.out.1, F.out.2.1, F.out.2.2.1, F.out.2.2.2], RC⟩

set_option maxRecDepth 20000 in
set_option maxHeartbeats 2000000 in
theorem implShapeBox (n : Int) (a : Option Addr) (c : Nat) (rs : List (List (Int × Int))) (w : World) (h : SeesS w a c rs) :
    Calls Try.prog 8 #[.agg #[.int .i64 n, .slice a rs.length c]] w fun e w' => e = .returned (.agg #[.int .i64 (sbA n rs), .int .i64 (sbB n rs), .int .i64 (sbC n rs), .int .i64 (sbD n rs)]) ∧ Below w.heap.size w w' := by
  have bn := below1 w (.cells #[.int .i64 n, .slice a rs.length c] 33)
  have bz := bn.size
  have B0 := bn.trans ((below1 _ (.cells #[.int .i64 0, .int .i64 0, .int .i64 0, .int .i64 0] 29)).mono bz)
  have V0 := Box4.new (w.alloc (.cells #[.int .i64 n, .slice a rs.length c] 33)) (lo := w.heap.size) bz (.int .i64 0) (.int .i64 0) (.int .i64 0) (.int .i64 0) 29
  have VS := (Box2.new w (lo := w.heap.size) (Nat.le_refl _) (.int .i64 n) (.slice a rs.length c) 33).below (below1 _ (.cells #[.int .i64 0, .int .i64 0, .int .i64 0, .int .i64 0] 29))
  rw [World.size_alloc] at V0
  clear bn bz
  have SW := h.below B0
  obtain ⟨k0, k1, _, _⟩ := id VS
  go_enter Try.func8, Try.ntmps8
  go_wp2_with fail
  generalize (w.alloc (.cells #[.int .i64 n, .slice a rs.length c] 33)).alloc (.cells #[.int .i64 0, .int .i64 0, .int .i64 0, .int .i64 0] 29) = W at *
  refine (good_any n a c rs _ SW).mono ?_
  rintro e w1 ⟨rfl, hb⟩
  replace V0 := V0.below hb
  replace VS := VS.below hb
  replace B0 := B0.trans (hb.mono B0.size)
  replace SW := SW.below hb
  clear hb k0 k1 h
  cases hg : goodB n rs
  · have F : Hid (sbA n rs = 0 ∧ sbB n rs = 0 ∧ sbC n rs = 0 ∧ sbD n rs = 0) := sb_bad hg
    clear hg
    have RC := Box4.chain B0 V0 (.int .i64 0) (.int .i64 0) (.int .i64 0) (.int .i64 0)
    obtain ⟨r0, r1, r2, r3⟩ := V0.reads (.int .i64 0) (.int .i64 0) (.int .i64 0) (.int .i64 0)
    obtain ⟨o0, o1, o2, o3, of, _⟩ := id V0
    go_wp2
    refine bodyPost_ret (v := .agg #[.int .i64 0, .int .i64 0, .int .i64 0, .int .i64 0]) (by simp [results, Try.results8, go_sem, r0, r1, r2, r3]) rfl ?_
    exact ⟨by rw [F.out.1, F.out.2.1, F.out.2.2.1, F.out.2.2.2], RC⟩
  · have CA := fun W (hs : SeesS W a c rs) => boxAround_any n a c rs W hs hg
    have F : Hid (sbA n rs = bA rs.flatten ∧ sbB n rs = bB rs.flatten ∧ sbC n rs = bC rs.flatten ∧ sbD n rs = bD rs.flatten) := sb_good hg
    clear hg
    obtain ⟨k0, k1, _, _⟩ := id VS
    generalize bA rs.flatten = u1 at *
    generalize bB rs.flatten = u2 at *
    generalize bC rs.flatten = u3 at *
    generalize bD rs.flatten = u4 at *
    go_wp2_with fail
    refine (CA _ SW).mono ?_
    rintro e w2 ⟨rfl, hb⟩
    replace V0 := V0.below hb
    replace B0 := B0.trans (hb.mono B0.size)
    clear hb k0 k1 VS SW CA
    have RC := Box4.chain B0 V0 (.int .i64 u1) (.int .i64 u2) (.int .i64 u3) (.int .i64 u4)
    obtain ⟨r0, r1, r2, r3⟩ := V0.reads (.int .i64 u1) (.int .i64 u2) (.int .i64 u3) (.int .i64 u4)
    obtain ⟨o0, o1, o2, o3, of, _⟩ := id V0
    go_wp2
    refine bodyPost_ret (v := .agg #[.int .i64 u1, .int .i64 u2, .int .i64 u3, .int .i64 u4]) (by simp [results, Try.results8, go_sem, r0, r1, r2, r3]) rfl ?_
    exact ⟨by rw [F.out.1, F.out.2.1, F.out.2.2.1, F.out.2.2.2], RC⟩
end Go.Proofs.Ytgfpmhpjcadhjaa
