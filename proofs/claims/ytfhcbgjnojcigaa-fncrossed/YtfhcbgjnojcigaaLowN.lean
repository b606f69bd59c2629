/- A fraction in lowest terms whose second part is below 0: impl.Frac's lowest. -/
import Derived.Test.YtfhcbgjnojcigaaLow
import Derived.Test.YtfhcbgjnojcigaaEq
namespace Go.Proofs.Ytfhcbgjnojcigaa
open Go.RowKit

set_option maxHeartbeats 2000000 in
theorem lowestN (g : Bool) (a b : Option Addr) (c d : Nat) (ns ds : List Int) (w : World) (h1 : Sees w a c ns) (h2 : Sees w b d ds) (e1 : Nrm ns) (e2 : Nrm ds) (hne : ds ≠ []) (l1 : ns.length ≤ 1048575) (l2 : ds.length ≤ 1048575) :
    Calls Try.prog 50 #[.agg #[.bool g, .slice a ns.length c, .bool true, .slice b ds.length d]] w fun e w' => ∃ v, e = .returned v ∧ IsFrac w.heap.size w' v (sg g (val ns) / -(Int.gcd (val ns) (val ds) : Int)) (-val ds / -(Int.gcd (val ns) (val ds) : Int)) ∧ Below w.heap.size w w' := by
  have B0 := below2 w (.cells #[.bool g, .slice a ns.length c, .bool true, .slice b ds.length d] 32) (.cells #[.bool false, .slice none 0 0, .bool false, .slice none 0 0] 32)
  have h1' := h1.below B0
  have h2' := h2.below B0
  have vd := val_pos h2.lim e2 hne
  have GP : Hid (0 < (Int.gcd (val ns) (val ds) : Int)) := by
    have : 0 < Int.gcd (val ns) (val ds) := Int.gcd_pos_of_ne_zero_right _ (by omega)
    show _ < _
    omega
  have GL : Hid ((Int.gcd (val ns) (val ds) : Int) ≤ val ds) := by
    have h0 : Int.gcd (val ns) (val ds) ≤ (val ds).natAbs := Nat.gcd_le_right _ (by omega)
    show _ ≤ _
    omega
  have HD : Hid (Lim ds) := h2.lim
  have AL : Hid (∀ q off, a = some ⟨q, off, none⟩ → ns ≠ [] → q < w.heap.size) := fun q off e1 e2 => h1.lt e1 e2
  have BL : Hid (∀ q off, b = some ⟨q, off, none⟩ → ds ≠ [] → q < w.heap.size) := fun q off e1 e2 => h2.lt e1 e2
  clear h1 h2 vd
  go_enter Try.func50, Try.ntmps50
  go_wp2_with fail
  refine (commonDivisorC g true a b c d ns ds _ h1' h2' e1 e2 (by omega) (by omega)).mono ?_
  rintro e w1 ⟨v, rfl, hI, hb1⟩
  obtain ⟨a1, c1, us, rfl, ou, nu, vu⟩ := hI
  obtain ⟨q0, _⟩ := at_block hb1 (b := w.heap.size) (by simp; omega)
  obtain ⟨q1, r1⟩ := at_block hb1 (b := w.heap.size + 1) (by simp)
  have hz : w.heap.size + 1 < w1.heap.size := by have := hb1.size; simp at this; omega
  have b0 : w1.cell? ⟨w.heap.size, 0, none⟩ = some (.bool g) := by simp [q0, go_sem]
  have b1 : w1.cell? ⟨w.heap.size, 1, none⟩ = some (.slice a ns.length c) := by simp [q0, go_sem]
  have b2 : w1.cell? ⟨w.heap.size, 2, none⟩ = some (.bool true) := by simp [q0, go_sem]
  have b3 : w1.cell? ⟨w.heap.size, 3, none⟩ = some (.slice b ds.length d) := by simp [q0, go_sem]
  have y0 : w1.cell? ⟨w.heap.size + 1, 0, none⟩ = some (.bool false) := by simp [q1, go_sem]
  have y1 : w1.cell? ⟨w.heap.size + 1, 1, none⟩ = some (.slice none 0 0) := by simp [q1, go_sem]
  have y2 : w1.cell? ⟨w.heap.size + 1, 2, none⟩ = some (.bool false) := by simp [q1, go_sem]
  have y3 : w1.cell? ⟨w.heap.size + 1, 3, none⟩ = some (.slice none 0 0) := by simp [q1, go_sem]
  have fy : ∀ o, w1.frozen? ⟨w.heap.size + 1, o, none⟩ = false := fun o => by simp [r1, go_sem]
  have B1 := B0.trans (hb1.mono (by simp; omega))
  have k1 := h1'.below hb1
  have k2 := h2'.below hb1
  have gp := GP.out
  have vu' : val us = (Int.gcd (val ns) (val ds) : Int) := by rw [vu]; unfold mg; rw [if_neg (by omega)]
  have hfl : decide ((Int.gcd (val ns) (val ds) : Int) < 0) = false := by simp
  rw [hfl]
  have hune : us ≠ [] := by rintro rfl; simp only [val] at vu'; omega
  have HU : Hid (Nrm us ∧ val us = (Int.gcd (val ns) (val ds) : Int) ∧ us.length ≤ 1048575) := ⟨nu, vu', by
    have := GL.out
    by_cases hc : us.length ≤ ds.length
    · omega
    · have := cmp_len HD.out ou.lim nu (by omega); omega⟩
  have hbx := below1 w1 (.cells #[.bool false, .slice a1 us.length c1] 30)
  obtain ⟨x0, x1⟩ := var_new w1 false a1 us.length c1 30
  have s1 := k1.below hbx
  have s2 := k2.below hbx
  have s3 := ou.toSees.below hbx
  have hz0 : w.heap.size < w1.heap.size := by omega
  clear hb1 h1' h2' gp vu vu' hfl nu k1 k2 B0 q0 q1 r1
  go_wp2_with fail
  have B2 : Below w.heap.size w (w1.alloc (.cells #[.bool false, .slice a1 us.length c1] 30)) := B1.trans (hbx.mono B1.size)
  replace b0 := bat hbx b0
  replace b1 := bat hbx b1
  replace b2 := bat hbx b2
  replace b3 := bat hbx b3
  replace y0 := bat hbx y0
  replace y1 := bat hbx y1
  replace y2 := bat hbx y2
  replace y3 := bat hbx y3
  have fy2 : ∀ o, (w1.alloc (.cells #[.bool false, .slice a1 us.length c1] 30)).frozen? ⟨w.heap.size + 1, o, none⟩ = false := fun o => (hbx.frozen (p := ⟨w.heap.size + 1, o, none⟩) hz).trans (fy o)
  have sz1 : w.heap.size + 2 ≤ (w1.alloc (.cells #[.bool false, .slice a1 us.length c1] 30)).heap.size := by rw [World.size_alloc]; omega
  have fx : ∀ o, (w1.alloc (.cells #[.bool false, .slice a1 us.length c1] 30)).frozen? ⟨w1.heap.size, o, none⟩ = false := fun o => by simp [go_sem]
  have hz9 := hz
  have UL : Hid (∀ q off, a1 = some ⟨q, off, none⟩ → us ≠ [] → q < w1.heap.size) := fun q off e1 e2 => ou.lt e1 e2
  clear hbx fy B1 hz hz0 ou
  generalize w1.alloc (.cells #[.bool false, .slice a1 us.length c1] 30) = W1 at *
  have lx1 : w1.heap.size < W1.heap.size := World.block_lt_of_cell? _ _ x0
  refine (negatedC false a1 c1 us.length _ (by have := HU.out.2.2; omega)).mono ?_
  rintro e w4 ⟨rfl, hb4⟩
  rw [show (!false && decide (0 < us.length)) = true by simp; exact List.length_pos_iff.2 hune]
  have X0 := bat hb4 x0
  have X1 := bat hb4 x1
  have fX0 := (hb4.frozen (p := ⟨w1.heap.size, 0, none⟩) lx1).trans (fx 0)
  have fX1 := (hb4.frozen (p := ⟨w1.heap.size, 1, none⟩) lx1).trans (fx 1)
  obtain ⟨P0, P1⟩ := put_cells (w := w4) (p := w1.heap.size) (u0 := .bool true) (u1 := .slice a1 us.length c1) (by rw [X0]; rfl) (by rw [X1]; rfl)
  have hbz : w.heap.size + 1 < w1.heap.size := hz9
  replace b0 := bat hb4 b0
  replace b1 := bat hb4 b1
  replace b2 := bat hb4 b2
  replace b3 := bat hb4 b3
  replace y0 := bat hb4 y0
  replace y1 := bat hb4 y1
  replace y2 := bat hb4 y2
  replace y3 := bat hb4 y3
  have c0 := (cell_put (w := w4) (b := w1.heap.size) (b' := w.heap.size) (o := 0) (u0 := .bool true) (u1 := .slice a1 us.length c1) (by omega)).trans b0
  have c1' := (cell_put (w := w4) (b := w1.heap.size) (b' := w.heap.size) (o := 1) (u0 := .bool true) (u1 := .slice a1 us.length c1) (by omega)).trans b1
  have c2 := (cell_put (w := w4) (b := w1.heap.size) (b' := w.heap.size) (o := 2) (u0 := .bool true) (u1 := .slice a1 us.length c1) (by omega)).trans b2
  have c3 := (cell_put (w := w4) (b := w1.heap.size) (b' := w.heap.size) (o := 3) (u0 := .bool true) (u1 := .slice a1 us.length c1) (by omega)).trans b3
  have d0 := (cell_put (w := w4) (b := w1.heap.size) (b' := w.heap.size + 1) (o := 0) (u0 := .bool true) (u1 := .slice a1 us.length c1) (by omega)).trans y0
  have d1 := (cell_put (w := w4) (b := w1.heap.size) (b' := w.heap.size + 1) (o := 1) (u0 := .bool true) (u1 := .slice a1 us.length c1) (by omega)).trans y1
  have d2 := (cell_put (w := w4) (b := w1.heap.size) (b' := w.heap.size + 1) (o := 2) (u0 := .bool true) (u1 := .slice a1 us.length c1) (by omega)).trans y2
  have d3 := (cell_put (w := w4) (b := w1.heap.size) (b' := w.heap.size + 1) (o := 3) (u0 := .bool true) (u1 := .slice a1 us.length c1) (by omega)).trans y3
  have gp := grownBy_setCell (grownBy_setCell (grownBy_refl w4 (some w1.heap.size)) (p := ⟨w1.heap.size, 0, none⟩) rfl (.bool true)) (p := ⟨w1.heap.size, 1, none⟩) rfl (.slice a1 us.length c1)
  replace s1 := (s1.below hb4).kept gp (fun q off e1 e2 e3 => by have := AL.out q off e1 e2; simp at e3; omega)
  replace s2 := (s2.below hb4).kept gp (fun q off e1 e2 e3 => by have := BL.out q off e1 e2; simp at e3; omega)
  replace s3 := (s3.below hb4).kept gp (fun q off e1 e2 e3 => by have := UL.out q off e1 e2; simp at e3; omega)
  have fy5 : ∀ o, ((w4.setCell ⟨w1.heap.size, 0, none⟩ (.bool true)).setCell ⟨w1.heap.size, 1, none⟩ (.slice a1 us.length c1)).frozen? ⟨w.heap.size + 1, o, none⟩ = false := fun o => by
    rw [World.frozen?_setCell, World.frozen?_setCell]
    exact (hb4.frozen (p := ⟨w.heap.size + 1, o, none⟩) (by dsimp only; omega)).trans (fy2 o)
  have B5 := below_put' (b := w1.heap.size) (B2.trans (hb4.mono B2.size)) (by omega) (.bool true) (.slice a1 us.length c1)
  have sz5 : w.heap.size + 2 ≤ ((w4.setCell ⟨w1.heap.size, 0, none⟩ (.bool true)).setCell ⟨w1.heap.size, 1, none⟩ (.slice a1 us.length c1)).heap.size := by rw [World.size_setCell, World.size_setCell]; exact Nat.le_trans sz1 hb4.size
  have nb : w.heap.size < w1.heap.size := by omega
  go_wp2_with fail
  clear hb4 X0 X1 fX0 fX1 b0 b1 b2 b3 y0 y1 y2 y3 x0 x1 gp fy2 B2 sz1 nb fx
  generalize (w4.setCell ⟨w1.heap.size, 0, none⟩ (.bool true)).setCell ⟨w1.heap.size, 1, none⟩ (.slice a1 us.length c1) = W5 at *
  refine (dividedC g true a a1 c c1 ns us _ s1 s3 e1 HU.out.1 hune (by omega) HU.out.2.2).mono ?_
  rintro e w2 ⟨vq, vr, rfl, hT, hb2⟩
  obtain ⟨hI, gr, ar, nr, cr, rfl⟩ := hT.first
  obtain ⟨a5, c5, qs, rfl, o5, n5, v5⟩ := hI
  have EN : Hid (sg g (val ns) / sg true (val us) = sg g (val ns) / -(Int.gcd (val ns) (val ds) : Int)) := by show _ = _; rw [HU.out.2.1]; rfl
  rw [EN.out] at v5
  rw [EN.out]
  obtain ⟨f5, hf5⟩ : ∃ f, Hid (decide (sg g (val ns) / -(Int.gcd (val ns) (val ds) : Int) < 0) = f) := ⟨_, rfl⟩
  rw [hf5.out]
  have H5 : Hid (Nrm qs ∧ val qs = mg (sg g (val ns) / -(Int.gcd (val ns) (val ds) : Int))) := ⟨n5, v5⟩
  have hbv := below2 w2 (.cells #[.bool f5, .slice a5 qs.length c5] 30) (.cells #[.bool gr, .slice ar nr cr] 30)
  have hbb := hb2.trans (hbv.mono hb2.size)
  have u0 : ((w2.alloc (.cells #[.bool f5, .slice a5 qs.length c5] 30)).alloc (.cells #[.bool gr, .slice ar nr cr] 30)).cell? ⟨w2.heap.size, 0, none⟩ = some (.bool f5) := by simp [go_sem]
  have u1 : ((w2.alloc (.cells #[.bool f5, .slice a5 qs.length c5] 30)).alloc (.cells #[.bool gr, .slice ar nr cr] 30)).cell? ⟨w2.heap.size, 1, none⟩ = some (.slice a5 qs.length c5) := by simp [go_sem]
  have z0 := bat hb2 P0
  have z1 := bat hb2 P1
  have z2 := bat hb2 c2
  have z3 := bat hb2 c3
  have lb : w.heap.size < w2.heap.size := World.block_lt_of_cell? _ _ z2
  have lx : w1.heap.size < w2.heap.size := World.block_lt_of_cell? _ _ z0
  have lb' : w.heap.size < w2.heap.size + 1 := by omega
  have lx' : w1.heap.size < w2.heap.size + 1 := by omega
  go_wp2_with fail
  have s4 := s2.below hbb
  have s5 := s3.below hbb
  have o5' := o5.below hbv
  have B3 := B5.trans (hbb.mono B5.size)
  replace d0 := bat hbb d0
  replace d1 := bat hbb d1
  replace d2 := bat hbb d2
  replace d3 := bat hbb d3
  have fy3 : ∀ o, ((w2.alloc (.cells #[.bool f5, .slice a5 qs.length c5] 30)).alloc (.cells #[.bool gr, .slice ar nr cr] 30)).frozen? ⟨w.heap.size + 1, o, none⟩ = false := fun o => (hbb.frozen (p := ⟨w.heap.size + 1, o, none⟩) (by dsimp only; omega)).trans (fy5 o)
  have sz2 : w.heap.size + 2 ≤ ((w2.alloc (.cells #[.bool f5, .slice a5 qs.length c5] 30)).alloc (.cells #[.bool gr, .slice ar nr cr] 30)).heap.size := Nat.le_trans sz5 hbb.size
  clear hb2 hbv hbb fy5 z0 z1 z2 z3 lb lx lb' lx' c0 c1' c2 c3 P0 P1 s1 s2 s3 n5 v5 o5 B5 hT
  generalize (w2.alloc (.cells #[.bool f5, .slice a5 qs.length c5] 30)).alloc (.cells #[.bool gr, .slice ar nr cr] 30) = W2 at *
  refine (dividedC true true b a1 d c1 ds us _ s4 s5 e2 HU.out.1 hune (by omega) HU.out.2.2).mono ?_
  rintro e w3 ⟨vq, vr, rfl, hT, hb3⟩
  obtain ⟨hI, gr2, ar2, nr2, cr2, rfl⟩ := hT.first
  obtain ⟨a6, c6, rs, rfl, o6, n6, v6⟩ := hI
  have ED : Hid (sg true (val ds) / sg true (val us) = -val ds / -(Int.gcd (val ns) (val ds) : Int)) := by show _ = _; rw [HU.out.2.1]; rfl
  rw [ED.out] at v6
  rw [ED.out]
  obtain ⟨f6, hf6⟩ : ∃ f, Hid (decide (-val ds / -(Int.gcd (val ns) (val ds) : Int) < 0) = f) := ⟨_, rfl⟩
  rw [hf6.out]
  have o5'' := o5'.below hb3
  have AP : Hid (Apart a5 qs a6 rs) := fun q off q1 q2 q3 => row_ne_low o6 (o5'.lt q1 q2) q3.symm
  have IF : IsFrac (w.heap.size + 2) w3 (.agg #[.bool f5, .slice a5 qs.length c5, .bool f6, .slice a6 rs.length c6]) (sg g (val ns) / -(Int.gcd (val ns) (val ds) : Int)) (-val ds / -(Int.gcd (val ns) (val ds) : Int)) :=
    ⟨a5, c5, qs, a6, c6, rs, by rw [hf5.out, hf6.out], o5''.base_le sz5, o6.base_le sz2, H5.out.1, n6, H5.out.2, v6, AP.out⟩
  have B4 := B3.trans (hb3.mono B3.size)
  replace d0 := bat hb3 d0
  replace d1 := bat hb3 d1
  replace d2 := bat hb3 d2
  replace d3 := bat hb3 d3
  replace u0 := bat hb3 u0
  replace u1 := bat hb3 u1
  have fy4 : ∀ o, w3.frozen? ⟨w.heap.size + 1, o, none⟩ = false := fun o => (hb3.frozen (p := ⟨w.heap.size + 1, o, none⟩) (by dsimp only; omega)).trans (fy3 o)
  have ly : w.heap.size + 1 < w3.heap.size := World.block_lt_of_cell? _ _ d0
  have ly0 : w.heap.size < w3.heap.size := by omega
  have lu : w2.heap.size < w3.heap.size := World.block_lt_of_cell? _ _ u0
  have lu' : w2.heap.size < w3.heap.size + 1 := by omega
  have JP := IF.put (b := w.heap.size + 1) (b0 := w.heap.size) (by omega) (by omega) (.bool f5) (.slice a5 qs.length c5) (.bool f6) (.slice a6 rs.length c6)
  have BP := below_put4 (b := w.heap.size + 1) B4 (by omega) (.bool f5) (.slice a5 qs.length c5) (.bool f6) (.slice a6 rs.length c6)
  clear hb3 fy3 o5' o5'' o6 n6 v6 s4 s5 hT B3 B4 AP IF H5
  go_wp2
  exact bodyPost_ret (v := .agg #[.bool f5, .slice a5 qs.length c5, .bool f6, .slice a6 rs.length c6]) (by simp [results, Try.results50, go_sem, d0, d1, d2, d3, ly, ly0]) rfl ⟨_, rfl, JP.below (below2 _ _ _), BP.trans ((below2 _ _ _).mono BP.size)⟩
end Go.Proofs.Ytfhcbgjnojcigaa
