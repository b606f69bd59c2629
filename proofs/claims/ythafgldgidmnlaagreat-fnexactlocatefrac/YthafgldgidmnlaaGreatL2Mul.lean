import Derived.Test.YthafgldgidmnlaaGreatFracL
import Derived.Test.YthafgldgidmnlaaGreatSMul
import Derived.Test.YthafgldgidmnlaaGreatEq
import Derived.Deep.RegionHeld3
import Derived.Test.YthafgldgidmnlaaGreatMulA
/- The specification's product of numbers of any size: l2Mul. -/
namespace Go.Proofs.YthafgldgidmnlaaGreat
open Go.RowKit

set_option maxRecDepth 20000 in
set_option maxHeartbeats 4000000 in
theorem l2MulC (g g' : Bool) (a b : Option Addr) (c d : Nat) (xs ys : List Int) (w : World) (h : Sees w a c xs) (k : Sees w b d ys) (hs : xs.length + ys.length ≤ 1048576) :
    Calls Tryz.prog 59 #[.agg #[.bool g, .slice a xs.length c], .agg #[.bool g', .slice b ys.length d]] w fun e w' => ∃ v, e = .returned v ∧ IsNum w.heap.size w' v (sg (g != g') (val xs * val ys)) ∧ Below w.heap.size w w' := by
  have HS : Hid (xs.length + ys.length ≤ 1048576) := hs
  clear hs
  go_enter Tryz.func59, Tryz.ntmps59
  go_wp2_with fail
  go_region_held3 (fun w' => w'.cell? ⟨w.heap.size, 0, none⟩ = some (.bool g) ∧ w'.cell? ⟨w.heap.size, 1, none⟩ = some (.slice a xs.length c) ∧ w'.cell? ⟨w.heap.size + 1, 0, none⟩ = some (.bool g') ∧ w'.cell? ⟨w.heap.size + 1, 1, none⟩ = some (.slice b ys.length d))
    (first | exact k1 | exact k2 | exact ⟨(cell_put (by omega)).trans k2.1, (cell_put (by omega)).trans k2.2.1, (cell_put (by omega)).trans k2.2.2.1, (cell_put (by omega)).trans k2.2.2.2⟩ | (simp [go_sem, World.cell?_alloc_past]))
    (first
    | (go_at_call 75; refine (l1MulMagC a b c d xs ys _ ?_ ?_ HS.out).mono ?_; exact h.below (below3 _ _ _ _).drew; exact k.below (below3 _ _ _ _).drew; rintro e w1 ⟨a1, c1, zs, rfl, ho1, hv1, hl1, hb1⟩; have B1 := (below3 w _ _ _).drew.trans (hb1.mono (by simp <;> omega)); obtain ⟨q1, _⟩ := at_block hb1 (b := w.heap.size) (by simp <;> omega); obtain ⟨q2, _⟩ := at_block hb1 (b := w.heap.size + 1) (by simp <;> omega); obtain ⟨q3, q4⟩ := at_block hb1 (b := w.heap.size + 2) (by simp); have z1 : w.heap.size + 2 < w1.heap.size := (by have := hb1.size; simp at this; omega); have k1 : w1.cell? ⟨w.heap.size, 0, none⟩ = some (.bool g) ∧ w1.cell? ⟨w.heap.size, 1, none⟩ = some (.slice a xs.length c) ∧ w1.cell? ⟨w.heap.size + 1, 0, none⟩ = some (.bool g') ∧ w1.cell? ⟨w.heap.size + 1, 1, none⟩ = some (.slice b ys.length d) := (by simp [q1, q2, go_sem, World.cell?_alloc_past]); have E : Hid (sg (g != g') (val zs) = sg (g != g') (val xs * val ys)) := (by rw [hv1]; exact rfl); have HL6 : Hid (zs.length ≤ 2097152) := (by show _ ≤ _; have := HS.out; omega); clear hb1 q1 q2 hv1 hl1)
    | (go_at_call 74; refine (l1NumC (g != g') a1 c1 zs _ ho1.toSees HL6.out).mono ?_; rintro e w2 ⟨v, rfl, hI, hb2⟩; have B2 := B1.trans (hb2.mono B1.size); have k2 : w2.cell? ⟨w.heap.size, 0, none⟩ = some (.bool g) ∧ w2.cell? ⟨w.heap.size, 1, none⟩ = some (.slice a xs.length c) ∧ w2.cell? ⟨w.heap.size + 1, 0, none⟩ = some (.bool g') ∧ w2.cell? ⟨w.heap.size + 1, 1, none⟩ = some (.slice b ys.length d) := ⟨bat hb2 k1.1, bat hb2 k1.2.1, bat hb2 k1.2.2.1, bat hb2 k1.2.2.2⟩; have qa2 := (fun o => (hb2.cell (p := ⟨w.heap.size + 2, o, none⟩) z1).trans (q3 o)); have qb2 := (fun o => (hb2.frozen (p := ⟨w.heap.size + 2, o, none⟩) z1).trans (q4 o)); have z2 : w.heap.size + 2 < w2.heap.size := (by have := hb2.size; omega); have hJ := (hI.eq E.out).base_le (show w.heap.size + 3 ≤ w1.heap.size from z1); obtain ⟨g5, a5, l5, c5, rfl⟩ := hI.shape; clear hb2 q3 q4))
  all_goals
    go_wp2
    exact bodyPost_ret (v := .agg #[.bool g5, .slice a5 l5 c5]) (by simp [results, Tryz.results59, go_sem, qa2]) rfl ⟨_, rfl, hJ.put' (by omega) (by omega), below_put' B2 (by omega) _ _⟩
end Go.Proofs.YthafgldgidmnlaaGreat

/- The specification's CmpFrac. -/
namespace Go.Proofs.YthafgldgidmnlaaGreat
open Go.RowKit

theorem mul_len {us vs zs : List Int} (hu : Lim us) (hv : Lim vs) (lu : us.length ≤ 24) (lv : vs.length ≤ 24) (hz : Lim zs) (nz : Nrm zs) (e : val zs = val us * val vs) : zs.length ≤ 48 := by
  refine len_le hz nz ?_
  have a1 := val_lt hu
  have a2 := val_lt hv
  have a3 := p_mono us.length (24 - us.length)
  have a4 := p_mono vs.length (24 - vs.length)
  rw [show us.length + (24 - us.length) = 24 by omega] at a3
  rw [show vs.length + (24 - vs.length) = 24 by omega] at a4
  rw [e, show (4294967296 : Int) ^ 48 = 4294967296 ^ 24 * 4294967296 ^ 24 from Int.pow_add _ 24 24]
  have h5 := p_pos 24
  have h6 := val_nonneg hu
  generalize (4294967296 : Int) ^ 24 = P at *
  exact Int.lt_of_le_of_lt (Int.mul_le_mul_of_nonneg_left (show val vs ≤ P by omega) h6) (Int.mul_lt_mul_of_pos_right (show val us < P by omega) h5)
theorem cmp_diff (x y : Int) : cmpZ x y = if x - y = 0 then 0 else if x - y < 0 then -1 else 1 := by
  unfold cmpZ
  by_cases h1 : x < y
  · rw [if_pos h1, if_neg (by omega), if_pos (by omega)]
  · rw [if_neg h1]
    by_cases h2 : x = y
    · rw [if_pos h2, if_pos (by omega)]
    · rw [if_neg h2, if_neg (by omega), if_neg (by omega)]
theorem mg_mul (x y : Int) : mg (x * y) = mg x * mg y := by
  have e := sg_mul (decide (x < 0)) (decide (y < 0)) (mg x) (mg y)
  rw [sg_of_mg, sg_of_mg] at e
  have hx : 0 ≤ mg x := by unfold mg; split <;> omega
  have hy : 0 ≤ mg y := by unfold mg; split <;> omega
  rw [← e, mg_sg (Int.mul_nonneg hx hy)]

set_option maxRecDepth 20000 in
set_option maxHeartbeats 4000000 in
theorem specCmpFrac (g h g' h' : Bool) (a b a' b' : Option Addr) (c d c' d' : Nat) (xs ys xs' ys' : List Int) (w : World) (h1 : Sees w a c xs) (h2 : Sees w b d ys) (k1 : Sees w a' c' xs') (k2 : Sees w b' d' ys') :
    Calls Tryz.prog 47 #[.agg #[.bool g, .slice a xs.length c, .bool h, .slice b ys.length d], .agg #[.bool g', .slice a' xs'.length c', .bool h', .slice b' ys'.length d']] w fun e w' => e = .returned (.int .i64 (cmpZ (fN g xs h ys * fD g' xs' h' ys') (fN g' xs' h' ys' * fD g xs h ys))) ∧ Below w.heap.size w w' := by
  have B0 := below2 w (.cells #[.bool g, .slice a xs.length c, .bool h, .slice b ys.length d] 39) (.cells #[.bool g', .slice a' xs'.length c', .bool h', .slice b' ys'.length d'] 39)
  have k0 := box8 w g h g' h' a b a' b' xs.length ys.length xs'.length ys'.length c d c' d' 39
  have h1' := h1.below B0
  have h2' := h2.below B0
  have k1' := k1.below B0
  have k2' := k2.below B0
  clear h1 h2 k1 k2
  obtain ⟨n1, hn1⟩ : ∃ n, fN g xs h ys = n := ⟨_, rfl⟩
  obtain ⟨d1, hd1⟩ : ∃ n, fD g xs h ys = n := ⟨_, rfl⟩
  obtain ⟨n2, hn2⟩ : ∃ n, fN g' xs' h' ys' = n := ⟨_, rfl⟩
  obtain ⟨d2, hd2⟩ : ∃ n, fD g' xs' h' ys' = n := ⟨_, rfl⟩
  rw [hn1, hd1, hn2, hd2]
  have HN : Hid (fN g xs h ys = n1 ∧ fD g xs h ys = d1 ∧ fN g' xs' h' ys' = n2 ∧ fD g' xs' h' ys' = d2) := ⟨hn1, hd1, hn2, hd2⟩
  clear hn1 hd1 hn2 hd2
  go_enter Tryz.func47, Tryz.ntmps47
  go_wp2_with fail
  generalize (w.alloc (.cells #[.bool g, .slice a xs.length c, .bool h, .slice b ys.length d] 39)).alloc (.cells #[.bool g', .slice a' xs'.length c', .bool h', .slice b' ys'.length d'] 39) = W at *
  obtain ⟨b0, b1, b2, b3, y0, y1, y2, y3⟩ := k0
  refine (l2RightC g h a b c d xs ys _ h1' h2').mono ?_
  rintro e w1 ⟨v, rfl, hI, hb1⟩
  rw [HN.out.1, HN.out.2.1] at hI
  obtain ⟨p1, q1, u1, p2, q2, u2, rfl, s1, s2, e1, e2, v1, v2, l1, l2⟩ := hI
  have H1 : Hid (Nrm u1 ∧ Nrm u2 ∧ val u1 = mg n1 ∧ val u2 = mg d1) := ⟨e1, e2, v1, v2⟩
  obtain ⟨sd1, hsd1⟩ : ∃ x, Hid (decide (n1 < 0) = x) := ⟨_, rfl⟩
  obtain ⟨sd2, hsd2⟩ : ∃ x, Hid (decide (d1 < 0) = x) := ⟨_, rfl⟩
  rw [hsd1.out, hsd2.out]
  replace y0 := bat hb1 y0
  replace y1 := bat hb1 y1
  replace y2 := bat hb1 y2
  replace y3 := bat hb1 y3
  have ly : w.heap.size + 1 < w1.heap.size := World.block_lt_of_cell? _ _ y0
  have hbx := below1 w1 (.cells #[.bool sd1, .slice p1 u1.length q1, .bool sd2, .slice p2 u2.length q2] 39)
  obtain ⟨x0, x1, x2, x3⟩ := fvar_new w1 sd1 sd2 p1 p2 u1.length u2.length q1 q2 39
  go_wp2_with fail
  have B1 : Below W.heap.size W (w1.alloc (.cells #[.bool sd1, .slice p1 u1.length q1, .bool sd2, .slice p2 u2.length q2] 39)) := hb1.trans (hbx.mono hb1.size)
  have s1' := s1.below hbx
  have s2' := s2.below hbx
  clear e1 e2 v1 v2 hb1 hbx s1 s2 b0 b1 b2 b3 y0 y1 y2 y3 ly
  generalize w1.alloc (.cells #[.bool sd1, .slice p1 u1.length q1, .bool sd2, .slice p2 u2.length q2] 39) = W1 at *
  refine (l2RightC g' h' a' b' c' d' xs' ys' _ (k1'.below B1) (k2'.below B1)).mono ?_
  rintro e w2 ⟨v, rfl, hI, hb2⟩
  rw [HN.out.2.2.1, HN.out.2.2.2] at hI
  obtain ⟨p3, q3, u3, p4, q4, u4, rfl, s3, s4, e3, e4, v3, v4, l3, l4⟩ := hI
  have H2 : Hid (Nrm u3 ∧ Nrm u4 ∧ val u3 = mg n2 ∧ val u4 = mg d2) := ⟨e3, e4, v3, v4⟩
  obtain ⟨sd3, hsd3⟩ : ∃ x, Hid (decide (n2 < 0) = x) := ⟨_, rfl⟩
  obtain ⟨sd4, hsd4⟩ : ∃ x, Hid (decide (d2 < 0) = x) := ⟨_, rfl⟩
  rw [hsd3.out, hsd4.out]
  replace x0 := bat hb2 x0
  replace x1 := bat hb2 x1
  replace x2 := bat hb2 x2
  replace x3 := bat hb2 x3
  have lx : w1.heap.size < w2.heap.size := World.block_lt_of_cell? _ _ x0
  have hby := below1 w2 (.cells #[.bool sd3, .slice p3 u3.length q3, .bool sd4, .slice p4 u4.length q4] 39)
  obtain ⟨y0, y1, y2, y3⟩ := fvar_new w2 sd3 sd4 p3 p4 u3.length u4.length q3 q4 39
  go_wp2_with fail
  have B2 : Below W.heap.size W (w2.alloc (.cells #[.bool sd3, .slice p3 u3.length q3, .bool sd4, .slice p4 u4.length q4] 39)) := (B1.trans (hb2.mono B1.size)).trans (hby.mono (Nat.le_trans B1.size hb2.size))
  have t1 := (s1'.below hb2).below hby
  have t2 := (s2'.below hb2).below hby
  have t3 := s3.below hby
  have t4 := s4.below hby
  replace x0 := bat hby x0
  replace x1 := bat hby x1
  replace x2 := bat hby x2
  replace x3 := bat hby x3
  clear e3 e4 v3 v4 hb2 hby s1' s2' s3 s4 lx B1
  generalize w2.alloc (.cells #[.bool sd3, .slice p3 u3.length q3, .bool sd4, .slice p4 u4.length q4] 39) = W2 at *
  refine (l2MulC sd1 sd4 p1 p4 q1 q4 u1 u4 _ t1 t4 (by omega)).mono ?_
  rintro e w3 ⟨v, rfl, hI, hb3⟩
  have hE1 : sg (sd1 != sd4) (val u1 * val u4) = n1 * d2 := by rw [sg_mul, H1.out.2.2.1, H2.out.2.2.2, ← hsd1.out, ← hsd4.out, sg_of_mg, sg_of_mg]
  rw [hE1] at hI
  obtain ⟨a5, c5, z5, rfl, o5, n5, v5⟩ := hI
  have L5 : Hid (z5.length ≤ 48) := mul_len t1.lim t4.lim l1 l4 o5.lim n5 (by rw [v5, H1.out.2.2.1, H2.out.2.2.2]; exact mg_mul _ _)
  have H5 : Hid (Nrm z5 ∧ val z5 = mg (n1 * d2)) := ⟨n5, v5⟩
  obtain ⟨sd5, hsd5⟩ : ∃ x, Hid (decide (n1 * d2 < 0) = x) := ⟨_, rfl⟩
  rw [hsd5.out]
  replace x0 := bat hb3 x0
  replace x1 := bat hb3 x1
  replace x2 := bat hb3 x2
  replace x3 := bat hb3 x3
  replace y0 := bat hb3 y0
  replace y1 := bat hb3 y1
  replace y2 := bat hb3 y2
  replace y3 := bat hb3 y3
  have lx : w1.heap.size < w3.heap.size := World.block_lt_of_cell? _ _ x0
  have ly : w2.heap.size < w3.heap.size := World.block_lt_of_cell? _ _ y0
  have hbp := below1 w3 (.cells #[.bool sd5, .slice a5 z5.length c5] 37)
  obtain ⟨m0, m1⟩ := var_new w3 sd5 a5 z5.length c5 37
  go_wp2_with fail
  have B3 : Below W.heap.size W (w3.alloc (.cells #[.bool sd5, .slice a5 z5.length c5] 37)) := (B2.trans (hb3.mono B2.size)).trans (hbp.mono (Nat.le_trans B2.size hb3.size))
  replace t2 := (t2.below hb3).below hbp
  replace t3 := (t3.below hb3).below hbp
  have o5' := o5.below hbp
  clear n5 v5 hE1 hb3 hbp t1 t4 o5 x0 x1 x2 x3 y0 y1 y2 y3 lx ly B2
  generalize w3.alloc (.cells #[.bool sd5, .slice a5 z5.length c5] 37) = W3 at *
  refine (l2MulC sd3 sd2 p3 p2 q3 q2 u3 u2 _ t3 t2 (by omega)).mono ?_
  rintro e w4 ⟨v, rfl, hI, hb4⟩
  have hE2 : sg (sd3 != sd2) (val u3 * val u2) = n2 * d1 := by rw [sg_mul, H2.out.2.2.1, H1.out.2.2.2, ← hsd3.out, ← hsd2.out, sg_of_mg, sg_of_mg]
  rw [hE2] at hI
  obtain ⟨a6, c6, z6, rfl, o6, n6, v6⟩ := hI
  have L6 : Hid (z6.length ≤ 48) := mul_len t3.lim t2.lim l3 l2 o6.lim n6 (by rw [v6, H2.out.2.2.1, H1.out.2.2.2]; exact mg_mul _ _)
  have H6 : Hid (Nrm z6 ∧ val z6 = mg (n2 * d1)) := ⟨n6, v6⟩
  obtain ⟨sd6, hsd6⟩ : ∃ x, Hid (decide (n2 * d1 < 0) = x) := ⟨_, rfl⟩
  rw [hsd6.out]
  replace m0 := bat hb4 m0
  replace m1 := bat hb4 m1
  have lm : w3.heap.size < w4.heap.size := World.block_lt_of_cell? _ _ m0
  have hbq := below1 w4 (.cells #[.bool sd6, .slice a6 z6.length c6] 37)
  go_wp2_with fail
  have B4 : Below W.heap.size W (w4.alloc (.cells #[.bool sd6, .slice a6 z6.length c6] 37)) := (B3.trans (hb4.mono B3.size)).trans (hbq.mono (Nat.le_trans B3.size hb4.size))
  have o5'' := (o5'.below hb4).below hbq
  have o6' := o6.below hbq
  clear n6 v6 hE2 hb4 hbq t2 t3 o5' o6 m0 m1 lm B3
  generalize w4.alloc (.cells #[.bool sd6, .slice a6 z6.length c6] 37) = W4 at *
  refine (l1AddC sd5 (!sd6) a5 a6 c5 c6 z5 z6 _ o5''.toSees o6'.toSees H5.out.1 H6.out.1 (by have := L5.out; omega) (by have := L6.out; omega)).mono ?_
  rintro e w5 ⟨v, rfl, hI, hb5⟩
  have hE3 : sg sd5 (val z5) + sg (!sd6) (val z6) = n1 * d2 - n2 * d1 := by rw [sg_not, H5.out.2, H6.out.2, ← hsd5.out, ← hsd6.out, sg_of_mg, sg_of_mg]; omega
  rw [hE3] at hI
  obtain ⟨a7, c7, z7, rfl, o7, n7, v7⟩ := hI
  have B5 := B4.trans (hb5.mono B4.size)
  have lz : z7.length ≤ 9223372036854775807 := by have := o7.max; have := o7.fits; unfold maxLen at *; omega
  have BB := B0.trans (B5.mono B0.size)
  have HZ : Hid (Lim z7 ∧ Nrm z7 ∧ val z7 = mg (n1 * d2 - n2 * d1)) := ⟨o7.lim, n7, v7⟩
  clear n7 v7 hb5 hE3 o5'' o6' o7 B4 B5 B0
  have EC : Hid (cmpZ (n1 * d2) (n2 * d1) = if n1 * d2 - n2 * d1 = 0 then 0 else if n1 * d2 - n2 * d1 < 0 then -1 else 1) := cmp_diff _ _
  generalize n1 * d2 - n2 * d1 = D at *
  by_cases hD0 : D = 0
  · have EF : Hid (cmpZ (n1 * d2) (n2 * d1) = 0) := by show _ = _; rw [EC.out, if_pos hD0]
    clear EC
    subst hD0
    have e7 : z7 = [] := by
      by_cases e : z7 = []
      · exact e
      · have := val_pos HZ.out.1 HZ.out.2.1 e
        rw [HZ.out.2.2] at this
        simp [mg] at this
    subst e7
    go_wp2
    go_ret
    exact ⟨by rw [EF.out]; rfl, BB.trans ((below1 _ _).mono BB.size)⟩
  · have hne : z7 ≠ [] := by
      rintro rfl
      have := HZ.out.2.2
      unfold mg at this
      simp only [val] at this
      split at this <;> omega
    have hlp : ((z7.length : Int) == 0) = false := by simp; exact hne
    by_cases hDn : D < 0
    · have EF : Hid (cmpZ (n1 * d2) (n2 * d1) = -1) := by show _ = _; rw [EC.out, if_neg hD0, if_pos hDn]
      clear EC
      rw [decide_eq_true hDn]
      go_wp2
      go_ret
      exact ⟨by rw [EF.out]; rfl, BB.trans ((below1 _ _).mono BB.size)⟩
    · have EF : Hid (cmpZ (n1 * d2) (n2 * d1) = 1) := by show _ = _; rw [EC.out, if_neg hD0, if_neg hDn]
      clear EC
      rw [decide_eq_false hDn]
      go_wp2
      go_ret
      exact ⟨by rw [EF.out]; rfl, BB.trans ((below1 _ _).mono BB.size)⟩
end Go.Proofs.YthafgldgidmnlaaGreat
