/- A fraction in lowest terms: impl.Frac's lowest. -/
import Derived.Test.YtcnmglghmianoaaGcdC
import Derived.Test.YtcnmglghmianoaaDivd
import Derived.Test.YtcnmglghmianoaaTwoF
import Derived.Test.YtcnmglghmianoaaEq
namespace Go.Proofs.Ytcnmglghmianoaa
open Go.RowKit

/-- The value is a fraction whose parts are n and d, and neither part's limbs lie with the other one's. -/
def IsFrac (base : Nat) (w : World) (v : Value) (n d : Int) : Prop :=
  ∃ a1 c1 qs a2 c2 rs, v = .agg #[.bool (decide (n < 0)), .slice a1 qs.length c1, .bool (decide (d < 0)), .slice a2 rs.length c2] ∧ Own base w a1 c1 qs ∧ Own base w a2 c2 rs ∧ Nrm qs ∧ Nrm rs ∧ val qs = mg n ∧ val rs = mg d ∧ Apart a1 qs a2 rs
theorem IsFrac.below {base : Nat} {w w' : World} {v : Value} {n d : Int} (h : IsFrac base w v n d) (hb : Below w.heap.size w w') : IsFrac base w' v n d := by
  obtain ⟨a1, c1, qs, a2, c2, rs, e1, o1, o2, r⟩ := h
  exact ⟨a1, c1, qs, a2, c2, rs, e1, o1.below hb, o2.below hb, r⟩
theorem IsFrac.base_le {base base' : Nat} {w : World} {v : Value} {n d : Int} (h : IsFrac base w v n d) (hb : base' ≤ base) : IsFrac base' w v n d := by
  obtain ⟨a1, c1, qs, a2, c2, rs, e1, o1, o2, r⟩ := h
  exact ⟨a1, c1, qs, a2, c2, rs, e1, o1.base_le hb, o2.base_le hb, r⟩
theorem IsFrac.setCell {base : Nat} {w : World} {v : Value} {n d : Int} (h : IsFrac base w v n d) {p : Addr} (hp : p.block < base) (u : Value) : IsFrac base (w.setCell p u) v n d := by
  obtain ⟨a1, c1, qs, a2, c2, rs, e1, o1, o2, r⟩ := h
  exact ⟨a1, c1, qs, a2, c2, rs, e1, o1.setCell hp u, o2.setCell hp u, r⟩
theorem IsFrac.eq {base : Nat} {w : World} {v : Value} {n d n' d' : Int} (h : IsFrac base w v n d) (e1 : n = n') (e2 : d = d') : IsFrac base w v n' d' := e1 ▸ e2 ▸ h
/-- Four cells that are put. -/
theorem IsFrac.put {B b : Nat} {w : World} {v : Value} {n d : Int} (h : IsFrac B w v n d) (hb : b < B) {b0 : Nat} (h0 : b0 ≤ b) (u0 u1 u2 u3 : Value) : IsFrac b0 ((((w.setCell ⟨b, 0, none⟩ u0).setCell ⟨b, 1, none⟩ u1).setCell ⟨b, 2, none⟩ u2).setCell ⟨b, 3, none⟩ u3) v n d :=
  ((((h.setCell (p := ⟨b, 0, none⟩) hb u0).setCell (p := ⟨b, 1, none⟩) hb u1).setCell (p := ⟨b, 2, none⟩) hb u2).setCell (p := ⟨b, 3, none⟩) hb u3).base_le (Nat.le_trans h0 (Nat.le_of_lt hb))
theorem below_put4 {b b0 : Nat} {w w' : World} (h : Below b0 w w') (h0 : b0 ≤ b) (u0 u1 u2 u3 : Value) : Below b0 w ((((w'.setCell ⟨b, 0, none⟩ u0).setCell ⟨b, 1, none⟩ u1).setCell ⟨b, 2, none⟩ u2).setCell ⟨b, 3, none⟩ u3) :=
  (((h.setCell (p := ⟨b, 0, none⟩) h0 u0).setCell (p := ⟨b, 1, none⟩) h0 u1).setCell (p := ⟨b, 2, none⟩) h0 u2).setCell (p := ⟨b, 3, none⟩) h0 u3

set_option maxHeartbeats 2000000 in
theorem lowestC (g : Bool) (a b : Option Addr) (c d : Nat) (ns ds : List Int) (w : World) (h1 : Sees w a c ns) (h2 : Sees w b d ds) (e1 : Nrm ns) (e2 : Nrm ds) (hne : ds ≠ []) (l1 : ns.length ≤ 1048575) (l2 : ds.length ≤ 1048575) :
    Calls Try.prog 30 #[.agg #[.bool g, .slice a ns.length c, .bool false, .slice b ds.length d]] w fun e w' => ∃ v, e = .returned v ∧ IsFrac w.heap.size w' v (sg g (val ns) / Int.gcd (val ns) (val ds)) (val ds / Int.gcd (val ns) (val ds)) ∧ Below w.heap.size w w' := by
  have B0 := below2 w (.cells #[.bool g, .slice a ns.length c, .bool false, .slice b ds.length d] 37) (.cells #[.bool false, .slice none 0 0, .bool false, .slice none 0 0] 37)
  have h1' := h1.below B0
  have h2' := h2.below B0
  have vd := val_pos h2.lim e2 hne
  have GP : Hid (0 < (Int.gcd (val ns) (val ds) : Int)) := by
    have : 0 < Int.gcd (val ns) (val ds) := Int.gcd_pos_of_ne_zero_right _ (by omega)
    show _ < _
    omega
  have GL : Hid ((Int.gcd (val ns) (val ds) : Int) ≤ val ds) := by
    have h0 : Int.gcd (val ns) (val ds) ≤ (val ds).natAbs := Nat.gcd_le_right _ (by omega)
    show _ ≤ _
    omega
  have HD : Hid (Lim ds) := h2.lim
  clear h1 h2 vd
  go_enter Try.func30, Try.ntmps30
  go_wp2_with fail
  refine (commonDivisorC g false a b c d ns ds _ h1' h2' e1 e2 (by omega) (by omega)).mono ?_
  rintro e w1 ⟨v, rfl, hI, hb1⟩
  obtain ⟨a1, c1, us, rfl, ou, nu, vu⟩ := hI
  obtain ⟨q0, _⟩ := at_block hb1 (b := w.heap.size) (by simp; omega)
  obtain ⟨q1, r1⟩ := at_block hb1 (b := w.heap.size + 1) (by simp)
  have hz : w.heap.size + 1 < w1.heap.size := by have := hb1.size; simp at this; omega
  have b0 : w1.cell? ⟨w.heap.size, 0, none⟩ = some (.bool g) := by simp [q0, go_sem]
  have b1 : w1.cell? ⟨w.heap.size, 1, none⟩ = some (.slice a ns.length c) := by simp [q0, go_sem]
  have b2 : w1.cell? ⟨w.heap.size, 2, none⟩ = some (.bool false) := by simp [q0, go_sem]
  have b3 : w1.cell? ⟨w.heap.size, 3, none⟩ = some (.slice b ds.length d) := by simp [q0, go_sem]
  have y0 : w1.cell? ⟨w.heap.size + 1, 0, none⟩ = some (.bool false) := by simp [q1, go_sem]
  have y1 : w1.cell? ⟨w.heap.size + 1, 1, none⟩ = some (.slice none 0 0) := by simp [q1, go_sem]
  have y2 : w1.cell? ⟨w.heap.size + 1, 2, none⟩ = some (.bool false) := by simp [q1, go_sem]
  have y3 : w1.cell? ⟨w.heap.size + 1, 3, none⟩ = some (.slice none 0 0) := by simp [q1, go_sem]
  have fy : ∀ o, w1.frozen? ⟨w.heap.size + 1, o, none⟩ = false := fun o => by simp [r1, go_sem]
  have B1 := B0.trans (hb1.mono (by simp; omega))
  have k1 := h1'.below hb1
  have k2 := h2'.below hb1
  have gp := GP.out
  have vu' : val us = (Int.gcd (val ns) (val ds) : Int) := by rw [vu]; unfold mg; rw [if_neg (by omega)]
  have hfl : decide ((Int.gcd (val ns) (val ds) : Int) < 0) = false := by simp
  rw [hfl]
  have hune : us ≠ [] := by rintro rfl; simp only [val] at vu'; omega
  have HU : Hid (Nrm us ∧ val us = (Int.gcd (val ns) (val ds) : Int) ∧ us.length ≤ 1048575) := ⟨nu, vu', by
    have := GL.out
    by_cases hc : us.length ≤ ds.length
    · omega
    · have := cmp_len HD.out ou.lim nu (by omega); omega⟩
  have hbx := below1 w1 (.cells #[.bool false, .slice a1 us.length c1] 35)
  obtain ⟨x0, x1⟩ := var_new w1 false a1 us.length c1 35
  have s1 := k1.below hbx
  have s2 := k2.below hbx
  have s3 := ou.toSees.below hbx
  have hz0 : w.heap.size < w1.heap.size := by omega
  clear hb1 h1' h2' gp vu vu' hfl nu k1 k2 B0 q0 q1 r1
  go_wp2_with fail
  have B2 : Below w.heap.size w (w1.alloc (.cells #[.bool false, .slice a1 us.length c1] 35)) := B1.trans (hbx.mono B1.size)
  replace b0 := bat hbx b0
  replace b1 := bat hbx b1
  replace b2 := bat hbx b2
  replace b3 := bat hbx b3
  replace y0 := bat hbx y0
  replace y1 := bat hbx y1
  replace y2 := bat hbx y2
  replace y3 := bat hbx y3
  have fy2 : ∀ o, (w1.alloc (.cells #[.bool false, .slice a1 us.length c1] 35)).frozen? ⟨w.heap.size + 1, o, none⟩ = false := fun o => (hbx.frozen (p := ⟨w.heap.size + 1, o, none⟩) hz).trans (fy o)
  have sz1 : w.heap.size + 2 ≤ (w1.alloc (.cells #[.bool false, .slice a1 us.length c1] 35)).heap.size := by rw [World.size_alloc]; omega
  clear hbx fy B1 hz hz0 ou
  generalize w1.alloc (.cells #[.bool false, .slice a1 us.length c1] 35) = W1 at *
  refine (dividedC g false a a1 c c1 ns us _ s1 s3 e1 HU.out.1 hune (by omega) HU.out.2.2).mono ?_
  rintro e w2 ⟨vq, vr, rfl, hT, hb2⟩
  obtain ⟨hI, gr, ar, nr, cr, rfl⟩ := hT.first
  obtain ⟨a5, c5, qs, rfl, o5, n5, v5⟩ := hI
  have EN : Hid (sg g (val ns) / sg false (val us) = sg g (val ns) / Int.gcd (val ns) (val ds)) := by show _ = _; simp only [sg]; simp [HU.out.2.1]
  rw [EN.out] at v5
  rw [EN.out]
  obtain ⟨f5, hf5⟩ : ∃ f, Hid (decide (sg g (val ns) / Int.gcd (val ns) (val ds) < 0) = f) := ⟨_, rfl⟩
  rw [hf5.out]
  have H5 : Hid (Nrm qs ∧ val qs = mg (sg g (val ns) / Int.gcd (val ns) (val ds))) := ⟨n5, v5⟩
  have hbv := below2 w2 (.cells #[.bool f5, .slice a5 qs.length c5] 35) (.cells #[.bool gr, .slice ar nr cr] 35)
  have hbb := hb2.trans (hbv.mono hb2.size)
  have u0 : ((w2.alloc (.cells #[.bool f5, .slice a5 qs.length c5] 35)).alloc (.cells #[.bool gr, .slice ar nr cr] 35)).cell? ⟨w2.heap.size, 0, none⟩ = some (.bool f5) := by simp [go_sem]
  have u1 : ((w2.alloc (.cells #[.bool f5, .slice a5 qs.length c5] 35)).alloc (.cells #[.bool gr, .slice ar nr cr] 35)).cell? ⟨w2.heap.size, 1, none⟩ = some (.slice a5 qs.length c5) := by simp [go_sem]
  have z0 := bat hb2 x0
  have z1 := bat hb2 x1
  have z2 := bat hb2 b2
  have z3 := bat hb2 b3
  have lb : w.heap.size < w2.heap.size := World.block_lt_of_cell? _ _ z2
  have lx : w1.heap.size < w2.heap.size := World.block_lt_of_cell? _ _ z0
  have lb' : w.heap.size < w2.heap.size + 1 := by omega
  have lx' : w1.heap.size < w2.heap.size + 1 := by omega
  go_wp2_with fail
  have s4 := s2.below hbb
  have s5 := s3.below hbb
  have o5' := o5.below hbv
  have B3 := B2.trans (hbb.mono B2.size)
  replace y0 := bat hbb y0
  replace y1 := bat hbb y1
  replace y2 := bat hbb y2
  replace y3 := bat hbb y3
  have fy3 : ∀ o, ((w2.alloc (.cells #[.bool f5, .slice a5 qs.length c5] 35)).alloc (.cells #[.bool gr, .slice ar nr cr] 35)).frozen? ⟨w.heap.size + 1, o, none⟩ = false := fun o => (hbb.frozen (p := ⟨w.heap.size + 1, o, none⟩) (by dsimp only; omega)).trans (fy2 o)
  have sz2 : w.heap.size + 2 ≤ ((w2.alloc (.cells #[.bool f5, .slice a5 qs.length c5] 35)).alloc (.cells #[.bool gr, .slice ar nr cr] 35)).heap.size := Nat.le_trans sz1 hbb.size
  clear hb2 hbv hbb fy2 z0 z1 z2 z3 lb lx lb' lx' b0 b1 b2 b3 x0 x1 s1 s2 s3 n5 v5 o5 B2 hT
  generalize (w2.alloc (.cells #[.bool f5, .slice a5 qs.length c5] 35)).alloc (.cells #[.bool gr, .slice ar nr cr] 35) = W2 at *
  refine (dividedC false false b a1 d c1 ds us _ s4 s5 e2 HU.out.1 hune (by omega) HU.out.2.2).mono ?_
  rintro e w3 ⟨vq, vr, rfl, hT, hb3⟩
  obtain ⟨hI, gr2, ar2, nr2, cr2, rfl⟩ := hT.first
  obtain ⟨a6, c6, rs, rfl, o6, n6, v6⟩ := hI
  have ED : Hid (sg false (val ds) / sg false (val us) = val ds / Int.gcd (val ns) (val ds)) := by show _ = _; simp only [sg]; simp [HU.out.2.1]
  rw [ED.out] at v6
  rw [ED.out]
  obtain ⟨f6, hf6⟩ : ∃ f, Hid (decide (val ds / Int.gcd (val ns) (val ds) < 0) = f) := ⟨_, rfl⟩
  rw [hf6.out]
  have o5'' := o5'.below hb3
  have AP : Hid (Apart a5 qs a6 rs) := fun q off q1 q2 q3 => row_ne_low o6 (o5'.lt q1 q2) q3.symm
  have IF : IsFrac (w.heap.size + 2) w3 (.agg #[.bool f5, .slice a5 qs.length c5, .bool f6, .slice a6 rs.length c6]) (sg g (val ns) / Int.gcd (val ns) (val ds)) (val ds / Int.gcd (val ns) (val ds)) :=
    ⟨a5, c5, qs, a6, c6, rs, by rw [hf5.out, hf6.out], o5''.base_le sz1, o6.base_le sz2, H5.out.1, n6, H5.out.2, v6, AP.out⟩
  have B4 := B3.trans (hb3.mono B3.size)
  replace y0 := bat hb3 y0
  replace y1 := bat hb3 y1
  replace y2 := bat hb3 y2
  replace y3 := bat hb3 y3
  replace u0 := bat hb3 u0
  replace u1 := bat hb3 u1
  have fy4 : ∀ o, w3.frozen? ⟨w.heap.size + 1, o, none⟩ = false := fun o => (hb3.frozen (p := ⟨w.heap.size + 1, o, none⟩) (by dsimp only; omega)).trans (fy3 o)
  have ly : w.heap.size + 1 < w3.heap.size := World.block_lt_of_cell? _ _ y0
  have ly0 : w.heap.size < w3.heap.size := by omega
  have lu : w2.heap.size < w3.heap.size := World.block_lt_of_cell? _ _ u0
  have lu' : w2.heap.size < w3.heap.size + 1 := by omega
  have JP := IF.put (b := w.heap.size + 1) (b0 := w.heap.size) (by omega) (by omega) (.bool f5) (.slice a5 qs.length c5) (.bool f6) (.slice a6 rs.length c6)
  have BP := below_put4 (b := w.heap.size + 1) B4 (by omega) (.bool f5) (.slice a5 qs.length c5) (.bool f6) (.slice a6 rs.length c6)
  clear hb3 fy3 o5' o5'' o6 n6 v6 s4 s5 hT B3 B4 AP IF H5
  go_wp2
  exact bodyPost_ret (v := .agg #[.bool f5, .slice a5 qs.length c5, .bool f6, .slice a6 rs.length c6]) (by simp [results, Try.results30, go_sem, y0, y1, y2, y3, ly, ly0]) rfl ⟨_, rfl, JP.below (below2 _ _ _), BP.trans ((below2 _ _ _).mono BP.size)⟩
end Go.Proofs.Ytcnmglghmianoaa
