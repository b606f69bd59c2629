/- MulFrac: the program's and the specification's. -/
import Derived.Test.YtccdihglpobnmaaDoorMulW
import Derived.Test.YtccdihglpobnmaaDoorL2Mul
import Derived.Test.YtccdihglpobnmaaDoorSLow
import Derived.Test.YtccdihglpobnmaaDoorFTakeO
import Derived.Test.YtccdihglpobnmaaDoorBase
import Derived.Test.YtccdihglpobnmaaDoorHeldQ
namespace Go.Proofs.YtccdihglpobnmaaDoor
open Go.RowKit

theorem prod_sg (n m : Int) : sg (decide (n < 0) != decide (m < 0)) (mg n * mg m) = n * m := by
  unfold sg mg
  by_cases h : n < 0 <;> by_cases k : m < 0 <;> simp [h, k, Int.neg_mul, Int.mul_neg]
theorem mg_mul_pos {n m : Int} (h : 0 < n) (k : 0 < m) : decide (n * m < 0) = false ∧ mg (n * m) = n * m := by
  have := Int.mul_pos h k
  refine ⟨decide_eq_false (by omega), ?_⟩
  unfold mg; rw [if_neg (by omega)]
theorem prod_len {n m : Int} {xs ys zs : List Int} (hx : Lim xs) (hy : Lim ys) (v1 : val xs = mg n) (v2 : val ys = mg m) (l1 : xs.length ≤ 24) (l2 : ys.length ≤ 24) (lz : Lim zs) (nz : Nrm zs) (vz : val zs = mg (n * m)) : zs.length ≤ 48 := by
  refine len_le lz nz ?_
  have e : mg (n * m) = mg n * mg m := by
    unfold mg
    rcases Int.lt_trichotomy n 0 with h | h | h <;> rcases Int.lt_trichotomy m 0 with k | k | k
    · have := Int.mul_pos (a := -n) (b := -m) (by omega) (by omega); rw [Int.neg_mul_neg] at this
      rw [if_neg (by omega), if_pos h, if_pos k, Int.neg_mul_neg]
    · subst k; simp
    · have := Int.mul_pos (a := -n) (b := m) (by omega) (by omega); rw [Int.neg_mul] at this
      rw [if_pos (by omega), if_pos h, if_neg (by omega), Int.neg_mul]
    · subst h; simp
    · subst h; simp
    · subst h; simp
    · have := Int.mul_pos (a := n) (b := -m) (by omega) (by omega); rw [Int.mul_neg] at this
      rw [if_pos (by omega), if_neg (by omega), if_pos k, Int.mul_neg]
    · subst k; simp
    · have := Int.mul_pos h k
      rw [if_neg (by omega), if_neg (by omega), if_neg (by omega)]
  rw [vz, e, ← v1, ← v2]
  have b1 := val_lt hx
  have b2 := val_lt hy
  have p1 := val_nonneg hx
  have p2 := val_nonneg hy
  have m1 := p_mono xs.length (24 - xs.length)
  have m2 := p_mono ys.length (24 - ys.length)
  rw [show xs.length + (24 - xs.length) = 24 by omega] at m1
  rw [show ys.length + (24 - ys.length) = 24 by omega] at m2
  have hp := p_pos 24
  have h1 : val xs * val ys ≤ val xs * 4294967296 ^ 24 := Int.mul_le_mul_of_nonneg_left (by omega) p1
  have h2 : val xs * 4294967296 ^ 24 < 4294967296 ^ 24 * 4294967296 ^ 24 := Int.mul_lt_mul_of_pos_right (by omega) hp
  have e48 : (4294967296 : Int) ^ 48 = 4294967296 ^ 24 * 4294967296 ^ 24 := by rw [← Int.pow_add]
  omega

theorem fD_pos (g : Bool) (xs : List Int) (h : Bool) (ys : List Int) : 0 < fD g xs h ys := by
  unfold fD
  split
  · next e =>
    unfold fOk at e
    simp only [Bool.and_eq_true, decide_eq_true_eq] at e
    have := e.2
    unfold cmpZ at this
    split at this
    · omega
    · split at this <;> omega
  · decide
theorem gcd_mgs (x y : Int) : Int.gcd (mg x) (mg y) = Int.gcd x y := by unfold mg; split <;> split <;> simp
/-- The parts in lowest terms. -/
def qN (n d : Int) : Int := n / (Int.gcd n d : Int)
def qD (n d : Int) : Int := d / (Int.gcd n d : Int)
/-- A fraction of parts z and y that was cut at the limit: the limbs of its parts are zs and ts. -/
def CutF (base : Nat) (w : World) (v : Value) (z y : Int) : Prop :=
  ∃ zs ts, Lim zs ∧ Nrm zs ∧ val zs = mg z ∧ Lim ts ∧ Nrm ts ∧ val ts = mg y ∧ IsFrac base w v (fN (decide (z < 0)) zs (decide (y < 0)) ts) (fD (decide (z < 0)) zs (decide (y < 0)) ts)
theorem CutF.below {base : Nat} {w w' : World} {v : Value} {z y : Int} (h : CutF base w v z y) (hb : Below w.heap.size w w') : CutF base w' v z y := by
  obtain ⟨zs, ts, l1, n1, v1, l2, n2, v2, hI⟩ := h
  exact ⟨zs, ts, l1, n1, v1, l2, n2, v2, hI.below hb⟩

theorem fboxes (s t s' t' : Bool) (a b a' b' : Option Addr) (c e c' e' : Nat) (ns ds ns' ds' : List Int) (w : World) :
    (((w.alloc (.cells #[.bool s, .slice a ns.length c, .bool t, .slice b ds.length e] 42)).alloc (.cells #[.bool s', .slice a' ns'.length c', .bool t', .slice b' ds'.length e'] 42)).alloc (.cells #[.bool false, .slice none 0 0, .bool false, .slice none 0 0] 42)).cell? ⟨w.heap.size, 0, none⟩ = some (.bool s) ∧ (((w.alloc (.cells #[.bool s, .slice a ns.length c, .bool t, .slice b ds.length e] 42)).alloc (.cells #[.bool s', .slice a' ns'.length c', .bool t', .slice b' ds'.length e'] 42)).alloc (.cells #[.bool false, .slice none 0 0, .bool false, .slice none 0 0] 42)).cell? ⟨w.heap.size, 1, none⟩ = some (.slice a ns.length c) ∧ (((w.alloc (.cells #[.bool s, .slice a ns.length c, .bool t, .slice b ds.length e] 42)).alloc (.cells #[.bool s', .slice a' ns'.length c', .bool t', .slice b' ds'.length e'] 42)).alloc (.cells #[.bool false, .slice none 0 0, .bool false, .slice none 0 0] 42)).cell? ⟨w.heap.size, 2, none⟩ = some (.bool t) ∧ (((w.alloc (.cells #[.bool s, .slice a ns.length c, .bool t, .slice b ds.length e] 42)).alloc (.cells #[.bool s', .slice a' ns'.length c', .bool t', .slice b' ds'.length e'] 42)).alloc (.cells #[.bool false, .slice none 0 0, .bool false, .slice none 0 0] 42)).cell? ⟨w.heap.size, 3, none⟩ = some (.slice b ds.length e) ∧ (((w.alloc (.cells #[.bool s, .slice a ns.length c, .bool t, .slice b ds.length e] 42)).alloc (.cells #[.bool s', .slice a' ns'.length c', .bool t', .slice b' ds'.length e'] 42)).alloc (.cells #[.bool false, .slice none 0 0, .bool false, .slice none 0 0] 42)).cell? ⟨w.heap.size + 1, 0, none⟩ = some (.bool s') ∧ (((w.alloc (.cells #[.bool s, .slice a ns.length c, .bool t, .slice b ds.length e] 42)).alloc (.cells #[.bool s', .slice a' ns'.length c', .bool t', .slice b' ds'.length e'] 42)).alloc (.cells #[.bool false, .slice none 0 0, .bool false, .slice none 0 0] 42)).cell? ⟨w.heap.size + 1, 1, none⟩ = some (.slice a' ns'.length c') ∧ (((w.alloc (.cells #[.bool s, .slice a ns.length c, .bool t, .slice b ds.length e] 42)).alloc (.cells #[.bool s', .slice a' ns'.length c', .bool t', .slice b' ds'.length e'] 42)).alloc (.cells #[.bool false, .slice none 0 0, .bool false, .slice none 0 0] 42)).cell? ⟨w.heap.size + 1, 2, none⟩ = some (.bool t') ∧ (((w.alloc (.cells #[.bool s, .slice a ns.length c, .bool t, .slice b ds.length e] 42)).alloc (.cells #[.bool s', .slice a' ns'.length c', .bool t', .slice b' ds'.length e'] 42)).alloc (.cells #[.bool false, .slice none 0 0, .bool false, .slice none 0 0] 42)).cell? ⟨w.heap.size + 1, 3, none⟩ = some (.slice b' ds'.length e') ∧ Box4 w.heap.size (((w.alloc (.cells #[.bool s, .slice a ns.length c, .bool t, .slice b ds.length e] 42)).alloc (.cells #[.bool s', .slice a' ns'.length c', .bool t', .slice b' ds'.length e'] 42)).alloc (.cells #[.bool false, .slice none 0 0, .bool false, .slice none 0 0] 42)) (w.heap.size + 1 + 1) (.bool false) (.slice none 0 0) (.bool false) (.slice none 0 0) ∧ Below w.heap.size w (((w.alloc (.cells #[.bool s, .slice a ns.length c, .bool t, .slice b ds.length e] 42)).alloc (.cells #[.bool s', .slice a' ns'.length c', .bool t', .slice b' ds'.length e'] 42)).alloc (.cells #[.bool false, .slice none 0 0, .bool false, .slice none 0 0] 42)) := by
  refine ⟨by simp [go_sem], by simp [go_sem], by simp [go_sem], by simp [go_sem], by simp [go_sem], by simp [go_sem], by simp [go_sem], by simp [go_sem], ?_, below3 _ _ _ _⟩
  have := Box4.new ((w.alloc (.cells #[.bool s, .slice a ns.length c, .bool t, .slice b ds.length e] 42)).alloc (.cells #[.bool s', .slice a' ns'.length c', .bool t', .slice b' ds'.length e'] 42)) (lo := w.heap.size) (by simp; omega) (.bool false) (.slice none 0 0) (.bool false) (.slice none 0 0) 42
  rwa [World.size_alloc, World.size_alloc] at this

set_option maxRecDepth 20000 in
set_option maxHeartbeats 8000000 in
theorem timesC (s t s' t' : Bool) (a b a' b' : Option Addr) (c e c' e' : Nat) (ns ds ns' ds' : List Int) (w : World) (n1 d1 n2 d2 : Int) (h1 : Sees w a c ns) (h2 : Sees w b e ds) (h3 : Sees w a' c' ns') (h4 : Sees w b' e' ds') (v1 : val ns = mg n1) (v2 : val ds = mg d1) (v3 : val ns' = mg n2) (v4 : val ds' = mg d2) (l1 : ns.length ≤ 24) (l2 : ds.length ≤ 24) (l3 : ns'.length ≤ 24) (l4 : ds'.length ≤ 24) (f1 : decide (n1 < 0) = s) (f2 : decide (d1 < 0) = t) (f3 : decide (n2 < 0) = s') (f4 : decide (d2 < 0) = t') (p1 : 0 < d1) (p2 : 0 < d2) :
    Calls Tryd.prog 57 #[.agg #[.bool s, .slice a ns.length c, .bool t, .slice b ds.length e], .agg #[.bool s', .slice a' ns'.length c', .bool t', .slice b' ds'.length e']] w fun e w' => ∃ v, e = .returned v ∧ IsFrac w.heap.size w' v (qN (n1 * n2) (d1 * d2)) (qD (n1 * n2) (d1 * d2)) ∧ Below w.heap.size w w' := by
  obtain ⟨k0, k1, k2, k3, k4, k5, k6, k7, kR, BW⟩ := fboxes s t s' t' a b a' b' c e c' e' ns ds ns' ds' w
  have HP : Hid (sg (s != s') (val ns * val ns') = n1 * n2 ∧ sg (t != t') (val ds * val ds') = d1 * d2) := by
    refine ⟨?_, ?_⟩
    · rw [v1, v3, ← f1, ← f3]; exact prod_sg n1 n2
    · rw [v2, v4, ← f2, ← f4]; exact prod_sg d1 d2
  have HL : Hid (∀ zs ts : List Int, Lim zs → Nrm zs → val zs = mg (n1 * n2) → Lim ts → Nrm ts → val ts = mg (d1 * d2) → zs.length ≤ 1048575 ∧ ts.length ≤ 1048575 ∧ ts ≠ []) := by
    intro zs ts lz nz vz lt nt vt
    refine ⟨Nat.le_trans (prod_len h1.lim h3.lim v1 v3 l1 l3 lz nz vz) (by decide), Nat.le_trans (prod_len h2.lim h4.lim v2 v4 l2 l4 lt nt vt) (by decide), ?_⟩
    rintro rfl
    have := Int.mul_pos p1 p2
    rw [(mg_mul_pos p1 p2).2] at vt
    simp only [val] at vt
    omega
  have HD : Hid (decide (d1 * d2 < 0) = false ∧ mg (d1 * d2) = d1 * d2) := mg_mul_pos p1 p2
  have HZ : Hid (∀ zs ts : List Int, val zs = mg (n1 * n2) → val ts = mg (d1 * d2) → sg (decide (n1 * n2 < 0)) (val zs) / (Int.gcd (val zs) (val ts) : Int) = qN (n1 * n2) (d1 * d2) ∧ val ts / (Int.gcd (val zs) (val ts) : Int) = qD (n1 * n2) (d1 * d2)) := by
    intro zs ts vz vt
    have eg : Int.gcd (val zs) (val ts) = Int.gcd (n1 * n2) (d1 * d2) := by rw [vz, vt, gcd_mgs]
    unfold qN qD
    rw [eg, vz, vt, HD.out.2]
    refine ⟨?_, rfl⟩
    congr 1
    unfold sg mg
    by_cases h : n1 * n2 < 0 <;> simp [h]
  have L13 : ns.length + ns'.length ≤ 1048576 := by omega
  have L24 : ds.length + ds'.length ≤ 1048576 := by omega
  have h1' := h1.below BW
  have h2' := h2.below BW
  have h3' := h3.below BW
  have h4' := h4.below BW
  clear h1 h2 h3 h4 v1 v2 v3 v4 l1 l2 l3 l4 f1 f2 f3 f4 p1 p2
  go_enter Tryd.func57, Tryd.ntmps57
  go_wp2_with fail
  generalize ((w.alloc (.cells #[.bool s, .slice a ns.length c, .bool t, .slice b ds.length e] 42)).alloc (.cells #[.bool s', .slice a' ns'.length c', .bool t', .slice b' ds'.length e'] 42)).alloc (.cells #[.bool false, .slice none 0 0, .bool false, .slice none 0 0] 42) = W0 at *

  refine wp_region_held_drew (S := Keeps (w.heap.size + 1 + 1) W0) (by kernel_rfl) (Keeps.of (Below.refl _ _).drew) (fun hHeld => ?_)
  have N : Below W0.heap.size W0 W0.drew := (Below.refl _ _).drew
  replace kR := kR.below N
  revert hHeld N kR
  generalize W0.drew = ww0
  intro hHeld N kR
  refine takeQ (i := 0) (gt rfl) (by kernel_rfl) (fun _ _ _ h => h) (by rfl) (by intro wq _; go_simp <;> with_reducible rfl) (by assumption) ?_
  try simp only [Act.put, sA, sB, sC]
  refine takeQ (i := 1) (gt rfl) (by kernel_rfl) (fun _ _ _ h => h) (by rfl) (by intro wq hSw; have q0 := hSw.at k0 (by omega); have q1 := hSw.at k1 (by omega); have q2 := hSw.at k2 (by omega); have q3 := hSw.at k3 (by omega); have q4 := hSw.at k4 (by omega); have q5 := hSw.at k5 (by omega); have q6 := hSw.at k6 (by omega); have q7 := hSw.at k7 (by omega); go_simp <;> with_reducible rfl) (by assumption) ?_
  try simp only [Act.put, sA, sB, sC]
  refine takeQ (i := 2) (gt rfl) (by kernel_rfl) (fun _ _ _ h => h) (by rfl) (by intro wq _; go_simp <;> with_reducible rfl) (by assumption) ?_
  try simp only [Act.put, sA, sB, sC]
  refine takeQ (i := 3) (gt rfl) (by kernel_rfl) (fun _ _ _ h => h) (by rfl) (by intro wq hSw; have q0 := hSw.at k0 (by omega); have q1 := hSw.at k1 (by omega); have q2 := hSw.at k2 (by omega); have q3 := hSw.at k3 (by omega); have q4 := hSw.at k4 (by omega); have q5 := hSw.at k5 (by omega); have q6 := hSw.at k6 (by omega); have q7 := hSw.at k7 (by omega); go_simp <;> with_reducible rfl) (by assumption) ?_
  try simp only [Act.put, sA, sB, sC]
  refine takeQ (i := 5) (gt rfl) (by kernel_rfl) (fun _ _ _ h => h) (by rfl) (by intro wq _; go_simp <;> with_reducible rfl) (by assumption) ?_
  try simp only [Act.put, sA, sB, sC]
  refine takeQ (i := 6) (gt rfl) (by kernel_rfl) (fun _ _ _ h => h) (by rfl) (by intro wq hSw; have q0 := hSw.at k0 (by omega); have q1 := hSw.at k1 (by omega); have q2 := hSw.at k2 (by omega); have q3 := hSw.at k3 (by omega); have q4 := hSw.at k4 (by omega); have q5 := hSw.at k5 (by omega); have q6 := hSw.at k6 (by omega); have q7 := hSw.at k7 (by omega); go_simp <;> with_reducible rfl) (by assumption) ?_
  try simp only [Act.put, sA, sB, sC]
  refine takeQ (i := 7) (gt rfl) (by kernel_rfl) (fun _ _ _ h => h) (by rfl) (by intro wq _; go_simp <;> with_reducible rfl) (by assumption) ?_
  try simp only [Act.put, sA, sB, sC]
  refine takeQ (i := 8) (gt rfl) (by kernel_rfl) (fun _ _ _ h => h) (by rfl) (by intro wq hSw; have q0 := hSw.at k0 (by omega); have q1 := hSw.at k1 (by omega); have q2 := hSw.at k2 (by omega); have q3 := hSw.at k3 (by omega); have q4 := hSw.at k4 (by omega); have q5 := hSw.at k5 (by omega); have q6 := hSw.at k6 (by omega); have q7 := hSw.at k7 (by omega); go_simp <;> with_reducible rfl) (by assumption) ?_
  try simp only [Act.put, sA, sB, sC]
  refine wpAnyH_ready (rs := [4]) (by kernel_rfl) (by simp) (AllReadyH.cons (gt rfl) (fun K hK => ?_) AllReadyH.nil)
  go_simp
  refine (productC s s' a a' c c' ns ns' _ (h1'.below N) (h3'.below N) L13).mono ?_
  rintro e1 ww1 ⟨u1, rfl, hI, hb⟩
  rw [HP.out.1] at hI
  obtain ⟨a5, c5, zs, rfl, oz, nz, vz⟩ := hI
  replace kR := kR.below hb
  replace N := N.trans (hb.mono N.size)
  clear hb
  refine hK.out _ _ (Keeps.of N) (fun hHeld => ?_)
  clear hK K
  try simp only [Act.put, sA, sB, sC]
  refine wpAnyH_ready (rs := [9]) (by kernel_rfl) (by simp) (AllReadyH.cons (gt rfl) (fun K hK => ?_) AllReadyH.nil)
  go_simp
  refine (productC t t' b b' e e' ds ds' _ (h2'.below N) (h4'.below N) L24).mono ?_
  rintro e2 ww2 ⟨u2, rfl, hI, hb⟩
  rw [HP.out.2] at hI
  obtain ⟨a6, c6, ts, rfl, ot, nt, vt⟩ := hI
  obtain ⟨m1, m2, m3⟩ := HL.out zs ts oz.lim nz vz ot.lim nt vt
  rw [HD.out.1]
  replace kR := kR.below hb
  replace oz := oz.below hb
  replace N := N.trans (hb.mono N.size)
  clear hb
  refine hK.out _ _ (Keeps.of N) (fun hHeld => ?_)
  clear hK K
  try simp only [Act.put, sA, sB, sC]
  refine takeQ (i := 10) (gt rfl) (by kernel_rfl) (fun _ _ _ h => h) (by rfl) (by intro wq _; go_simp <;> with_reducible rfl) (by assumption) ?_
  try simp only [Act.put, sA, sB, sC]
  refine wpAnyH_ready (rs := [11]) (by kernel_rfl) (by simp) (AllReadyH.cons (gt rfl) (fun K hK => ?_) AllReadyH.nil)
  go_simp
  refine (lowestC (decide (n1 * n2 < 0)) a5 a6 c5 c6 zs ts _ oz.toSees ot.toSees nz nt m3 m1 m2).mono ?_
  rintro e3 ww3 ⟨u3, rfl, hI, hb⟩
  have hJ := (hI.eq (HZ.out zs ts vz vt).1 (HZ.out zs ts vz vt).2).base_le (show w.heap.size + 1 + 1 + 1 ≤ _ from kR.lt)
  obtain ⟨f5, F5⟩ : ∃ f, Hid (decide (qN (n1 * n2) (d1 * d2) < 0) = f) := ⟨_, rfl⟩
  obtain ⟨f6, F6⟩ : ∃ f, Hid (decide (qD (n1 * n2) (d1 * d2) < 0) = f) := ⟨_, rfl⟩
  have hJ0 := hJ
  obtain ⟨a7, c7, qs, a8, c8, rs, ev, _⟩ := hJ0
  rw [F5.out, F6.out] at ev
  subst ev
  clear hI
  replace kR := kR.below hb
  replace oz := oz.below hb
  replace ot := ot.below hb
  replace N := N.trans (hb.mono N.size)
  clear hb
  clear oz ot
  refine hK.out _ _ (Keeps.of N) (fun hHeld => ?_)
  clear hK K
  try simp only [Act.put, sA, sB, sC]
  refine wpAnyH_ready (rs := [12]) (by kernel_rfl) (by simp) (AllReadyH.cons (gt rfl) (fun K hK => ?_) AllReadyH.nil)
  have z0 := kR.c0
  have z1 := kR.c1
  have z2 := kR.c2
  have z3 := kR.c3
  have zf := kR.fr
  go_simp
  clear z0 z1 z2 z3 zf
  refine hK.out _ _ ((Keeps.of N).put4 (.bool f5) (.slice a7 qs.length c7) (.bool f6) (.slice a8 rs.length c8)) (fun hHeld => ?_)
  clear hK K
  try simp only [Act.put, sA, sB, sC]
  refine wpAnyH_done (by kernel_rfl) ?_ _
  have JP := hJ.put (b := w.heap.size + 1 + 1) (b0 := w.heap.size) (by omega) (by omega) (.bool f5) (.slice a7 qs.length c7) (.bool f6) (.slice a8 rs.length c8)
  have BP := below_put4' (b := w.heap.size + 1 + 1) (BW.trans (N.mono BW.size)) (by omega) (.bool f5) (.slice a7 qs.length c7) (.bool f6) (.slice a8 rs.length c8)
  obtain ⟨z0, z1, z2, z3, _, _⟩ := kR
  go_wp2
  exact bodyPost_ret (v := .agg #[.bool f5, .slice a7 qs.length c7, .bool f6, .slice a8 rs.length c8]) (by simp [results, Tryd.results57, go_sem, z0, z1, z2, z3]) rfl ⟨_, rfl, JP, BP⟩
set_option maxRecDepth 20000 in
set_option maxHeartbeats 8000000 in
theorem implMulFrac (s t s' t' : Bool) (a b a' b' : Option Addr) (c e c' e' : Nat) (ns ds ns' ds' : List Int) (w : World) (h1 : Sees w a c ns) (h2 : Sees w b e ds) (h3 : Sees w a' c' ns') (h4 : Sees w b' e' ds') :
    Calls Tryd.prog 26 #[.agg #[.bool s, .slice a ns.length c, .bool t, .slice b ds.length e], .agg #[.bool s', .slice a' ns'.length c', .bool t', .slice b' ds'.length e']] w fun e w' => ∃ v, e = .returned v ∧ CutF w.heap.size w' v (qN (fN s ns t ds * fN s' ns' t' ds') (fD s ns t ds * fD s' ns' t' ds')) (qD (fN s ns t ds * fN s' ns' t' ds') (fD s ns t ds * fD s' ns' t' ds')) ∧ Below w.heap.size w w' := by
  obtain ⟨k0, k1, k2, k3, k4, k5, k6, k7, kR, BW⟩ := fboxes s t s' t' a b a' b' c e c' e' ns ds ns' ds' w
  obtain ⟨n1, hn1⟩ : ∃ n, fN s ns t ds = n := ⟨_, rfl⟩
  obtain ⟨d1, hd1⟩ : ∃ n, fD s ns t ds = n := ⟨_, rfl⟩
  obtain ⟨n2, hn2⟩ : ∃ n, fN s' ns' t' ds' = n := ⟨_, rfl⟩
  obtain ⟨d2, hd2⟩ : ∃ n, fD s' ns' t' ds' = n := ⟨_, rfl⟩
  have P1 : 0 < d1 := by have := fD_pos s ns t ds; omega
  have P2 : 0 < d2 := by have := fD_pos s' ns' t' ds'; omega
  rw [hn1, hd1, hn2, hd2]
  have HN : Hid (fN s ns t ds = n1 ∧ fD s ns t ds = d1 ∧ fN s' ns' t' ds' = n2 ∧ fD s' ns' t' ds' = d2) := ⟨hn1, hd1, hn2, hd2⟩
  clear hn1 hd1 hn2 hd2
  obtain ⟨z, HZ⟩ : ∃ z, Hid (qN (n1 * n2) (d1 * d2) = z) := ⟨_, rfl⟩
  obtain ⟨y, HY⟩ : ∃ y, Hid (qD (n1 * n2) (d1 * d2) = y) := ⟨_, rfl⟩
  rw [HZ.out, HY.out]
  have h1' := h1.below BW
  have h2' := h2.below BW
  have h3' := h3.below BW
  have h4' := h4.below BW
  clear h1 h2 h3 h4
  go_enter Tryd.func26, Tryd.ntmps26
  go_wp2_with fail
  generalize ((w.alloc (.cells #[.bool s, .slice a ns.length c, .bool t, .slice b ds.length e] 42)).alloc (.cells #[.bool s', .slice a' ns'.length c', .bool t', .slice b' ds'.length e'] 42)).alloc (.cells #[.bool false, .slice none 0 0, .bool false, .slice none 0 0] 42) = W0 at *

  refine wp_region_held_drew (S := Keeps (w.heap.size + 1 + 1) W0) (by kernel_rfl) (Keeps.of (Below.refl _ _).drew) (fun hHeld => ?_)
  have N : Below W0.heap.size W0 W0.drew := (Below.refl _ _).drew
  replace kR := kR.below N
  revert hHeld N kR
  generalize W0.drew = ww0
  intro hHeld N kR
  refine takeQ (i := 0) (gt rfl) (by kernel_rfl) (fun _ _ _ h => h) (by rfl) (by intro wq hSw; have q0 := hSw.at k0 (by omega); have q1 := hSw.at k1 (by omega); have q2 := hSw.at k2 (by omega); have q3 := hSw.at k3 (by omega); have q4 := hSw.at k4 (by omega); have q5 := hSw.at k5 (by omega); have q6 := hSw.at k6 (by omega); have q7 := hSw.at k7 (by omega); go_simp <;> with_reducible rfl) (by assumption) ?_
  try simp only [Act.put, sA, sB, sC]
  refine takeQ (i := 2) (gt rfl) (by kernel_rfl) (fun _ _ _ h => h) (by rfl) (by intro wq hSw; have q0 := hSw.at k0 (by omega); have q1 := hSw.at k1 (by omega); have q2 := hSw.at k2 (by omega); have q3 := hSw.at k3 (by omega); have q4 := hSw.at k4 (by omega); have q5 := hSw.at k5 (by omega); have q6 := hSw.at k6 (by omega); have q7 := hSw.at k7 (by omega); go_simp <;> with_reducible rfl) (by assumption) ?_
  try simp only [Act.put, sA, sB, sC]
  refine wpAnyH_ready (rs := [1]) (by kernel_rfl) (by simp) (AllReadyH.cons (gt rfl) (fun K hK => ?_) AllReadyH.nil)
  go_simp
  refine (implTakenF s t a b c e ns ds _ (h1'.below N) (h2'.below N)).mono ?_
  rintro e1 ww1 ⟨u1, rfl, hI, hb⟩
  rw [HN.out.1, HN.out.2.1] at hI
  obtain ⟨p1, q1, us1, p2, q2, us2, rfl, s1, s2, e1, e2, v1, v2, l1, l2⟩ := hI
  replace kR := kR.below hb
  replace N := N.trans (hb.mono N.size)
  clear hb
  refine hK.out _ _ (Keeps.of N) (fun hHeld => ?_)
  clear hK K
  try simp only [Act.put, sA, sB, sC]
  refine wpAnyH_ready (rs := [3]) (by kernel_rfl) (by simp) (AllReadyH.cons (gt rfl) (fun K hK => ?_) AllReadyH.nil)
  go_simp
  refine (implTakenF s' t' a' b' c' e' ns' ds' _ (h3'.below N) (h4'.below N)).mono ?_
  rintro e1 ww2 ⟨u1, rfl, hI, hb⟩
  rw [HN.out.2.2.1, HN.out.2.2.2] at hI
  obtain ⟨p3, q3, us3, p4, q4, us4, rfl, s3, s4, e3, e4, v3, v4, l3, l4⟩ := hI
  replace kR := kR.below hb
  replace s1 := s1.below hb
  replace s2 := s2.below hb
  replace N := N.trans (hb.mono N.size)
  clear hb
  refine hK.out _ _ (Keeps.of N) (fun hHeld => ?_)
  clear hK K
  try simp only [Act.put, sA, sB, sC]
  refine wpAnyH_ready (rs := [4]) (by kernel_rfl) (by simp) (AllReadyH.cons (gt rfl) (fun K hK => ?_) AllReadyH.nil)
  go_simp
  refine (timesC (decide (n1 < 0)) (decide (d1 < 0)) (decide (n2 < 0)) (decide (d2 < 0)) p1 p2 p3 p4 q1 q2 q3 q4 us1 us2 us3 us4 _ n1 d1 n2 d2 s1 s2 s3 s4 v1 v2 v3 v4 l1 l2 l3 l4 rfl rfl rfl rfl P1 P2).mono ?_
  rintro e1 ww3 ⟨u3, rfl, hI, hb⟩
  rw [HZ.out, HY.out] at hI
  obtain ⟨a5, c5, zs, a6, c6, ts, rfl, oz, ot, nz, nt, vz, vt, ap⟩ := hI
  have lt3 := kR.lt
  have sb := hb.size
  have HC : Hid (Lim zs ∧ Nrm zs ∧ val zs = mg z ∧ Lim ts ∧ Nrm ts ∧ val ts = mg y) := ⟨oz.lim, nz, vz, ot.lim, nt, vt⟩
  clear nz nt vz vt
  clear v1 v2 v3 v4 l1 l2 l3 l4
  replace kR := kR.below hb
  replace s1 := s1.below hb
  replace s2 := s2.below hb
  replace s3 := s3.below hb
  replace s4 := s4.below hb
  replace N := N.trans (hb.mono N.size)
  clear hb
  clear s1 s2 s3 s4
  refine hK.out _ _ (Keeps.of N) (fun hHeld => ?_)
  clear hK K
  try simp only [Act.put, sA, sB, sC]
  refine wpAnyH_ready (rs := [5]) (by kernel_rfl) (by simp) (AllReadyH.cons (gt rfl) (fun K hK => ?_) AllReadyH.nil)
  go_simp
  refine (implTakenO _ (decide (z < 0)) (decide (y < 0)) a5 a6 c5 c6 zs ts _ oz ot ap sb).mono ?_
  rintro e1 ww4 ⟨u4, rfl, hI, hb⟩
  have hJ := hI.base_le lt3
  obtain ⟨f5, F5⟩ : ∃ f, Hid (decide (fN (decide (z < 0)) zs (decide (y < 0)) ts < 0) = f) := ⟨_, rfl⟩
  obtain ⟨f6, F6⟩ : ∃ f, Hid (decide (fD (decide (z < 0)) zs (decide (y < 0)) ts < 0) = f) := ⟨_, rfl⟩
  have hJ0 := hJ
  obtain ⟨a7, c7, qs, a8, c8, rs, ev, _⟩ := hJ0
  rw [F5.out, F6.out] at ev
  subst ev
  clear hI
  replace kR := kR.below hb
  replace oz := oz.below hb
  replace ot := ot.below hb
  replace N := N.trans (hb.mono N.size)
  clear hb
  clear oz ot
  refine hK.out _ _ (Keeps.of N) (fun hHeld => ?_)
  clear hK K
  try simp only [Act.put, sA, sB, sC]
  refine wpAnyH_ready (rs := [6]) (by kernel_rfl) (by simp) (AllReadyH.cons (gt rfl) (fun K hK => ?_) AllReadyH.nil)
  have z0 := kR.c0
  have z1 := kR.c1
  have z2 := kR.c2
  have z3 := kR.c3
  have zf := kR.fr
  go_simp
  clear z0 z1 z2 z3 zf
  refine hK.out _ _ ((Keeps.of N).put4 (.bool f5) (.slice a7 qs.length c7) (.bool f6) (.slice a8 rs.length c8)) (fun hHeld => ?_)
  clear hK K
  try simp only [Act.put, sA, sB, sC]
  refine wpAnyH_done (by kernel_rfl) ?_ _
  have JP := hJ.put (b := w.heap.size + 1 + 1) (b0 := w.heap.size) (by omega) (by omega) (.bool f5) (.slice a7 qs.length c7) (.bool f6) (.slice a8 rs.length c8)
  have BP := below_put4' (b := w.heap.size + 1 + 1) (BW.trans (N.mono BW.size)) (by omega) (.bool f5) (.slice a7 qs.length c7) (.bool f6) (.slice a8 rs.length c8)
  obtain ⟨z0, z1, z2, z3, _, _⟩ := kR
  go_wp2
  exact bodyPost_ret (v := .agg #[.bool f5, .slice a7 qs.length c7, .bool f6, .slice a8 rs.length c8]) (by simp [results, Tryd.results26, go_sem, z0, z1, z2, z3]) rfl ⟨_, rfl, ⟨zs, ts, HC.out.1, HC.out.2.1, HC.out.2.2.1, HC.out.2.2.2.1, HC.out.2.2.2.2.1, HC.out.2.2.2.2.2, JP⟩, BP⟩
end Go.Proofs.YtccdihglpobnmaaDoor
