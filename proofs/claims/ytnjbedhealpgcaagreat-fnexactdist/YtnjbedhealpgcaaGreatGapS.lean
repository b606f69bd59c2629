/- Gap of the specification: l3Gap and Gap. -/
import Derived.Test.YtnjbedhealpgcaaGreatPtSh
import Derived.Test.YtnjbedhealpgcaaGreatHeldQ
import Derived.Test.YtnjbedhealpgcaaGreatSMul
namespace Go.Proofs.YtnjbedhealpgcaaGreat
open Go.RowKit

set_option maxRecDepth 20000 in
set_option maxHeartbeats 16000000 in
theorem l3GapC (x1 y1 x2 y2 x3 y3 : Int) (w : World) (c1 : Crd x1) (d1 : Crd y1) (c2 : Crd x2) (d2 : Crd y2) (c3 : Crd x3) (d3 : Crd y3) :
  Calls Tryz.prog 40 #[.agg #[.int .i64 x1, .int .i64 y1], .agg #[.int .i64 x2, .int .i64 y2], .agg #[.int .i64 x3, .int .i64 y3]] w fun e w' => ∃ v, e = .returned v ∧ IsFrac w.heap.size w' v (gN (x3 - x2) (y3 - y2) (x1 - x2) (y1 - y2)) (gD (x3 - x2) (y3 - y2) (x1 - x2) (y1 - y2)) ∧ Below w.heap.size w w' := by
 obtain ⟨kp, ka, kb, kR, NN⟩ := gboxes x1 y1 x2 y2 x3 y3 w
 obtain ⟨g1, HG1⟩ : ∃ z, Hid ((gN (x3 - x2) (y3 - y2) (x1 - x2) (y1 - y2)) = z) := ⟨_, rfl⟩
 obtain ⟨g2, HG2⟩ : ∃ z, Hid ((gD (x3 - x2) (y3 - y2) (x1 - x2) (y1 - y2)) = z) := ⟨_, rfl⟩
 rw [HG1.out, HG2.out]
 obtain ⟨vv, hvv⟩ : ∃ z, Hid ((x2 - x1) * (x2 - x1) + (y2 - y1) * (y2 - y1) = z) := ⟨_, rfl⟩
 obtain ⟨tt, htt⟩ : ∃ z, Hid ((x3 - x1) * (x3 - x1) + (y3 - y1) * (y3 - y1) = z) := ⟨_, rfl⟩
 obtain ⟨wh, hwh⟩ : ∃ z, Hid ((x2 - x3) * (x2 - x3) + (y2 - y3) * (y2 - y3) = z) := ⟨_, rfl⟩
 obtain ⟨cr, hcr⟩ : ∃ z, Hid (ar x2 y2 x3 y3 x1 y1 = z) := ⟨_, rfl⟩
 have e1 := c3.dif c2
 have e2 := d3.dif d2
 have e3 := c1.dif c2
 have e4 := d1.dif d2
 have bvv : Hid (-9223372036854775808 ≤ vv ∧ vv ≤ 9223372036854775807) := by have q1 := (c2.dif c1).mul (c2.dif c1); have q2 := (d2.dif d1).mul (d2.dif d1); have q3 := hvv.out; exact ⟨by omega, by omega⟩
 have btt : Hid (-9223372036854775808 ≤ tt ∧ tt ≤ 9223372036854775807) := by have q1 := (c3.dif c1).mul (c3.dif c1); have q2 := (d3.dif d1).mul (d3.dif d1); have q3 := htt.out; exact ⟨by omega, by omega⟩
 have bwh : Hid (-9223372036854775808 ≤ wh ∧ wh ≤ 9223372036854775807) := by have q1 := (c2.dif c3).mul (c2.dif c3); have q2 := (d2.dif d3).mul (d2.dif d3); have q3 := hwh.out; exact ⟨by omega, by omega⟩
 have bcr : Hid (-800000000000000 ≤ cr ∧ cr ≤ 800000000000000) := by have q1 := e1.mul e4; have q2 := e2.mul e3; have q3 := hcr.out; unfold ar at q3; exact ⟨by omega, by omega⟩
 have al0 : Hid ((x3 - x2) * (x1 - x2) + (y3 - y2) * (y1 - y2) = (x1 - x2) * (x3 - x2) + (y1 - y2) * (y3 - y2)) := by show _ = _; rw [Int.mul_comm (x3 - x2), Int.mul_comm (y3 - y2)]
 have sq0 : Hid (sqq (x3 - x2) (y3 - y2) = wh ∧ sqq (x1 - x2) (y1 - y2) = vv ∧ sqq ((x1 - x2) - (x3 - x2)) ((y1 - y2) - (y3 - y2)) = tt) := by
  refine ⟨?_, ?_, ?_⟩
  ·rw [← hwh.out]; unfold sqq; grind
  ·rw [← hvv.out]; unfold sqq; grind
  ·rw [← htt.out]; unfold sqq; grind
 have cr0 : Hid ((x3 - x2) * (y1 - y2) - (y3 - y2) * (x1 - x2) = cr) := by show _ = _; rw [← hcr.out]; rfl
 have G1 : Hid ((x1 - x2) * (x3 - x2) + (y1 - y2) * (y3 - y2) ≤ 0 → vv = g1 ∧ 1 = g2) := by
  intro h
  rw [← HG1.out, ← HG2.out]
  unfold gN gD
  rw [al0.out, if_pos h, if_pos h, sq0.out.2.1]
  exact ⟨rfl, rfl⟩
 have G2 : Hid (0 < (x1 - x2) * (x3 - x2) + (y1 - y2) * (y3 - y2) → wh ≤ (x1 - x2) * (x3 - x2) + (y1 - y2) * (y3 - y2) → tt = g1 ∧ 1 = g2) := by
  intro h k
  rw [← HG1.out, ← HG2.out]
  unfold gN gD
  have n1 : ¬ (x1 - x2) * (x3 - x2) + (y1 - y2) * (y3 - y2) ≤ 0 := by omega
  rw [al0.out, if_neg n1, if_neg n1, sq0.out.1, if_pos k, if_pos k, sq0.out.2.2]
  exact ⟨rfl, rfl⟩
 have G3 : Hid (0 < (x1 - x2) * (x3 - x2) + (y1 - y2) * (y3 - y2) → (x1 - x2) * (x3 - x2) + (y1 - y2) * (y3 - y2) < wh → gqN (cr * cr) wh = g1 ∧ gqD (cr * cr) wh = g2 ∧ 0 < wh) := by
  intro h k
  rw [← HG1.out, ← HG2.out]
  unfold gN gD
  have n1 : ¬ (x1 - x2) * (x3 - x2) + (y1 - y2) * (y3 - y2) ≤ 0 := by omega
  have n2 : ¬ wh ≤ (x1 - x2) * (x3 - x2) + (y1 - y2) * (y3 - y2) := by omega
  rw [al0.out, if_neg n1, if_neg n1, sq0.out.1, if_neg n2, if_neg n2, cr0.out]
  exact ⟨rfl, rfl, by omega⟩
 clear al0 sq0 cr0 HG1 HG2
 obtain ⟨m1, m2⟩ := e3.mul e1
 obtain ⟨m3, m4⟩ := e4.mul e2
 have C1 := c1
 have D1 := d1
 have C2 := c2
 have D2 := d2
 have C3 := c3
 have D3 := d3
 obtain ⟨i1, j1⟩ := c1
 obtain ⟨i2, j2⟩ := d1
 obtain ⟨i3, j3⟩ := c2
 obtain ⟨i4, j4⟩ := d2
 obtain ⟨i5, j5⟩ := c3
 obtain ⟨i6, j6⟩ := d3
 obtain ⟨p0, p1, _, _⟩ := kp
 obtain ⟨a0, a1, _, _⟩ := ka
 obtain ⟨b0, b1, _, _⟩ := kb
 clear e1 e2 e3 e4
 go_enter Tryz.func40, Tryz.ntmps40
 go_wp2_with fail
 generalize (((w.alloc (.cells #[.int .i64 x1, .int .i64 y1] 38)).alloc (.cells #[.int .i64 x2, .int .i64 y2] 38)).alloc (.cells #[.int .i64 x3, .int .i64 y3] 38)).alloc (.cells #[.bool false, .slice none 0 0, .bool false, .slice none 0 0] 32) = W0 at *
 refine (l3Square_any x2 y2 x3 y3 _ C2 D2 C3 D3).mono ?_
 rintro e w3 ⟨rfl, hb⟩
 rw [hwh.out]
 replace p0 := bat hb p0
 replace p1 := bat hb p1
 replace a0 := bat hb a0
 replace a1 := bat hb a1
 replace b0 := bat hb b0
 replace b1 := bat hb b1
 replace kR := kR.below hb
 replace NN := NN.trans (hb.mono NN.size)
 clear hb
 by_cases h1 : (x1 - x2) * (x3 - x2) + (y1 - y2) * (y3 - y2) ≤ 0
 ·have g0 : Hid (vv = g1 ∧ 1 = g2) := G1.out h1
  go_wp2_with fail
  refine (l3Square_any x2 y2 x1 y1 _ C2 D2 C1 D1).mono ?_
  rintro e w4 ⟨rfl, hb⟩
  rw [hvv.out]
  replace kR := kR.below hb
  replace NN := NN.trans (hb.mono NN.size)
  clear hb
  have lt3 := kR.lt
  obtain ⟨z0, z1, z2, z3, zf, _⟩ := kR
  go_wp2_with fail
  refine (specWhole vv _ bvv.out.1 bvv.out.2).mono ?_
  rintro e w5 ⟨u3, rfl, hI, hb⟩
  have hJ := hI.base_le lt3
  obtain ⟨f5, F5⟩ : ∃ f, Hid (decide (vv < 0) = f) := ⟨_, rfl⟩
  obtain ⟨f6, F6⟩ : ∃ f, Hid (decide ((1 : Int) < 0) = f) := ⟨_, rfl⟩
  have hJ0 := hJ
  obtain ⟨a7, c7, qs, a8, c8, rs, ev, _⟩ := hJ0
  rw [F5.out, F6.out] at ev
  subst ev
  have zg := fun o => (hb.frozen (p := ⟨w.heap.size + 1 + 1 + 1, o, none⟩) lt3).trans (zf o)
  replace z0 := bat hb z0
  replace z1 := bat hb z1
  replace z2 := bat hb z2
  replace z3 := bat hb z3
  replace NN := NN.trans (hb.mono NN.size)
  have lt4 := Nat.lt_of_lt_of_le lt3 hb.size
  have JP := (hJ.put (b := w.heap.size + 1 + 1 + 1) (b0 := w.heap.size) (by omega) (by omega) (.bool f5) (.slice a7 qs.length c7) (.bool f6) (.slice a8 rs.length c8)).eq g0.out.1 g0.out.2
  have BP := below_put4' (b := w.heap.size + 1 + 1 + 1) NN (by omega) (.bool f5) (.slice a7 qs.length c7) (.bool f6) (.slice a8 rs.length c8)
  clear hb hI hJ zf
  go_wp2
  exact bodyPost_ret (v := .agg #[.bool f5, .slice a7 qs.length c7, .bool f6, .slice a8 rs.length c8]) (by simp [results, Tryz.results40, go_sem, z0, z1, z2, z3]) rfl ⟨_, rfl, JP, BP⟩
 ·have h1' : 0 < (x1 - x2) * (x3 - x2) + (y1 - y2) * (y3 - y2) := by omega
  by_cases h2 : wh ≤ (x1 - x2) * (x3 - x2) + (y1 - y2) * (y3 - y2)
  ·have g0 : Hid (tt = g1 ∧ 1 = g2) := G2.out h1' h2
   go_wp2_with fail
   refine (l3Square_any x3 y3 x1 y1 _ C3 D3 C1 D1).mono ?_
   rintro e w4 ⟨rfl, hb⟩
   rw [htt.out]
   replace kR := kR.below hb
   replace NN := NN.trans (hb.mono NN.size)
   clear hb
   have lt3 := kR.lt
   obtain ⟨z0, z1, z2, z3, zf, _⟩ := kR
   go_wp2_with fail
   refine (specWhole tt _ btt.out.1 btt.out.2).mono ?_
   rintro e w5 ⟨u3, rfl, hI, hb⟩
   have hJ := hI.base_le lt3
   obtain ⟨f5, F5⟩ : ∃ f, Hid (decide (tt < 0) = f) := ⟨_, rfl⟩
   obtain ⟨f6, F6⟩ : ∃ f, Hid (decide ((1 : Int) < 0) = f) := ⟨_, rfl⟩
   have hJ0 := hJ
   obtain ⟨a7, c7, qs, a8, c8, rs, ev, _⟩ := hJ0
   rw [F5.out, F6.out] at ev
   subst ev
   have zg := fun o => (hb.frozen (p := ⟨w.heap.size + 1 + 1 + 1, o, none⟩) lt3).trans (zf o)
   replace z0 := bat hb z0
   replace z1 := bat hb z1
   replace z2 := bat hb z2
   replace z3 := bat hb z3
   replace NN := NN.trans (hb.mono NN.size)
   have lt4 := Nat.lt_of_lt_of_le lt3 hb.size
   have JP := (hJ.put (b := w.heap.size + 1 + 1 + 1) (b0 := w.heap.size) (by omega) (by omega) (.bool f5) (.slice a7 qs.length c7) (.bool f6) (.slice a8 rs.length c8)).eq g0.out.1 g0.out.2
   have BP := below_put4' (b := w.heap.size + 1 + 1 + 1) NN (by omega) (.bool f5) (.slice a7 qs.length c7) (.bool f6) (.slice a8 rs.length c8)
   clear hb hI hJ zf
   go_wp2
   exact bodyPost_ret (v := .agg #[.bool f5, .slice a7 qs.length c7, .bool f6, .slice a8 rs.length c8]) (by simp [results, Tryz.results40, go_sem, z0, z1, z2, z3]) rfl ⟨_, rfl, JP, BP⟩
  ·have h2' : (x1 - x2) * (x3 - x2) + (y1 - y2) * (y3 - y2) < wh := by omega
   have g3 : Hid (gqN (cr * cr) wh = g1 ∧ gqD (cr * cr) wh = g2 ∧ 0 < wh) := G3.out h1' h2'
   go_wp2_with fail
   refine (l3Area_any x2 y2 x3 y3 x1 y1 _ C2 D2 C3 D3 C1 D1).mono ?_
   rintro e w6 ⟨rfl, hb⟩
   rw [hcr.out]
   replace kR := kR.below hb
   replace NN := NN.trans (hb.mono NN.size)
   clear hb
   go_wp2_with fail
   refine (specOf cr _ (by have := bcr.out; omega) (by have := bcr.out; omega)).mono ?_
   rintro e w7 ⟨u1, rfl, hI, hb⟩
   obtain ⟨a9, c9, us, rfl, ou, nu, vu⟩ := hI
   obtain ⟨fc, FC⟩ : ∃ f, Hid (decide (cr < 0) = f) := ⟨_, rfl⟩
   rw [FC.out]
   replace kR := kR.below hb
   replace NN := NN.trans (hb.mono NN.size)
   clear hb
   have LC : mg cr < 4294967296 ^ 2 := by
    have h9 := bcr.out
    have : (4294967296 : Int) ^ 2 = 18446744073709551616 := by decide
    rw [this]
    unfold mg
    split <;> omega
   have LU : us.length + us.length ≤ 1048576 := by
    have : us.length ≤ 2 := len_le ou.lim nu (by rw [vu]; exact LC)
    omega
   clear LC
   have HP : Hid (sg (fc != fc) (val us * val us) = cr * cr ∧ (∀ zs : List Int, Lim zs → Nrm zs → val zs = mg (cr * cr) → zs.length ≤ 1048575)) := by
    have e0 : sg (fc != fc) (val us * val us) = cr * cr := by
     rw [vu]
     have : (fc != fc) = false := by cases fc <;> rfl
     rw [this]
     unfold sg mg
     by_cases h : cr < 0 <;> simp [h, Int.neg_mul_neg]
    refine ⟨e0, fun zs lz nz vz => Nat.le_trans (len_le (k := 4) lz nz ?_) (by decide)⟩
    rw [vz]
    have h9 := bcr.out
    have q1 := Int.mul_nonneg (show 0 ≤ 800000000000000 - cr by omega) (show 0 ≤ 800000000000000 + cr by omega)
    have q2 : (800000000000000 - cr) * (800000000000000 + cr) = 640000000000000000000000000000 - cr * cr := by grind
    have e4 : (4294967296 : Int) ^ 4 = 340282366920938463463374607431768211456 := by decide
    rw [e4]
    have q3 : 0 ≤ cr * cr := by
     rcases Int.le_total 0 cr with h | h
     ·exact Int.mul_nonneg h h
     ·have := Int.mul_nonneg (a := -cr) (b := -cr) (by omega) (by omega); rwa [Int.neg_mul_neg] at this
    unfold mg
    split <;> omega
   have HZ : Hid (∀ zs ts : List Int, val zs = mg (cr * cr) → val ts = mg wh → sg (decide (cr * cr < 0)) (val zs) / (Int.gcd (val zs) (val ts) : Int) = g1 ∧ val ts / (Int.gcd (val zs) (val ts) : Int) = g2 ∧ ts ≠ []) := by
    intro zs ts vz vt
    have em : ∀ x y : Int, Int.gcd (mg x) (mg y) = Int.gcd x y := fun x y => by unfold mg; split <;> split <;> simp
    have g5 := g3.out.2.2
    have ew : mg wh = wh := by unfold mg; rw [if_neg (by omega)]
    refine ⟨?_, ?_, ?_⟩
    ·rw [vz, vt, em, ← g3.out.1]
     unfold gqN
     congr 1
     unfold sg mg
     by_cases h : cr * cr < 0 <;> simp [h]
    ·rw [vz, vt, em, ← g3.out.2.1, ew]
     rfl
    ·rintro rfl
     rw [ew] at vt
     simp only [val] at vt
     omega
   have L2 : Hid (mg wh < 4294967296 ^ 2) := by
    have h9 := bwh.out
    have : (4294967296 : Int) ^ 2 = 18446744073709551616 := by decide
    show _ < _
    rw [this]
    unfold mg
    split <;> omega
   clear g3
   have lR := kR.lt
   go_wp2_with fail
   obtain ⟨x0, x1'⟩ := (Box2.new w7 (lo := 0) (Nat.zero_le _) (.bool fc) (.slice a9 us.length c9) 30).both
   have hb := below1 w7 (.cells #[.bool fc, .slice a9 us.length c9] 30)
   replace ou := ou.below hb
   replace kR := kR.below hb
   replace NN := NN.trans (hb.mono NN.size)
   clear hb
   generalize w7.alloc (.cells #[.bool fc, .slice a9 us.length c9] 30) = W8 at *
   refine (l2MulC fc fc a9 a9 c9 c9 us us _ ou.toSees ou.toSees LU).mono ?_
   rintro e w9 ⟨u1, rfl, hI, hb⟩
   rw [HP.out.1] at hI
   obtain ⟨a5, c5, zs, rfl, oz, nz, vz⟩ := hI
   have m1 := HP.out.2 zs oz.lim nz vz
   replace kR := kR.below hb
   replace NN := NN.trans (hb.mono NN.size)
   clear hb
   go_wp2_with fail
   refine (specOf wh _ bwh.out.1 bwh.out.2).mono ?_
   rintro e w10 ⟨u1, rfl, hI, hb⟩
   obtain ⟨a6, c6, ts, rfl, ot, nt, vt⟩ := hI
   obtain ⟨q1, q2, m3⟩ := HZ.out zs ts vz vt
   have m2 : ts.length ≤ 1048575 := Nat.le_trans (len_le (k := 2) ot.lim nt (by rw [vt]; exact L2.out)) (by decide)
   replace oz := oz.below hb
   replace kR := kR.below hb
   replace NN := NN.trans (hb.mono NN.size)
   clear hb
   have lt3 := kR.lt
   obtain ⟨z0, z1, z2, z3, zf, _⟩ := kR
   go_wp2_with fail
   refine (l2LowestC (decide (cr * cr < 0)) (decide (wh < 0)) a5 a6 c5 c6 zs ts _ oz.toSees ot.toSees nz nt m3 m1 m2).mono ?_
   rintro e w11 ⟨u3, rfl, hI, hb⟩
   have hJ := (hI.eq q1 q2).base_le lt3
   obtain ⟨f5, F5⟩ : ∃ f, Hid (decide (g1 < 0) = f) := ⟨_, rfl⟩
   obtain ⟨f6, F6⟩ : ∃ f, Hid (decide (g2 < 0) = f) := ⟨_, rfl⟩
   have hJ0 := hJ
   obtain ⟨a7, c7, qs, a8, c8, rs, ev, _⟩ := hJ0
   rw [F5.out, F6.out] at ev
   subst ev
   have zg := fun o => (hb.frozen (p := ⟨w.heap.size + 1 + 1 + 1, o, none⟩) lt3).trans (zf o)
   replace z0 := bat hb z0
   replace z1 := bat hb z1
   replace z2 := bat hb z2
   replace z3 := bat hb z3
   replace NN := NN.trans (hb.mono NN.size)
   have lt4 := Nat.lt_of_lt_of_le lt3 hb.size
   have JP := hJ.put (b := w.heap.size + 1 + 1 + 1) (b0 := w.heap.size) (by omega) (by omega) (.bool f5) (.slice a7 qs.length c7) (.bool f6) (.slice a8 rs.length c8)
   have BP := below_put4' (b := w.heap.size + 1 + 1 + 1) NN (by omega) (.bool f5) (.slice a7 qs.length c7) (.bool f6) (.slice a8 rs.length c8)
   clear hb hI hJ zf q1 q2
   go_wp2
   exact bodyPost_ret (v := .agg #[.bool f5, .slice a7 qs.length c7, .bool f6, .slice a8 rs.length c8]) (by simp [results, Tryz.results40, go_sem, z0, z1, z2, z3]) rfl ⟨_, rfl, JP, BP⟩

end Go.Proofs.YtnjbedhealpgcaaGreat
