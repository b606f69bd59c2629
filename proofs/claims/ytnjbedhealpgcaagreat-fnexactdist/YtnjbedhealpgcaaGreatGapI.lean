/- impl.Gap. -/
import Derived.Test.YtnjbedhealpgcaaGreatGapJ
namespace Go.Proofs.YtnjbedhealpgcaaGreat
open Go.RowKit

set_option maxRecDepth 20000 in
set_option maxHeartbeats 8000000 in
theorem implGap (x1 y1 x2 y2 x3 y3 : Int) (w : World) :
  Calls Tryz.prog 26 #[.agg #[.int .i64 x1, .int .i64 y1], .agg #[.int .i64 x2, .int .i64 y2], .agg #[.int .i64 x3, .int .i64 y3]] w fun e w' => ∃ v, e = .returned v ∧ IsFrac w.heap.size w' v (gN (tX x3 y3 - tX x2 y2) (tY x3 y3 - tY x2 y2) (tX x1 y1 - tX x2 y2) (tY x1 y1 - tY x2 y2)) (gD (tX x3 y3 - tX x2 y2) (tY x3 y3 - tY x2 y2) (tX x1 y1 - tX x2 y2) (tY x1 y1 - tY x2 y2)) ∧ Below w.heap.size w w' := by
 obtain ⟨kp, ka, kb, kR', NN⟩ := gboxes x1 y1 x2 y2 x3 y3 w
 obtain ⟨X1, E1⟩ : ∃ X, Hid (tX x1 y1 = X) := ⟨_, rfl⟩
 obtain ⟨Y1, F1⟩ : ∃ X, Hid (tY x1 y1 = X) := ⟨_, rfl⟩
 have c1 : Crd X1 := E1.out ▸ tX_crd x1 y1
 have d1 : Crd Y1 := F1.out ▸ tY_crd x1 y1
 obtain ⟨X2, E2⟩ : ∃ X, Hid (tX x2 y2 = X) := ⟨_, rfl⟩
 obtain ⟨Y2, F2⟩ : ∃ X, Hid (tY x2 y2 = X) := ⟨_, rfl⟩
 have c2 : Crd X2 := E2.out ▸ tX_crd x2 y2
 have d2 : Crd Y2 := F2.out ▸ tY_crd x2 y2
 obtain ⟨X3, E3⟩ : ∃ X, Hid (tX x3 y3 = X) := ⟨_, rfl⟩
 obtain ⟨Y3, F3⟩ : ∃ X, Hid (tY x3 y3 = X) := ⟨_, rfl⟩
 have c3 : Crd X3 := E3.out ▸ tX_crd x3 y3
 have d3 : Crd Y3 := F3.out ▸ tY_crd x3 y3
 rw [E1.out, E2.out, E3.out, F1.out, F2.out, F3.out]
 have LOW := r_low (X3 - X2) (Y3 - Y2) (X1 - X2) (Y1 - Y2)
 have POS := r_pos (X3 - X2) (Y3 - Y2) (X1 - X2) (Y1 - Y2)
 have BND := r_bound (X3 - X2) (Y3 - Y2) (X1 - X2) (Y1 - Y2) (c3.dif c2) (d3.dif d2) (c1.dif c2) (d1.dif d2) (by have := c1.dif c3; rwa [show X1 - X2 - (X3 - X2) = X1 - X3 by omega]) (by have := d1.dif d3; rwa [show Y1 - Y2 - (Y3 - Y2) = Y1 - Y3 by omega])
 obtain ⟨n, hn⟩ : ∃ z, Hid (rN (X3 - X2) (Y3 - Y2) (X1 - X2) (Y1 - Y2) = z) := ⟨_, rfl⟩
 obtain ⟨d, hd⟩ : ∃ z, Hid (rD (X3 - X2) (Y3 - Y2) (X1 - X2) (Y1 - Y2) = z) := ⟨_, rfl⟩
 obtain ⟨GN, hGN⟩ : ∃ z, Hid (gN (X3 - X2) (Y3 - Y2) (X1 - X2) (Y1 - Y2) = z) := ⟨_, rfl⟩
 obtain ⟨GD, hGD⟩ : ∃ z, Hid (gD (X3 - X2) (Y3 - Y2) (X1 - X2) (Y1 - Y2) = z) := ⟨_, rfl⟩
 rw [hn.out, hd.out, hGN.out, hGD.out] at LOW
 rw [hn.out, hd.out] at POS BND
 rw [hGN.out, hGD.out]
 have HL : Hid (gqN n d = GN ∧ gqD n d = GD) := LOW
 have HP : Hid (0 ≤ n ∧ 0 < d) := POS
 have HB : Hid (n < 4294967296 ^ 4 ∧ d < 4294967296 ^ 2) := BND
 have f5 : decide (n < 0) = false := decide_eq_false (by have := HP.out; omega)
 have f6 : decide (d < 0) = false := decide_eq_false (by have := HP.out; omega)
 have F5 : Hid (decide (n < 0) = false) := f5
 have F6 : Hid (decide (d < 0) = false) := f6
 have HZ : Hid (∀ zs ts : List Int, val zs = mg n → val ts = mg d → sg false (val zs) / (Int.gcd (val zs) (val ts) : Int) = GN ∧ val ts / (Int.gcd (val zs) (val ts) : Int) = GD ∧ ts ≠ []) := by
  intro zs ts vz vt
  have p := HP.out
  have en : mg n = n := by unfold mg; rw [if_neg (by omega)]
  have ed : mg d = d := by unfold mg; rw [if_neg (by omega)]
  rw [vz, vt, en, ed, ← HL.out.1, ← HL.out.2]
  refine ⟨rfl, rfl, ?_⟩
  rintro rfl
  rw [ed] at vt
  simp only [val] at vt
  omega
 have HM : Hid (mg n < 4294967296 ^ 4 ∧ mg d < 4294967296 ^ 2) := by
  have p := HP.out
  have en : mg n = n := by unfold mg; rw [if_neg (by omega)]
  have ed : mg d = d := by unfold mg; rw [if_neg (by omega)]
  rw [en, ed]
  exact HB
 clear f5 f6 LOW POS BND
 have P0 := kp.c0
 have P1 := kp.c1
 have a0 := ka.c0
 have a1 := ka.c1
 have b0 := kb.c0
 have b1 := kb.c1
 go_enter Tryz.func26, Tryz.ntmps26
 go_wp2_with fail
 generalize (((w.alloc (.cells #[.int .i64 x1, .int .i64 y1] 38)).alloc (.cells #[.int .i64 x2, .int .i64 y2] 38)).alloc (.cells #[.int .i64 x3, .int .i64 y3] 38)).alloc (.cells #[.bool false, .slice none 0 0, .bool false, .slice none 0 0] 32) = W8 at *
 have BW := NN
 clear kp ka kb
 refine wp_region_held_drew (S := Keeps (w.heap.size + 1 + 1 + 1) W8) (by kernel_rfl) (Keeps.of (Below.refl _ _).drew) (fun hHeld => ?_)
 have N : Below W8.heap.size W8 W8.drew := (Below.refl _ _).drew
 replace kR' := kR'.below N
 revert hHeld N kR'
 generalize W8.drew = ww0
 intro hHeld N kR'
 refine takeA (i := 0) (hy := by intro wq hSw; have q0 := hSw.at P0 (by omega); have q1 := hSw.at P1 (by omega); have q2 := hSw.at a0 (by omega); have q3 := hSw.at a1 (by omega); have q4 := hSw.at b0 (by omega); have q5 := hSw.at b1 (by omega); go_simp <;> with_reducible rfl) (h := ?_)
 refine takeA (i := 2) (hy := by intro wq hSw; have q0 := hSw.at P0 (by omega); have q1 := hSw.at P1 (by omega); have q2 := hSw.at a0 (by omega); have q3 := hSw.at a1 (by omega); have q4 := hSw.at b0 (by omega); have q5 := hSw.at b1 (by omega); go_simp <;> with_reducible rfl) (h := ?_)
 refine takeA (i := 4) (hy := by intro wq hSw; have q0 := hSw.at P0 (by omega); have q1 := hSw.at P1 (by omega); have q2 := hSw.at a0 (by omega); have q3 := hSw.at a1 (by omega); have q4 := hSw.at b0 (by omega); have q5 := hSw.at b1 (by omega); go_simp <;> with_reducible rfl) (h := ?_)
 refine rdA (i := 1) (h := fun K hK => ?_)
 go_simp
 refine (implTakenPt x1 y1 _).mono ?_
 rintro e1 ww1 ⟨rfl, hb⟩
 rw [E1.out, F1.out]
 replace kR' := kR'.below hb
 replace N := N.trans (hb.mono N.size)
 clear hb
 refine hK.out _ _ (Keeps.of N) (fun hHeld => ?_)
 clear hK K
 try simp only [Act.put, sA, sB, sC]
 refine rdA (i := 3) (h := fun K hK => ?_)
 go_simp
 refine (implTakenPt x2 y2 _).mono ?_
 rintro e1 ww2 ⟨rfl, hb⟩
 rw [E2.out, F2.out]
 replace kR' := kR'.below hb
 replace N := N.trans (hb.mono N.size)
 clear hb
 refine hK.out _ _ (Keeps.of N) (fun hHeld => ?_)
 clear hK K
 try simp only [Act.put, sA, sB, sC]
 refine rdA (i := 5) (h := fun K hK => ?_)
 go_simp
 refine (implTakenPt x3 y3 _).mono ?_
 rintro e1 ww3 ⟨rfl, hb⟩
 rw [E3.out, F3.out]
 replace kR' := kR'.below hb
 replace N := N.trans (hb.mono N.size)
 clear hb
 refine hK.out _ _ (Keeps.of N) (fun hHeld => ?_)
 clear hK K
 try simp only [Act.put, sA, sB, sC]
 refine rdA (i := 6) (h := fun K hK => ?_)
 go_simp
 refine (gap_any X1 Y1 X2 Y2 X3 Y3 _ c1 d1 c2 d2 c3 d3).mono ?_
 rintro e1 ww4 ⟨u1, rfl, hI, hb⟩
 rw [hn.out, hd.out] at hI
 obtain ⟨a5, c5, zs, a6, c6, ts, ev, oz, ot, nz, nt, vz, vt, _⟩ := hI
 rw [F5.out, F6.out] at ev
 subst ev
 obtain ⟨q1, q2, m3⟩ := HZ.out zs ts vz vt
 have m1 : zs.length ≤ 1048575 := Nat.le_trans (len_le (k := 4) oz.lim nz (by rw [vz]; exact HM.out.1)) (by decide)
 have m2 : ts.length ≤ 1048575 := Nat.le_trans (len_le (k := 2) ot.lim nt (by rw [vt]; exact HM.out.2)) (by decide)
 replace kR' := kR'.below hb
 replace N := N.trans (hb.mono N.size)
 clear hb
 refine hK.out _ _ (Keeps.of N) (fun hHeld => ?_)
 clear hK K
 try simp only [Act.put, sA, sB, sC]
 refine rdA (i := 7) (h := fun K hK => ?_)
 go_simp
 refine (lowestC false a5 a6 c5 c6 zs ts _ oz.toSees ot.toSees nz nt m3 m1 m2).mono ?_
 rintro e3 ww5 ⟨u3, rfl, hI, hb⟩
 have hJ := (hI.eq q1 q2).base_le (show w.heap.size + 1 + 1 + 1 + 1 ≤ _ from kR'.lt)
 obtain ⟨f5, G5⟩ : ∃ f, Hid (decide (GN < 0) = f) := ⟨_, rfl⟩
 obtain ⟨f6, G6⟩ : ∃ f, Hid (decide (GD < 0) = f) := ⟨_, rfl⟩
 have hJ0 := hJ
 obtain ⟨a7, c7, qs, a8, c8, rs, ev, _⟩ := hJ0
 rw [G5.out, G6.out] at ev
 subst ev
 clear hI
 replace kR' := kR'.below hb
 replace oz := oz.below hb
 replace ot := ot.below hb
 replace N := N.trans (hb.mono N.size)
 clear hb
 refine hK.out _ _ (Keeps.of N) (fun hHeld => ?_)
 clear hK K
 try simp only [Act.put, sA, sB, sC]
 refine rdA (i := 8) (h := fun K hK => ?_)
 have z0 := kR'.c0
 have z1 := kR'.c1
 have z2 := kR'.c2
 have z3 := kR'.c3
 have zf := kR'.fr
 go_simp
 clear z0 z1 z2 z3 zf
 refine hK.out _ _ ((Keeps.of N).put4 (.bool f5) (.slice a7 qs.length c7) (.bool f6) (.slice a8 rs.length c8)) (fun hHeld => ?_)
 clear hK K
 try simp only [Act.put, sA, sB, sC]
 refine wpAnyH_done (by kernel_rfl) ?_ _
 have JP := hJ.put (b := w.heap.size + 1 + 1 + 1) (b0 := w.heap.size) (by omega) (by omega) (.bool f5) (.slice a7 qs.length c7) (.bool f6) (.slice a8 rs.length c8)
 have BP := below_put4' (b := w.heap.size + 1 + 1 + 1) (BW.trans (N.mono BW.size)) (by omega) (.bool f5) (.slice a7 qs.length c7) (.bool f6) (.slice a8 rs.length c8)
 obtain ⟨z0, z1, z2, z3, _, _⟩ := kR'
 go_wp2
 exact bodyPost_ret (v := .agg #[.bool f5, .slice a7 qs.length c7, .bool f6, .slice a8 rs.length c8]) (by simp [results, Tryz.results26, go_sem, z0, z1, z2, z3]) rfl ⟨_, rfl, JP, BP⟩
end Go.Proofs.YtnjbedhealpgcaaGreat
