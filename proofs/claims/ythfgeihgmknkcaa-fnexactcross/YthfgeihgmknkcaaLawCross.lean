/- The law on Cross: at every four points the program's Cross is the specification's, limb by limb; its answers own their memory. -/
import Derived.Test.YthfgeihgmknkcaaCrossB
import Derived.Test.YthfgeihgmknkcaaCrossS
import Derived.Test.YthfgeihgmknkcaaCrossI
import Derived.Test.YthfgeihgmknkcaaFracM
import Derived.Test.YthfgeihgmknkcaaHeld
import Derived.Deep.DeepCutAuto
namespace Go.Proofs.Ythfgeihgmknkcaa
open Go.RowKit

set_option maxRecDepth 20000 in
set_option maxHeartbeats 8000000 in
theorem lawCross (x1 y1 x2 y2 x3 y3 x4 y4 : Int) (w : World) :
    Calls Try.prog 3 #[.agg #[.int .i64 x1, .int .i64 y1], .agg #[.int .i64 x2, .int .i64 y2], .agg #[.int .i64 x3, .int .i64 y3], .agg #[.int .i64 x4, .int .i64 y4]] w fun e w' => e = .returned (.bool true) ∧ Below w.heap.size w w' := by
  obtain ⟨⟨kk, n1, d1, n2, d2⟩, hc⟩ : ∃ q, crV (tX x1 y1) (tY x1 y1) (tX x2 y2) (tY x2 y2) (tX x3 y3) (tY x3 y3) (tX x4 y4) (tY x4 y4) = q := ⟨_, rfl⟩
  have HC : Hid (crV (tX x1 y1) (tY x1 y1) (tX x2 y2) (tY x2 y2) (tX x3 y3) (tY x3 y3) (tX x4 y4) (tY x4 y4) = (kk, n1, d1, n2, d2)) := hc
  have BB := crV_bound (tX_crd x1 y1) (tY_crd x1 y1) (tX_crd x2 y2) (tY_crd x2 y2) (tX_crd x3 y3) (tY_crd x3 y3) (tX_crd x4 y4) (tY_crd x4 y4) hc
  clear hc
  obtain ⟨z1, q1⟩ := limbs_mg n1
  obtain ⟨t1, q2⟩ := limbs_mg d1
  obtain ⟨z2, q3⟩ := limbs_mg n2
  obtain ⟨t2, q4⟩ := limbs_mg d2
  have HV : Hid ((Lim z1 ∧ Nrm z1 ∧ val z1 = mg n1) ∧ (Lim t1 ∧ Nrm t1 ∧ val t1 = mg d1) ∧ (Lim z2 ∧ Nrm z2 ∧ val z2 = mg n2) ∧ (Lim t2 ∧ Nrm t2 ∧ val t2 = mg d2)) := ⟨q1, q2, q3, q4⟩
  have HL : Hid (z1.length ≤ 4 ∧ t1.length ≤ 4 ∧ z2.length ≤ 4 ∧ t2.length ≤ 4) := ⟨len_few q1.1 q1.2.1 q1.2.2 BB.1, len_few q2.1 q2.2.1 q2.2.2 BB.2.1, len_few q3.1 q3.2.1 q3.2.2 BB.2.2.1, len_few q4.1 q4.2.1 q4.2.2 BB.2.2.2⟩
  clear q1 q2 q3 q4 BB
  obtain ⟨f1, F1⟩ : ∃ f, Hid (decide (n1 < 0) = f) := ⟨_, rfl⟩
  obtain ⟨f2, F2⟩ : ∃ f, Hid (decide (d1 < 0) = f) := ⟨_, rfl⟩
  obtain ⟨f3, F3⟩ : ∃ f, Hid (decide (n2 < 0) = f) := ⟨_, rfl⟩
  obtain ⟨f4, F4⟩ : ∃ f, Hid (decide (d2 < 0) = f) := ⟨_, rfl⟩
  obtain ⟨k0, k1, k2, k3, k4, k5, k6, k7⟩ := ptbox4 w x1 y1 x2 y2 x3 y3 x4 y4 23
  have B := ptbelow4 w x1 y1 x2 y2 x3 y3 x4 y4 23
  go_enter Try.func3, Try.ntmps3
  go_upto_region 1 with fail
  generalize ((((w.alloc (.cells #[.int .i64 x1, .int .i64 y1] 23)).alloc (.cells #[.int .i64 x2, .int .i64 y2] 23)).alloc (.cells #[.int .i64 x3, .int .i64 y3] 23)).alloc (.cells #[.int .i64 x4, .int .i64 y4] 23)) = W0 at *
  go_cut [9, 10, 11] (fun s9 s10 s11 W => ∃ p q a1 c1 b1 e1 a2 c2 b2 e2, s9 = .int .i64 kk ∧ s10 = .pointer (some ⟨p, 0, none⟩) ∧ s11 = .pointer (some ⟨q, 0, none⟩) ∧ Box4 W0.heap.size W p (.bool f1) (.slice a1 z1.length c1) (.bool f2) (.slice b1 t1.length e1) ∧ Box4 W0.heap.size W q (.bool f3) (.slice a2 z2.length c2) (.bool f4) (.slice b2 t2.length e2) ∧ (Own W0.heap.size W a1 c1 z1 ∧ Own W0.heap.size W b1 e1 t1 ∧ Own W0.heap.size W a2 c2 z2 ∧ Own W0.heap.size W b2 e2 t2) ∧ Hid (Apart a1 z1 b1 t1 ∧ Apart a2 z2 b2 t2 ∧ Apart a1 z1 a2 z2 ∧ Apart a1 z1 b2 t2 ∧ Apart b1 t1 a2 z2 ∧ Apart b1 t1 b2 t2) ∧ Hid ((some p ≠ rowOf a1 z1 ∧ some p ≠ rowOf b1 t1 ∧ some p ≠ rowOf a2 z2 ∧ some p ≠ rowOf b2 t2) ∧ (some q ≠ rowOf a1 z1 ∧ some q ≠ rowOf b1 t1 ∧ some q ≠ rowOf a2 z2 ∧ some q ≠ rowOf b2 t2)) ∧ Below W0.heap.size W0 W)
  case first =>
    refine wp_region_held_drew (S := Below W0.heap.size W0) (by kernel_rfl) ((Below.refl _ _).drew) (fun hHeld => ?_)
    have N : Below W0.heap.size W0 W0.drew := hHeld
    revert hHeld N
    generalize W0.drew = ww0
    intro hHeld N
    refine takeQ (i := 0) (gt rfl) (by kernel_rfl) (fun _ _ _ h => h) (by rfl) (by intro wq hSw; have q0 := bat hSw k0; have q1 := bat hSw k1; have q2 := bat hSw k2; have q3 := bat hSw k3; have q4 := bat hSw k4; have q5 := bat hSw k5; have q6 := bat hSw k6; have q7 := bat hSw k7; go_simp <;> with_reducible rfl) (by assumption) ?_
    try simp only [Act.put, sA, sB, sC]
    refine takeQ (i := 2) (gt rfl) (by kernel_rfl) (fun _ _ _ h => h) (by rfl) (by intro wq hSw; have q0 := bat hSw k0; have q1 := bat hSw k1; have q2 := bat hSw k2; have q3 := bat hSw k3; have q4 := bat hSw k4; have q5 := bat hSw k5; have q6 := bat hSw k6; have q7 := bat hSw k7; go_simp <;> with_reducible rfl) (by assumption) ?_
    try simp only [Act.put, sA, sB, sC]
    refine takeQ (i := 4) (gt rfl) (by kernel_rfl) (fun _ _ _ h => h) (by rfl) (by intro wq hSw; have q0 := bat hSw k0; have q1 := bat hSw k1; have q2 := bat hSw k2; have q3 := bat hSw k3; have q4 := bat hSw k4; have q5 := bat hSw k5; have q6 := bat hSw k6; have q7 := bat hSw k7; go_simp <;> with_reducible rfl) (by assumption) ?_
    try simp only [Act.put, sA, sB, sC]
    refine takeQ (i := 6) (gt rfl) (by kernel_rfl) (fun _ _ _ h => h) (by rfl) (by intro wq hSw; have q0 := bat hSw k0; have q1 := bat hSw k1; have q2 := bat hSw k2; have q3 := bat hSw k3; have q4 := bat hSw k4; have q5 := bat hSw k5; have q6 := bat hSw k6; have q7 := bat hSw k7; go_simp <;> with_reducible rfl) (by assumption) ?_
    try simp only [Act.put, sA, sB, sC]
    refine capture (fun wp hwp => ?_)
    have H4_pq : ∀ (p q : Nat) (V : World), Box4 W0.heap.size V p (.bool false) (.slice none 0 0) (.bool false) (.slice none 0 0) → Box4 W0.heap.size V q (.bool false) (.slice none 0 0) (.bool false) (.slice none 0 0) → p ≠ q → Below W0.heap.size W0 V → wp 8 #[true, true, true, true, true, true, true, true, false, false, false, false, false, true, true, false, false, false] ⟨#[.agg #[.int .i64 x1, .int .i64 y1], .agg #[.int .i64 x2, .int .i64 y2], .agg #[.int .i64 x3, .int .i64 y3], .agg #[.int .i64 x4, .int .i64 y4], .pointer (some ⟨w.heap.size, 0, none⟩), .pointer (some ⟨w.heap.size + 1, 0, none⟩), .pointer (some ⟨w.heap.size + 1 + 1, 0, none⟩), .pointer (some ⟨w.heap.size + 1 + 1 + 1, 0, none⟩), .bool false, undef, .pointer (some ⟨p, 0, none⟩), .pointer (some ⟨q, 0, none⟩), undef, undef, undef, undef, undef, undef, undef, undef, undef, .agg #[.int .i64 x1, .int .i64 y1], .agg #[.int .i64 x1, .int .i64 y1], .agg #[.int .i64 x2, .int .i64 y2], .agg #[.int .i64 x2, .int .i64 y2], .agg #[.int .i64 x3, .int .i64 y3], .agg #[.int .i64 x3, .int .i64 y3], .agg #[.int .i64 x4, .int .i64 y4], .agg #[.int .i64 x4, .int .i64 y4], undef, undef, undef, undef, undef, undef, undef, undef, undef, undef, undef, undef, undef, undef, undef, undef, undef, undef, undef, undef, undef, undef, undef, undef, undef, undef, undef, undef, undef, undef, undef, undef, undef, undef, undef, undef, undef, undef, undef, undef, undef, undef, undef, undef, undef, undef, undef, undef, undef, undef, undef, undef, undef, undef, undef, undef, undef, undef, undef, undef, undef, undef, undef, undef, undef, undef, undef, undef, undef, undef, undef, undef, undef, undef, undef, undef, undef, undef, undef, undef, undef, undef, undef, undef, undef, undef, undef, undef, undef, undef, undef, undef], []⟩ V := by
     skip
     intro p q V kP kQ n_pq N
     have hHeld : Below W0.heap.size W0 V := N
     rw [hwp]
     refine wpAnyH_ready (rs := [8]) (by kernel_rfl) (by simp) (AllReadyH.cons (gt rfl) (fun K hK => ?_) AllReadyH.nil)
     · go_simp
       have ne_kP_kQ := n_pq
       have ne_kQ_kP := n_pq.symm
       refine (specCross x1 y1 x2 y2 x3 y3 x4 y4 _ kk n1 d1 n2 d2 HC.out).mono ?_
       rintro ee ww1 ⟨u1, u2, rfl, TF, hb⟩
       obtain ⟨a1, c1, b1, e1, a2, c2, b2, e2, rfl, rfl, o1, o2, o3, o4, ap⟩ := TF.as HV.out
       rw [F1.out, F2.out, F3.out, F4.out]
       have bs := N.size
       clear TF
       have r_kP_o1 := row_ne_low o1 kP.lt
       have r_kP_o2 := row_ne_low o2 kP.lt
       have r_kP_o3 := row_ne_low o3 kP.lt
       have r_kP_o4 := row_ne_low o4 kP.lt
       have r_kQ_o1 := row_ne_low o1 kQ.lt
       have r_kQ_o2 := row_ne_low o2 kQ.lt
       have r_kQ_o3 := row_ne_low o3 kQ.lt
       have r_kQ_o4 := row_ne_low o4 kQ.lt
       replace kP := kP.below hb
       replace kQ := kQ.below hb
       replace N := N.trans (hb.mono N.size)
       clear hb
       refine hK.out _ _ N (fun hHeld => ?_)
       clear hK K
       try simp only [Act.put, sA, sB, sC]
       refine takeQ (i := 9) (gt rfl) (by kernel_rfl) (fun _ _ _ h => h) (by rfl) (by intro wq _; go_simp <;> with_reducible rfl) (by assumption) ?_
       try simp only [Act.put, sA, sB, sC]
       refine takeQ (i := 10) (gt rfl) (by kernel_rfl) (fun _ _ _ h => h) (by rfl) (by intro wq _; go_simp <;> with_reducible rfl) (by assumption) ?_
       try simp only [Act.put, sA, sB, sC]
       refine takeQ (i := 11) (gt rfl) (by kernel_rfl) (fun _ _ _ h => h) (by rfl) (by intro wq _; go_simp <;> with_reducible rfl) (by assumption) ?_
       try simp only [Act.put, sA, sB, sC]
       refine takeQ (i := 12) (gt rfl) (by kernel_rfl) (fun _ _ _ h => h) (by rfl) (by intro wq _; go_simp <;> with_reducible rfl) (by assumption) ?_
       try simp only [Act.put, sA, sB, sC]
       refine takeQ (i := 15) (gt rfl) (by kernel_rfl) (fun _ _ _ h => h) (by rfl) (by intro wq _; go_simp <;> with_reducible rfl) (by assumption) ?_
       try simp only [Act.put, sA, sB, sC]
       refine wpAnyH_ready (rs := [16]) (by kernel_rfl) (by simp) (AllReadyH.cons (gt rfl) (fun K hK => ?_) AllReadyH.nil)
       have z0 := kP.c0
       have z1 := kP.c1
       have z2 := kP.c2
       have z3 := kP.c3
       have zf := kP.fr
       go_simp
       clear z0 z1 z2 z3 zf
       replace N := Box4.chain N kP (.bool f1) (.slice a1 z1.length c1) (.bool f2) (.slice b1 t1.length e1)
       replace kQ := kQ.old ne_kQ_kP (.bool f1) (.slice a1 z1.length c1) (.bool f2) (.slice b1 t1.length e1)
       replace o1 := o1.put4 r_kP_o1 (.bool f1) (.slice a1 z1.length c1) (.bool f2) (.slice b1 t1.length e1)
       replace o2 := o2.put4 r_kP_o2 (.bool f1) (.slice a1 z1.length c1) (.bool f2) (.slice b1 t1.length e1)
       replace o3 := o3.put4 r_kP_o3 (.bool f1) (.slice a1 z1.length c1) (.bool f2) (.slice b1 t1.length e1)
       replace o4 := o4.put4 r_kP_o4 (.bool f1) (.slice a1 z1.length c1) (.bool f2) (.slice b1 t1.length e1)
       replace kP := kP.put (.bool f1) (.slice a1 z1.length c1) (.bool f2) (.slice b1 t1.length e1)
       refine hK.out _ _ N (fun hHeld => ?_)
       clear hK K
       try simp only [Act.put, sA, sB, sC]
       refine wpAnyH_ready (rs := [17]) (by kernel_rfl) (by simp) (AllReadyH.cons (gt rfl) (fun K hK => ?_) AllReadyH.nil)
       have z0 := kQ.c0
       have z1 := kQ.c1
       have z2 := kQ.c2
       have z3 := kQ.c3
       have zf := kQ.fr
       go_simp
       clear z0 z1 z2 z3 zf
       replace N := Box4.chain N kQ (.bool f3) (.slice a2 z2.length c2) (.bool f4) (.slice b2 t2.length e2)
       replace kP := kP.old ne_kP_kQ (.bool f3) (.slice a2 z2.length c2) (.bool f4) (.slice b2 t2.length e2)
       replace o1 := o1.put4 r_kQ_o1 (.bool f3) (.slice a2 z2.length c2) (.bool f4) (.slice b2 t2.length e2)
       replace o2 := o2.put4 r_kQ_o2 (.bool f3) (.slice a2 z2.length c2) (.bool f4) (.slice b2 t2.length e2)
       replace o3 := o3.put4 r_kQ_o3 (.bool f3) (.slice a2 z2.length c2) (.bool f4) (.slice b2 t2.length e2)
       replace o4 := o4.put4 r_kQ_o4 (.bool f3) (.slice a2 z2.length c2) (.bool f4) (.slice b2 t2.length e2)
       replace kQ := kQ.put (.bool f3) (.slice a2 z2.length c2) (.bool f4) (.slice b2 t2.length e2)
       refine hK.out _ _ N (fun hHeld => ?_)
       clear hK K
       try simp only [Act.put, sA, sB, sC]
       refine wpAnyH_done (by kernel_rfl) ?_ _
       go_wp2
       go_meet
       case rel => exact ⟨_, _, a1, c1, b1, e1, a2, c2, b2, e2, rfl, rfl, rfl, kP, kQ, ⟨o1.base_le bs, o2.base_le bs, o3.base_le bs, o4.base_le bs⟩, ap, ⟨⟨r_kP_o1, r_kP_o2, r_kP_o3, r_kP_o4⟩, ⟨r_kQ_o1, r_kQ_o2, r_kQ_o3, r_kQ_o4⟩⟩, N⟩
    have H4_p : ∀ (p : Nat) (V : World), Box4 W0.heap.size V p (.bool false) (.slice none 0 0) (.bool false) (.slice none 0 0) → Below W0.heap.size W0 V → wp 9 #[true, true, true, true, true, true, true, true, false, false, false, false, false, true, false, false, false, false] ⟨#[.agg #[.int .i64 x1, .int .i64 y1], .agg #[.int .i64 x2, .int .i64 y2], .agg #[.int .i64 x3, .int .i64 y3], .agg #[.int .i64 x4, .int .i64 y4], .pointer (some ⟨w.heap.size, 0, none⟩), .pointer (some ⟨w.heap.size + 1, 0, none⟩), .pointer (some ⟨w.heap.size + 1 + 1, 0, none⟩), .pointer (some ⟨w.heap.size + 1 + 1 + 1, 0, none⟩), .bool false, undef, .pointer (some ⟨p, 0, none⟩), undef, undef, undef, undef, undef, undef, undef, undef, undef, undef, .agg #[.int .i64 x1, .int .i64 y1], .agg #[.int .i64 x1, .int .i64 y1], .agg #[.int .i64 x2, .int .i64 y2], .agg #[.int .i64 x2, .int .i64 y2], .agg #[.int .i64 x3, .int .i64 y3], .agg #[.int .i64 x3, .int .i64 y3], .agg #[.int .i64 x4, .int .i64 y4], .agg #[.int .i64 x4, .int .i64 y4], undef, undef, undef, undef, undef, undef, undef, undef, undef, undef, undef, undef, undef, undef, undef, undef, undef, undef, undef, undef, undef, undef, undef, undef, undef, undef, undef, undef, undef, undef, undef, undef, undef, undef, undef, undef, undef, undef, undef, undef, undef, undef, undef, undef, undef, undef, undef, undef, undef, undef, undef, undef, undef, undef, undef, undef, undef, undef, undef, undef, undef, undef, undef, undef, undef, undef, undef, undef, undef, undef, undef, undef, undef, undef, undef, undef, undef, undef, undef, undef, undef, undef, undef, undef, undef, undef, undef, undef, undef, undef, undef, undef], []⟩ V := by
     skip
     intro p V kP N
     have hHeld : Below W0.heap.size W0 V := N
     rw [hwp]
     refine wpAnyH_ready (rs := [8, 14]) (by kernel_rfl) (by simp) (AllReadyH.cons (gt rfl) (fun K hK => ?_) (AllReadyH.cons (gt rfl) (fun K hK => ?_) AllReadyH.nil))
     · go_simp
       refine (specCross x1 y1 x2 y2 x3 y3 x4 y4 _ kk n1 d1 n2 d2 HC.out).mono ?_
       rintro ee ww4 ⟨u1, u2, rfl, TF, hb⟩
       obtain ⟨a1, c1, b1, e1, a2, c2, b2, e2, rfl, rfl, o1, o2, o3, o4, ap⟩ := TF.as HV.out
       rw [F1.out, F2.out, F3.out, F4.out]
       have bs := N.size
       clear TF
       have r_kP_o1 := row_ne_low o1 kP.lt
       have r_kP_o2 := row_ne_low o2 kP.lt
       have r_kP_o3 := row_ne_low o3 kP.lt
       have r_kP_o4 := row_ne_low o4 kP.lt
       replace kP := kP.below hb
       replace N := N.trans (hb.mono N.size)
       clear hb
       refine hK.out _ _ N (fun hHeld => ?_)
       clear hK K
       try simp only [Act.put, sA, sB, sC]
       refine takeQ (i := 9) (gt rfl) (by kernel_rfl) (fun _ _ _ h => h) (by rfl) (by intro wq _; go_simp <;> with_reducible rfl) (by assumption) ?_
       try simp only [Act.put, sA, sB, sC]
       refine takeQ (i := 10) (gt rfl) (by kernel_rfl) (fun _ _ _ h => h) (by rfl) (by intro wq _; go_simp <;> with_reducible rfl) (by assumption) ?_
       try simp only [Act.put, sA, sB, sC]
       refine takeQ (i := 11) (gt rfl) (by kernel_rfl) (fun _ _ _ h => h) (by rfl) (by intro wq _; go_simp <;> with_reducible rfl) (by assumption) ?_
       try simp only [Act.put, sA, sB, sC]
       refine takeQ (i := 12) (gt rfl) (by kernel_rfl) (fun _ _ _ h => h) (by rfl) (by intro wq _; go_simp <;> with_reducible rfl) (by assumption) ?_
       try simp only [Act.put, sA, sB, sC]
       refine wpAnyH_ready (rs := [14]) (by kernel_rfl) (by simp) (AllReadyH.cons (gt rfl) (fun K hK => ?_) AllReadyH.nil)
       go_simp
       have kQ := Box4.new ww4 N.size (.bool false) (.slice none 0 0) (.bool false) (.slice none 0 0) 28
       have hb := below1 ww4 (.cells #[.bool false, .slice none 0 0, .bool false, .slice none 0 0] 28)
       have r_kQ_o1 := row_ne_high o1.toCame (Nat.le_refl _)
       have r_kQ_o2 := row_ne_high o2.toCame (Nat.le_refl _)
       have r_kQ_o3 := row_ne_high o3.toCame (Nat.le_refl _)
       have r_kQ_o4 := row_ne_high o4.toCame (Nat.le_refl _)
       have ne_kQ_kP := Nat.ne_of_gt kP.lt
       have ne_kP_kQ := ne_kQ_kP.symm
       replace kP := kP.below hb
       replace o1 := o1.below hb
       replace o2 := o2.below hb
       replace o3 := o3.below hb
       replace o4 := o4.below hb
       replace N := N.trans (hb.mono N.size)
       clear hb
       generalize ww4.alloc (.cells #[.bool false, .slice none 0 0, .bool false, .slice none 0 0] 28) = ww5 at *
       refine hK.out _ _ N (fun hHeld => ?_)
       clear hK K
       try simp only [Act.put, sA, sB, sC]
       refine takeQ (i := 15) (gt rfl) (by kernel_rfl) (fun _ _ _ h => h) (by rfl) (by intro wq _; go_simp <;> with_reducible rfl) (by assumption) ?_
       try simp only [Act.put, sA, sB, sC]
       refine wpAnyH_ready (rs := [16]) (by kernel_rfl) (by simp) (AllReadyH.cons (gt rfl) (fun K hK => ?_) AllReadyH.nil)
       have z0 := kP.c0
       have z1 := kP.c1
       have z2 := kP.c2
       have z3 := kP.c3
       have zf := kP.fr
       go_simp
       clear z0 z1 z2 z3 zf
       replace N := Box4.chain N kP (.bool f1) (.slice a1 z1.length c1) (.bool f2) (.slice b1 t1.length e1)
       replace kQ := kQ.old ne_kQ_kP (.bool f1) (.slice a1 z1.length c1) (.bool f2) (.slice b1 t1.length e1)
       replace o1 := o1.put4 r_kP_o1 (.bool f1) (.slice a1 z1.length c1) (.bool f2) (.slice b1 t1.length e1)
       replace o2 := o2.put4 r_kP_o2 (.bool f1) (.slice a1 z1.length c1) (.bool f2) (.slice b1 t1.length e1)
       replace o3 := o3.put4 r_kP_o3 (.bool f1) (.slice a1 z1.length c1) (.bool f2) (.slice b1 t1.length e1)
       replace o4 := o4.put4 r_kP_o4 (.bool f1) (.slice a1 z1.length c1) (.bool f2) (.slice b1 t1.length e1)
       replace kP := kP.put (.bool f1) (.slice a1 z1.length c1) (.bool f2) (.slice b1 t1.length e1)
       refine hK.out _ _ N (fun hHeld => ?_)
       clear hK K
       try simp only [Act.put, sA, sB, sC]
       refine wpAnyH_ready (rs := [17]) (by kernel_rfl) (by simp) (AllReadyH.cons (gt rfl) (fun K hK => ?_) AllReadyH.nil)
       have z0 := kQ.c0
       have z1 := kQ.c1
       have z2 := kQ.c2
       have z3 := kQ.c3
       have zf := kQ.fr
       go_simp
       clear z0 z1 z2 z3 zf
       replace N := Box4.chain N kQ (.bool f3) (.slice a2 z2.length c2) (.bool f4) (.slice b2 t2.length e2)
       replace kP := kP.old ne_kP_kQ (.bool f3) (.slice a2 z2.length c2) (.bool f4) (.slice b2 t2.length e2)
       replace o1 := o1.put4 r_kQ_o1 (.bool f3) (.slice a2 z2.length c2) (.bool f4) (.slice b2 t2.length e2)
       replace o2 := o2.put4 r_kQ_o2 (.bool f3) (.slice a2 z2.length c2) (.bool f4) (.slice b2 t2.length e2)
       replace o3 := o3.put4 r_kQ_o3 (.bool f3) (.slice a2 z2.length c2) (.bool f4) (.slice b2 t2.length e2)
       replace o4 := o4.put4 r_kQ_o4 (.bool f3) (.slice a2 z2.length c2) (.bool f4) (.slice b2 t2.length e2)
       replace kQ := kQ.put (.bool f3) (.slice a2 z2.length c2) (.bool f4) (.slice b2 t2.length e2)
       refine hK.out _ _ N (fun hHeld => ?_)
       clear hK K
       try simp only [Act.put, sA, sB, sC]
       refine wpAnyH_done (by kernel_rfl) ?_ _
       go_wp2
       go_meet
       case rel => exact ⟨_, _, a1, c1, b1, e1, a2, c2, b2, e2, rfl, rfl, rfl, kP, kQ, ⟨o1.base_le bs, o2.base_le bs, o3.base_le bs, o4.base_le bs⟩, ap, ⟨⟨r_kP_o1, r_kP_o2, r_kP_o3, r_kP_o4⟩, ⟨r_kQ_o1, r_kQ_o2, r_kQ_o3, r_kQ_o4⟩⟩, N⟩
     · go_simp
       have kQ := Box4.new V N.size (.bool false) (.slice none 0 0) (.bool false) (.slice none 0 0) 28
       have hb := below1 V (.cells #[.bool false, .slice none 0 0, .bool false, .slice none 0 0] 28)
       have g_p := Nat.ne_of_lt kP.lt
       replace kP := kP.below hb
       replace N := N.trans (hb.mono N.size)
       refine hK.out _ _ N (fun hHeld => ?_)
       clear hK K
       try simp only [Act.put, sA, sB, sC]
       rw [← hwp]
       exact met (H4_pq p _ _ kP kQ g_p N) (by kernel_rfl)
    have H4_q : ∀ (q : Nat) (V : World), Box4 W0.heap.size V q (.bool false) (.slice none 0 0) (.bool false) (.slice none 0 0) → Below W0.heap.size W0 V → wp 9 #[true, true, true, true, true, true, true, true, false, false, false, false, false, false, true, false, false, false] ⟨#[.agg #[.int .i64 x1, .int .i64 y1], .agg #[.int .i64 x2, .int .i64 y2], .agg #[.int .i64 x3, .int .i64 y3], .agg #[.int .i64 x4, .int .i64 y4], .pointer (some ⟨w.heap.size, 0, none⟩), .pointer (some ⟨w.heap.size + 1, 0, none⟩), .pointer (some ⟨w.heap.size + 1 + 1, 0, none⟩), .pointer (some ⟨w.heap.size + 1 + 1 + 1, 0, none⟩), .bool false, undef, undef, .pointer (some ⟨q, 0, none⟩), undef, undef, undef, undef, undef, undef, undef, undef, undef, .agg #[.int .i64 x1, .int .i64 y1], .agg #[.int .i64 x1, .int .i64 y1], .agg #[.int .i64 x2, .int .i64 y2], .agg #[.int .i64 x2, .int .i64 y2], .agg #[.int .i64 x3, .int .i64 y3], .agg #[.int .i64 x3, .int .i64 y3], .agg #[.int .i64 x4, .int .i64 y4], .agg #[.int .i64 x4, .int .i64 y4], undef, undef, undef, undef, undef, undef, undef, undef, undef, undef, undef, undef, undef, undef, undef, undef, undef, undef, undef, undef, undef, undef, undef, undef, undef, undef, undef, undef, undef, undef, undef, undef, undef, undef, undef, undef, undef, undef, undef, undef, undef, undef, undef, undef, undef, undef, undef, undef, undef, undef, undef, undef, undef, undef, undef, undef, undef, undef, undef, undef, undef, undef, undef, undef, undef, undef, undef, undef, undef, undef, undef, undef, undef, undef, undef, undef, undef, undef, undef, undef, undef, undef, undef, undef, undef, undef, undef, undef, undef, undef, undef, undef], []⟩ V := by
     skip
     intro q V kQ N
     have hHeld : Below W0.heap.size W0 V := N
     rw [hwp]
     refine wpAnyH_ready (rs := [8, 13]) (by kernel_rfl) (by simp) (AllReadyH.cons (gt rfl) (fun K hK => ?_) (AllReadyH.cons (gt rfl) (fun K hK => ?_) AllReadyH.nil))
     · go_simp
       refine (specCross x1 y1 x2 y2 x3 y3 x4 y4 _ kk n1 d1 n2 d2 HC.out).mono ?_
       rintro ee ww8 ⟨u1, u2, rfl, TF, hb⟩
       obtain ⟨a1, c1, b1, e1, a2, c2, b2, e2, rfl, rfl, o1, o2, o3, o4, ap⟩ := TF.as HV.out
       rw [F1.out, F2.out, F3.out, F4.out]
       have bs := N.size
       clear TF
       have r_kQ_o1 := row_ne_low o1 kQ.lt
       have r_kQ_o2 := row_ne_low o2 kQ.lt
       have r_kQ_o3 := row_ne_low o3 kQ.lt
       have r_kQ_o4 := row_ne_low o4 kQ.lt
       replace kQ := kQ.below hb
       replace N := N.trans (hb.mono N.size)
       clear hb
       refine hK.out _ _ N (fun hHeld => ?_)
       clear hK K
       try simp only [Act.put, sA, sB, sC]
       refine takeQ (i := 9) (gt rfl) (by kernel_rfl) (fun _ _ _ h => h) (by rfl) (by intro wq _; go_simp <;> with_reducible rfl) (by assumption) ?_
       try simp only [Act.put, sA, sB, sC]
       refine takeQ (i := 10) (gt rfl) (by kernel_rfl) (fun _ _ _ h => h) (by rfl) (by intro wq _; go_simp <;> with_reducible rfl) (by assumption) ?_
       try simp only [Act.put, sA, sB, sC]
       refine takeQ (i := 11) (gt rfl) (by kernel_rfl) (fun _ _ _ h => h) (by rfl) (by intro wq _; go_simp <;> with_reducible rfl) (by assumption) ?_
       try simp only [Act.put, sA, sB, sC]
       refine takeQ (i := 12) (gt rfl) (by kernel_rfl) (fun _ _ _ h => h) (by rfl) (by intro wq _; go_simp <;> with_reducible rfl) (by assumption) ?_
       try simp only [Act.put, sA, sB, sC]
       refine wpAnyH_ready (rs := [13]) (by kernel_rfl) (by simp) (AllReadyH.cons (gt rfl) (fun K hK => ?_) AllReadyH.nil)
       go_simp
       have kP := Box4.new ww8 N.size (.bool false) (.slice none 0 0) (.bool false) (.slice none 0 0) 28
       have hb := below1 ww8 (.cells #[.bool false, .slice none 0 0, .bool false, .slice none 0 0] 28)
       have r_kP_o1 := row_ne_high o1.toCame (Nat.le_refl _)
       have r_kP_o2 := row_ne_high o2.toCame (Nat.le_refl _)
       have r_kP_o3 := row_ne_high o3.toCame (Nat.le_refl _)
       have r_kP_o4 := row_ne_high o4.toCame (Nat.le_refl _)
       have ne_kP_kQ := Nat.ne_of_gt kQ.lt
       have ne_kQ_kP := ne_kP_kQ.symm
       replace kQ := kQ.below hb
       replace o1 := o1.below hb
       replace o2 := o2.below hb
       replace o3 := o3.below hb
       replace o4 := o4.below hb
       replace N := N.trans (hb.mono N.size)
       clear hb
       generalize ww8.alloc (.cells #[.bool false, .slice none 0 0, .bool false, .slice none 0 0] 28) = ww9 at *
       refine hK.out _ _ N (fun hHeld => ?_)
       clear hK K
       try simp only [Act.put, sA, sB, sC]
       refine takeQ (i := 15) (gt rfl) (by kernel_rfl) (fun _ _ _ h => h) (by rfl) (by intro wq _; go_simp <;> with_reducible rfl) (by assumption) ?_
       try simp only [Act.put, sA, sB, sC]
       refine wpAnyH_ready (rs := [16]) (by kernel_rfl) (by simp) (AllReadyH.cons (gt rfl) (fun K hK => ?_) AllReadyH.nil)
       have z0 := kP.c0
       have z1 := kP.c1
       have z2 := kP.c2
       have z3 := kP.c3
       have zf := kP.fr
       go_simp
       clear z0 z1 z2 z3 zf
       replace N := Box4.chain N kP (.bool f1) (.slice a1 z1.length c1) (.bool f2) (.slice b1 t1.length e1)
       replace kQ := kQ.old ne_kQ_kP (.bool f1) (.slice a1 z1.length c1) (.bool f2) (.slice b1 t1.length e1)
       replace o1 := o1.put4 r_kP_o1 (.bool f1) (.slice a1 z1.length c1) (.bool f2) (.slice b1 t1.length e1)
       replace o2 := o2.put4 r_kP_o2 (.bool f1) (.slice a1 z1.length c1) (.bool f2) (.slice b1 t1.length e1)
       replace o3 := o3.put4 r_kP_o3 (.bool f1) (.slice a1 z1.length c1) (.bool f2) (.slice b1 t1.length e1)
       replace o4 := o4.put4 r_kP_o4 (.bool f1) (.slice a1 z1.length c1) (.bool f2) (.slice b1 t1.length e1)
       replace kP := kP.put (.bool f1) (.slice a1 z1.length c1) (.bool f2) (.slice b1 t1.length e1)
       refine hK.out _ _ N (fun hHeld => ?_)
       clear hK K
       try simp only [Act.put, sA, sB, sC]
       refine wpAnyH_ready (rs := [17]) (by kernel_rfl) (by simp) (AllReadyH.cons (gt rfl) (fun K hK => ?_) AllReadyH.nil)
       have z0 := kQ.c0
       have z1 := kQ.c1
       have z2 := kQ.c2
       have z3 := kQ.c3
       have zf := kQ.fr
       go_simp
       clear z0 z1 z2 z3 zf
       replace N := Box4.chain N kQ (.bool f3) (.slice a2 z2.length c2) (.bool f4) (.slice b2 t2.length e2)
       replace kP := kP.old ne_kP_kQ (.bool f3) (.slice a2 z2.length c2) (.bool f4) (.slice b2 t2.length e2)
       replace o1 := o1.put4 r_kQ_o1 (.bool f3) (.slice a2 z2.length c2) (.bool f4) (.slice b2 t2.length e2)
       replace o2 := o2.put4 r_kQ_o2 (.bool f3) (.slice a2 z2.length c2) (.bool f4) (.slice b2 t2.length e2)
       replace o3 := o3.put4 r_kQ_o3 (.bool f3) (.slice a2 z2.length c2) (.bool f4) (.slice b2 t2.length e2)
       replace o4 := o4.put4 r_kQ_o4 (.bool f3) (.slice a2 z2.length c2) (.bool f4) (.slice b2 t2.length e2)
       replace kQ := kQ.put (.bool f3) (.slice a2 z2.length c2) (.bool f4) (.slice b2 t2.length e2)
       refine hK.out _ _ N (fun hHeld => ?_)
       clear hK K
       try simp only [Act.put, sA, sB, sC]
       refine wpAnyH_done (by kernel_rfl) ?_ _
       go_wp2
       go_meet
       case rel => exact ⟨_, _, a1, c1, b1, e1, a2, c2, b2, e2, rfl, rfl, rfl, kP, kQ, ⟨o1.base_le bs, o2.base_le bs, o3.base_le bs, o4.base_le bs⟩, ap, ⟨⟨r_kP_o1, r_kP_o2, r_kP_o3, r_kP_o4⟩, ⟨r_kQ_o1, r_kQ_o2, r_kQ_o3, r_kQ_o4⟩⟩, N⟩
     · go_simp
       have kP := Box4.new V N.size (.bool false) (.slice none 0 0) (.bool false) (.slice none 0 0) 28
       have hb := below1 V (.cells #[.bool false, .slice none 0 0, .bool false, .slice none 0 0] 28)
       have g_q := Nat.ne_of_lt kQ.lt
       replace kQ := kQ.below hb
       replace N := N.trans (hb.mono N.size)
       refine hK.out _ _ N (fun hHeld => ?_)
       clear hK K
       try simp only [Act.put, sA, sB, sC]
       rw [← hwp]
       exact met (H4_pq _ q _ kP kQ g_q.symm N) (by kernel_rfl)
    have H4_ : ∀ (V : World), Below W0.heap.size W0 V → wp 10 #[true, true, true, true, true, true, true, true, false, false, false, false, false, false, false, false, false, false] ⟨#[.agg #[.int .i64 x1, .int .i64 y1], .agg #[.int .i64 x2, .int .i64 y2], .agg #[.int .i64 x3, .int .i64 y3], .agg #[.int .i64 x4, .int .i64 y4], .pointer (some ⟨w.heap.size, 0, none⟩), .pointer (some ⟨w.heap.size + 1, 0, none⟩), .pointer (some ⟨w.heap.size + 1 + 1, 0, none⟩), .pointer (some ⟨w.heap.size + 1 + 1 + 1, 0, none⟩), .bool false, undef, undef, undef, undef, undef, undef, undef, undef, undef, undef, undef, undef, .agg #[.int .i64 x1, .int .i64 y1], .agg #[.int .i64 x1, .int .i64 y1], .agg #[.int .i64 x2, .int .i64 y2], .agg #[.int .i64 x2, .int .i64 y2], .agg #[.int .i64 x3, .int .i64 y3], .agg #[.int .i64 x3, .int .i64 y3], .agg #[.int .i64 x4, .int .i64 y4], .agg #[.int .i64 x4, .int .i64 y4], undef, undef, undef, undef, undef, undef, undef, undef, undef, undef, undef, undef, undef, undef, undef, undef, undef, undef, undef, undef, undef, undef, undef, undef, undef, undef, undef, undef, undef, undef, undef, undef, undef, undef, undef, undef, undef, undef, undef, undef, undef, undef, undef, undef, undef, undef, undef, undef, undef, undef, undef, undef, undef, undef, undef, undef, undef, undef, undef, undef, undef, undef, undef, undef, undef, undef, undef, undef, undef, undef, undef, undef, undef, undef, undef, undef, undef, undef, undef, undef, undef, undef, undef, undef, undef, undef, undef, undef, undef, undef, undef, undef], []⟩ V := by
     skip
     intro V N
     have hHeld : Below W0.heap.size W0 V := N
     rw [hwp]
     refine wpAnyH_ready (rs := [8, 13, 14]) (by kernel_rfl) (by simp) (AllReadyH.cons (gt rfl) (fun K hK => ?_) (AllReadyH.cons (gt rfl) (fun K hK => ?_) (AllReadyH.cons (gt rfl) (fun K hK => ?_) AllReadyH.nil)))
     · go_simp
       refine (specCross x1 y1 x2 y2 x3 y3 x4 y4 _ kk n1 d1 n2 d2 HC.out).mono ?_
       rintro ee ww12 ⟨u1, u2, rfl, TF, hb⟩
       obtain ⟨a1, c1, b1, e1, a2, c2, b2, e2, rfl, rfl, o1, o2, o3, o4, ap⟩ := TF.as HV.out
       rw [F1.out, F2.out, F3.out, F4.out]
       have bs := N.size
       clear TF
       replace N := N.trans (hb.mono N.size)
       clear hb
       refine hK.out _ _ N (fun hHeld => ?_)
       clear hK K
       try simp only [Act.put, sA, sB, sC]
       refine takeQ (i := 9) (gt rfl) (by kernel_rfl) (fun _ _ _ h => h) (by rfl) (by intro wq _; go_simp <;> with_reducible rfl) (by assumption) ?_
       try simp only [Act.put, sA, sB, sC]
       refine takeQ (i := 10) (gt rfl) (by kernel_rfl) (fun _ _ _ h => h) (by rfl) (by intro wq _; go_simp <;> with_reducible rfl) (by assumption) ?_
       try simp only [Act.put, sA, sB, sC]
       refine takeQ (i := 11) (gt rfl) (by kernel_rfl) (fun _ _ _ h => h) (by rfl) (by intro wq _; go_simp <;> with_reducible rfl) (by assumption) ?_
       try simp only [Act.put, sA, sB, sC]
       refine takeQ (i := 12) (gt rfl) (by kernel_rfl) (fun _ _ _ h => h) (by rfl) (by intro wq _; go_simp <;> with_reducible rfl) (by assumption) ?_
       try simp only [Act.put, sA, sB, sC]
       refine wpAnyH_ready (rs := [13, 14]) (by kernel_rfl) (by simp) (AllReadyH.cons (gt rfl) (fun K hK => ?_) (AllReadyH.cons (gt rfl) (fun K hK => ?_) AllReadyH.nil))
       · skip
         go_simp
         have kP := Box4.new ww12 N.size (.bool false) (.slice none 0 0) (.bool false) (.slice none 0 0) 28
         have hb := below1 ww12 (.cells #[.bool false, .slice none 0 0, .bool false, .slice none 0 0] 28)
         have r_kP_o1 := row_ne_high o1.toCame (Nat.le_refl _)
         have r_kP_o2 := row_ne_high o2.toCame (Nat.le_refl _)
         have r_kP_o3 := row_ne_high o3.toCame (Nat.le_refl _)
         have r_kP_o4 := row_ne_high o4.toCame (Nat.le_refl _)
         replace o1 := o1.below hb
         replace o2 := o2.below hb
         replace o3 := o3.below hb
         replace o4 := o4.below hb
         replace N := N.trans (hb.mono N.size)
         clear hb
         generalize ww12.alloc (.cells #[.bool false, .slice none 0 0, .bool false, .slice none 0 0] 28) = ww13 at *
         refine hK.out _ _ N (fun hHeld => ?_)
         clear hK K
         try simp only [Act.put, sA, sB, sC]
         refine wpAnyH_ready (rs := [14]) (by kernel_rfl) (by simp) (AllReadyH.cons (gt rfl) (fun K hK => ?_) AllReadyH.nil)
         go_simp
         have kQ := Box4.new ww13 N.size (.bool false) (.slice none 0 0) (.bool false) (.slice none 0 0) 28
         have hb := below1 ww13 (.cells #[.bool false, .slice none 0 0, .bool false, .slice none 0 0] 28)
         have r_kQ_o1 := row_ne_high o1.toCame (Nat.le_refl _)
         have r_kQ_o2 := row_ne_high o2.toCame (Nat.le_refl _)
         have r_kQ_o3 := row_ne_high o3.toCame (Nat.le_refl _)
         have r_kQ_o4 := row_ne_high o4.toCame (Nat.le_refl _)
         have ne_kQ_kP := Nat.ne_of_gt kP.lt
         have ne_kP_kQ := ne_kQ_kP.symm
         replace kP := kP.below hb
         replace o1 := o1.below hb
         replace o2 := o2.below hb
         replace o3 := o3.below hb
         replace o4 := o4.below hb
         replace N := N.trans (hb.mono N.size)
         clear hb
         generalize ww13.alloc (.cells #[.bool false, .slice none 0 0, .bool false, .slice none 0 0] 28) = ww14 at *
         refine hK.out _ _ N (fun hHeld => ?_)
         clear hK K
         try simp only [Act.put, sA, sB, sC]
         refine takeQ (i := 15) (gt rfl) (by kernel_rfl) (fun _ _ _ h => h) (by rfl) (by intro wq _; go_simp <;> with_reducible rfl) (by assumption) ?_
         try simp only [Act.put, sA, sB, sC]
         refine wpAnyH_ready (rs := [16]) (by kernel_rfl) (by simp) (AllReadyH.cons (gt rfl) (fun K hK => ?_) AllReadyH.nil)
         have z0 := kP.c0
         have z1 := kP.c1
         have z2 := kP.c2
         have z3 := kP.c3
         have zf := kP.fr
         go_simp
         clear z0 z1 z2 z3 zf
         replace N := Box4.chain N kP (.bool f1) (.slice a1 z1.length c1) (.bool f2) (.slice b1 t1.length e1)
         replace kQ := kQ.old ne_kQ_kP (.bool f1) (.slice a1 z1.length c1) (.bool f2) (.slice b1 t1.length e1)
         replace o1 := o1.put4 r_kP_o1 (.bool f1) (.slice a1 z1.length c1) (.bool f2) (.slice b1 t1.length e1)
         replace o2 := o2.put4 r_kP_o2 (.bool f1) (.slice a1 z1.length c1) (.bool f2) (.slice b1 t1.length e1)
         replace o3 := o3.put4 r_kP_o3 (.bool f1) (.slice a1 z1.length c1) (.bool f2) (.slice b1 t1.length e1)
         replace o4 := o4.put4 r_kP_o4 (.bool f1) (.slice a1 z1.length c1) (.bool f2) (.slice b1 t1.length e1)
         replace kP := kP.put (.bool f1) (.slice a1 z1.length c1) (.bool f2) (.slice b1 t1.length e1)
         refine hK.out _ _ N (fun hHeld => ?_)
         clear hK K
         try simp only [Act.put, sA, sB, sC]
         refine wpAnyH_ready (rs := [17]) (by kernel_rfl) (by simp) (AllReadyH.cons (gt rfl) (fun K hK => ?_) AllReadyH.nil)
         have z0 := kQ.c0
         have z1 := kQ.c1
         have z2 := kQ.c2
         have z3 := kQ.c3
         have zf := kQ.fr
         go_simp
         clear z0 z1 z2 z3 zf
         replace N := Box4.chain N kQ (.bool f3) (.slice a2 z2.length c2) (.bool f4) (.slice b2 t2.length e2)
         replace kP := kP.old ne_kP_kQ (.bool f3) (.slice a2 z2.length c2) (.bool f4) (.slice b2 t2.length e2)
         replace o1 := o1.put4 r_kQ_o1 (.bool f3) (.slice a2 z2.length c2) (.bool f4) (.slice b2 t2.length e2)
         replace o2 := o2.put4 r_kQ_o2 (.bool f3) (.slice a2 z2.length c2) (.bool f4) (.slice b2 t2.length e2)
         replace o3 := o3.put4 r_kQ_o3 (.bool f3) (.slice a2 z2.length c2) (.bool f4) (.slice b2 t2.length e2)
         replace o4 := o4.put4 r_kQ_o4 (.bool f3) (.slice a2 z2.length c2) (.bool f4) (.slice b2 t2.length e2)
         replace kQ := kQ.put (.bool f3) (.slice a2 z2.length c2) (.bool f4) (.slice b2 t2.length e2)
         refine hK.out _ _ N (fun hHeld => ?_)
         clear hK K
         try simp only [Act.put, sA, sB, sC]
         refine wpAnyH_done (by kernel_rfl) ?_ _
         go_wp2
         go_meet
         case rel => exact ⟨_, _, a1, c1, b1, e1, a2, c2, b2, e2, rfl, rfl, rfl, kP, kQ, ⟨o1.base_le bs, o2.base_le bs, o3.base_le bs, o4.base_le bs⟩, ap, ⟨⟨r_kP_o1, r_kP_o2, r_kP_o3, r_kP_o4⟩, ⟨r_kQ_o1, r_kQ_o2, r_kQ_o3, r_kQ_o4⟩⟩, N⟩
       · skip
         go_simp
         have kQ := Box4.new ww12 N.size (.bool false) (.slice none 0 0) (.bool false) (.slice none 0 0) 28
         have hb := below1 ww12 (.cells #[.bool false, .slice none 0 0, .bool false, .slice none 0 0] 28)
         have r_kQ_o1 := row_ne_high o1.toCame (Nat.le_refl _)
         have r_kQ_o2 := row_ne_high o2.toCame (Nat.le_refl _)
         have r_kQ_o3 := row_ne_high o3.toCame (Nat.le_refl _)
         have r_kQ_o4 := row_ne_high o4.toCame (Nat.le_refl _)
         replace o1 := o1.below hb
         replace o2 := o2.below hb
         replace o3 := o3.below hb
         replace o4 := o4.below hb
         replace N := N.trans (hb.mono N.size)
         clear hb
         generalize ww12.alloc (.cells #[.bool false, .slice none 0 0, .bool false, .slice none 0 0] 28) = ww17 at *
         refine hK.out _ _ N (fun hHeld => ?_)
         clear hK K
         try simp only [Act.put, sA, sB, sC]
         refine wpAnyH_ready (rs := [13]) (by kernel_rfl) (by simp) (AllReadyH.cons (gt rfl) (fun K hK => ?_) AllReadyH.nil)
         go_simp
         have kP := Box4.new ww17 N.size (.bool false) (.slice none 0 0) (.bool false) (.slice none 0 0) 28
         have hb := below1 ww17 (.cells #[.bool false, .slice none 0 0, .bool false, .slice none 0 0] 28)
         have r_kP_o1 := row_ne_high o1.toCame (Nat.le_refl _)
         have r_kP_o2 := row_ne_high o2.toCame (Nat.le_refl _)
         have r_kP_o3 := row_ne_high o3.toCame (Nat.le_refl _)
         have r_kP_o4 := row_ne_high o4.toCame (Nat.le_refl _)
         have ne_kP_kQ := Nat.ne_of_gt kQ.lt
         have ne_kQ_kP := ne_kP_kQ.symm
         replace kQ := kQ.below hb
         replace o1 := o1.below hb
         replace o2 := o2.below hb
         replace o3 := o3.below hb
         replace o4 := o4.below hb
         replace N := N.trans (hb.mono N.size)
         clear hb
         generalize ww17.alloc (.cells #[.bool false, .slice none 0 0, .bool false, .slice none 0 0] 28) = ww18 at *
         refine hK.out _ _ N (fun hHeld => ?_)
         clear hK K
         try simp only [Act.put, sA, sB, sC]
         refine takeQ (i := 15) (gt rfl) (by kernel_rfl) (fun _ _ _ h => h) (by rfl) (by intro wq _; go_simp <;> with_reducible rfl) (by assumption) ?_
         try simp only [Act.put, sA, sB, sC]
         refine wpAnyH_ready (rs := [16]) (by kernel_rfl) (by simp) (AllReadyH.cons (gt rfl) (fun K hK => ?_) AllReadyH.nil)
         have z0 := kP.c0
         have z1 := kP.c1
         have z2 := kP.c2
         have z3 := kP.c3
         have zf := kP.fr
         go_simp
         clear z0 z1 z2 z3 zf
         replace N := Box4.chain N kP (.bool f1) (.slice a1 z1.length c1) (.bool f2) (.slice b1 t1.length e1)
         replace kQ := kQ.old ne_kQ_kP (.bool f1) (.slice a1 z1.length c1) (.bool f2) (.slice b1 t1.length e1)
         replace o1 := o1.put4 r_kP_o1 (.bool f1) (.slice a1 z1.length c1) (.bool f2) (.slice b1 t1.length e1)
         replace o2 := o2.put4 r_kP_o2 (.bool f1) (.slice a1 z1.length c1) (.bool f2) (.slice b1 t1.length e1)
         replace o3 := o3.put4 r_kP_o3 (.bool f1) (.slice a1 z1.length c1) (.bool f2) (.slice b1 t1.length e1)
         replace o4 := o4.put4 r_kP_o4 (.bool f1) (.slice a1 z1.length c1) (.bool f2) (.slice b1 t1.length e1)
         replace kP := kP.put (.bool f1) (.slice a1 z1.length c1) (.bool f2) (.slice b1 t1.length e1)
         refine hK.out _ _ N (fun hHeld => ?_)
         clear hK K
         try simp only [Act.put, sA, sB, sC]
         refine wpAnyH_ready (rs := [17]) (by kernel_rfl) (by simp) (AllReadyH.cons (gt rfl) (fun K hK => ?_) AllReadyH.nil)
         have z0 := kQ.c0
         have z1 := kQ.c1
         have z2 := kQ.c2
         have z3 := kQ.c3
         have zf := kQ.fr
         go_simp
         clear z0 z1 z2 z3 zf
         replace N := Box4.chain N kQ (.bool f3) (.slice a2 z2.length c2) (.bool f4) (.slice b2 t2.length e2)
         replace kP := kP.old ne_kP_kQ (.bool f3) (.slice a2 z2.length c2) (.bool f4) (.slice b2 t2.length e2)
         replace o1 := o1.put4 r_kQ_o1 (.bool f3) (.slice a2 z2.length c2) (.bool f4) (.slice b2 t2.length e2)
         replace o2 := o2.put4 r_kQ_o2 (.bool f3) (.slice a2 z2.length c2) (.bool f4) (.slice b2 t2.length e2)
         replace o3 := o3.put4 r_kQ_o3 (.bool f3) (.slice a2 z2.length c2) (.bool f4) (.slice b2 t2.length e2)
         replace o4 := o4.put4 r_kQ_o4 (.bool f3) (.slice a2 z2.length c2) (.bool f4) (.slice b2 t2.length e2)
         replace kQ := kQ.put (.bool f3) (.slice a2 z2.length c2) (.bool f4) (.slice b2 t2.length e2)
         refine hK.out _ _ N (fun hHeld => ?_)
         clear hK K
         try simp only [Act.put, sA, sB, sC]
         refine wpAnyH_done (by kernel_rfl) ?_ _
         go_wp2
         go_meet
         case rel => exact ⟨_, _, a1, c1, b1, e1, a2, c2, b2, e2, rfl, rfl, rfl, kP, kQ, ⟨o1.base_le bs, o2.base_le bs, o3.base_le bs, o4.base_le bs⟩, ap, ⟨⟨r_kP_o1, r_kP_o2, r_kP_o3, r_kP_o4⟩, ⟨r_kQ_o1, r_kQ_o2, r_kQ_o3, r_kQ_o4⟩⟩, N⟩
     · go_simp
       have kP := Box4.new V N.size (.bool false) (.slice none 0 0) (.bool false) (.slice none 0 0) 28
       have hb := below1 V (.cells #[.bool false, .slice none 0 0, .bool false, .slice none 0 0] 28)
       replace N := N.trans (hb.mono N.size)
       refine hK.out _ _ N (fun hHeld => ?_)
       clear hK K
       try simp only [Act.put, sA, sB, sC]
       rw [← hwp]
       exact met (H4_p _ _ kP N) (by kernel_rfl)
     · go_simp
       have kQ := Box4.new V N.size (.bool false) (.slice none 0 0) (.bool false) (.slice none 0 0) 28
       have hb := below1 V (.cells #[.bool false, .slice none 0 0, .bool false, .slice none 0 0] 28)
       replace N := N.trans (hb.mono N.size)
       refine hK.out _ _ N (fun hHeld => ?_)
       clear hK K
       try simp only [Act.put, sA, sB, sC]
       rw [← hwp]
       exact met (H4_q _ _ kQ N) (by kernel_rfl)
    have H3_pq : ∀ (p q : Nat) (V : World), Box4 W0.heap.size V p (.bool false) (.slice none 0 0) (.bool false) (.slice none 0 0) → Box4 W0.heap.size V q (.bool false) (.slice none 0 0) (.bool false) (.slice none 0 0) → p ≠ q → Below W0.heap.size W0 V → wp 9 #[true, true, true, true, true, true, true, false, false, false, false, false, false, true, true, false, false, false] ⟨#[.agg #[.int .i64 x1, .int .i64 y1], .agg #[.int .i64 x2, .int .i64 y2], .agg #[.int .i64 x3, .int .i64 y3], .agg #[.int .i64 x4, .int .i64 y4], .pointer (some ⟨w.heap.size, 0, none⟩), .pointer (some ⟨w.heap.size + 1, 0, none⟩), .pointer (some ⟨w.heap.size + 1 + 1, 0, none⟩), .pointer (some ⟨w.heap.size + 1 + 1 + 1, 0, none⟩), .bool false, undef, .pointer (some ⟨p, 0, none⟩), .pointer (some ⟨q, 0, none⟩), undef, undef, undef, undef, undef, undef, undef, undef, undef, .agg #[.int .i64 x1, .int .i64 y1], .agg #[.int .i64 x1, .int .i64 y1], .agg #[.int .i64 x2, .int .i64 y2], .agg #[.int .i64 x2, .int .i64 y2], .agg #[.int .i64 x3, .int .i64 y3], .agg #[.int .i64 x3, .int .i64 y3], .agg #[.int .i64 x4, .int .i64 y4], undef, undef, undef, undef, undef, undef, undef, undef, undef, undef, undef, undef, undef, undef, undef, undef, undef, undef, undef, undef, undef, undef, undef, undef, undef, undef, undef, undef, undef, undef, undef, undef, undef, undef, undef, undef, undef, undef, undef, undef, undef, undef, undef, undef, undef, undef, undef, undef, undef, undef, undef, undef, undef, undef, undef, undef, undef, undef, undef, undef, undef, undef, undef, undef, undef, undef, undef, undef, undef, undef, undef, undef, undef, undef, undef, undef, undef, undef, undef, undef, undef, undef, undef, undef, undef, undef, undef, undef, undef, undef, undef, undef, undef], []⟩ V := by
     as_aux_lemma =>
      intro p q V kP kQ n_pq N
      have hHeld : Below W0.heap.size W0 V := N
      rw [hwp]
      refine wpAnyH_ready (rs := [7]) (by kernel_rfl) (by simp) (AllReadyH.cons (gt rfl) (fun K hK => ?_) AllReadyH.nil)
      · go_simp
        refine (toPt_any x4 y4 _).mono ?_
        rintro ee V' ⟨rfl, hb⟩
        replace kP := kP.below hb
        replace kQ := kQ.below hb
        replace N := N.trans (hb.mono N.size)
        refine hK.out _ _ N (fun hHeld => ?_)
        clear hK K
        try simp only [Act.put, sA, sB, sC]
        rw [← hwp]
        exact met (H4_pq p q _ kP kQ n_pq N) (by kernel_rfl)
    have H3_p : ∀ (p : Nat) (V : World), Box4 W0.heap.size V p (.bool false) (.slice none 0 0) (.bool false) (.slice none 0 0) → Below W0.heap.size W0 V → wp 10 #[true, true, true, true, true, true, true, false, false, false, false, false, false, true, false, false, false, false] ⟨#[.agg #[.int .i64 x1, .int .i64 y1], .agg #[.int .i64 x2, .int .i64 y2], .agg #[.int .i64 x3, .int .i64 y3], .agg #[.int .i64 x4, .int .i64 y4], .pointer (some ⟨w.heap.size, 0, none⟩), .pointer (some ⟨w.heap.size + 1, 0, none⟩), .pointer (some ⟨w.heap.size + 1 + 1, 0, none⟩), .pointer (some ⟨w.heap.size + 1 + 1 + 1, 0, none⟩), .bool false, undef, .pointer (some ⟨p, 0, none⟩), undef, undef, undef, undef, undef, undef, undef, undef, undef, undef, .agg #[.int .i64 x1, .int .i64 y1], .agg #[.int .i64 x1, .int .i64 y1], .agg #[.int .i64 x2, .int .i64 y2], .agg #[.int .i64 x2, .int .i64 y2], .agg #[.int .i64 x3, .int .i64 y3], .agg #[.int .i64 x3, .int .i64 y3], .agg #[.int .i64 x4, .int .i64 y4], undef, undef, undef, undef, undef, undef, undef, undef, undef, undef, undef, undef, undef, undef, undef, undef, undef, undef, undef, undef, undef, undef, undef, undef, undef, undef, undef, undef, undef, undef, undef, undef, undef, undef, undef, undef, undef, undef, undef, undef, undef, undef, undef, undef, undef, undef, undef, undef, undef, undef, undef, undef, undef, undef, undef, undef, undef, undef, undef, undef, undef, undef, undef, undef, undef, undef, undef, undef, undef, undef, undef, undef, undef, undef, undef, undef, undef, undef, undef, undef, undef, undef, undef, undef, undef, undef, undef, undef, undef, undef, undef, undef, undef], []⟩ V := by
     as_aux_lemma =>
      intro p V kP N
      have hHeld : Below W0.heap.size W0 V := N
      rw [hwp]
      refine wpAnyH_ready (rs := [7, 14]) (by kernel_rfl) (by simp) (AllReadyH.cons (gt rfl) (fun K hK => ?_) (AllReadyH.cons (gt rfl) (fun K hK => ?_) AllReadyH.nil))
      · go_simp
        refine (toPt_any x4 y4 _).mono ?_
        rintro ee V' ⟨rfl, hb⟩
        replace kP := kP.below hb
        replace N := N.trans (hb.mono N.size)
        refine hK.out _ _ N (fun hHeld => ?_)
        clear hK K
        try simp only [Act.put, sA, sB, sC]
        rw [← hwp]
        exact met (H4_p p _ kP N) (by kernel_rfl)
      · go_simp
        have kQ := Box4.new V N.size (.bool false) (.slice none 0 0) (.bool false) (.slice none 0 0) 28
        have hb := below1 V (.cells #[.bool false, .slice none 0 0, .bool false, .slice none 0 0] 28)
        have g_p := Nat.ne_of_lt kP.lt
        replace kP := kP.below hb
        replace N := N.trans (hb.mono N.size)
        refine hK.out _ _ N (fun hHeld => ?_)
        clear hK K
        try simp only [Act.put, sA, sB, sC]
        rw [← hwp]
        exact met (H3_pq p _ _ kP kQ g_p N) (by kernel_rfl)
    have H3_q : ∀ (q : Nat) (V : World), Box4 W0.heap.size V q (.bool false) (.slice none 0 0) (.bool false) (.slice none 0 0) → Below W0.heap.size W0 V → wp 10 #[true, true, true, true, true, true, true, false, false, false, false, false, false, false, true, false, false, false] ⟨#[.agg #[.int .i64 x1, .int .i64 y1], .agg #[.int .i64 x2, .int .i64 y2], .agg #[.int .i64 x3, .int .i64 y3], .agg #[.int .i64 x4, .int .i64 y4], .pointer (some ⟨w.heap.size, 0, none⟩), .pointer (some ⟨w.heap.size + 1, 0, none⟩), .pointer (some ⟨w.heap.size + 1 + 1, 0, none⟩), .pointer (some ⟨w.heap.size + 1 + 1 + 1, 0, none⟩), .bool false, undef, undef, .pointer (some ⟨q, 0, none⟩), undef, undef, undef, undef, undef, undef, undef, undef, undef, .agg #[.int .i64 x1, .int .i64 y1], .agg #[.int .i64 x1, .int .i64 y1], .agg #[.int .i64 x2, .int .i64 y2], .agg #[.int .i64 x2, .int .i64 y2], .agg #[.int .i64 x3, .int .i64 y3], .agg #[.int .i64 x3, .int .i64 y3], .agg #[.int .i64 x4, .int .i64 y4], undef, undef, undef, undef, undef, undef, undef, undef, undef, undef, undef, undef, undef, undef, undef, undef, undef, undef, undef, undef, undef, undef, undef, undef, undef, undef, undef, undef, undef, undef, undef, undef, undef, undef, undef, undef, undef, undef, undef, undef, undef, undef, undef, undef, undef, undef, undef, undef, undef, undef, undef, undef, undef, undef, undef, undef, undef, undef, undef, undef, undef, undef, undef, undef, undef, undef, undef, undef, undef, undef, undef, undef, undef, undef, undef, undef, undef, undef, undef, undef, undef, undef, undef, undef, undef, undef, undef, undef, undef, undef, undef, undef, undef], []⟩ V := by
     as_aux_lemma =>
      intro q V kQ N
      have hHeld : Below W0.heap.size W0 V := N
      rw [hwp]
      refine wpAnyH_ready (rs := [7, 13]) (by kernel_rfl) (by simp) (AllReadyH.cons (gt rfl) (fun K hK => ?_) (AllReadyH.cons (gt rfl) (fun K hK => ?_) AllReadyH.nil))
      · go_simp
        refine (toPt_any x4 y4 _).mono ?_
        rintro ee V' ⟨rfl, hb⟩
        replace kQ := kQ.below hb
        replace N := N.trans (hb.mono N.size)
        refine hK.out _ _ N (fun hHeld => ?_)
        clear hK K
        try simp only [Act.put, sA, sB, sC]
        rw [← hwp]
        exact met (H4_q q _ kQ N) (by kernel_rfl)
      · go_simp
        have kP := Box4.new V N.size (.bool false) (.slice none 0 0) (.bool false) (.slice none 0 0) 28
        have hb := below1 V (.cells #[.bool false, .slice none 0 0, .bool false, .slice none 0 0] 28)
        have g_q := Nat.ne_of_lt kQ.lt
        replace kQ := kQ.below hb
        replace N := N.trans (hb.mono N.size)
        refine hK.out _ _ N (fun hHeld => ?_)
        clear hK K
        try simp only [Act.put, sA, sB, sC]
        rw [← hwp]
        exact met (H3_pq _ q _ kP kQ g_q.symm N) (by kernel_rfl)
    have H3_ : ∀ (V : World), Below W0.heap.size W0 V → wp 11 #[true, true, true, true, true, true, true, false, false, false, false, false, false, false, false, false, false, false] ⟨#[.agg #[.int .i64 x1, .int .i64 y1], .agg #[.int .i64 x2, .int .i64 y2], .agg #[.int .i64 x3, .int .i64 y3], .agg #[.int .i64 x4, .int .i64 y4], .pointer (some ⟨w.heap.size, 0, none⟩), .pointer (some ⟨w.heap.size + 1, 0, none⟩), .pointer (some ⟨w.heap.size + 1 + 1, 0, none⟩), .pointer (some ⟨w.heap.size + 1 + 1 + 1, 0, none⟩), .bool false, undef, undef, undef, undef, undef, undef, undef, undef, undef, undef, undef, undef, .agg #[.int .i64 x1, .int .i64 y1], .agg #[.int .i64 x1, .int .i64 y1], .agg #[.int .i64 x2, .int .i64 y2], .agg #[.int .i64 x2, .int .i64 y2], .agg #[.int .i64 x3, .int .i64 y3], .agg #[.int .i64 x3, .int .i64 y3], .agg #[.int .i64 x4, .int .i64 y4], undef, undef, undef, undef, undef, undef, undef, undef, undef, undef, undef, undef, undef, undef, undef, undef, undef, undef, undef, undef, undef, undef, undef, undef, undef, undef, undef, undef, undef, undef, undef, undef, undef, undef, undef, undef, undef, undef, undef, undef, undef, undef, undef, undef, undef, undef, undef, undef, undef, undef, undef, undef, undef, undef, undef, undef, undef, undef, undef, undef, undef, undef, undef, undef, undef, undef, undef, undef, undef, undef, undef, undef, undef, undef, undef, undef, undef, undef, undef, undef, undef, undef, undef, undef, undef, undef, undef, undef, undef, undef, undef, undef, undef], []⟩ V := by
     as_aux_lemma =>
      intro V N
      have hHeld : Below W0.heap.size W0 V := N
      rw [hwp]
      refine wpAnyH_ready (rs := [7, 13, 14]) (by kernel_rfl) (by simp) (AllReadyH.cons (gt rfl) (fun K hK => ?_) (AllReadyH.cons (gt rfl) (fun K hK => ?_) (AllReadyH.cons (gt rfl) (fun K hK => ?_) AllReadyH.nil)))
      · go_simp
        refine (toPt_any x4 y4 _).mono ?_
        rintro ee V' ⟨rfl, hb⟩
        replace N := N.trans (hb.mono N.size)
        refine hK.out _ _ N (fun hHeld => ?_)
        clear hK K
        try simp only [Act.put, sA, sB, sC]
        rw [← hwp]
        exact met (H4_ _ N) (by kernel_rfl)
      · go_simp
        have kP := Box4.new V N.size (.bool false) (.slice none 0 0) (.bool false) (.slice none 0 0) 28
        have hb := below1 V (.cells #[.bool false, .slice none 0 0, .bool false, .slice none 0 0] 28)
        replace N := N.trans (hb.mono N.size)
        refine hK.out _ _ N (fun hHeld => ?_)
        clear hK K
        try simp only [Act.put, sA, sB, sC]
        rw [← hwp]
        exact met (H3_p _ _ kP N) (by kernel_rfl)
      · go_simp
        have kQ := Box4.new V N.size (.bool false) (.slice none 0 0) (.bool false) (.slice none 0 0) 28
        have hb := below1 V (.cells #[.bool false, .slice none 0 0, .bool false, .slice none 0 0] 28)
        replace N := N.trans (hb.mono N.size)
        refine hK.out _ _ N (fun hHeld => ?_)
        clear hK K
        try simp only [Act.put, sA, sB, sC]
        rw [← hwp]
        exact met (H3_q _ _ kQ N) (by kernel_rfl)
    have H2_pq : ∀ (p q : Nat) (V : World), Box4 W0.heap.size V p (.bool false) (.slice none 0 0) (.bool false) (.slice none 0 0) → Box4 W0.heap.size V q (.bool false) (.slice none 0 0) (.bool false) (.slice none 0 0) → p ≠ q → Below W0.heap.size W0 V → wp 10 #[true, true, true, true, true, false, true, false, false, false, false, false, false, true, true, false, false, false] ⟨#[.agg #[.int .i64 x1, .int .i64 y1], .agg #[.int .i64 x2, .int .i64 y2], .agg #[.int .i64 x3, .int .i64 y3], .agg #[.int .i64 x4, .int .i64 y4], .pointer (some ⟨w.heap.size, 0, none⟩), .pointer (some ⟨w.heap.size + 1, 0, none⟩), .pointer (some ⟨w.heap.size + 1 + 1, 0, none⟩), .pointer (some ⟨w.heap.size + 1 + 1 + 1, 0, none⟩), .bool false, undef, .pointer (some ⟨p, 0, none⟩), .pointer (some ⟨q, 0, none⟩), undef, undef, undef, undef, undef, undef, undef, undef, undef, .agg #[.int .i64 x1, .int .i64 y1], .agg #[.int .i64 x1, .int .i64 y1], .agg #[.int .i64 x2, .int .i64 y2], .agg #[.int .i64 x2, .int .i64 y2], .agg #[.int .i64 x3, .int .i64 y3], undef, .agg #[.int .i64 x4, .int .i64 y4], undef, undef, undef, undef, undef, undef, undef, undef, undef, undef, undef, undef, undef, undef, undef, undef, undef, undef, undef, undef, undef, undef, undef, undef, undef, undef, undef, undef, undef, undef, undef, undef, undef, undef, undef, undef, undef, undef, undef, undef, undef, undef, undef, undef, undef, undef, undef, undef, undef, undef, undef, undef, undef, undef, undef, undef, undef, undef, undef, undef, undef, undef, undef, undef, undef, undef, undef, undef, undef, undef, undef, undef, undef, undef, undef, undef, undef, undef, undef, undef, undef, undef, undef, undef, undef, undef, undef, undef, undef, undef, undef, undef, undef], []⟩ V := by
     as_aux_lemma =>
      intro p q V kP kQ n_pq N
      have hHeld : Below W0.heap.size W0 V := N
      rw [hwp]
      refine wpAnyH_ready (rs := [5]) (by kernel_rfl) (by simp) (AllReadyH.cons (gt rfl) (fun K hK => ?_) AllReadyH.nil)
      · go_simp
        refine (toPt_any x3 y3 _).mono ?_
        rintro ee V' ⟨rfl, hb⟩
        replace kP := kP.below hb
        replace kQ := kQ.below hb
        replace N := N.trans (hb.mono N.size)
        refine hK.out _ _ N (fun hHeld => ?_)
        clear hK K
        try simp only [Act.put, sA, sB, sC]
        rw [← hwp]
        exact met (H3_pq p q _ kP kQ n_pq N) (by kernel_rfl)
    have H2_p : ∀ (p : Nat) (V : World), Box4 W0.heap.size V p (.bool false) (.slice none 0 0) (.bool false) (.slice none 0 0) → Below W0.heap.size W0 V → wp 11 #[true, true, true, true, true, false, true, false, false, false, false, false, false, true, false, false, false, false] ⟨#[.agg #[.int .i64 x1, .int .i64 y1], .agg #[.int .i64 x2, .int .i64 y2], .agg #[.int .i64 x3, .int .i64 y3], .agg #[.int .i64 x4, .int .i64 y4], .pointer (some ⟨w.heap.size, 0, none⟩), .pointer (some ⟨w.heap.size + 1, 0, none⟩), .pointer (some ⟨w.heap.size + 1 + 1, 0, none⟩), .pointer (some ⟨w.heap.size + 1 + 1 + 1, 0, none⟩), .bool false, undef, .pointer (some ⟨p, 0, none⟩), undef, undef, undef, undef, undef, undef, undef, undef, undef, undef, .agg #[.int .i64 x1, .int .i64 y1], .agg #[.int .i64 x1, .int .i64 y1], .agg #[.int .i64 x2, .int .i64 y2], .agg #[.int .i64 x2, .int .i64 y2], .agg #[.int .i64 x3, .int .i64 y3], undef, .agg #[.int .i64 x4, .int .i64 y4], undef, undef, undef, undef, undef, undef, undef, undef, undef, undef, undef, undef, undef, undef, undef, undef, undef, undef, undef, undef, undef, undef, undef, undef, undef, undef, undef, undef, undef, undef, undef, undef, undef, undef, undef, undef, undef, undef, undef, undef, undef, undef, undef, undef, undef, undef, undef, undef, undef, undef, undef, undef, undef, undef, undef, undef, undef, undef, undef, undef, undef, undef, undef, undef, undef, undef, undef, undef, undef, undef, undef, undef, undef, undef, undef, undef, undef, undef, undef, undef, undef, undef, undef, undef, undef, undef, undef, undef, undef, undef, undef, undef, undef], []⟩ V := by
     as_aux_lemma =>
      intro p V kP N
      have hHeld : Below W0.heap.size W0 V := N
      rw [hwp]
      refine wpAnyH_ready (rs := [5, 14]) (by kernel_rfl) (by simp) (AllReadyH.cons (gt rfl) (fun K hK => ?_) (AllReadyH.cons (gt rfl) (fun K hK => ?_) AllReadyH.nil))
      · go_simp
        refine (toPt_any x3 y3 _).mono ?_
        rintro ee V' ⟨rfl, hb⟩
        replace kP := kP.below hb
        replace N := N.trans (hb.mono N.size)
        refine hK.out _ _ N (fun hHeld => ?_)
        clear hK K
        try simp only [Act.put, sA, sB, sC]
        rw [← hwp]
        exact met (H3_p p _ kP N) (by kernel_rfl)
      · go_simp
        have kQ := Box4.new V N.size (.bool false) (.slice none 0 0) (.bool false) (.slice none 0 0) 28
        have hb := below1 V (.cells #[.bool false, .slice none 0 0, .bool false, .slice none 0 0] 28)
        have g_p := Nat.ne_of_lt kP.lt
        replace kP := kP.below hb
        replace N := N.trans (hb.mono N.size)
        refine hK.out _ _ N (fun hHeld => ?_)
        clear hK K
        try simp only [Act.put, sA, sB, sC]
        rw [← hwp]
        exact met (H2_pq p _ _ kP kQ g_p N) (by kernel_rfl)
    have H2_q : ∀ (q : Nat) (V : World), Box4 W0.heap.size V q (.bool false) (.slice none 0 0) (.bool false) (.slice none 0 0) → Below W0.heap.size W0 V → wp 11 #[true, true, true, true, true, false, true, false, false, false, false, false, false, false, true, false, false, false] ⟨#[.agg #[.int .i64 x1, .int .i64 y1], .agg #[.int .i64 x2, .int .i64 y2], .agg #[.int .i64 x3, .int .i64 y3], .agg #[.int .i64 x4, .int .i64 y4], .pointer (some ⟨w.heap.size, 0, none⟩), .pointer (some ⟨w.heap.size + 1, 0, none⟩), .pointer (some ⟨w.heap.size + 1 + 1, 0, none⟩), .pointer (some ⟨w.heap.size + 1 + 1 + 1, 0, none⟩), .bool false, undef, undef, .pointer (some ⟨q, 0, none⟩), undef, undef, undef, undef, undef, undef, undef, undef, undef, .agg #[.int .i64 x1, .int .i64 y1], .agg #[.int .i64 x1, .int .i64 y1], .agg #[.int .i64 x2, .int .i64 y2], .agg #[.int .i64 x2, .int .i64 y2], .agg #[.int .i64 x3, .int .i64 y3], undef, .agg #[.int .i64 x4, .int .i64 y4], undef, undef, undef, undef, undef, undef, undef, undef, undef, undef, undef, undef, undef, undef, undef, undef, undef, undef, undef, undef, undef, undef, undef, undef, undef, undef, undef, undef, undef, undef, undef, undef, undef, undef, undef, undef, undef, undef, undef, undef, undef, undef, undef, undef, undef, undef, undef, undef, undef, undef, undef, undef, undef, undef, undef, undef, undef, undef, undef, undef, undef, undef, undef, undef, undef, undef, undef, undef, undef, undef, undef, undef, undef, undef, undef, undef, undef, undef, undef, undef, undef, undef, undef, undef, undef, undef, undef, undef, undef, undef, undef, undef, undef], []⟩ V := by
     as_aux_lemma =>
      intro q V kQ N
      have hHeld : Below W0.heap.size W0 V := N
      rw [hwp]
      refine wpAnyH_ready (rs := [5, 13]) (by kernel_rfl) (by simp) (AllReadyH.cons (gt rfl) (fun K hK => ?_) (AllReadyH.cons (gt rfl) (fun K hK => ?_) AllReadyH.nil))
      · go_simp
        refine (toPt_any x3 y3 _).mono ?_
        rintro ee V' ⟨rfl, hb⟩
        replace kQ := kQ.below hb
        replace N := N.trans (hb.mono N.size)
        refine hK.out _ _ N (fun hHeld => ?_)
        clear hK K
        try simp only [Act.put, sA, sB, sC]
        rw [← hwp]
        exact met (H3_q q _ kQ N) (by kernel_rfl)
      · go_simp
        have kP := Box4.new V N.size (.bool false) (.slice none 0 0) (.bool false) (.slice none 0 0) 28
        have hb := below1 V (.cells #[.bool false, .slice none 0 0, .bool false, .slice none 0 0] 28)
        have g_q := Nat.ne_of_lt kQ.lt
        replace kQ := kQ.below hb
        replace N := N.trans (hb.mono N.size)
        refine hK.out _ _ N (fun hHeld => ?_)
        clear hK K
        try simp only [Act.put, sA, sB, sC]
        rw [← hwp]
        exact met (H2_pq _ q _ kP kQ g_q.symm N) (by kernel_rfl)
    have H2_ : ∀ (V : World), Below W0.heap.size W0 V → wp 12 #[true, true, true, true, true, false, true, false, false, false, false, false, false, false, false, false, false, false] ⟨#[.agg #[.int .i64 x1, .int .i64 y1], .agg #[.int .i64 x2, .int .i64 y2], .agg #[.int .i64 x3, .int .i64 y3], .agg #[.int .i64 x4, .int .i64 y4], .pointer (some ⟨w.heap.size, 0, none⟩), .pointer (some ⟨w.heap.size + 1, 0, none⟩), .pointer (some ⟨w.heap.size + 1 + 1, 0, none⟩), .pointer (some ⟨w.heap.size + 1 + 1 + 1, 0, none⟩), .bool false, undef, undef, undef, undef, undef, undef, undef, undef, undef, undef, undef, undef, .agg #[.int .i64 x1, .int .i64 y1], .agg #[.int .i64 x1, .int .i64 y1], .agg #[.int .i64 x2, .int .i64 y2], .agg #[.int .i64 x2, .int .i64 y2], .agg #[.int .i64 x3, .int .i64 y3], undef, .agg #[.int .i64 x4, .int .i64 y4], undef, undef, undef, undef, undef, undef, undef, undef, undef, undef, undef, undef, undef, undef, undef, undef, undef, undef, undef, undef, undef, undef, undef, undef, undef, undef, undef, undef, undef, undef, undef, undef, undef, undef, undef, undef, undef, undef, undef, undef, undef, undef, undef, undef, undef, undef, undef, undef, undef, undef, undef, undef, undef, undef, undef, undef, undef, undef, undef, undef, undef, undef, undef, undef, undef, undef, undef, undef, undef, undef, undef, undef, undef, undef, undef, undef, undef, undef, undef, undef, undef, undef, undef, undef, undef, undef, undef, undef, undef, undef, undef, undef, undef], []⟩ V := by
     as_aux_lemma =>
      intro V N
      have hHeld : Below W0.heap.size W0 V := N
      rw [hwp]
      refine wpAnyH_ready (rs := [5, 13, 14]) (by kernel_rfl) (by simp) (AllReadyH.cons (gt rfl) (fun K hK => ?_) (AllReadyH.cons (gt rfl) (fun K hK => ?_) (AllReadyH.cons (gt rfl) (fun K hK => ?_) AllReadyH.nil)))
      · go_simp
        refine (toPt_any x3 y3 _).mono ?_
        rintro ee V' ⟨rfl, hb⟩
        replace N := N.trans (hb.mono N.size)
        refine hK.out _ _ N (fun hHeld => ?_)
        clear hK K
        try simp only [Act.put, sA, sB, sC]
        rw [← hwp]
        exact met (H3_ _ N) (by kernel_rfl)
      · go_simp
        have kP := Box4.new V N.size (.bool false) (.slice none 0 0) (.bool false) (.slice none 0 0) 28
        have hb := below1 V (.cells #[.bool false, .slice none 0 0, .bool false, .slice none 0 0] 28)
        replace N := N.trans (hb.mono N.size)
        refine hK.out _ _ N (fun hHeld => ?_)
        clear hK K
        try simp only [Act.put, sA, sB, sC]
        rw [← hwp]
        exact met (H2_p _ _ kP N) (by kernel_rfl)
      · go_simp
        have kQ := Box4.new V N.size (.bool false) (.slice none 0 0) (.bool false) (.slice none 0 0) 28
        have hb := below1 V (.cells #[.bool false, .slice none 0 0, .bool false, .slice none 0 0] 28)
        replace N := N.trans (hb.mono N.size)
        refine hK.out _ _ N (fun hHeld => ?_)
        clear hK K
        try simp only [Act.put, sA, sB, sC]
        rw [← hwp]
        exact met (H2_q _ _ kQ N) (by kernel_rfl)
    have H1_pq : ∀ (p q : Nat) (V : World), Box4 W0.heap.size V p (.bool false) (.slice none 0 0) (.bool false) (.slice none 0 0) → Box4 W0.heap.size V q (.bool false) (.slice none 0 0) (.bool false) (.slice none 0 0) → p ≠ q → Below W0.heap.size W0 V → wp 11 #[true, true, true, false, true, false, true, false, false, false, false, false, false, true, true, false, false, false] ⟨#[.agg #[.int .i64 x1, .int .i64 y1], .agg #[.int .i64 x2, .int .i64 y2], .agg #[.int .i64 x3, .int .i64 y3], .agg #[.int .i64 x4, .int .i64 y4], .pointer (some ⟨w.heap.size, 0, none⟩), .pointer (some ⟨w.heap.size + 1, 0, none⟩), .pointer (some ⟨w.heap.size + 1 + 1, 0, none⟩), .pointer (some ⟨w.heap.size + 1 + 1 + 1, 0, none⟩), .bool false, undef, .pointer (some ⟨p, 0, none⟩), .pointer (some ⟨q, 0, none⟩), undef, undef, undef, undef, undef, undef, undef, undef, undef, .agg #[.int .i64 x1, .int .i64 y1], .agg #[.int .i64 x1, .int .i64 y1], .agg #[.int .i64 x2, .int .i64 y2], undef, .agg #[.int .i64 x3, .int .i64 y3], undef, .agg #[.int .i64 x4, .int .i64 y4], undef, undef, undef, undef, undef, undef, undef, undef, undef, undef, undef, undef, undef, undef, undef, undef, undef, undef, undef, undef, undef, undef, undef, undef, undef, undef, undef, undef, undef, undef, undef, undef, undef, undef, undef, undef, undef, undef, undef, undef, undef, undef, undef, undef, undef, undef, undef, undef, undef, undef, undef, undef, undef, undef, undef, undef, undef, undef, undef, undef, undef, undef, undef, undef, undef, undef, undef, undef, undef, undef, undef, undef, undef, undef, undef, undef, undef, undef, undef, undef, undef, undef, undef, undef, undef, undef, undef, undef, undef, undef, undef, undef, undef], []⟩ V := by
     as_aux_lemma =>
      intro p q V kP kQ n_pq N
      have hHeld : Below W0.heap.size W0 V := N
      rw [hwp]
      refine wpAnyH_ready (rs := [3]) (by kernel_rfl) (by simp) (AllReadyH.cons (gt rfl) (fun K hK => ?_) AllReadyH.nil)
      · go_simp
        refine (toPt_any x2 y2 _).mono ?_
        rintro ee V' ⟨rfl, hb⟩
        replace kP := kP.below hb
        replace kQ := kQ.below hb
        replace N := N.trans (hb.mono N.size)
        refine hK.out _ _ N (fun hHeld => ?_)
        clear hK K
        try simp only [Act.put, sA, sB, sC]
        rw [← hwp]
        exact met (H2_pq p q _ kP kQ n_pq N) (by kernel_rfl)
    have H1_p : ∀ (p : Nat) (V : World), Box4 W0.heap.size V p (.bool false) (.slice none 0 0) (.bool false) (.slice none 0 0) → Below W0.heap.size W0 V → wp 12 #[true, true, true, false, true, false, true, false, false, false, false, false, false, true, false, false, false, false] ⟨#[.agg #[.int .i64 x1, .int .i64 y1], .agg #[.int .i64 x2, .int .i64 y2], .agg #[.int .i64 x3, .int .i64 y3], .agg #[.int .i64 x4, .int .i64 y4], .pointer (some ⟨w.heap.size, 0, none⟩), .pointer (some ⟨w.heap.size + 1, 0, none⟩), .pointer (some ⟨w.heap.size + 1 + 1, 0, none⟩), .pointer (some ⟨w.heap.size + 1 + 1 + 1, 0, none⟩), .bool false, undef, .pointer (some ⟨p, 0, none⟩), undef, undef, undef, undef, undef, undef, undef, undef, undef, undef, .agg #[.int .i64 x1, .int .i64 y1], .agg #[.int .i64 x1, .int .i64 y1], .agg #[.int .i64 x2, .int .i64 y2], undef, .agg #[.int .i64 x3, .int .i64 y3], undef, .agg #[.int .i64 x4, .int .i64 y4], undef, undef, undef, undef, undef, undef, undef, undef, undef, undef, undef, undef, undef, undef, undef, undef, undef, undef, undef, undef, undef, undef, undef, undef, undef, undef, undef, undef, undef, undef, undef, undef, undef, undef, undef, undef, undef, undef, undef, undef, undef, undef, undef, undef, undef, undef, undef, undef, undef, undef, undef, undef, undef, undef, undef, undef, undef, undef, undef, undef, undef, undef, undef, undef, undef, undef, undef, undef, undef, undef, undef, undef, undef, undef, undef, undef, undef, undef, undef, undef, undef, undef, undef, undef, undef, undef, undef, undef, undef, undef, undef, undef, undef], []⟩ V := by
     as_aux_lemma =>
      intro p V kP N
      have hHeld : Below W0.heap.size W0 V := N
      rw [hwp]
      refine wpAnyH_ready (rs := [3, 14]) (by kernel_rfl) (by simp) (AllReadyH.cons (gt rfl) (fun K hK => ?_) (AllReadyH.cons (gt rfl) (fun K hK => ?_) AllReadyH.nil))
      · go_simp
        refine (toPt_any x2 y2 _).mono ?_
        rintro ee V' ⟨rfl, hb⟩
        replace kP := kP.below hb
        replace N := N.trans (hb.mono N.size)
        refine hK.out _ _ N (fun hHeld => ?_)
        clear hK K
        try simp only [Act.put, sA, sB, sC]
        rw [← hwp]
        exact met (H2_p p _ kP N) (by kernel_rfl)
      · go_simp
        have kQ := Box4.new V N.size (.bool false) (.slice none 0 0) (.bool false) (.slice none 0 0) 28
        have hb := below1 V (.cells #[.bool false, .slice none 0 0, .bool false, .slice none 0 0] 28)
        have g_p := Nat.ne_of_lt kP.lt
        replace kP := kP.below hb
        replace N := N.trans (hb.mono N.size)
        refine hK.out _ _ N (fun hHeld => ?_)
        clear hK K
        try simp only [Act.put, sA, sB, sC]
        rw [← hwp]
        exact met (H1_pq p _ _ kP kQ g_p N) (by kernel_rfl)
    have H1_q : ∀ (q : Nat) (V : World), Box4 W0.heap.size V q (.bool false) (.slice none 0 0) (.bool false) (.slice none 0 0) → Below W0.heap.size W0 V → wp 12 #[true, true, true, false, true, false, true, false, false, false, false, false, false, false, true, false, false, false] ⟨#[.agg #[.int .i64 x1, .int .i64 y1], .agg #[.int .i64 x2, .int .i64 y2], .agg #[.int .i64 x3, .int .i64 y3], .agg #[.int .i64 x4, .int .i64 y4], .pointer (some ⟨w.heap.size, 0, none⟩), .pointer (some ⟨w.heap.size + 1, 0, none⟩), .pointer (some ⟨w.heap.size + 1 + 1, 0, none⟩), .pointer (some ⟨w.heap.size + 1 + 1 + 1, 0, none⟩), .bool false, undef, undef, .pointer (some ⟨q, 0, none⟩), undef, undef, undef, undef, undef, undef, undef, undef, undef, .agg #[.int .i64 x1, .int .i64 y1], .agg #[.int .i64 x1, .int .i64 y1], .agg #[.int .i64 x2, .int .i64 y2], undef, .agg #[.int .i64 x3, .int .i64 y3], undef, .agg #[.int .i64 x4, .int .i64 y4], undef, undef, undef, undef, undef, undef, undef, undef, undef, undef, undef, undef, undef, undef, undef, undef, undef, undef, undef, undef, undef, undef, undef, undef, undef, undef, undef, undef, undef, undef, undef, undef, undef, undef, undef, undef, undef, undef, undef, undef, undef, undef, undef, undef, undef, undef, undef, undef, undef, undef, undef, undef, undef, undef, undef, undef, undef, undef, undef, undef, undef, undef, undef, undef, undef, undef, undef, undef, undef, undef, undef, undef, undef, undef, undef, undef, undef, undef, undef, undef, undef, undef, undef, undef, undef, undef, undef, undef, undef, undef, undef, undef, undef], []⟩ V := by
     as_aux_lemma =>
      intro q V kQ N
      have hHeld : Below W0.heap.size W0 V := N
      rw [hwp]
      refine wpAnyH_ready (rs := [3, 13]) (by kernel_rfl) (by simp) (AllReadyH.cons (gt rfl) (fun K hK => ?_) (AllReadyH.cons (gt rfl) (fun K hK => ?_) AllReadyH.nil))
      · go_simp
        refine (toPt_any x2 y2 _).mono ?_
        rintro ee V' ⟨rfl, hb⟩
        replace kQ := kQ.below hb
        replace N := N.trans (hb.mono N.size)
        refine hK.out _ _ N (fun hHeld => ?_)
        clear hK K
        try simp only [Act.put, sA, sB, sC]
        rw [← hwp]
        exact met (H2_q q _ kQ N) (by kernel_rfl)
      · go_simp
        have kP := Box4.new V N.size (.bool false) (.slice none 0 0) (.bool false) (.slice none 0 0) 28
        have hb := below1 V (.cells #[.bool false, .slice none 0 0, .bool false, .slice none 0 0] 28)
        have g_q := Nat.ne_of_lt kQ.lt
        replace kQ := kQ.below hb
        replace N := N.trans (hb.mono N.size)
        refine hK.out _ _ N (fun hHeld => ?_)
        clear hK K
        try simp only [Act.put, sA, sB, sC]
        rw [← hwp]
        exact met (H1_pq _ q _ kP kQ g_q.symm N) (by kernel_rfl)
    have H1_ : ∀ (V : World), Below W0.heap.size W0 V → wp 13 #[true, true, true, false, true, false, true, false, false, false, false, false, false, false, false, false, false, false] ⟨#[.agg #[.int .i64 x1, .int .i64 y1], .agg #[.int .i64 x2, .int .i64 y2], .agg #[.int .i64 x3, .int .i64 y3], .agg #[.int .i64 x4, .int .i64 y4], .pointer (some ⟨w.heap.size, 0, none⟩), .pointer (some ⟨w.heap.size + 1, 0, none⟩), .pointer (some ⟨w.heap.size + 1 + 1, 0, none⟩), .pointer (some ⟨w.heap.size + 1 + 1 + 1, 0, none⟩), .bool false, undef, undef, undef, undef, undef, undef, undef, undef, undef, undef, undef, undef, .agg #[.int .i64 x1, .int .i64 y1], .agg #[.int .i64 x1, .int .i64 y1], .agg #[.int .i64 x2, .int .i64 y2], undef, .agg #[.int .i64 x3, .int .i64 y3], undef, .agg #[.int .i64 x4, .int .i64 y4], undef, undef, undef, undef, undef, undef, undef, undef, undef, undef, undef, undef, undef, undef, undef, undef, undef, undef, undef, undef, undef, undef, undef, undef, undef, undef, undef, undef, undef, undef, undef, undef, undef, undef, undef, undef, undef, undef, undef, undef, undef, undef, undef, undef, undef, undef, undef, undef, undef, undef, undef, undef, undef, undef, undef, undef, undef, undef, undef, undef, undef, undef, undef, undef, undef, undef, undef, undef, undef, undef, undef, undef, undef, undef, undef, undef, undef, undef, undef, undef, undef, undef, undef, undef, undef, undef, undef, undef, undef, undef, undef, undef, undef], []⟩ V := by
     as_aux_lemma =>
      intro V N
      have hHeld : Below W0.heap.size W0 V := N
      rw [hwp]
      refine wpAnyH_ready (rs := [3, 13, 14]) (by kernel_rfl) (by simp) (AllReadyH.cons (gt rfl) (fun K hK => ?_) (AllReadyH.cons (gt rfl) (fun K hK => ?_) (AllReadyH.cons (gt rfl) (fun K hK => ?_) AllReadyH.nil)))
      · go_simp
        refine (toPt_any x2 y2 _).mono ?_
        rintro ee V' ⟨rfl, hb⟩
        replace N := N.trans (hb.mono N.size)
        refine hK.out _ _ N (fun hHeld => ?_)
        clear hK K
        try simp only [Act.put, sA, sB, sC]
        rw [← hwp]
        exact met (H2_ _ N) (by kernel_rfl)
      · go_simp
        have kP := Box4.new V N.size (.bool false) (.slice none 0 0) (.bool false) (.slice none 0 0) 28
        have hb := below1 V (.cells #[.bool false, .slice none 0 0, .bool false, .slice none 0 0] 28)
        replace N := N.trans (hb.mono N.size)
        refine hK.out _ _ N (fun hHeld => ?_)
        clear hK K
        try simp only [Act.put, sA, sB, sC]
        rw [← hwp]
        exact met (H1_p _ _ kP N) (by kernel_rfl)
      · go_simp
        have kQ := Box4.new V N.size (.bool false) (.slice none 0 0) (.bool false) (.slice none 0 0) 28
        have hb := below1 V (.cells #[.bool false, .slice none 0 0, .bool false, .slice none 0 0] 28)
        replace N := N.trans (hb.mono N.size)
        refine hK.out _ _ N (fun hHeld => ?_)
        clear hK K
        try simp only [Act.put, sA, sB, sC]
        rw [← hwp]
        exact met (H1_q _ _ kQ N) (by kernel_rfl)
    have H0_pq : ∀ (p q : Nat) (V : World), Box4 W0.heap.size V p (.bool false) (.slice none 0 0) (.bool false) (.slice none 0 0) → Box4 W0.heap.size V q (.bool false) (.slice none 0 0) (.bool false) (.slice none 0 0) → p ≠ q → Below W0.heap.size W0 V → wp 12 #[true, false, true, false, true, false, true, false, false, false, false, false, false, true, true, false, false, false] ⟨#[.agg #[.int .i64 x1, .int .i64 y1], .agg #[.int .i64 x2, .int .i64 y2], .agg #[.int .i64 x3, .int .i64 y3], .agg #[.int .i64 x4, .int .i64 y4], .pointer (some ⟨w.heap.size, 0, none⟩), .pointer (some ⟨w.heap.size + 1, 0, none⟩), .pointer (some ⟨w.heap.size + 1 + 1, 0, none⟩), .pointer (some ⟨w.heap.size + 1 + 1 + 1, 0, none⟩), .bool false, undef, .pointer (some ⟨p, 0, none⟩), .pointer (some ⟨q, 0, none⟩), undef, undef, undef, undef, undef, undef, undef, undef, undef, .agg #[.int .i64 x1, .int .i64 y1], undef, .agg #[.int .i64 x2, .int .i64 y2], undef, .agg #[.int .i64 x3, .int .i64 y3], undef, .agg #[.int .i64 x4, .int .i64 y4], undef, undef, undef, undef, undef, undef, undef, undef, undef, undef, undef, undef, undef, undef, undef, undef, undef, undef, undef, undef, undef, undef, undef, undef, undef, undef, undef, undef, undef, undef, undef, undef, undef, undef, undef, undef, undef, undef, undef, undef, undef, undef, undef, undef, undef, undef, undef, undef, undef, undef, undef, undef, undef, undef, undef, undef, undef, undef, undef, undef, undef, undef, undef, undef, undef, undef, undef, undef, undef, undef, undef, undef, undef, undef, undef, undef, undef, undef, undef, undef, undef, undef, undef, undef, undef, undef, undef, undef, undef, undef, undef, undef, undef], []⟩ V := by
     as_aux_lemma =>
      intro p q V kP kQ n_pq N
      have hHeld : Below W0.heap.size W0 V := N
      rw [hwp]
      refine wpAnyH_ready (rs := [1]) (by kernel_rfl) (by simp) (AllReadyH.cons (gt rfl) (fun K hK => ?_) AllReadyH.nil)
      · go_simp
        refine (toPt_any x1 y1 _).mono ?_
        rintro ee V' ⟨rfl, hb⟩
        replace kP := kP.below hb
        replace kQ := kQ.below hb
        replace N := N.trans (hb.mono N.size)
        refine hK.out _ _ N (fun hHeld => ?_)
        clear hK K
        try simp only [Act.put, sA, sB, sC]
        rw [← hwp]
        exact met (H1_pq p q _ kP kQ n_pq N) (by kernel_rfl)
    have H0_p : ∀ (p : Nat) (V : World), Box4 W0.heap.size V p (.bool false) (.slice none 0 0) (.bool false) (.slice none 0 0) → Below W0.heap.size W0 V → wp 13 #[true, false, true, false, true, false, true, false, false, false, false, false, false, true, false, false, false, false] ⟨#[.agg #[.int .i64 x1, .int .i64 y1], .agg #[.int .i64 x2, .int .i64 y2], .agg #[.int .i64 x3, .int .i64 y3], .agg #[.int .i64 x4, .int .i64 y4], .pointer (some ⟨w.heap.size, 0, none⟩), .pointer (some ⟨w.heap.size + 1, 0, none⟩), .pointer (some ⟨w.heap.size + 1 + 1, 0, none⟩), .pointer (some ⟨w.heap.size + 1 + 1 + 1, 0, none⟩), .bool false, undef, .pointer (some ⟨p, 0, none⟩), undef, undef, undef, undef, undef, undef, undef, undef, undef, undef, .agg #[.int .i64 x1, .int .i64 y1], undef, .agg #[.int .i64 x2, .int .i64 y2], undef, .agg #[.int .i64 x3, .int .i64 y3], undef, .agg #[.int .i64 x4, .int .i64 y4], undef, undef, undef, undef, undef, undef, undef, undef, undef, undef, undef, undef, undef, undef, undef, undef, undef, undef, undef, undef, undef, undef, undef, undef, undef, undef, undef, undef, undef, undef, undef, undef, undef, undef, undef, undef, undef, undef, undef, undef, undef, undef, undef, undef, undef, undef, undef, undef, undef, undef, undef, undef, undef, undef, undef, undef, undef, undef, undef, undef, undef, undef, undef, undef, undef, undef, undef, undef, undef, undef, undef, undef, undef, undef, undef, undef, undef, undef, undef, undef, undef, undef, undef, undef, undef, undef, undef, undef, undef, undef, undef, undef, undef], []⟩ V := by
     as_aux_lemma =>
      intro p V kP N
      have hHeld : Below W0.heap.size W0 V := N
      rw [hwp]
      refine wpAnyH_ready (rs := [1, 14]) (by kernel_rfl) (by simp) (AllReadyH.cons (gt rfl) (fun K hK => ?_) (AllReadyH.cons (gt rfl) (fun K hK => ?_) AllReadyH.nil))
      · go_simp
        refine (toPt_any x1 y1 _).mono ?_
        rintro ee V' ⟨rfl, hb⟩
        replace kP := kP.below hb
        replace N := N.trans (hb.mono N.size)
        refine hK.out _ _ N (fun hHeld => ?_)
        clear hK K
        try simp only [Act.put, sA, sB, sC]
        rw [← hwp]
        exact met (H1_p p _ kP N) (by kernel_rfl)
      · go_simp
        have kQ := Box4.new V N.size (.bool false) (.slice none 0 0) (.bool false) (.slice none 0 0) 28
        have hb := below1 V (.cells #[.bool false, .slice none 0 0, .bool false, .slice none 0 0] 28)
        have g_p := Nat.ne_of_lt kP.lt
        replace kP := kP.below hb
        replace N := N.trans (hb.mono N.size)
        refine hK.out _ _ N (fun hHeld => ?_)
        clear hK K
        try simp only [Act.put, sA, sB, sC]
        rw [← hwp]
        exact met (H0_pq p _ _ kP kQ g_p N) (by kernel_rfl)
    have H0_q : ∀ (q : Nat) (V : World), Box4 W0.heap.size V q (.bool false) (.slice none 0 0) (.bool false) (.slice none 0 0) → Below W0.heap.size W0 V → wp 13 #[true, false, true, false, true, false, true, false, false, false, false, false, false, false, true, false, false, false] ⟨#[.agg #[.int .i64 x1, .int .i64 y1], .agg #[.int .i64 x2, .int .i64 y2], .agg #[.int .i64 x3, .int .i64 y3], .agg #[.int .i64 x4, .int .i64 y4], .pointer (some ⟨w.heap.size, 0, none⟩), .pointer (some ⟨w.heap.size + 1, 0, none⟩), .pointer (some ⟨w.heap.size + 1 + 1, 0, none⟩), .pointer (some ⟨w.heap.size + 1 + 1 + 1, 0, none⟩), .bool false, undef, undef, .pointer (some ⟨q, 0, none⟩), undef, undef, undef, undef, undef, undef, undef, undef, undef, .agg #[.int .i64 x1, .int .i64 y1], undef, .agg #[.int .i64 x2, .int .i64 y2], undef, .agg #[.int .i64 x3, .int .i64 y3], undef, .agg #[.int .i64 x4, .int .i64 y4], undef, undef, undef, undef, undef, undef, undef, undef, undef, undef, undef, undef, undef, undef, undef, undef, undef, undef, undef, undef, undef, undef, undef, undef, undef, undef, undef, undef, undef, undef, undef, undef, undef, undef, undef, undef, undef, undef, undef, undef, undef, undef, undef, undef, undef, undef, undef, undef, undef, undef, undef, undef, undef, undef, undef, undef, undef, undef, undef, undef, undef, undef, undef, undef, undef, undef, undef, undef, undef, undef, undef, undef, undef, undef, undef, undef, undef, undef, undef, undef, undef, undef, undef, undef, undef, undef, undef, undef, undef, undef, undef, undef, undef], []⟩ V := by
     as_aux_lemma =>
      intro q V kQ N
      have hHeld : Below W0.heap.size W0 V := N
      rw [hwp]
      refine wpAnyH_ready (rs := [1, 13]) (by kernel_rfl) (by simp) (AllReadyH.cons (gt rfl) (fun K hK => ?_) (AllReadyH.cons (gt rfl) (fun K hK => ?_) AllReadyH.nil))
      · go_simp
        refine (toPt_any x1 y1 _).mono ?_
        rintro ee V' ⟨rfl, hb⟩
        replace kQ := kQ.below hb
        replace N := N.trans (hb.mono N.size)
        refine hK.out _ _ N (fun hHeld => ?_)
        clear hK K
        try simp only [Act.put, sA, sB, sC]
        rw [← hwp]
        exact met (H1_q q _ kQ N) (by kernel_rfl)
      · go_simp
        have kP := Box4.new V N.size (.bool false) (.slice none 0 0) (.bool false) (.slice none 0 0) 28
        have hb := below1 V (.cells #[.bool false, .slice none 0 0, .bool false, .slice none 0 0] 28)
        have g_q := Nat.ne_of_lt kQ.lt
        replace kQ := kQ.below hb
        replace N := N.trans (hb.mono N.size)
        refine hK.out _ _ N (fun hHeld => ?_)
        clear hK K
        try simp only [Act.put, sA, sB, sC]
        rw [← hwp]
        exact met (H0_pq _ q _ kP kQ g_q.symm N) (by kernel_rfl)
    have H0_ : ∀ (V : World), Below W0.heap.size W0 V → wp 14 #[true, false, true, false, true, false, true, false, false, false, false, false, false, false, false, false, false, false] ⟨#[.agg #[.int .i64 x1, .int .i64 y1], .agg #[.int .i64 x2, .int .i64 y2], .agg #[.int .i64 x3, .int .i64 y3], .agg #[.int .i64 x4, .int .i64 y4], .pointer (some ⟨w.heap.size, 0, none⟩), .pointer (some ⟨w.heap.size + 1, 0, none⟩), .pointer (some ⟨w.heap.size + 1 + 1, 0, none⟩), .pointer (some ⟨w.heap.size + 1 + 1 + 1, 0, none⟩), .bool false, undef, undef, undef, undef, undef, undef, undef, undef, undef, undef, undef, undef, .agg #[.int .i64 x1, .int .i64 y1], undef, .agg #[.int .i64 x2, .int .i64 y2], undef, .agg #[.int .i64 x3, .int .i64 y3], undef, .agg #[.int .i64 x4, .int .i64 y4], undef, undef, undef, undef, undef, undef, undef, undef, undef, undef, undef, undef, undef, undef, undef, undef, undef, undef, undef, undef, undef, undef, undef, undef, undef, undef, undef, undef, undef, undef, undef, undef, undef, undef, undef, undef, undef, undef, undef, undef, undef, undef, undef, undef, undef, undef, undef, undef, undef, undef, undef, undef, undef, undef, undef, undef, undef, undef, undef, undef, undef, undef, undef, undef, undef, undef, undef, undef, undef, undef, undef, undef, undef, undef, undef, undef, undef, undef, undef, undef, undef, undef, undef, undef, undef, undef, undef, undef, undef, undef, undef, undef, undef], []⟩ V := by
     as_aux_lemma =>
      intro V N
      have hHeld : Below W0.heap.size W0 V := N
      rw [hwp]
      refine wpAnyH_ready (rs := [1, 13, 14]) (by kernel_rfl) (by simp) (AllReadyH.cons (gt rfl) (fun K hK => ?_) (AllReadyH.cons (gt rfl) (fun K hK => ?_) (AllReadyH.cons (gt rfl) (fun K hK => ?_) AllReadyH.nil)))
      · go_simp
        refine (toPt_any x1 y1 _).mono ?_
        rintro ee V' ⟨rfl, hb⟩
        replace N := N.trans (hb.mono N.size)
        refine hK.out _ _ N (fun hHeld => ?_)
        clear hK K
        try simp only [Act.put, sA, sB, sC]
        rw [← hwp]
        exact met (H1_ _ N) (by kernel_rfl)
      · go_simp
        have kP := Box4.new V N.size (.bool false) (.slice none 0 0) (.bool false) (.slice none 0 0) 28
        have hb := below1 V (.cells #[.bool false, .slice none 0 0, .bool false, .slice none 0 0] 28)
        replace N := N.trans (hb.mono N.size)
        refine hK.out _ _ N (fun hHeld => ?_)
        clear hK K
        try simp only [Act.put, sA, sB, sC]
        rw [← hwp]
        exact met (H0_p _ _ kP N) (by kernel_rfl)
      · go_simp
        have kQ := Box4.new V N.size (.bool false) (.slice none 0 0) (.bool false) (.slice none 0 0) 28
        have hb := below1 V (.cells #[.bool false, .slice none 0 0, .bool false, .slice none 0 0] 28)
        replace N := N.trans (hb.mono N.size)
        refine hK.out _ _ N (fun hHeld => ?_)
        clear hK K
        try simp only [Act.put, sA, sB, sC]
        rw [← hwp]
        exact met (H0_q _ _ kQ N) (by kernel_rfl)
    exact met (H0_ _ N) (by kernel_rfl)
  obtain ⟨pW, qW, a1W, c1W, b1W, e1W, a2W, c2W, b2W, e2W, rfl, rfl, rfl, VPW, VQW, ⟨o1W, o2W, o3W, o4W⟩, apW, rrW, hb⟩ := hcut
  rename World => W1
  replace k0 := bat hb k0
  replace k1 := bat hb k1
  replace k2 := bat hb k2
  replace k3 := bat hb k3
  replace k4 := bat hb k4
  replace k5 := bat hb k5
  replace k6 := bat hb k6
  replace k7 := bat hb k7
  replace B := B.trans (hb.mono B.size)
  clear hb apW rrW
  go_upto_region 2 with fail
  go_cut [12, 13, 14] (fun s9 s10 s11 W => ∃ p q a1 c1 b1 e1 a2 c2 b2 e2, s9 = .int .i64 kk ∧ s10 = .pointer (some ⟨p, 0, none⟩) ∧ s11 = .pointer (some ⟨q, 0, none⟩) ∧ Box4 W1.heap.size W p (.bool f1) (.slice a1 z1.length c1) (.bool f2) (.slice b1 t1.length e1) ∧ Box4 W1.heap.size W q (.bool f3) (.slice a2 z2.length c2) (.bool f4) (.slice b2 t2.length e2) ∧ (Own W1.heap.size W a1 c1 z1 ∧ Own W1.heap.size W b1 e1 t1 ∧ Own W1.heap.size W a2 c2 z2 ∧ Own W1.heap.size W b2 e2 t2) ∧ Hid (Apart a1 z1 b1 t1 ∧ Apart a2 z2 b2 t2 ∧ Apart a1 z1 a2 z2 ∧ Apart a1 z1 b2 t2 ∧ Apart b1 t1 a2 z2 ∧ Apart b1 t1 b2 t2) ∧ Hid ((some p ≠ rowOf a1 z1 ∧ some p ≠ rowOf b1 t1 ∧ some p ≠ rowOf a2 z2 ∧ some p ≠ rowOf b2 t2) ∧ (some q ≠ rowOf a1 z1 ∧ some q ≠ rowOf b1 t1 ∧ some q ≠ rowOf a2 z2 ∧ some q ≠ rowOf b2 t2)) ∧ Below W1.heap.size W1 W)
  case first =>
    refine wp_region_held_drew (S := Below W1.heap.size W1) (by kernel_rfl) ((Below.refl _ _).drew) (fun hHeld => ?_)
    have N : Below W1.heap.size W1 W1.drew := hHeld
    revert hHeld N
    generalize W1.drew = ww0
    intro hHeld N
    refine takeQ (i := 0) (gt rfl) (by kernel_rfl) (fun _ _ _ h => h) (by rfl) (by intro wq hSw; have q0 := bat hSw k0; have q1 := bat hSw k1; have q2 := bat hSw k2; have q3 := bat hSw k3; have q4 := bat hSw k4; have q5 := bat hSw k5; have q6 := bat hSw k6; have q7 := bat hSw k7; go_simp <;> with_reducible rfl) (by assumption) ?_
    try simp only [Act.put, sA, sB, sC]
    refine takeQ (i := 2) (gt rfl) (by kernel_rfl) (fun _ _ _ h => h) (by rfl) (by intro wq hSw; have q0 := bat hSw k0; have q1 := bat hSw k1; have q2 := bat hSw k2; have q3 := bat hSw k3; have q4 := bat hSw k4; have q5 := bat hSw k5; have q6 := bat hSw k6; have q7 := bat hSw k7; go_simp <;> with_reducible rfl) (by assumption) ?_
    try simp only [Act.put, sA, sB, sC]
    refine takeQ (i := 4) (gt rfl) (by kernel_rfl) (fun _ _ _ h => h) (by rfl) (by intro wq hSw; have q0 := bat hSw k0; have q1 := bat hSw k1; have q2 := bat hSw k2; have q3 := bat hSw k3; have q4 := bat hSw k4; have q5 := bat hSw k5; have q6 := bat hSw k6; have q7 := bat hSw k7; go_simp <;> with_reducible rfl) (by assumption) ?_
    try simp only [Act.put, sA, sB, sC]
    refine takeQ (i := 6) (gt rfl) (by kernel_rfl) (fun _ _ _ h => h) (by rfl) (by intro wq hSw; have q0 := bat hSw k0; have q1 := bat hSw k1; have q2 := bat hSw k2; have q3 := bat hSw k3; have q4 := bat hSw k4; have q5 := bat hSw k5; have q6 := bat hSw k6; have q7 := bat hSw k7; go_simp <;> with_reducible rfl) (by assumption) ?_
    try simp only [Act.put, sA, sB, sC]
    refine capture (fun wp hwp => ?_)
    have H4_pq : ∀ (p q : Nat) (V : World), Box4 W1.heap.size V p (.bool false) (.slice none 0 0) (.bool false) (.slice none 0 0) → Box4 W1.heap.size V q (.bool false) (.slice none 0 0) (.bool false) (.slice none 0 0) → p ≠ q → Below W1.heap.size W1 V → wp 8 #[true, true, true, true, true, true, true, true, false, false, false, false, false, true, true, false, false, false] ⟨#[.agg #[.int .i64 x1, .int .i64 y1], .agg #[.int .i64 x2, .int .i64 y2], .agg #[.int .i64 x3, .int .i64 y3], .agg #[.int .i64 x4, .int .i64 y4], .pointer (some ⟨w.heap.size, 0, none⟩), .pointer (some ⟨w.heap.size + 1, 0, none⟩), .pointer (some ⟨w.heap.size + 1 + 1, 0, none⟩), .pointer (some ⟨w.heap.size + 1 + 1 + 1, 0, none⟩), .bool false, .int .i64 kk, .pointer (some ⟨pW, 0, none⟩), .pointer (some ⟨qW, 0, none⟩), undef, .pointer (some ⟨p, 0, none⟩), .pointer (some ⟨q, 0, none⟩), undef, undef, undef, undef, undef, u20, u21, u22, u23, u24, u25, u26, u27, u28, u29, u30, u31, u32, u33, .agg #[.int .i64 x1, .int .i64 y1], .agg #[.int .i64 x1, .int .i64 y1], .agg #[.int .i64 x2, .int .i64 y2], .agg #[.int .i64 x2, .int .i64 y2], .agg #[.int .i64 x3, .int .i64 y3], .agg #[.int .i64 x3, .int .i64 y3], .agg #[.int .i64 x4, .int .i64 y4], .agg #[.int .i64 x4, .int .i64 y4], u42, u43, u44, u45, u46, u47, u48, u49, u50, u51, u52, u53, u54, u55, u56, u57, u58, u59, u60, u61, u62, u63, u64, u65, u66, u67, u68, u69, u70, u71, u72, u73, u74, u75, u76, u77, u78, u79, u80, u81, u82, u83, u84, u85, u86, u87, u88, u89, u90, u91, u92, u93, u94, u95, u96, u97, u98, u99, u100, u101, u102, u103, u104, u105, u106, u107, u108, u109, u110, u111, u112, u113, u114, u115, u116, u117, u118, u119, u120], []⟩ V := by
     skip
     intro p q V kP kQ n_pq N
     have hHeld : Below W1.heap.size W1 V := N
     rw [hwp]
     refine wpAnyH_ready (rs := [8]) (by kernel_rfl) (by simp) (AllReadyH.cons (gt rfl) (fun K hK => ?_) AllReadyH.nil)
     · go_simp
       have ne_kP_kQ := n_pq
       have ne_kQ_kP := n_pq.symm
       refine (implCross x1 y1 x2 y2 x3 y3 x4 y4 _ kk n1 d1 n2 d2 HC.out).mono ?_
       rintro ee ww1 ⟨u1, u2, rfl, TF, hb⟩
       obtain ⟨a1, c1, b1, e1, a2, c2, b2, e2, rfl, rfl, o1, o2, o3, o4, ap⟩ := TF.as HV.out
       rw [F1.out, F2.out, F3.out, F4.out]
       have bs := N.size
       clear TF
       have r_kP_o1 := row_ne_low o1 kP.lt
       have r_kP_o2 := row_ne_low o2 kP.lt
       have r_kP_o3 := row_ne_low o3 kP.lt
       have r_kP_o4 := row_ne_low o4 kP.lt
       have r_kQ_o1 := row_ne_low o1 kQ.lt
       have r_kQ_o2 := row_ne_low o2 kQ.lt
       have r_kQ_o3 := row_ne_low o3 kQ.lt
       have r_kQ_o4 := row_ne_low o4 kQ.lt
       replace kP := kP.below hb
       replace kQ := kQ.below hb
       replace N := N.trans (hb.mono N.size)
       clear hb
       refine hK.out _ _ N (fun hHeld => ?_)
       clear hK K
       try simp only [Act.put, sA, sB, sC]
       refine takeQ (i := 9) (gt rfl) (by kernel_rfl) (fun _ _ _ h => h) (by rfl) (by intro wq _; go_simp <;> with_reducible rfl) (by assumption) ?_
       try simp only [Act.put, sA, sB, sC]
       refine takeQ (i := 10) (gt rfl) (by kernel_rfl) (fun _ _ _ h => h) (by rfl) (by intro wq _; go_simp <;> with_reducible rfl) (by assumption) ?_
       try simp only [Act.put, sA, sB, sC]
       refine takeQ (i := 11) (gt rfl) (by kernel_rfl) (fun _ _ _ h => h) (by rfl) (by intro wq _; go_simp <;> with_reducible rfl) (by assumption) ?_
       try simp only [Act.put, sA, sB, sC]
       refine takeQ (i := 12) (gt rfl) (by kernel_rfl) (fun _ _ _ h => h) (by rfl) (by intro wq _; go_simp <;> with_reducible rfl) (by assumption) ?_
       try simp only [Act.put, sA, sB, sC]
       refine takeQ (i := 15) (gt rfl) (by kernel_rfl) (fun _ _ _ h => h) (by rfl) (by intro wq _; go_simp <;> with_reducible rfl) (by assumption) ?_
       try simp only [Act.put, sA, sB, sC]
       refine wpAnyH_ready (rs := [16]) (by kernel_rfl) (by simp) (AllReadyH.cons (gt rfl) (fun K hK => ?_) AllReadyH.nil)
       have z0 := kP.c0
       have z1 := kP.c1
       have z2 := kP.c2
       have z3 := kP.c3
       have zf := kP.fr
       go_simp
       clear z0 z1 z2 z3 zf
       replace N := Box4.chain N kP (.bool f1) (.slice a1 z1.length c1) (.bool f2) (.slice b1 t1.length e1)
       replace kQ := kQ.old ne_kQ_kP (.bool f1) (.slice a1 z1.length c1) (.bool f2) (.slice b1 t1.length e1)
       replace o1 := o1.put4 r_kP_o1 (.bool f1) (.slice a1 z1.length c1) (.bool f2) (.slice b1 t1.length e1)
       replace o2 := o2.put4 r_kP_o2 (.bool f1) (.slice a1 z1.length c1) (.bool f2) (.slice b1 t1.length e1)
       replace o3 := o3.put4 r_kP_o3 (.bool f1) (.slice a1 z1.length c1) (.bool f2) (.slice b1 t1.length e1)
       replace o4 := o4.put4 r_kP_o4 (.bool f1) (.slice a1 z1.length c1) (.bool f2) (.slice b1 t1.length e1)
       replace kP := kP.put (.bool f1) (.slice a1 z1.length c1) (.bool f2) (.slice b1 t1.length e1)
       refine hK.out _ _ N (fun hHeld => ?_)
       clear hK K
       try simp only [Act.put, sA, sB, sC]
       refine wpAnyH_ready (rs := [17]) (by kernel_rfl) (by simp) (AllReadyH.cons (gt rfl) (fun K hK => ?_) AllReadyH.nil)
       have z0 := kQ.c0
       have z1 := kQ.c1
       have z2 := kQ.c2
       have z3 := kQ.c3
       have zf := kQ.fr
       go_simp
       clear z0 z1 z2 z3 zf
       replace N := Box4.chain N kQ (.bool f3) (.slice a2 z2.length c2) (.bool f4) (.slice b2 t2.length e2)
       replace kP := kP.old ne_kP_kQ (.bool f3) (.slice a2 z2.length c2) (.bool f4) (.slice b2 t2.length e2)
       replace o1 := o1.put4 r_kQ_o1 (.bool f3) (.slice a2 z2.length c2) (.bool f4) (.slice b2 t2.length e2)
       replace o2 := o2.put4 r_kQ_o2 (.bool f3) (.slice a2 z2.length c2) (.bool f4) (.slice b2 t2.length e2)
       replace o3 := o3.put4 r_kQ_o3 (.bool f3) (.slice a2 z2.length c2) (.bool f4) (.slice b2 t2.length e2)
       replace o4 := o4.put4 r_kQ_o4 (.bool f3) (.slice a2 z2.length c2) (.bool f4) (.slice b2 t2.length e2)
       replace kQ := kQ.put (.bool f3) (.slice a2 z2.length c2) (.bool f4) (.slice b2 t2.length e2)
       refine hK.out _ _ N (fun hHeld => ?_)
       clear hK K
       try simp only [Act.put, sA, sB, sC]
       refine wpAnyH_done (by kernel_rfl) ?_ _
       go_wp2
       go_meet
       case rel => exact ⟨_, _, a1, c1, b1, e1, a2, c2, b2, e2, rfl, rfl, rfl, kP, kQ, ⟨o1.base_le bs, o2.base_le bs, o3.base_le bs, o4.base_le bs⟩, ap, ⟨⟨r_kP_o1, r_kP_o2, r_kP_o3, r_kP_o4⟩, ⟨r_kQ_o1, r_kQ_o2, r_kQ_o3, r_kQ_o4⟩⟩, N⟩
    have H4_p : ∀ (p : Nat) (V : World), Box4 W1.heap.size V p (.bool false) (.slice none 0 0) (.bool false) (.slice none 0 0) → Below W1.heap.size W1 V → wp 9 #[true, true, true, true, true, true, true, true, false, false, false, false, false, true, false, false, false, false] ⟨#[.agg #[.int .i64 x1, .int .i64 y1], .agg #[.int .i64 x2, .int .i64 y2], .agg #[.int .i64 x3, .int .i64 y3], .agg #[.int .i64 x4, .int .i64 y4], .pointer (some ⟨w.heap.size, 0, none⟩), .pointer (some ⟨w.heap.size + 1, 0, none⟩), .pointer (some ⟨w.heap.size + 1 + 1, 0, none⟩), .pointer (some ⟨w.heap.size + 1 + 1 + 1, 0, none⟩), .bool false, .int .i64 kk, .pointer (some ⟨pW, 0, none⟩), .pointer (some ⟨qW, 0, none⟩), undef, .pointer (some ⟨p, 0, none⟩), undef, undef, undef, undef, undef, undef, u20, u21, u22, u23, u24, u25, u26, u27, u28, u29, u30, u31, u32, u33, .agg #[.int .i64 x1, .int .i64 y1], .agg #[.int .i64 x1, .int .i64 y1], .agg #[.int .i64 x2, .int .i64 y2], .agg #[.int .i64 x2, .int .i64 y2], .agg #[.int .i64 x3, .int .i64 y3], .agg #[.int .i64 x3, .int .i64 y3], .agg #[.int .i64 x4, .int .i64 y4], .agg #[.int .i64 x4, .int .i64 y4], u42, u43, u44, u45, u46, u47, u48, u49, u50, u51, u52, u53, u54, u55, u56, u57, u58, u59, u60, u61, u62, u63, u64, u65, u66, u67, u68, u69, u70, u71, u72, u73, u74, u75, u76, u77, u78, u79, u80, u81, u82, u83, u84, u85, u86, u87, u88, u89, u90, u91, u92, u93, u94, u95, u96, u97, u98, u99, u100, u101, u102, u103, u104, u105, u106, u107, u108, u109, u110, u111, u112, u113, u114, u115, u116, u117, u118, u119, u120], []⟩ V := by
     skip
     intro p V kP N
     have hHeld : Below W1.heap.size W1 V := N
     rw [hwp]
     refine wpAnyH_ready (rs := [8, 14]) (by kernel_rfl) (by simp) (AllReadyH.cons (gt rfl) (fun K hK => ?_) (AllReadyH.cons (gt rfl) (fun K hK => ?_) AllReadyH.nil))
     · go_simp
       refine (implCross x1 y1 x2 y2 x3 y3 x4 y4 _ kk n1 d1 n2 d2 HC.out).mono ?_
       rintro ee ww4 ⟨u1, u2, rfl, TF, hb⟩
       obtain ⟨a1, c1, b1, e1, a2, c2, b2, e2, rfl, rfl, o1, o2, o3, o4, ap⟩ := TF.as HV.out
       rw [F1.out, F2.out, F3.out, F4.out]
       have bs := N.size
       clear TF
       have r_kP_o1 := row_ne_low o1 kP.lt
       have r_kP_o2 := row_ne_low o2 kP.lt
       have r_kP_o3 := row_ne_low o3 kP.lt
       have r_kP_o4 := row_ne_low o4 kP.lt
       replace kP := kP.below hb
       replace N := N.trans (hb.mono N.size)
       clear hb
       refine hK.out _ _ N (fun hHeld => ?_)
       clear hK K
       try simp only [Act.put, sA, sB, sC]
       refine takeQ (i := 9) (gt rfl) (by kernel_rfl) (fun _ _ _ h => h) (by rfl) (by intro wq _; go_simp <;> with_reducible rfl) (by assumption) ?_
       try simp only [Act.put, sA, sB, sC]
       refine takeQ (i := 10) (gt rfl) (by kernel_rfl) (fun _ _ _ h => h) (by rfl) (by intro wq _; go_simp <;> with_reducible rfl) (by assumption) ?_
       try simp only [Act.put, sA, sB, sC]
       refine takeQ (i := 11) (gt rfl) (by kernel_rfl) (fun _ _ _ h => h) (by rfl) (by intro wq _; go_simp <;> with_reducible rfl) (by assumption) ?_
       try simp only [Act.put, sA, sB, sC]
       refine takeQ (i := 12) (gt rfl) (by kernel_rfl) (fun _ _ _ h => h) (by rfl) (by intro wq _; go_simp <;> with_reducible rfl) (by assumption) ?_
       try simp only [Act.put, sA, sB, sC]
       refine wpAnyH_ready (rs := [14]) (by kernel_rfl) (by simp) (AllReadyH.cons (gt rfl) (fun K hK => ?_) AllReadyH.nil)
       go_simp
       have kQ := Box4.new ww4 N.size (.bool false) (.slice none 0 0) (.bool false) (.slice none 0 0) 28
       have hb := below1 ww4 (.cells #[.bool false, .slice none 0 0, .bool false, .slice none 0 0] 28)
       have r_kQ_o1 := row_ne_high o1.toCame (Nat.le_refl _)
       have r_kQ_o2 := row_ne_high o2.toCame (Nat.le_refl _)
       have r_kQ_o3 := row_ne_high o3.toCame (Nat.le_refl _)
       have r_kQ_o4 := row_ne_high o4.toCame (Nat.le_refl _)
       have ne_kQ_kP := Nat.ne_of_gt kP.lt
       have ne_kP_kQ := ne_kQ_kP.symm
       replace kP := kP.below hb
       replace o1 := o1.below hb
       replace o2 := o2.below hb
       replace o3 := o3.below hb
       replace o4 := o4.below hb
       replace N := N.trans (hb.mono N.size)
       clear hb
       generalize ww4.alloc (.cells #[.bool false, .slice none 0 0, .bool false, .slice none 0 0] 28) = ww5 at *
       refine hK.out _ _ N (fun hHeld => ?_)
       clear hK K
       try simp only [Act.put, sA, sB, sC]
       refine takeQ (i := 15) (gt rfl) (by kernel_rfl) (fun _ _ _ h => h) (by rfl) (by intro wq _; go_simp <;> with_reducible rfl) (by assumption) ?_
       try simp only [Act.put, sA, sB, sC]
       refine wpAnyH_ready (rs := [16]) (by kernel_rfl) (by simp) (AllReadyH.cons (gt rfl) (fun K hK => ?_) AllReadyH.nil)
       have z0 := kP.c0
       have z1 := kP.c1
       have z2 := kP.c2
       have z3 := kP.c3
       have zf := kP.fr
       go_simp
       clear z0 z1 z2 z3 zf
       replace N := Box4.chain N kP (.bool f1) (.slice a1 z1.length c1) (.bool f2) (.slice b1 t1.length e1)
       replace kQ := kQ.old ne_kQ_kP (.bool f1) (.slice a1 z1.length c1) (.bool f2) (.slice b1 t1.length e1)
       replace o1 := o1.put4 r_kP_o1 (.bool f1) (.slice a1 z1.length c1) (.bool f2) (.slice b1 t1.length e1)
       replace o2 := o2.put4 r_kP_o2 (.bool f1) (.slice a1 z1.length c1) (.bool f2) (.slice b1 t1.length e1)
       replace o3 := o3.put4 r_kP_o3 (.bool f1) (.slice a1 z1.length c1) (.bool f2) (.slice b1 t1.length e1)
       replace o4 := o4.put4 r_kP_o4 (.bool f1) (.slice a1 z1.length c1) (.bool f2) (.slice b1 t1.length e1)
       replace kP := kP.put (.bool f1) (.slice a1 z1.length c1) (.bool f2) (.slice b1 t1.length e1)
       refine hK.out _ _ N (fun hHeld => ?_)
       clear hK K
       try simp only [Act.put, sA, sB, sC]
       refine wpAnyH_ready (rs := [17]) (by kernel_rfl) (by simp) (AllReadyH.cons (gt rfl) (fun K hK => ?_) AllReadyH.nil)
       have z0 := kQ.c0
       have z1 := kQ.c1
       have z2 := kQ.c2
       have z3 := kQ.c3
       have zf := kQ.fr
       go_simp
       clear z0 z1 z2 z3 zf
       replace N := Box4.chain N kQ (.bool f3) (.slice a2 z2.length c2) (.bool f4) (.slice b2 t2.length e2)
       replace kP := kP.old ne_kP_kQ (.bool f3) (.slice a2 z2.length c2) (.bool f4) (.slice b2 t2.length e2)
       replace o1 := o1.put4 r_kQ_o1 (.bool f3) (.slice a2 z2.length c2) (.bool f4) (.slice b2 t2.length e2)
       replace o2 := o2.put4 r_kQ_o2 (.bool f3) (.slice a2 z2.length c2) (.bool f4) (.slice b2 t2.length e2)
       replace o3 := o3.put4 r_kQ_o3 (.bool f3) (.slice a2 z2.length c2) (.bool f4) (.slice b2 t2.length e2)
       replace o4 := o4.put4 r_kQ_o4 (.bool f3) (.slice a2 z2.length c2) (.bool f4) (.slice b2 t2.length e2)
       replace kQ := kQ.put (.bool f3) (.slice a2 z2.length c2) (.bool f4) (.slice b2 t2.length e2)
       refine hK.out _ _ N (fun hHeld => ?_)
       clear hK K
       try simp only [Act.put, sA, sB, sC]
       refine wpAnyH_done (by kernel_rfl) ?_ _
       go_wp2
       go_meet
       case rel => exact ⟨_, _, a1, c1, b1, e1, a2, c2, b2, e2, rfl, rfl, rfl, kP, kQ, ⟨o1.base_le bs, o2.base_le bs, o3.base_le bs, o4.base_le bs⟩, ap, ⟨⟨r_kP_o1, r_kP_o2, r_kP_o3, r_kP_o4⟩, ⟨r_kQ_o1, r_kQ_o2, r_kQ_o3, r_kQ_o4⟩⟩, N⟩
     · go_simp
       have kQ := Box4.new V N.size (.bool false) (.slice none 0 0) (.bool false) (.slice none 0 0) 28
       have hb := below1 V (.cells #[.bool false, .slice none 0 0, .bool false, .slice none 0 0] 28)
       have g_p := Nat.ne_of_lt kP.lt
       replace kP := kP.below hb
       replace N := N.trans (hb.mono N.size)
       refine hK.out _ _ N (fun hHeld => ?_)
       clear hK K
       try simp only [Act.put, sA, sB, sC]
       rw [← hwp]
       exact met (H4_pq p _ _ kP kQ g_p N) (by kernel_rfl)
    have H4_q : ∀ (q : Nat) (V : World), Box4 W1.heap.size V q (.bool false) (.slice none 0 0) (.bool false) (.slice none 0 0) → Below W1.heap.size W1 V → wp 9 #[true, true, true, true, true, true, true, true, false, false, false, false, false, false, true, false, false, false] ⟨#[.agg #[.int .i64 x1, .int .i64 y1], .agg #[.int .i64 x2, .int .i64 y2], .agg #[.int .i64 x3, .int .i64 y3], .agg #[.int .i64 x4, .int .i64 y4], .pointer (some ⟨w.heap.size, 0, none⟩), .pointer (some ⟨w.heap.size + 1, 0, none⟩), .pointer (some ⟨w.heap.size + 1 + 1, 0, none⟩), .pointer (some ⟨w.heap.size + 1 + 1 + 1, 0, none⟩), .bool false, .int .i64 kk, .pointer (some ⟨pW, 0, none⟩), .pointer (some ⟨qW, 0, none⟩), undef, undef, .pointer (some ⟨q, 0, none⟩), undef, undef, undef, undef, undef, u20, u21, u22, u23, u24, u25, u26, u27, u28, u29, u30, u31, u32, u33, .agg #[.int .i64 x1, .int .i64 y1], .agg #[.int .i64 x1, .int .i64 y1], .agg #[.int .i64 x2, .int .i64 y2], .agg #[.int .i64 x2, .int .i64 y2], .agg #[.int .i64 x3, .int .i64 y3], .agg #[.int .i64 x3, .int .i64 y3], .agg #[.int .i64 x4, .int .i64 y4], .agg #[.int .i64 x4, .int .i64 y4], u42, u43, u44, u45, u46, u47, u48, u49, u50, u51, u52, u53, u54, u55, u56, u57, u58, u59, u60, u61, u62, u63, u64, u65, u66, u67, u68, u69, u70, u71, u72, u73, u74, u75, u76, u77, u78, u79, u80, u81, u82, u83, u84, u85, u86, u87, u88, u89, u90, u91, u92, u93, u94, u95, u96, u97, u98, u99, u100, u101, u102, u103, u104, u105, u106, u107, u108, u109, u110, u111, u112, u113, u114, u115, u116, u117, u118, u119, u120], []⟩ V := by
     skip
     intro q V kQ N
     have hHeld : Below W1.heap.size W1 V := N
     rw [hwp]
     refine wpAnyH_ready (rs := [8, 13]) (by kernel_rfl) (by simp) (AllReadyH.cons (gt rfl) (fun K hK => ?_) (AllReadyH.cons (gt rfl) (fun K hK => ?_) AllReadyH.nil))
     · go_simp
       refine (implCross x1 y1 x2 y2 x3 y3 x4 y4 _ kk n1 d1 n2 d2 HC.out).mono ?_
       rintro ee ww8 ⟨u1, u2, rfl, TF, hb⟩
       obtain ⟨a1, c1, b1, e1, a2, c2, b2, e2, rfl, rfl, o1, o2, o3, o4, ap⟩ := TF.as HV.out
       rw [F1.out, F2.out, F3.out, F4.out]
       have bs := N.size
       clear TF
       have r_kQ_o1 := row_ne_low o1 kQ.lt
       have r_kQ_o2 := row_ne_low o2 kQ.lt
       have r_kQ_o3 := row_ne_low o3 kQ.lt
       have r_kQ_o4 := row_ne_low o4 kQ.lt
       replace kQ := kQ.below hb
       replace N := N.trans (hb.mono N.size)
       clear hb
       refine hK.out _ _ N (fun hHeld => ?_)
       clear hK K
       try simp only [Act.put, sA, sB, sC]
       refine takeQ (i := 9) (gt rfl) (by kernel_rfl) (fun _ _ _ h => h) (by rfl) (by intro wq _; go_simp <;> with_reducible rfl) (by assumption) ?_
       try simp only [Act.put, sA, sB, sC]
       refine takeQ (i := 10) (gt rfl) (by kernel_rfl) (fun _ _ _ h => h) (by rfl) (by intro wq _; go_simp <;> with_reducible rfl) (by assumption) ?_
       try simp only [Act.put, sA, sB, sC]
       refine takeQ (i := 11) (gt rfl) (by kernel_rfl) (fun _ _ _ h => h) (by rfl) (by intro wq _; go_simp <;> with_reducible rfl) (by assumption) ?_
       try simp only [Act.put, sA, sB, sC]
       refine takeQ (i := 12) (gt rfl) (by kernel_rfl) (fun _ _ _ h => h) (by rfl) (by intro wq _; go_simp <;> with_reducible rfl) (by assumption) ?_
       try simp only [Act.put, sA, sB, sC]
       refine wpAnyH_ready (rs := [13]) (by kernel_rfl) (by simp) (AllReadyH.cons (gt rfl) (fun K hK => ?_) AllReadyH.nil)
       go_simp
       have kP := Box4.new ww8 N.size (.bool false) (.slice none 0 0) (.bool false) (.slice none 0 0) 28
       have hb := below1 ww8 (.cells #[.bool false, .slice none 0 0, .bool false, .slice none 0 0] 28)
       have r_kP_o1 := row_ne_high o1.toCame (Nat.le_refl _)
       have r_kP_o2 := row_ne_high o2.toCame (Nat.le_refl _)
       have r_kP_o3 := row_ne_high o3.toCame (Nat.le_refl _)
       have r_kP_o4 := row_ne_high o4.toCame (Nat.le_refl _)
       have ne_kP_kQ := Nat.ne_of_gt kQ.lt
       have ne_kQ_kP := ne_kP_kQ.symm
       replace kQ := kQ.below hb
       replace o1 := o1.below hb
       replace o2 := o2.below hb
       replace o3 := o3.below hb
       replace o4 := o4.below hb
       replace N := N.trans (hb.mono N.size)
       clear hb
       generalize ww8.alloc (.cells #[.bool false, .slice none 0 0, .bool false, .slice none 0 0] 28) = ww9 at *
       refine hK.out _ _ N (fun hHeld => ?_)
       clear hK K
       try simp only [Act.put, sA, sB, sC]
       refine takeQ (i := 15) (gt rfl) (by kernel_rfl) (fun _ _ _ h => h) (by rfl) (by intro wq _; go_simp <;> with_reducible rfl) (by assumption) ?_
       try simp only [Act.put, sA, sB, sC]
       refine wpAnyH_ready (rs := [16]) (by kernel_rfl) (by simp) (AllReadyH.cons (gt rfl) (fun K hK => ?_) AllReadyH.nil)
       have z0 := kP.c0
       have z1 := kP.c1
       have z2 := kP.c2
       have z3 := kP.c3
       have zf := kP.fr
       go_simp
       clear z0 z1 z2 z3 zf
       replace N := Box4.chain N kP (.bool f1) (.slice a1 z1.length c1) (.bool f2) (.slice b1 t1.length e1)
       replace kQ := kQ.old ne_kQ_kP (.bool f1) (.slice a1 z1.length c1) (.bool f2) (.slice b1 t1.length e1)
       replace o1 := o1.put4 r_kP_o1 (.bool f1) (.slice a1 z1.length c1) (.bool f2) (.slice b1 t1.length e1)
       replace o2 := o2.put4 r_kP_o2 (.bool f1) (.slice a1 z1.length c1) (.bool f2) (.slice b1 t1.length e1)
       replace o3 := o3.put4 r_kP_o3 (.bool f1) (.slice a1 z1.length c1) (.bool f2) (.slice b1 t1.length e1)
       replace o4 := o4.put4 r_kP_o4 (.bool f1) (.slice a1 z1.length c1) (.bool f2) (.slice b1 t1.length e1)
       replace kP := kP.put (.bool f1) (.slice a1 z1.length c1) (.bool f2) (.slice b1 t1.length e1)
       refine hK.out _ _ N (fun hHeld => ?_)
       clear hK K
       try simp only [Act.put, sA, sB, sC]
       refine wpAnyH_ready (rs := [17]) (by kernel_rfl) (by simp) (AllReadyH.cons (gt rfl) (fun K hK => ?_) AllReadyH.nil)
       have z0 := kQ.c0
       have z1 := kQ.c1
       have z2 := kQ.c2
       have z3 := kQ.c3
       have zf := kQ.fr
       go_simp
       clear z0 z1 z2 z3 zf
       replace N := Box4.chain N kQ (.bool f3) (.slice a2 z2.length c2) (.bool f4) (.slice b2 t2.length e2)
       replace kP := kP.old ne_kP_kQ (.bool f3) (.slice a2 z2.length c2) (.bool f4) (.slice b2 t2.length e2)
       replace o1 := o1.put4 r_kQ_o1 (.bool f3) (.slice a2 z2.length c2) (.bool f4) (.slice b2 t2.length e2)
       replace o2 := o2.put4 r_kQ_o2 (.bool f3) (.slice a2 z2.length c2) (.bool f4) (.slice b2 t2.length e2)
       replace o3 := o3.put4 r_kQ_o3 (.bool f3) (.slice a2 z2.length c2) (.bool f4) (.slice b2 t2.length e2)
       replace o4 := o4.put4 r_kQ_o4 (.bool f3) (.slice a2 z2.length c2) (.bool f4) (.slice b2 t2.length e2)
       replace kQ := kQ.put (.bool f3) (.slice a2 z2.length c2) (.bool f4) (.slice b2 t2.length e2)
       refine hK.out _ _ N (fun hHeld => ?_)
       clear hK K
       try simp only [Act.put, sA, sB, sC]
       refine wpAnyH_done (by kernel_rfl) ?_ _
       go_wp2
       go_meet
       case rel => exact ⟨_, _, a1, c1, b1, e1, a2, c2, b2, e2, rfl, rfl, rfl, kP, kQ, ⟨o1.base_le bs, o2.base_le bs, o3.base_le bs, o4.base_le bs⟩, ap, ⟨⟨r_kP_o1, r_kP_o2, r_kP_o3, r_kP_o4⟩, ⟨r_kQ_o1, r_kQ_o2, r_kQ_o3, r_kQ_o4⟩⟩, N⟩
     · go_simp
       have kP := Box4.new V N.size (.bool false) (.slice none 0 0) (.bool false) (.slice none 0 0) 28
       have hb := below1 V (.cells #[.bool false, .slice none 0 0, .bool false, .slice none 0 0] 28)
       have g_q := Nat.ne_of_lt kQ.lt
       replace kQ := kQ.below hb
       replace N := N.trans (hb.mono N.size)
       refine hK.out _ _ N (fun hHeld => ?_)
       clear hK K
       try simp only [Act.put, sA, sB, sC]
       rw [← hwp]
       exact met (H4_pq _ q _ kP kQ g_q.symm N) (by kernel_rfl)
    have H4_ : ∀ (V : World), Below W1.heap.size W1 V → wp 10 #[true, true, true, true, true, true, true, true, false, false, false, false, false, false, false, false, false, false] ⟨#[.agg #[.int .i64 x1, .int .i64 y1], .agg #[.int .i64 x2, .int .i64 y2], .agg #[.int .i64 x3, .int .i64 y3], .agg #[.int .i64 x4, .int .i64 y4], .pointer (some ⟨w.heap.size, 0, none⟩), .pointer (some ⟨w.heap.size + 1, 0, none⟩), .pointer (some ⟨w.heap.size + 1 + 1, 0, none⟩), .pointer (some ⟨w.heap.size + 1 + 1 + 1, 0, none⟩), .bool false, .int .i64 kk, .pointer (some ⟨pW, 0, none⟩), .pointer (some ⟨qW, 0, none⟩), undef, undef, undef, undef, undef, undef, undef, undef, u20, u21, u22, u23, u24, u25, u26, u27, u28, u29, u30, u31, u32, u33, .agg #[.int .i64 x1, .int .i64 y1], .agg #[.int .i64 x1, .int .i64 y1], .agg #[.int .i64 x2, .int .i64 y2], .agg #[.int .i64 x2, .int .i64 y2], .agg #[.int .i64 x3, .int .i64 y3], .agg #[.int .i64 x3, .int .i64 y3], .agg #[.int .i64 x4, .int .i64 y4], .agg #[.int .i64 x4, .int .i64 y4], u42, u43, u44, u45, u46, u47, u48, u49, u50, u51, u52, u53, u54, u55, u56, u57, u58, u59, u60, u61, u62, u63, u64, u65, u66, u67, u68, u69, u70, u71, u72, u73, u74, u75, u76, u77, u78, u79, u80, u81, u82, u83, u84, u85, u86, u87, u88, u89, u90, u91, u92, u93, u94, u95, u96, u97, u98, u99, u100, u101, u102, u103, u104, u105, u106, u107, u108, u109, u110, u111, u112, u113, u114, u115, u116, u117, u118, u119, u120], []⟩ V := by
     skip
     intro V N
     have hHeld : Below W1.heap.size W1 V := N
     rw [hwp]
     refine wpAnyH_ready (rs := [8, 13, 14]) (by kernel_rfl) (by simp) (AllReadyH.cons (gt rfl) (fun K hK => ?_) (AllReadyH.cons (gt rfl) (fun K hK => ?_) (AllReadyH.cons (gt rfl) (fun K hK => ?_) AllReadyH.nil)))
     · go_simp
       refine (implCross x1 y1 x2 y2 x3 y3 x4 y4 _ kk n1 d1 n2 d2 HC.out).mono ?_
       rintro ee ww12 ⟨u1, u2, rfl, TF, hb⟩
       obtain ⟨a1, c1, b1, e1, a2, c2, b2, e2, rfl, rfl, o1, o2, o3, o4, ap⟩ := TF.as HV.out
       rw [F1.out, F2.out, F3.out, F4.out]
       have bs := N.size
       clear TF
       replace N := N.trans (hb.mono N.size)
       clear hb
       refine hK.out _ _ N (fun hHeld => ?_)
       clear hK K
       try simp only [Act.put, sA, sB, sC]
       refine takeQ (i := 9) (gt rfl) (by kernel_rfl) (fun _ _ _ h => h) (by rfl) (by intro wq _; go_simp <;> with_reducible rfl) (by assumption) ?_
       try simp only [Act.put, sA, sB, sC]
       refine takeQ (i := 10) (gt rfl) (by kernel_rfl) (fun _ _ _ h => h) (by rfl) (by intro wq _; go_simp <;> with_reducible rfl) (by assumption) ?_
       try simp only [Act.put, sA, sB, sC]
       refine takeQ (i := 11) (gt rfl) (by kernel_rfl) (fun _ _ _ h => h) (by rfl) (by intro wq _; go_simp <;> with_reducible rfl) (by assumption) ?_
       try simp only [Act.put, sA, sB, sC]
       refine takeQ (i := 12) (gt rfl) (by kernel_rfl) (fun _ _ _ h => h) (by rfl) (by intro wq _; go_simp <;> with_reducible rfl) (by assumption) ?_
       try simp only [Act.put, sA, sB, sC]
       refine wpAnyH_ready (rs := [13, 14]) (by kernel_rfl) (by simp) (AllReadyH.cons (gt rfl) (fun K hK => ?_) (AllReadyH.cons (gt rfl) (fun K hK => ?_) AllReadyH.nil))
       · skip
         go_simp
         have kP := Box4.new ww12 N.size (.bool false) (.slice none 0 0) (.bool false) (.slice none 0 0) 28
         have hb := below1 ww12 (.cells #[.bool false, .slice none 0 0, .bool false, .slice none 0 0] 28)
         have r_kP_o1 := row_ne_high o1.toCame (Nat.le_refl _)
         have r_kP_o2 := row_ne_high o2.toCame (Nat.le_refl _)
         have r_kP_o3 := row_ne_high o3.toCame (Nat.le_refl _)
         have r_kP_o4 := row_ne_high o4.toCame (Nat.le_refl _)
         replace o1 := o1.below hb
         replace o2 := o2.below hb
         replace o3 := o3.below hb
         replace o4 := o4.below hb
         replace N := N.trans (hb.mono N.size)
         clear hb
         generalize ww12.alloc (.cells #[.bool false, .slice none 0 0, .bool false, .slice none 0 0] 28) = ww13 at *
         refine hK.out _ _ N (fun hHeld => ?_)
         clear hK K
         try simp only [Act.put, sA, sB, sC]
         refine wpAnyH_ready (rs := [14]) (by kernel_rfl) (by simp) (AllReadyH.cons (gt rfl) (fun K hK => ?_) AllReadyH.nil)
         go_simp
         have kQ := Box4.new ww13 N.size (.bool false) (.slice none 0 0) (.bool false) (.slice none 0 0) 28
         have hb := below1 ww13 (.cells #[.bool false, .slice none 0 0, .bool false, .slice none 0 0] 28)
         have r_kQ_o1 := row_ne_high o1.toCame (Nat.le_refl _)
         have r_kQ_o2 := row_ne_high o2.toCame (Nat.le_refl _)
         have r_kQ_o3 := row_ne_high o3.toCame (Nat.le_refl _)
         have r_kQ_o4 := row_ne_high o4.toCame (Nat.le_refl _)
         have ne_kQ_kP := Nat.ne_of_gt kP.lt
         have ne_kP_kQ := ne_kQ_kP.symm
         replace kP := kP.below hb
         replace o1 := o1.below hb
         replace o2 := o2.below hb
         replace o3 := o3.below hb
         replace o4 := o4.below hb
         replace N := N.trans (hb.mono N.size)
         clear hb
         generalize ww13.alloc (.cells #[.bool false, .slice none 0 0, .bool false, .slice none 0 0] 28) = ww14 at *
         refine hK.out _ _ N (fun hHeld => ?_)
         clear hK K
         try simp only [Act.put, sA, sB, sC]
         refine takeQ (i := 15) (gt rfl) (by kernel_rfl) (fun _ _ _ h => h) (by rfl) (by intro wq _; go_simp <;> with_reducible rfl) (by assumption) ?_
         try simp only [Act.put, sA, sB, sC]
         refine wpAnyH_ready (rs := [16]) (by kernel_rfl) (by simp) (AllReadyH.cons (gt rfl) (fun K hK => ?_) AllReadyH.nil)
         have z0 := kP.c0
         have z1 := kP.c1
         have z2 := kP.c2
         have z3 := kP.c3
         have zf := kP.fr
         go_simp
         clear z0 z1 z2 z3 zf
         replace N := Box4.chain N kP (.bool f1) (.slice a1 z1.length c1) (.bool f2) (.slice b1 t1.length e1)
         replace kQ := kQ.old ne_kQ_kP (.bool f1) (.slice a1 z1.length c1) (.bool f2) (.slice b1 t1.length e1)
         replace o1 := o1.put4 r_kP_o1 (.bool f1) (.slice a1 z1.length c1) (.bool f2) (.slice b1 t1.length e1)
         replace o2 := o2.put4 r_kP_o2 (.bool f1) (.slice a1 z1.length c1) (.bool f2) (.slice b1 t1.length e1)
         replace o3 := o3.put4 r_kP_o3 (.bool f1) (.slice a1 z1.length c1) (.bool f2) (.slice b1 t1.length e1)
         replace o4 := o4.put4 r_kP_o4 (.bool f1) (.slice a1 z1.length c1) (.bool f2) (.slice b1 t1.length e1)
         replace kP := kP.put (.bool f1) (.slice a1 z1.length c1) (.bool f2) (.slice b1 t1.length e1)
         refine hK.out _ _ N (fun hHeld => ?_)
         clear hK K
         try simp only [Act.put, sA, sB, sC]
         refine wpAnyH_ready (rs := [17]) (by kernel_rfl) (by simp) (AllReadyH.cons (gt rfl) (fun K hK => ?_) AllReadyH.nil)
         have z0 := kQ.c0
         have z1 := kQ.c1
         have z2 := kQ.c2
         have z3 := kQ.c3
         have zf := kQ.fr
         go_simp
         clear z0 z1 z2 z3 zf
         replace N := Box4.chain N kQ (.bool f3) (.slice a2 z2.length c2) (.bool f4) (.slice b2 t2.length e2)
         replace kP := kP.old ne_kP_kQ (.bool f3) (.slice a2 z2.length c2) (.bool f4) (.slice b2 t2.length e2)
         replace o1 := o1.put4 r_kQ_o1 (.bool f3) (.slice a2 z2.length c2) (.bool f4) (.slice b2 t2.length e2)
         replace o2 := o2.put4 r_kQ_o2 (.bool f3) (.slice a2 z2.length c2) (.bool f4) (.slice b2 t2.length e2)
         replace o3 := o3.put4 r_kQ_o3 (.bool f3) (.slice a2 z2.length c2) (.bool f4) (.slice b2 t2.length e2)
         replace o4 := o4.put4 r_kQ_o4 (.bool f3) (.slice a2 z2.length c2) (.bool f4) (.slice b2 t2.length e2)
         replace kQ := kQ.put (.bool f3) (.slice a2 z2.length c2) (.bool f4) (.slice b2 t2.length e2)
         refine hK.out _ _ N (fun hHeld => ?_)
         clear hK K
         try simp only [Act.put, sA, sB, sC]
         refine wpAnyH_done (by kernel_rfl) ?_ _
         go_wp2
         go_meet
         case rel => exact ⟨_, _, a1, c1, b1, e1, a2, c2, b2, e2, rfl, rfl, rfl, kP, kQ, ⟨o1.base_le bs, o2.base_le bs, o3.base_le bs, o4.base_le bs⟩, ap, ⟨⟨r_kP_o1, r_kP_o2, r_kP_o3, r_kP_o4⟩, ⟨r_kQ_o1, r_kQ_o2, r_kQ_o3, r_kQ_o4⟩⟩, N⟩
       · skip
         go_simp
         have kQ := Box4.new ww12 N.size (.bool false) (.slice none 0 0) (.bool false) (.slice none 0 0) 28
         have hb := below1 ww12 (.cells #[.bool false, .slice none 0 0, .bool false, .slice none 0 0] 28)
         have r_kQ_o1 := row_ne_high o1.toCame (Nat.le_refl _)
         have r_kQ_o2 := row_ne_high o2.toCame (Nat.le_refl _)
         have r_kQ_o3 := row_ne_high o3.toCame (Nat.le_refl _)
         have r_kQ_o4 := row_ne_high o4.toCame (Nat.le_refl _)
         replace o1 := o1.below hb
         replace o2 := o2.below hb
         replace o3 := o3.below hb
         replace o4 := o4.below hb
         replace N := N.trans (hb.mono N.size)
         clear hb
         generalize ww12.alloc (.cells #[.bool false, .slice none 0 0, .bool false, .slice none 0 0] 28) = ww17 at *
         refine hK.out _ _ N (fun hHeld => ?_)
         clear hK K
         try simp only [Act.put, sA, sB, sC]
         refine wpAnyH_ready (rs := [13]) (by kernel_rfl) (by simp) (AllReadyH.cons (gt rfl) (fun K hK => ?_) AllReadyH.nil)
         go_simp
         have kP := Box4.new ww17 N.size (.bool false) (.slice none 0 0) (.bool false) (.slice none 0 0) 28
         have hb := below1 ww17 (.cells #[.bool false, .slice none 0 0, .bool false, .slice none 0 0] 28)
         have r_kP_o1 := row_ne_high o1.toCame (Nat.le_refl _)
         have r_kP_o2 := row_ne_high o2.toCame (Nat.le_refl _)
         have r_kP_o3 := row_ne_high o3.toCame (Nat.le_refl _)
         have r_kP_o4 := row_ne_high o4.toCame (Nat.le_refl _)
         have ne_kP_kQ := Nat.ne_of_gt kQ.lt
         have ne_kQ_kP := ne_kP_kQ.symm
         replace kQ := kQ.below hb
         replace o1 := o1.below hb
         replace o2 := o2.below hb
         replace o3 := o3.below hb
         replace o4 := o4.below hb
         replace N := N.trans (hb.mono N.size)
         clear hb
         generalize ww17.alloc (.cells #[.bool false, .slice none 0 0, .bool false, .slice none 0 0] 28) = ww18 at *
         refine hK.out _ _ N (fun hHeld => ?_)
         clear hK K
         try simp only [Act.put, sA, sB, sC]
         refine takeQ (i := 15) (gt rfl) (by kernel_rfl) (fun _ _ _ h => h) (by rfl) (by intro wq _; go_simp <;> with_reducible rfl) (by assumption) ?_
         try simp only [Act.put, sA, sB, sC]
         refine wpAnyH_ready (rs := [16]) (by kernel_rfl) (by simp) (AllReadyH.cons (gt rfl) (fun K hK => ?_) AllReadyH.nil)
         have z0 := kP.c0
         have z1 := kP.c1
         have z2 := kP.c2
         have z3 := kP.c3
         have zf := kP.fr
         go_simp
         clear z0 z1 z2 z3 zf
         replace N := Box4.chain N kP (.bool f1) (.slice a1 z1.length c1) (.bool f2) (.slice b1 t1.length e1)
         replace kQ := kQ.old ne_kQ_kP (.bool f1) (.slice a1 z1.length c1) (.bool f2) (.slice b1 t1.length e1)
         replace o1 := o1.put4 r_kP_o1 (.bool f1) (.slice a1 z1.length c1) (.bool f2) (.slice b1 t1.length e1)
         replace o2 := o2.put4 r_kP_o2 (.bool f1) (.slice a1 z1.length c1) (.bool f2) (.slice b1 t1.length e1)
         replace o3 := o3.put4 r_kP_o3 (.bool f1) (.slice a1 z1.length c1) (.bool f2) (.slice b1 t1.length e1)
         replace o4 := o4.put4 r_kP_o4 (.bool f1) (.slice a1 z1.length c1) (.bool f2) (.slice b1 t1.length e1)
         replace kP := kP.put (.bool f1) (.slice a1 z1.length c1) (.bool f2) (.slice b1 t1.length e1)
         refine hK.out _ _ N (fun hHeld => ?_)
         clear hK K
         try simp only [Act.put, sA, sB, sC]
         refine wpAnyH_ready (rs := [17]) (by kernel_rfl) (by simp) (AllReadyH.cons (gt rfl) (fun K hK => ?_) AllReadyH.nil)
         have z0 := kQ.c0
         have z1 := kQ.c1
         have z2 := kQ.c2
         have z3 := kQ.c3
         have zf := kQ.fr
         go_simp
         clear z0 z1 z2 z3 zf
         replace N := Box4.chain N kQ (.bool f3) (.slice a2 z2.length c2) (.bool f4) (.slice b2 t2.length e2)
         replace kP := kP.old ne_kP_kQ (.bool f3) (.slice a2 z2.length c2) (.bool f4) (.slice b2 t2.length e2)
         replace o1 := o1.put4 r_kQ_o1 (.bool f3) (.slice a2 z2.length c2) (.bool f4) (.slice b2 t2.length e2)
         replace o2 := o2.put4 r_kQ_o2 (.bool f3) (.slice a2 z2.length c2) (.bool f4) (.slice b2 t2.length e2)
         replace o3 := o3.put4 r_kQ_o3 (.bool f3) (.slice a2 z2.length c2) (.bool f4) (.slice b2 t2.length e2)
         replace o4 := o4.put4 r_kQ_o4 (.bool f3) (.slice a2 z2.length c2) (.bool f4) (.slice b2 t2.length e2)
         replace kQ := kQ.put (.bool f3) (.slice a2 z2.length c2) (.bool f4) (.slice b2 t2.length e2)
         refine hK.out _ _ N (fun hHeld => ?_)
         clear hK K
         try simp only [Act.put, sA, sB, sC]
         refine wpAnyH_done (by kernel_rfl) ?_ _
         go_wp2
         go_meet
         case rel => exact ⟨_, _, a1, c1, b1, e1, a2, c2, b2, e2, rfl, rfl, rfl, kP, kQ, ⟨o1.base_le bs, o2.base_le bs, o3.base_le bs, o4.base_le bs⟩, ap, ⟨⟨r_kP_o1, r_kP_o2, r_kP_o3, r_kP_o4⟩, ⟨r_kQ_o1, r_kQ_o2, r_kQ_o3, r_kQ_o4⟩⟩, N⟩
     · go_simp
       have kP := Box4.new V N.size (.bool false) (.slice none 0 0) (.bool false) (.slice none 0 0) 28
       have hb := below1 V (.cells #[.bool false, .slice none 0 0, .bool false, .slice none 0 0] 28)
       replace N := N.trans (hb.mono N.size)
       refine hK.out _ _ N (fun hHeld => ?_)
       clear hK K
       try simp only [Act.put, sA, sB, sC]
       rw [← hwp]
       exact met (H4_p _ _ kP N) (by kernel_rfl)
     · go_simp
       have kQ := Box4.new V N.size (.bool false) (.slice none 0 0) (.bool false) (.slice none 0 0) 28
       have hb := below1 V (.cells #[.bool false, .slice none 0 0, .bool false, .slice none 0 0] 28)
       replace N := N.trans (hb.mono N.size)
       refine hK.out _ _ N (fun hHeld => ?_)
       clear hK K
       try simp only [Act.put, sA, sB, sC]
       rw [← hwp]
       exact met (H4_q _ _ kQ N) (by kernel_rfl)
    have H3_pq : ∀ (p q : Nat) (V : World), Box4 W1.heap.size V p (.bool false) (.slice none 0 0) (.bool false) (.slice none 0 0) → Box4 W1.heap.size V q (.bool false) (.slice none 0 0) (.bool false) (.slice none 0 0) → p ≠ q → Below W1.heap.size W1 V → wp 9 #[true, true, true, true, true, true, true, false, false, false, false, false, false, true, true, false, false, false] ⟨#[.agg #[.int .i64 x1, .int .i64 y1], .agg #[.int .i64 x2, .int .i64 y2], .agg #[.int .i64 x3, .int .i64 y3], .agg #[.int .i64 x4, .int .i64 y4], .pointer (some ⟨w.heap.size, 0, none⟩), .pointer (some ⟨w.heap.size + 1, 0, none⟩), .pointer (some ⟨w.heap.size + 1 + 1, 0, none⟩), .pointer (some ⟨w.heap.size + 1 + 1 + 1, 0, none⟩), .bool false, .int .i64 kk, .pointer (some ⟨pW, 0, none⟩), .pointer (some ⟨qW, 0, none⟩), undef, .pointer (some ⟨p, 0, none⟩), .pointer (some ⟨q, 0, none⟩), undef, undef, undef, undef, undef, u20, u21, u22, u23, u24, u25, u26, u27, u28, u29, u30, u31, u32, u33, .agg #[.int .i64 x1, .int .i64 y1], .agg #[.int .i64 x1, .int .i64 y1], .agg #[.int .i64 x2, .int .i64 y2], .agg #[.int .i64 x2, .int .i64 y2], .agg #[.int .i64 x3, .int .i64 y3], .agg #[.int .i64 x3, .int .i64 y3], .agg #[.int .i64 x4, .int .i64 y4], u41, u42, u43, u44, u45, u46, u47, u48, u49, u50, u51, u52, u53, u54, u55, u56, u57, u58, u59, u60, u61, u62, u63, u64, u65, u66, u67, u68, u69, u70, u71, u72, u73, u74, u75, u76, u77, u78, u79, u80, u81, u82, u83, u84, u85, u86, u87, u88, u89, u90, u91, u92, u93, u94, u95, u96, u97, u98, u99, u100, u101, u102, u103, u104, u105, u106, u107, u108, u109, u110, u111, u112, u113, u114, u115, u116, u117, u118, u119, u120], []⟩ V := by
     as_aux_lemma =>
      intro p q V kP kQ n_pq N
      have hHeld : Below W1.heap.size W1 V := N
      rw [hwp]
      refine wpAnyH_ready (rs := [7]) (by kernel_rfl) (by simp) (AllReadyH.cons (gt rfl) (fun K hK => ?_) AllReadyH.nil)
      · go_simp
        refine (toPt_any x4 y4 _).mono ?_
        rintro ee V' ⟨rfl, hb⟩
        replace kP := kP.below hb
        replace kQ := kQ.below hb
        replace N := N.trans (hb.mono N.size)
        refine hK.out _ _ N (fun hHeld => ?_)
        clear hK K
        try simp only [Act.put, sA, sB, sC]
        rw [← hwp]
        exact met (H4_pq p q _ kP kQ n_pq N) (by kernel_rfl)
    have H3_p : ∀ (p : Nat) (V : World), Box4 W1.heap.size V p (.bool false) (.slice none 0 0) (.bool false) (.slice none 0 0) → Below W1.heap.size W1 V → wp 10 #[true, true, true, true, true, true, true, false, false, false, false, false, false, true, false, false, false, false] ⟨#[.agg #[.int .i64 x1, .int .i64 y1], .agg #[.int .i64 x2, .int .i64 y2], .agg #[.int .i64 x3, .int .i64 y3], .agg #[.int .i64 x4, .int .i64 y4], .pointer (some ⟨w.heap.size, 0, none⟩), .pointer (some ⟨w.heap.size + 1, 0, none⟩), .pointer (some ⟨w.heap.size + 1 + 1, 0, none⟩), .pointer (some ⟨w.heap.size + 1 + 1 + 1, 0, none⟩), .bool false, .int .i64 kk, .pointer (some ⟨pW, 0, none⟩), .pointer (some ⟨qW, 0, none⟩), undef, .pointer (some ⟨p, 0, none⟩), undef, undef, undef, undef, undef, undef, u20, u21, u22, u23, u24, u25, u26, u27, u28, u29, u30, u31, u32, u33, .agg #[.int .i64 x1, .int .i64 y1], .agg #[.int .i64 x1, .int .i64 y1], .agg #[.int .i64 x2, .int .i64 y2], .agg #[.int .i64 x2, .int .i64 y2], .agg #[.int .i64 x3, .int .i64 y3], .agg #[.int .i64 x3, .int .i64 y3], .agg #[.int .i64 x4, .int .i64 y4], u41, u42, u43, u44, u45, u46, u47, u48, u49, u50, u51, u52, u53, u54, u55, u56, u57, u58, u59, u60, u61, u62, u63, u64, u65, u66, u67, u68, u69, u70, u71, u72, u73, u74, u75, u76, u77, u78, u79, u80, u81, u82, u83, u84, u85, u86, u87, u88, u89, u90, u91, u92, u93, u94, u95, u96, u97, u98, u99, u100, u101, u102, u103, u104, u105, u106, u107, u108, u109, u110, u111, u112, u113, u114, u115, u116, u117, u118, u119, u120], []⟩ V := by
     as_aux_lemma =>
      intro p V kP N
      have hHeld : Below W1.heap.size W1 V := N
      rw [hwp]
      refine wpAnyH_ready (rs := [7, 14]) (by kernel_rfl) (by simp) (AllReadyH.cons (gt rfl) (fun K hK => ?_) (AllReadyH.cons (gt rfl) (fun K hK => ?_) AllReadyH.nil))
      · go_simp
        refine (toPt_any x4 y4 _).mono ?_
        rintro ee V' ⟨rfl, hb⟩
        replace kP := kP.below hb
        replace N := N.trans (hb.mono N.size)
        refine hK.out _ _ N (fun hHeld => ?_)
        clear hK K
        try simp only [Act.put, sA, sB, sC]
        rw [← hwp]
        exact met (H4_p p _ kP N) (by kernel_rfl)
      · go_simp
        have kQ := Box4.new V N.size (.bool false) (.slice none 0 0) (.bool false) (.slice none 0 0) 28
        have hb := below1 V (.cells #[.bool false, .slice none 0 0, .bool false, .slice none 0 0] 28)
        have g_p := Nat.ne_of_lt kP.lt
        replace kP := kP.below hb
        replace N := N.trans (hb.mono N.size)
        refine hK.out _ _ N (fun hHeld => ?_)
        clear hK K
        try simp only [Act.put, sA, sB, sC]
        rw [← hwp]
        exact met (H3_pq p _ _ kP kQ g_p N) (by kernel_rfl)
    have H3_q : ∀ (q : Nat) (V : World), Box4 W1.heap.size V q (.bool false) (.slice none 0 0) (.bool false) (.slice none 0 0) → Below W1.heap.size W1 V → wp 10 #[true, true, true, true, true, true, true, false, false, false, false, false, false, false, true, false, false, false] ⟨#[.agg #[.int .i64 x1, .int .i64 y1], .agg #[.int .i64 x2, .int .i64 y2], .agg #[.int .i64 x3, .int .i64 y3], .agg #[.int .i64 x4, .int .i64 y4], .pointer (some ⟨w.heap.size, 0, none⟩), .pointer (some ⟨w.heap.size + 1, 0, none⟩), .pointer (some ⟨w.heap.size + 1 + 1, 0, none⟩), .pointer (some ⟨w.heap.size + 1 + 1 + 1, 0, none⟩), .bool false, .int .i64 kk, .pointer (some ⟨pW, 0, none⟩), .pointer (some ⟨qW, 0, none⟩), undef, undef, .pointer (some ⟨q, 0, none⟩), undef, undef, undef, undef, undef, u20, u21, u22, u23, u24, u25, u26, u27, u28, u29, u30, u31, u32, u33, .agg #[.int .i64 x1, .int .i64 y1], .agg #[.int .i64 x1, .int .i64 y1], .agg #[.int .i64 x2, .int .i64 y2], .agg #[.int .i64 x2, .int .i64 y2], .agg #[.int .i64 x3, .int .i64 y3], .agg #[.int .i64 x3, .int .i64 y3], .agg #[.int .i64 x4, .int .i64 y4], u41, u42, u43, u44, u45, u46, u47, u48, u49, u50, u51, u52, u53, u54, u55, u56, u57, u58, u59, u60, u61, u62, u63, u64, u65, u66, u67, u68, u69, u70, u71, u72, u73, u74, u75, u76, u77, u78, u79, u80, u81, u82, u83, u84, u85, u86, u87, u88, u89, u90, u91, u92, u93, u94, u95, u96, u97, u98, u99, u100, u101, u102, u103, u104, u105, u106, u107, u108, u109, u110, u111, u112, u113, u114, u115, u116, u117, u118, u119, u120], []⟩ V := by
     as_aux_lemma =>
      intro q V kQ N
      have hHeld : Below W1.heap.size W1 V := N
      rw [hwp]
      refine wpAnyH_ready (rs := [7, 13]) (by kernel_rfl) (by simp) (AllReadyH.cons (gt rfl) (fun K hK => ?_) (AllReadyH.cons (gt rfl) (fun K hK => ?_) AllReadyH.nil))
      · go_simp
        refine (toPt_any x4 y4 _).mono ?_
        rintro ee V' ⟨rfl, hb⟩
        replace kQ := kQ.below hb
        replace N := N.trans (hb.mono N.size)
        refine hK.out _ _ N (fun hHeld => ?_)
        clear hK K
        try simp only [Act.put, sA, sB, sC]
        rw [← hwp]
        exact met (H4_q q _ kQ N) (by kernel_rfl)
      · go_simp
        have kP := Box4.new V N.size (.bool false) (.slice none 0 0) (.bool false) (.slice none 0 0) 28
        have hb := below1 V (.cells #[.bool false, .slice none 0 0, .bool false, .slice none 0 0] 28)
        have g_q := Nat.ne_of_lt kQ.lt
        replace kQ := kQ.below hb
        replace N := N.trans (hb.mono N.size)
        refine hK.out _ _ N (fun hHeld => ?_)
        clear hK K
        try simp only [Act.put, sA, sB, sC]
        rw [← hwp]
        exact met (H3_pq _ q _ kP kQ g_q.symm N) (by kernel_rfl)
    have H3_ : ∀ (V : World), Below W1.heap.size W1 V → wp 11 #[true, true, true, true, true, true, true, false, false, false, false, false, false, false, false, false, false, false] ⟨#[.agg #[.int .i64 x1, .int .i64 y1], .agg #[.int .i64 x2, .int .i64 y2], .agg #[.int .i64 x3, .int .i64 y3], .agg #[.int .i64 x4, .int .i64 y4], .pointer (some ⟨w.heap.size, 0, none⟩), .pointer (some ⟨w.heap.size + 1, 0, none⟩), .pointer (some ⟨w.heap.size + 1 + 1, 0, none⟩), .pointer (some ⟨w.heap.size + 1 + 1 + 1, 0, none⟩), .bool false, .int .i64 kk, .pointer (some ⟨pW, 0, none⟩), .pointer (some ⟨qW, 0, none⟩), undef, undef, undef, undef, undef, undef, undef, undef, u20, u21, u22, u23, u24, u25, u26, u27, u28, u29, u30, u31, u32, u33, .agg #[.int .i64 x1, .int .i64 y1], .agg #[.int .i64 x1, .int .i64 y1], .agg #[.int .i64 x2, .int .i64 y2], .agg #[.int .i64 x2, .int .i64 y2], .agg #[.int .i64 x3, .int .i64 y3], .agg #[.int .i64 x3, .int .i64 y3], .agg #[.int .i64 x4, .int .i64 y4], u41, u42, u43, u44, u45, u46, u47, u48, u49, u50, u51, u52, u53, u54, u55, u56, u57, u58, u59, u60, u61, u62, u63, u64, u65, u66, u67, u68, u69, u70, u71, u72, u73, u74, u75, u76, u77, u78, u79, u80, u81, u82, u83, u84, u85, u86, u87, u88, u89, u90, u91, u92, u93, u94, u95, u96, u97, u98, u99, u100, u101, u102, u103, u104, u105, u106, u107, u108, u109, u110, u111, u112, u113, u114, u115, u116, u117, u118, u119, u120], []⟩ V := by
     as_aux_lemma =>
      intro V N
      have hHeld : Below W1.heap.size W1 V := N
      rw [hwp]
      refine wpAnyH_ready (rs := [7, 13, 14]) (by kernel_rfl) (by simp) (AllReadyH.cons (gt rfl) (fun K hK => ?_) (AllReadyH.cons (gt rfl) (fun K hK => ?_) (AllReadyH.cons (gt rfl) (fun K hK => ?_) AllReadyH.nil)))
      · go_simp
        refine (toPt_any x4 y4 _).mono ?_
        rintro ee V' ⟨rfl, hb⟩
        replace N := N.trans (hb.mono N.size)
        refine hK.out _ _ N (fun hHeld => ?_)
        clear hK K
        try simp only [Act.put, sA, sB, sC]
        rw [← hwp]
        exact met (H4_ _ N) (by kernel_rfl)
      · go_simp
        have kP := Box4.new V N.size (.bool false) (.slice none 0 0) (.bool false) (.slice none 0 0) 28
        have hb := below1 V (.cells #[.bool false, .slice none 0 0, .bool false, .slice none 0 0] 28)
        replace N := N.trans (hb.mono N.size)
        refine hK.out _ _ N (fun hHeld => ?_)
        clear hK K
        try simp only [Act.put, sA, sB, sC]
        rw [← hwp]
        exact met (H3_p _ _ kP N) (by kernel_rfl)
      · go_simp
        have kQ := Box4.new V N.size (.bool false) (.slice none 0 0) (.bool false) (.slice none 0 0) 28
        have hb := below1 V (.cells #[.bool false, .slice none 0 0, .bool false, .slice none 0 0] 28)
        replace N := N.trans (hb.mono N.size)
        refine hK.out _ _ N (fun hHeld => ?_)
        clear hK K
        try simp only [Act.put, sA, sB, sC]
        rw [← hwp]
        exact met (H3_q _ _ kQ N) (by kernel_rfl)
    have H2_pq : ∀ (p q : Nat) (V : World), Box4 W1.heap.size V p (.bool false) (.slice none 0 0) (.bool false) (.slice none 0 0) → Box4 W1.heap.size V q (.bool false) (.slice none 0 0) (.bool false) (.slice none 0 0) → p ≠ q → Below W1.heap.size W1 V → wp 10 #[true, true, true, true, true, false, true, false, false, false, false, false, false, true, true, false, false, false] ⟨#[.agg #[.int .i64 x1, .int .i64 y1], .agg #[.int .i64 x2, .int .i64 y2], .agg #[.int .i64 x3, .int .i64 y3], .agg #[.int .i64 x4, .int .i64 y4], .pointer (some ⟨w.heap.size, 0, none⟩), .pointer (some ⟨w.heap.size + 1, 0, none⟩), .pointer (some ⟨w.heap.size + 1 + 1, 0, none⟩), .pointer (some ⟨w.heap.size + 1 + 1 + 1, 0, none⟩), .bool false, .int .i64 kk, .pointer (some ⟨pW, 0, none⟩), .pointer (some ⟨qW, 0, none⟩), undef, .pointer (some ⟨p, 0, none⟩), .pointer (some ⟨q, 0, none⟩), undef, undef, undef, undef, undef, u20, u21, u22, u23, u24, u25, u26, u27, u28, u29, u30, u31, u32, u33, .agg #[.int .i64 x1, .int .i64 y1], .agg #[.int .i64 x1, .int .i64 y1], .agg #[.int .i64 x2, .int .i64 y2], .agg #[.int .i64 x2, .int .i64 y2], .agg #[.int .i64 x3, .int .i64 y3], u39, .agg #[.int .i64 x4, .int .i64 y4], u41, u42, u43, u44, u45, u46, u47, u48, u49, u50, u51, u52, u53, u54, u55, u56, u57, u58, u59, u60, u61, u62, u63, u64, u65, u66, u67, u68, u69, u70, u71, u72, u73, u74, u75, u76, u77, u78, u79, u80, u81, u82, u83, u84, u85, u86, u87, u88, u89, u90, u91, u92, u93, u94, u95, u96, u97, u98, u99, u100, u101, u102, u103, u104, u105, u106, u107, u108, u109, u110, u111, u112, u113, u114, u115, u116, u117, u118, u119, u120], []⟩ V := by
     as_aux_lemma =>
      intro p q V kP kQ n_pq N
      have hHeld : Below W1.heap.size W1 V := N
      rw [hwp]
      refine wpAnyH_ready (rs := [5]) (by kernel_rfl) (by simp) (AllReadyH.cons (gt rfl) (fun K hK => ?_) AllReadyH.nil)
      · go_simp
        refine (toPt_any x3 y3 _).mono ?_
        rintro ee V' ⟨rfl, hb⟩
        replace kP := kP.below hb
        replace kQ := kQ.below hb
        replace N := N.trans (hb.mono N.size)
        refine hK.out _ _ N (fun hHeld => ?_)
        clear hK K
        try simp only [Act.put, sA, sB, sC]
        rw [← hwp]
        exact met (H3_pq p q _ kP kQ n_pq N) (by kernel_rfl)
    have H2_p : ∀ (p : Nat) (V : World), Box4 W1.heap.size V p (.bool false) (.slice none 0 0) (.bool false) (.slice none 0 0) → Below W1.heap.size W1 V → wp 11 #[true, true, true, true, true, false, true, false, false, false, false, false, false, true, false, false, false, false] ⟨#[.agg #[.int .i64 x1, .int .i64 y1], .agg #[.int .i64 x2, .int .i64 y2], .agg #[.int .i64 x3, .int .i64 y3], .agg #[.int .i64 x4, .int .i64 y4], .pointer (some ⟨w.heap.size, 0, none⟩), .pointer (some ⟨w.heap.size + 1, 0, none⟩), .pointer (some ⟨w.heap.size + 1 + 1, 0, none⟩), .pointer (some ⟨w.heap.size + 1 + 1 + 1, 0, none⟩), .bool false, .int .i64 kk, .pointer (some ⟨pW, 0, none⟩), .pointer (some ⟨qW, 0, none⟩), undef, .pointer (some ⟨p, 0, none⟩), undef, undef, undef, undef, undef, undef, u20, u21, u22, u23, u24, u25, u26, u27, u28, u29, u30, u31, u32, u33, .agg #[.int .i64 x1, .int .i64 y1], .agg #[.int .i64 x1, .int .i64 y1], .agg #[.int .i64 x2, .int .i64 y2], .agg #[.int .i64 x2, .int .i64 y2], .agg #[.int .i64 x3, .int .i64 y3], u39, .agg #[.int .i64 x4, .int .i64 y4], u41, u42, u43, u44, u45, u46, u47, u48, u49, u50, u51, u52, u53, u54, u55, u56, u57, u58, u59, u60, u61, u62, u63, u64, u65, u66, u67, u68, u69, u70, u71, u72, u73, u74, u75, u76, u77, u78, u79, u80, u81, u82, u83, u84, u85, u86, u87, u88, u89, u90, u91, u92, u93, u94, u95, u96, u97, u98, u99, u100, u101, u102, u103, u104, u105, u106, u107, u108, u109, u110, u111, u112, u113, u114, u115, u116, u117, u118, u119, u120], []⟩ V := by
     as_aux_lemma =>
      intro p V kP N
      have hHeld : Below W1.heap.size W1 V := N
      rw [hwp]
      refine wpAnyH_ready (rs := [5, 14]) (by kernel_rfl) (by simp) (AllReadyH.cons (gt rfl) (fun K hK => ?_) (AllReadyH.cons (gt rfl) (fun K hK => ?_) AllReadyH.nil))
      · go_simp
        refine (toPt_any x3 y3 _).mono ?_
        rintro ee V' ⟨rfl, hb⟩
        replace kP := kP.below hb
        replace N := N.trans (hb.mono N.size)
        refine hK.out _ _ N (fun hHeld => ?_)
        clear hK K
        try simp only [Act.put, sA, sB, sC]
        rw [← hwp]
        exact met (H3_p p _ kP N) (by kernel_rfl)
      · go_simp
        have kQ := Box4.new V N.size (.bool false) (.slice none 0 0) (.bool false) (.slice none 0 0) 28
        have hb := below1 V (.cells #[.bool false, .slice none 0 0, .bool false, .slice none 0 0] 28)
        have g_p := Nat.ne_of_lt kP.lt
        replace kP := kP.below hb
        replace N := N.trans (hb.mono N.size)
        refine hK.out _ _ N (fun hHeld => ?_)
        clear hK K
        try simp only [Act.put, sA, sB, sC]
        rw [← hwp]
        exact met (H2_pq p _ _ kP kQ g_p N) (by kernel_rfl)
    have H2_q : ∀ (q : Nat) (V : World), Box4 W1.heap.size V q (.bool false) (.slice none 0 0) (.bool false) (.slice none 0 0) → Below W1.heap.size W1 V → wp 11 #[true, true, true, true, true, false, true, false, false, false, false, false, false, false, true, false, false, false] ⟨#[.agg #[.int .i64 x1, .int .i64 y1], .agg #[.int .i64 x2, .int .i64 y2], .agg #[.int .i64 x3, .int .i64 y3], .agg #[.int .i64 x4, .int .i64 y4], .pointer (some ⟨w.heap.size, 0, none⟩), .pointer (some ⟨w.heap.size + 1, 0, none⟩), .pointer (some ⟨w.heap.size + 1 + 1, 0, none⟩), .pointer (some ⟨w.heap.size + 1 + 1 + 1, 0, none⟩), .bool false, .int .i64 kk, .pointer (some ⟨pW, 0, none⟩), .pointer (some ⟨qW, 0, none⟩), undef, undef, .pointer (some ⟨q, 0, none⟩), undef, undef, undef, undef, undef, u20, u21, u22, u23, u24, u25, u26, u27, u28, u29, u30, u31, u32, u33, .agg #[.int .i64 x1, .int .i64 y1], .agg #[.int .i64 x1, .int .i64 y1], .agg #[.int .i64 x2, .int .i64 y2], .agg #[.int .i64 x2, .int .i64 y2], .agg #[.int .i64 x3, .int .i64 y3], u39, .agg #[.int .i64 x4, .int .i64 y4], u41, u42, u43, u44, u45, u46, u47, u48, u49, u50, u51, u52, u53, u54, u55, u56, u57, u58, u59, u60, u61, u62, u63, u64, u65, u66, u67, u68, u69, u70, u71, u72, u73, u74, u75, u76, u77, u78, u79, u80, u81, u82, u83, u84, u85, u86, u87, u88, u89, u90, u91, u92, u93, u94, u95, u96, u97, u98, u99, u100, u101, u102, u103, u104, u105, u106, u107, u108, u109, u110, u111, u112, u113, u114, u115, u116, u117, u118, u119, u120], []⟩ V := by
     as_aux_lemma =>
      intro q V kQ N
      have hHeld : Below W1.heap.size W1 V := N
      rw [hwp]
      refine wpAnyH_ready (rs := [5, 13]) (by kernel_rfl) (by simp) (AllReadyH.cons (gt rfl) (fun K hK => ?_) (AllReadyH.cons (gt rfl) (fun K hK => ?_) AllReadyH.nil))
      · go_simp
        refine (toPt_any x3 y3 _).mono ?_
        rintro ee V' ⟨rfl, hb⟩
        replace kQ := kQ.below hb
        replace N := N.trans (hb.mono N.size)
        refine hK.out _ _ N (fun hHeld => ?_)
        clear hK K
        try simp only [Act.put, sA, sB, sC]
        rw [← hwp]
        exact met (H3_q q _ kQ N) (by kernel_rfl)
      · go_simp
        have kP := Box4.new V N.size (.bool false) (.slice none 0 0) (.bool false) (.slice none 0 0) 28
        have hb := below1 V (.cells #[.bool false, .slice none 0 0, .bool false, .slice none 0 0] 28)
        have g_q := Nat.ne_of_lt kQ.lt
        replace kQ := kQ.below hb
        replace N := N.trans (hb.mono N.size)
        refine hK.out _ _ N (fun hHeld => ?_)
        clear hK K
        try simp only [Act.put, sA, sB, sC]
        rw [← hwp]
        exact met (H2_pq _ q _ kP kQ g_q.symm N) (by kernel_rfl)
    have H2_ : ∀ (V : World), Below W1.heap.size W1 V → wp 12 #[true, true, true, true, true, false, true, false, false, false, false, false, false, false, false, false, false, false] ⟨#[.agg #[.int .i64 x1, .int .i64 y1], .agg #[.int .i64 x2, .int .i64 y2], .agg #[.int .i64 x3, .int .i64 y3], .agg #[.int .i64 x4, .int .i64 y4], .pointer (some ⟨w.heap.size, 0, none⟩), .pointer (some ⟨w.heap.size + 1, 0, none⟩), .pointer (some ⟨w.heap.size + 1 + 1, 0, none⟩), .pointer (some ⟨w.heap.size + 1 + 1 + 1, 0, none⟩), .bool false, .int .i64 kk, .pointer (some ⟨pW, 0, none⟩), .pointer (some ⟨qW, 0, none⟩), undef, undef, undef, undef, undef, undef, undef, undef, u20, u21, u22, u23, u24, u25, u26, u27, u28, u29, u30, u31, u32, u33, .agg #[.int .i64 x1, .int .i64 y1], .agg #[.int .i64 x1, .int .i64 y1], .agg #[.int .i64 x2, .int .i64 y2], .agg #[.int .i64 x2, .int .i64 y2], .agg #[.int .i64 x3, .int .i64 y3], u39, .agg #[.int .i64 x4, .int .i64 y4], u41, u42, u43, u44, u45, u46, u47, u48, u49, u50, u51, u52, u53, u54, u55, u56, u57, u58, u59, u60, u61, u62, u63, u64, u65, u66, u67, u68, u69, u70, u71, u72, u73, u74, u75, u76, u77, u78, u79, u80, u81, u82, u83, u84, u85, u86, u87, u88, u89, u90, u91, u92, u93, u94, u95, u96, u97, u98, u99, u100, u101, u102, u103, u104, u105, u106, u107, u108, u109, u110, u111, u112, u113, u114, u115, u116, u117, u118, u119, u120], []⟩ V := by
     as_aux_lemma =>
      intro V N
      have hHeld : Below W1.heap.size W1 V := N
      rw [hwp]
      refine wpAnyH_ready (rs := [5, 13, 14]) (by kernel_rfl) (by simp) (AllReadyH.cons (gt rfl) (fun K hK => ?_) (AllReadyH.cons (gt rfl) (fun K hK => ?_) (AllReadyH.cons (gt rfl) (fun K hK => ?_) AllReadyH.nil)))
      · go_simp
        refine (toPt_any x3 y3 _).mono ?_
        rintro ee V' ⟨rfl, hb⟩
        replace N := N.trans (hb.mono N.size)
        refine hK.out _ _ N (fun hHeld => ?_)
        clear hK K
        try simp only [Act.put, sA, sB, sC]
        rw [← hwp]
        exact met (H3_ _ N) (by kernel_rfl)
      · go_simp
        have kP := Box4.new V N.size (.bool false) (.slice none 0 0) (.bool false) (.slice none 0 0) 28
        have hb := below1 V (.cells #[.bool false, .slice none 0 0, .bool false, .slice none 0 0] 28)
        replace N := N.trans (hb.mono N.size)
        refine hK.out _ _ N (fun hHeld => ?_)
        clear hK K
        try simp only [Act.put, sA, sB, sC]
        rw [← hwp]
        exact met (H2_p _ _ kP N) (by kernel_rfl)
      · go_simp
        have kQ := Box4.new V N.size (.bool false) (.slice none 0 0) (.bool false) (.slice none 0 0) 28
        have hb := below1 V (.cells #[.bool false, .slice none 0 0, .bool false, .slice none 0 0] 28)
        replace N := N.trans (hb.mono N.size)
        refine hK.out _ _ N (fun hHeld => ?_)
        clear hK K
        try simp only [Act.put, sA, sB, sC]
        rw [← hwp]
        exact met (H2_q _ _ kQ N) (by kernel_rfl)
    have H1_pq : ∀ (p q : Nat) (V : World), Box4 W1.heap.size V p (.bool false) (.slice none 0 0) (.bool false) (.slice none 0 0) → Box4 W1.heap.size V q (.bool false) (.slice none 0 0) (.bool false) (.slice none 0 0) → p ≠ q → Below W1.heap.size W1 V → wp 11 #[true, true, true, false, true, false, true, false, false, false, false, false, false, true, true, false, false, false] ⟨#[.agg #[.int .i64 x1, .int .i64 y1], .agg #[.int .i64 x2, .int .i64 y2], .agg #[.int .i64 x3, .int .i64 y3], .agg #[.int .i64 x4, .int .i64 y4], .pointer (some ⟨w.heap.size, 0, none⟩), .pointer (some ⟨w.heap.size + 1, 0, none⟩), .pointer (some ⟨w.heap.size + 1 + 1, 0, none⟩), .pointer (some ⟨w.heap.size + 1 + 1 + 1, 0, none⟩), .bool false, .int .i64 kk, .pointer (some ⟨pW, 0, none⟩), .pointer (some ⟨qW, 0, none⟩), undef, .pointer (some ⟨p, 0, none⟩), .pointer (some ⟨q, 0, none⟩), undef, undef, undef, undef, undef, u20, u21, u22, u23, u24, u25, u26, u27, u28, u29, u30, u31, u32, u33, .agg #[.int .i64 x1, .int .i64 y1], .agg #[.int .i64 x1, .int .i64 y1], .agg #[.int .i64 x2, .int .i64 y2], u37, .agg #[.int .i64 x3, .int .i64 y3], u39, .agg #[.int .i64 x4, .int .i64 y4], u41, u42, u43, u44, u45, u46, u47, u48, u49, u50, u51, u52, u53, u54, u55, u56, u57, u58, u59, u60, u61, u62, u63, u64, u65, u66, u67, u68, u69, u70, u71, u72, u73, u74, u75, u76, u77, u78, u79, u80, u81, u82, u83, u84, u85, u86, u87, u88, u89, u90, u91, u92, u93, u94, u95, u96, u97, u98, u99, u100, u101, u102, u103, u104, u105, u106, u107, u108, u109, u110, u111, u112, u113, u114, u115, u116, u117, u118, u119, u120], []⟩ V := by
     as_aux_lemma =>
      intro p q V kP kQ n_pq N
      have hHeld : Below W1.heap.size W1 V := N
      rw [hwp]
      refine wpAnyH_ready (rs := [3]) (by kernel_rfl) (by simp) (AllReadyH.cons (gt rfl) (fun K hK => ?_) AllReadyH.nil)
      · go_simp
        refine (toPt_any x2 y2 _).mono ?_
        rintro ee V' ⟨rfl, hb⟩
        replace kP := kP.below hb
        replace kQ := kQ.below hb
        replace N := N.trans (hb.mono N.size)
        refine hK.out _ _ N (fun hHeld => ?_)
        clear hK K
        try simp only [Act.put, sA, sB, sC]
        rw [← hwp]
        exact met (H2_pq p q _ kP kQ n_pq N) (by kernel_rfl)
    have H1_p : ∀ (p : Nat) (V : World), Box4 W1.heap.size V p (.bool false) (.slice none 0 0) (.bool false) (.slice none 0 0) → Below W1.heap.size W1 V → wp 12 #[true, true, true, false, true, false, true, false, false, false, false, false, false, true, false, false, false, false] ⟨#[.agg #[.int .i64 x1, .int .i64 y1], .agg #[.int .i64 x2, .int .i64 y2], .agg #[.int .i64 x3, .int .i64 y3], .agg #[.int .i64 x4, .int .i64 y4], .pointer (some ⟨w.heap.size, 0, none⟩), .pointer (some ⟨w.heap.size + 1, 0, none⟩), .pointer (some ⟨w.heap.size + 1 + 1, 0, none⟩), .pointer (some ⟨w.heap.size + 1 + 1 + 1, 0, none⟩), .bool false, .int .i64 kk, .pointer (some ⟨pW, 0, none⟩), .pointer (some ⟨qW, 0, none⟩), undef, .pointer (some ⟨p, 0, none⟩), undef, undef, undef, undef, undef, undef, u20, u21, u22, u23, u24, u25, u26, u27, u28, u29, u30, u31, u32, u33, .agg #[.int .i64 x1, .int .i64 y1], .agg #[.int .i64 x1, .int .i64 y1], .agg #[.int .i64 x2, .int .i64 y2], u37, .agg #[.int .i64 x3, .int .i64 y3], u39, .agg #[.int .i64 x4, .int .i64 y4], u41, u42, u43, u44, u45, u46, u47, u48, u49, u50, u51, u52, u53, u54, u55, u56, u57, u58, u59, u60, u61, u62, u63, u64, u65, u66, u67, u68, u69, u70, u71, u72, u73, u74, u75, u76, u77, u78, u79, u80, u81, u82, u83, u84, u85, u86, u87, u88, u89, u90, u91, u92, u93, u94, u95, u96, u97, u98, u99, u100, u101, u102, u103, u104, u105, u106, u107, u108, u109, u110, u111, u112, u113, u114, u115, u116, u117, u118, u119, u120], []⟩ V := by
     as_aux_lemma =>
      intro p V kP N
      have hHeld : Below W1.heap.size W1 V := N
      rw [hwp]
      refine wpAnyH_ready (rs := [3, 14]) (by kernel_rfl) (by simp) (AllReadyH.cons (gt rfl) (fun K hK => ?_) (AllReadyH.cons (gt rfl) (fun K hK => ?_) AllReadyH.nil))
      · go_simp
        refine (toPt_any x2 y2 _).mono ?_
        rintro ee V' ⟨rfl, hb⟩
        replace kP := kP.below hb
        replace N := N.trans (hb.mono N.size)
        refine hK.out _ _ N (fun hHeld => ?_)
        clear hK K
        try simp only [Act.put, sA, sB, sC]
        rw [← hwp]
        exact met (H2_p p _ kP N) (by kernel_rfl)
      · go_simp
        have kQ := Box4.new V N.size (.bool false) (.slice none 0 0) (.bool false) (.slice none 0 0) 28
        have hb := below1 V (.cells #[.bool false, .slice none 0 0, .bool false, .slice none 0 0] 28)
        have g_p := Nat.ne_of_lt kP.lt
        replace kP := kP.below hb
        replace N := N.trans (hb.mono N.size)
        refine hK.out _ _ N (fun hHeld => ?_)
        clear hK K
        try simp only [Act.put, sA, sB, sC]
        rw [← hwp]
        exact met (H1_pq p _ _ kP kQ g_p N) (by kernel_rfl)
    have H1_q : ∀ (q : Nat) (V : World), Box4 W1.heap.size V q (.bool false) (.slice none 0 0) (.bool false) (.slice none 0 0) → Below W1.heap.size W1 V → wp 12 #[true, true, true, false, true, false, true, false, false, false, false, false, false, false, true, false, false, false] ⟨#[.agg #[.int .i64 x1, .int .i64 y1], .agg #[.int .i64 x2, .int .i64 y2], .agg #[.int .i64 x3, .int .i64 y3], .agg #[.int .i64 x4, .int .i64 y4], .pointer (some ⟨w.heap.size, 0, none⟩), .pointer (some ⟨w.heap.size + 1, 0, none⟩), .pointer (some ⟨w.heap.size + 1 + 1, 0, none⟩), .pointer (some ⟨w.heap.size + 1 + 1 + 1, 0, none⟩), .bool false, .int .i64 kk, .pointer (some ⟨pW, 0, none⟩), .pointer (some ⟨qW, 0, none⟩), undef, undef, .pointer (some ⟨q, 0, none⟩), undef, undef, undef, undef, undef, u20, u21, u22, u23, u24, u25, u26, u27, u28, u29, u30, u31, u32, u33, .agg #[.int .i64 x1, .int .i64 y1], .agg #[.int .i64 x1, .int .i64 y1], .agg #[.int .i64 x2, .int .i64 y2], u37, .agg #[.int .i64 x3, .int .i64 y3], u39, .agg #[.int .i64 x4, .int .i64 y4], u41, u42, u43, u44, u45, u46, u47, u48, u49, u50, u51, u52, u53, u54, u55, u56, u57, u58, u59, u60, u61, u62, u63, u64, u65, u66, u67, u68, u69, u70, u71, u72, u73, u74, u75, u76, u77, u78, u79, u80, u81, u82, u83, u84, u85, u86, u87, u88, u89, u90, u91, u92, u93, u94, u95, u96, u97, u98, u99, u100, u101, u102, u103, u104, u105, u106, u107, u108, u109, u110, u111, u112, u113, u114, u115, u116, u117, u118, u119, u120], []⟩ V := by
     as_aux_lemma =>
      intro q V kQ N
      have hHeld : Below W1.heap.size W1 V := N
      rw [hwp]
      refine wpAnyH_ready (rs := [3, 13]) (by kernel_rfl) (by simp) (AllReadyH.cons (gt rfl) (fun K hK => ?_) (AllReadyH.cons (gt rfl) (fun K hK => ?_) AllReadyH.nil))
      · go_simp
        refine (toPt_any x2 y2 _).mono ?_
        rintro ee V' ⟨rfl, hb⟩
        replace kQ := kQ.below hb
        replace N := N.trans (hb.mono N.size)
        refine hK.out _ _ N (fun hHeld => ?_)
        clear hK K
        try simp only [Act.put, sA, sB, sC]
        rw [← hwp]
        exact met (H2_q q _ kQ N) (by kernel_rfl)
      · go_simp
        have kP := Box4.new V N.size (.bool false) (.slice none 0 0) (.bool false) (.slice none 0 0) 28
        have hb := below1 V (.cells #[.bool false, .slice none 0 0, .bool false, .slice none 0 0] 28)
        have g_q := Nat.ne_of_lt kQ.lt
        replace kQ := kQ.below hb
        replace N := N.trans (hb.mono N.size)
        refine hK.out _ _ N (fun hHeld => ?_)
        clear hK K
        try simp only [Act.put, sA, sB, sC]
        rw [← hwp]
        exact met (H1_pq _ q _ kP kQ g_q.symm N) (by kernel_rfl)
    have H1_ : ∀ (V : World), Below W1.heap.size W1 V → wp 13 #[true, true, true, false, true, false, true, false, false, false, false, false, false, false, false, false, false, false] ⟨#[.agg #[.int .i64 x1, .int .i64 y1], .agg #[.int .i64 x2, .int .i64 y2], .agg #[.int .i64 x3, .int .i64 y3], .agg #[.int .i64 x4, .int .i64 y4], .pointer (some ⟨w.heap.size, 0, none⟩), .pointer (some ⟨w.heap.size + 1, 0, none⟩), .pointer (some ⟨w.heap.size + 1 + 1, 0, none⟩), .pointer (some ⟨w.heap.size + 1 + 1 + 1, 0, none⟩), .bool false, .int .i64 kk, .pointer (some ⟨pW, 0, none⟩), .pointer (some ⟨qW, 0, none⟩), undef, undef, undef, undef, undef, undef, undef, undef, u20, u21, u22, u23, u24, u25, u26, u27, u28, u29, u30, u31, u32, u33, .agg #[.int .i64 x1, .int .i64 y1], .agg #[.int .i64 x1, .int .i64 y1], .agg #[.int .i64 x2, .int .i64 y2], u37, .agg #[.int .i64 x3, .int .i64 y3], u39, .agg #[.int .i64 x4, .int .i64 y4], u41, u42, u43, u44, u45, u46, u47, u48, u49, u50, u51, u52, u53, u54, u55, u56, u57, u58, u59, u60, u61, u62, u63, u64, u65, u66, u67, u68, u69, u70, u71, u72, u73, u74, u75, u76, u77, u78, u79, u80, u81, u82, u83, u84, u85, u86, u87, u88, u89, u90, u91, u92, u93, u94, u95, u96, u97, u98, u99, u100, u101, u102, u103, u104, u105, u106, u107, u108, u109, u110, u111, u112, u113, u114, u115, u116, u117, u118, u119, u120], []⟩ V := by
     as_aux_lemma =>
      intro V N
      have hHeld : Below W1.heap.size W1 V := N
      rw [hwp]
      refine wpAnyH_ready (rs := [3, 13, 14]) (by kernel_rfl) (by simp) (AllReadyH.cons (gt rfl) (fun K hK => ?_) (AllReadyH.cons (gt rfl) (fun K hK => ?_) (AllReadyH.cons (gt rfl) (fun K hK => ?_) AllReadyH.nil)))
      · go_simp
        refine (toPt_any x2 y2 _).mono ?_
        rintro ee V' ⟨rfl, hb⟩
        replace N := N.trans (hb.mono N.size)
        refine hK.out _ _ N (fun hHeld => ?_)
        clear hK K
        try simp only [Act.put, sA, sB, sC]
        rw [← hwp]
        exact met (H2_ _ N) (by kernel_rfl)
      · go_simp
        have kP := Box4.new V N.size (.bool false) (.slice none 0 0) (.bool false) (.slice none 0 0) 28
        have hb := below1 V (.cells #[.bool false, .slice none 0 0, .bool false, .slice none 0 0] 28)
        replace N := N.trans (hb.mono N.size)
        refine hK.out _ _ N (fun hHeld => ?_)
        clear hK K
        try simp only [Act.put, sA, sB, sC]
        rw [← hwp]
        exact met (H1_p _ _ kP N) (by kernel_rfl)
      · go_simp
        have kQ := Box4.new V N.size (.bool false) (.slice none 0 0) (.bool false) (.slice none 0 0) 28
        have hb := below1 V (.cells #[.bool false, .slice none 0 0, .bool false, .slice none 0 0] 28)
        replace N := N.trans (hb.mono N.size)
        refine hK.out _ _ N (fun hHeld => ?_)
        clear hK K
        try simp only [Act.put, sA, sB, sC]
        rw [← hwp]
        exact met (H1_q _ _ kQ N) (by kernel_rfl)
    have H0_pq : ∀ (p q : Nat) (V : World), Box4 W1.heap.size V p (.bool false) (.slice none 0 0) (.bool false) (.slice none 0 0) → Box4 W1.heap.size V q (.bool false) (.slice none 0 0) (.bool false) (.slice none 0 0) → p ≠ q → Below W1.heap.size W1 V → wp 12 #[true, false, true, false, true, false, true, false, false, false, false, false, false, true, true, false, false, false] ⟨#[.agg #[.int .i64 x1, .int .i64 y1], .agg #[.int .i64 x2, .int .i64 y2], .agg #[.int .i64 x3, .int .i64 y3], .agg #[.int .i64 x4, .int .i64 y4], .pointer (some ⟨w.heap.size, 0, none⟩), .pointer (some ⟨w.heap.size + 1, 0, none⟩), .pointer (some ⟨w.heap.size + 1 + 1, 0, none⟩), .pointer (some ⟨w.heap.size + 1 + 1 + 1, 0, none⟩), .bool false, .int .i64 kk, .pointer (some ⟨pW, 0, none⟩), .pointer (some ⟨qW, 0, none⟩), undef, .pointer (some ⟨p, 0, none⟩), .pointer (some ⟨q, 0, none⟩), undef, undef, undef, undef, undef, u20, u21, u22, u23, u24, u25, u26, u27, u28, u29, u30, u31, u32, u33, .agg #[.int .i64 x1, .int .i64 y1], u35, .agg #[.int .i64 x2, .int .i64 y2], u37, .agg #[.int .i64 x3, .int .i64 y3], u39, .agg #[.int .i64 x4, .int .i64 y4], u41, u42, u43, u44, u45, u46, u47, u48, u49, u50, u51, u52, u53, u54, u55, u56, u57, u58, u59, u60, u61, u62, u63, u64, u65, u66, u67, u68, u69, u70, u71, u72, u73, u74, u75, u76, u77, u78, u79, u80, u81, u82, u83, u84, u85, u86, u87, u88, u89, u90, u91, u92, u93, u94, u95, u96, u97, u98, u99, u100, u101, u102, u103, u104, u105, u106, u107, u108, u109, u110, u111, u112, u113, u114, u115, u116, u117, u118, u119, u120], []⟩ V := by
     as_aux_lemma =>
      intro p q V kP kQ n_pq N
      have hHeld : Below W1.heap.size W1 V := N
      rw [hwp]
      refine wpAnyH_ready (rs := [1]) (by kernel_rfl) (by simp) (AllReadyH.cons (gt rfl) (fun K hK => ?_) AllReadyH.nil)
      · go_simp
        refine (toPt_any x1 y1 _).mono ?_
        rintro ee V' ⟨rfl, hb⟩
        replace kP := kP.below hb
        replace kQ := kQ.below hb
        replace N := N.trans (hb.mono N.size)
        refine hK.out _ _ N (fun hHeld => ?_)
        clear hK K
        try simp only [Act.put, sA, sB, sC]
        rw [← hwp]
        exact met (H1_pq p q _ kP kQ n_pq N) (by kernel_rfl)
    have H0_p : ∀ (p : Nat) (V : World), Box4 W1.heap.size V p (.bool false) (.slice none 0 0) (.bool false) (.slice none 0 0) → Below W1.heap.size W1 V → wp 13 #[true, false, true, false, true, false, true, false, false, false, false, false, false, true, false, false, false, false] ⟨#[.agg #[.int .i64 x1, .int .i64 y1], .agg #[.int .i64 x2, .int .i64 y2], .agg #[.int .i64 x3, .int .i64 y3], .agg #[.int .i64 x4, .int .i64 y4], .pointer (some ⟨w.heap.size, 0, none⟩), .pointer (some ⟨w.heap.size + 1, 0, none⟩), .pointer (some ⟨w.heap.size + 1 + 1, 0, none⟩), .pointer (some ⟨w.heap.size + 1 + 1 + 1, 0, none⟩), .bool false, .int .i64 kk, .pointer (some ⟨pW, 0, none⟩), .pointer (some ⟨qW, 0, none⟩), undef, .pointer (some ⟨p, 0, none⟩), undef, undef, undef, undef, undef, undef, u20, u21, u22, u23, u24, u25, u26, u27, u28, u29, u30, u31, u32, u33, .agg #[.int .i64 x1, .int .i64 y1], u35, .agg #[.int .i64 x2, .int .i64 y2], u37, .agg #[.int .i64 x3, .int .i64 y3], u39, .agg #[.int .i64 x4, .int .i64 y4], u41, u42, u43, u44, u45, u46, u47, u48, u49, u50, u51, u52, u53, u54, u55, u56, u57, u58, u59, u60, u61, u62, u63, u64, u65, u66, u67, u68, u69, u70, u71, u72, u73, u74, u75, u76, u77, u78, u79, u80, u81, u82, u83, u84, u85, u86, u87, u88, u89, u90, u91, u92, u93, u94, u95, u96, u97, u98, u99, u100, u101, u102, u103, u104, u105, u106, u107, u108, u109, u110, u111, u112, u113, u114, u115, u116, u117, u118, u119, u120], []⟩ V := by
     as_aux_lemma =>
      intro p V kP N
      have hHeld : Below W1.heap.size W1 V := N
      rw [hwp]
      refine wpAnyH_ready (rs := [1, 14]) (by kernel_rfl) (by simp) (AllReadyH.cons (gt rfl) (fun K hK => ?_) (AllReadyH.cons (gt rfl) (fun K hK => ?_) AllReadyH.nil))
      · go_simp
        refine (toPt_any x1 y1 _).mono ?_
        rintro ee V' ⟨rfl, hb⟩
        replace kP := kP.below hb
        replace N := N.trans (hb.mono N.size)
        refine hK.out _ _ N (fun hHeld => ?_)
        clear hK K
        try simp only [Act.put, sA, sB, sC]
        rw [← hwp]
        exact met (H1_p p _ kP N) (by kernel_rfl)
      · go_simp
        have kQ := Box4.new V N.size (.bool false) (.slice none 0 0) (.bool false) (.slice none 0 0) 28
        have hb := below1 V (.cells #[.bool false, .slice none 0 0, .bool false, .slice none 0 0] 28)
        have g_p := Nat.ne_of_lt kP.lt
        replace kP := kP.below hb
        replace N := N.trans (hb.mono N.size)
        refine hK.out _ _ N (fun hHeld => ?_)
        clear hK K
        try simp only [Act.put, sA, sB, sC]
        rw [← hwp]
        exact met (H0_pq p _ _ kP kQ g_p N) (by kernel_rfl)
    have H0_q : ∀ (q : Nat) (V : World), Box4 W1.heap.size V q (.bool false) (.slice none 0 0) (.bool false) (.slice none 0 0) → Below W1.heap.size W1 V → wp 13 #[true, false, true, false, true, false, true, false, false, false, false, false, false, false, true, false, false, false] ⟨#[.agg #[.int .i64 x1, .int .i64 y1], .agg #[.int .i64 x2, .int .i64 y2], .agg #[.int .i64 x3, .int .i64 y3], .agg #[.int .i64 x4, .int .i64 y4], .pointer (some ⟨w.heap.size, 0, none⟩), .pointer (some ⟨w.heap.size + 1, 0, none⟩), .pointer (some ⟨w.heap.size + 1 + 1, 0, none⟩), .pointer (some ⟨w.heap.size + 1 + 1 + 1, 0, none⟩), .bool false, .int .i64 kk, .pointer (some ⟨pW, 0, none⟩), .pointer (some ⟨qW, 0, none⟩), undef, undef, .pointer (some ⟨q, 0, none⟩), undef, undef, undef, undef, undef, u20, u21, u22, u23, u24, u25, u26, u27, u28, u29, u30, u31, u32, u33, .agg #[.int .i64 x1, .int .i64 y1], u35, .agg #[.int .i64 x2, .int .i64 y2], u37, .agg #[.int .i64 x3, .int .i64 y3], u39, .agg #[.int .i64 x4, .int .i64 y4], u41, u42, u43, u44, u45, u46, u47, u48, u49, u50, u51, u52, u53, u54, u55, u56, u57, u58, u59, u60, u61, u62, u63, u64, u65, u66, u67, u68, u69, u70, u71, u72, u73, u74, u75, u76, u77, u78, u79, u80, u81, u82, u83, u84, u85, u86, u87, u88, u89, u90, u91, u92, u93, u94, u95, u96, u97, u98, u99, u100, u101, u102, u103, u104, u105, u106, u107, u108, u109, u110, u111, u112, u113, u114, u115, u116, u117, u118, u119, u120], []⟩ V := by
     as_aux_lemma =>
      intro q V kQ N
      have hHeld : Below W1.heap.size W1 V := N
      rw [hwp]
      refine wpAnyH_ready (rs := [1, 13]) (by kernel_rfl) (by simp) (AllReadyH.cons (gt rfl) (fun K hK => ?_) (AllReadyH.cons (gt rfl) (fun K hK => ?_) AllReadyH.nil))
      · go_simp
        refine (toPt_any x1 y1 _).mono ?_
        rintro ee V' ⟨rfl, hb⟩
        replace kQ := kQ.below hb
        replace N := N.trans (hb.mono N.size)
        refine hK.out _ _ N (fun hHeld => ?_)
        clear hK K
        try simp only [Act.put, sA, sB, sC]
        rw [← hwp]
        exact met (H1_q q _ kQ N) (by kernel_rfl)
      · go_simp
        have kP := Box4.new V N.size (.bool false) (.slice none 0 0) (.bool false) (.slice none 0 0) 28
        have hb := below1 V (.cells #[.bool false, .slice none 0 0, .bool false, .slice none 0 0] 28)
        have g_q := Nat.ne_of_lt kQ.lt
        replace kQ := kQ.below hb
        replace N := N.trans (hb.mono N.size)
        refine hK.out _ _ N (fun hHeld => ?_)
        clear hK K
        try simp only [Act.put, sA, sB, sC]
        rw [← hwp]
        exact met (H0_pq _ q _ kP kQ g_q.symm N) (by kernel_rfl)
    have H0_ : ∀ (V : World), Below W1.heap.size W1 V → wp 14 #[true, false, true, false, true, false, true, false, false, false, false, false, false, false, false, false, false, false] ⟨#[.agg #[.int .i64 x1, .int .i64 y1], .agg #[.int .i64 x2, .int .i64 y2], .agg #[.int .i64 x3, .int .i64 y3], .agg #[.int .i64 x4, .int .i64 y4], .pointer (some ⟨w.heap.size, 0, none⟩), .pointer (some ⟨w.heap.size + 1, 0, none⟩), .pointer (some ⟨w.heap.size + 1 + 1, 0, none⟩), .pointer (some ⟨w.heap.size + 1 + 1 + 1, 0, none⟩), .bool false, .int .i64 kk, .pointer (some ⟨pW, 0, none⟩), .pointer (some ⟨qW, 0, none⟩), undef, undef, undef, undef, undef, undef, undef, undef, u20, u21, u22, u23, u24, u25, u26, u27, u28, u29, u30, u31, u32, u33, .agg #[.int .i64 x1, .int .i64 y1], u35, .agg #[.int .i64 x2, .int .i64 y2], u37, .agg #[.int .i64 x3, .int .i64 y3], u39, .agg #[.int .i64 x4, .int .i64 y4], u41, u42, u43, u44, u45, u46, u47, u48, u49, u50, u51, u52, u53, u54, u55, u56, u57, u58, u59, u60, u61, u62, u63, u64, u65, u66, u67, u68, u69, u70, u71, u72, u73, u74, u75, u76, u77, u78, u79, u80, u81, u82, u83, u84, u85, u86, u87, u88, u89, u90, u91, u92, u93, u94, u95, u96, u97, u98, u99, u100, u101, u102, u103, u104, u105, u106, u107, u108, u109, u110, u111, u112, u113, u114, u115, u116, u117, u118, u119, u120], []⟩ V := by
     as_aux_lemma =>
      intro V N
      have hHeld : Below W1.heap.size W1 V := N
      rw [hwp]
      refine wpAnyH_ready (rs := [1, 13, 14]) (by kernel_rfl) (by simp) (AllReadyH.cons (gt rfl) (fun K hK => ?_) (AllReadyH.cons (gt rfl) (fun K hK => ?_) (AllReadyH.cons (gt rfl) (fun K hK => ?_) AllReadyH.nil)))
      · go_simp
        refine (toPt_any x1 y1 _).mono ?_
        rintro ee V' ⟨rfl, hb⟩
        replace N := N.trans (hb.mono N.size)
        refine hK.out _ _ N (fun hHeld => ?_)
        clear hK K
        try simp only [Act.put, sA, sB, sC]
        rw [← hwp]
        exact met (H1_ _ N) (by kernel_rfl)
      · go_simp
        have kP := Box4.new V N.size (.bool false) (.slice none 0 0) (.bool false) (.slice none 0 0) 28
        have hb := below1 V (.cells #[.bool false, .slice none 0 0, .bool false, .slice none 0 0] 28)
        replace N := N.trans (hb.mono N.size)
        refine hK.out _ _ N (fun hHeld => ?_)
        clear hK K
        try simp only [Act.put, sA, sB, sC]
        rw [← hwp]
        exact met (H0_p _ _ kP N) (by kernel_rfl)
      · go_simp
        have kQ := Box4.new V N.size (.bool false) (.slice none 0 0) (.bool false) (.slice none 0 0) 28
        have hb := below1 V (.cells #[.bool false, .slice none 0 0, .bool false, .slice none 0 0] 28)
        replace N := N.trans (hb.mono N.size)
        refine hK.out _ _ N (fun hHeld => ?_)
        clear hK K
        try simp only [Act.put, sA, sB, sC]
        rw [← hwp]
        exact met (H0_q _ _ kQ N) (by kernel_rfl)
    exact met (H0_ _ N) (by kernel_rfl)
  obtain ⟨pG, qG, a1G, c1G, b1G, e1G, a2G, c2G, b2G, e2G, rfl, rfl, rfl, VPG, VQG, ⟨o1G, o2G, o3G, o4G⟩, apG, rrG, hb⟩ := hcut
  rename World => W2
  have B1 := hb
  have S1 := hb.size
  clear hb
  obtain ⟨gA0, gA1, gA2, gA3, _, _⟩ := VPG
  obtain ⟨gB0, gB1, gB2, gB3, _, _⟩ := VQG
  obtain ⟨apG1, apG2, apG3, apG4, apG5, apG6⟩ := apG
  obtain ⟨⟨rA1, rA2, rA3, rA4⟩, ⟨rB1, rB2, rB3, rB4⟩⟩ := rrG
  obtain ⟨wA0, wA1, wA2, wA3, _, _⟩ := VPW.below B1
  obtain ⟨wB0, wB1, wB2, wB3, _, _⟩ := VQW.below B1
  go_wp2_with fail
  clear wA0 wA1 wA2 wA3 wB0 wB1 wB2 wB3
  refine (eqF f1 f2 a1G a1W b1G b1W c1G c1W e1G e1W z1 t1 _ o1G.toSees (o1W.below B1).toSees o2G.toSees (o2W.below B1).toSees).mono ?_
  rintro ee w3 ⟨rfl, hb⟩
  replace gA0 := bat hb gA0
  replace gA1 := bat hb gA1
  replace gA2 := bat hb gA2
  replace gA3 := bat hb gA3
  replace gB0 := bat hb gB0
  replace gB1 := bat hb gB1
  replace gB2 := bat hb gB2
  replace gB3 := bat hb gB3
  replace o1G := o1G.below hb
  replace o2G := o2G.below hb
  replace o3G := o3G.below hb
  replace o4G := o4G.below hb
  replace B1 := B1.trans (hb.mono B1.size)
  replace S1 := Nat.le_trans S1 hb.size
  clear hb
  obtain ⟨wA0, wA1, wA2, wA3, _, _⟩ := VPW.below B1
  obtain ⟨wB0, wB1, wB2, wB3, _, _⟩ := VQW.below B1
  go_wp2_with fail
  clear wA0 wA1 wA2 wA3 wB0 wB1 wB2 wB3
  refine (eqF f3 f4 a2G a2W b2G b2W c2G c2W e2G e2W z2 t2 _ o3G.toSees (o3W.below B1).toSees o4G.toSees (o4W.below B1).toSees).mono ?_
  rintro ee w4 ⟨rfl, hb⟩
  replace gA0 := bat hb gA0
  replace gA1 := bat hb gA1
  replace gA2 := bat hb gA2
  replace gA3 := bat hb gA3
  replace gB0 := bat hb gB0
  replace gB1 := bat hb gB1
  replace gB2 := bat hb gB2
  replace gB3 := bat hb gB3
  replace o1G := o1G.below hb
  replace o2G := o2G.below hb
  replace o3G := o3G.below hb
  replace o4G := o4G.below hb
  replace B1 := B1.trans (hb.mono B1.size)
  replace S1 := Nat.le_trans S1 hb.size
  clear hb
  go_wp2_with fail
  refine (markF W1.heap.size f1 f2 a1G b1G c1G e1G z1 t1 1 _ o1G o2G apG1 (by decide) (by have := HL.out; omega)).mono ?_
  rintro ee w5 ⟨rfl, wm, g1, g2, m1, m2⟩
  have hbb := below_two o1G o2G g1 g2 S1
  replace B1 := B1.trans hbb
  replace S1 := Nat.le_trans S1 hbb.size
  clear hbb
  replace gA0 := g2.cell (g1.cell gA0 rA1) rA2
  replace gA1 := g2.cell (g1.cell gA1 rA1) rA2
  replace gA2 := g2.cell (g1.cell gA2 rA1) rA2
  replace gA3 := g2.cell (g1.cell gA3 rA1) rA2
  replace gB0 := g2.cell (g1.cell gB0 rB1) rB2
  replace gB1 := g2.cell (g1.cell gB1 rB1) rB2
  replace gB2 := g2.cell (g1.cell gB2 rB1) rB2
  replace gB3 := g2.cell (g1.cell gB3 rB1) rB2
  replace o3G := (o3G.kept g1 (apart_symm o1G apG3)).kept g2 (apart_symm o2G apG5)
  replace o4G := (o4G.kept g1 (apart_symm o1G apG4)).kept g2 (apart_symm o2G apG6)
  clear g1 g2 o1G o2G apG1
  go_wp2_with fail
  refine (markF W1.heap.size f3 f4 a2G b2G c2G e2G z2 t2 (1 + z1.length + t1.length) _ o3G o4G apG2 (by omega) (by have := HL.out; omega)).mono ?_
  rintro ee w6 ⟨rfl, wm2, g1, g2, m3, m4⟩
  have hbb := below_two o3G o4G g1 g2 S1
  replace B1 := B1.trans hbb
  replace S1 := Nat.le_trans S1 hbb.size
  clear hbb
  replace gA0 := g2.cell (g1.cell gA0 rA3) rA4
  replace gA1 := g2.cell (g1.cell gA1 rA3) rA4
  replace gA2 := g2.cell (g1.cell gA2 rA3) rA4
  replace gA3 := g2.cell (g1.cell gA3 rA3) rA4
  replace gB0 := g2.cell (g1.cell gB0 rB3) rB4
  replace gB1 := g2.cell (g1.cell gB1 rB3) rB4
  replace gB2 := g2.cell (g1.cell gB2 rB3) rB4
  replace gB3 := g2.cell (g1.cell gB3 rB3) rB4
  replace m1 := (m1.kept g1 (apart_marks apG3)).kept g2 (apart_marks apG4)
  replace m2 := (m2.kept g1 (apart_marks apG5)).kept g2 (apart_marks apG6)
  clear g1 g2 o3G o4G apG2 apG3 apG4 apG5 apG6 rA1 rA2 rA3 rA4 rB1 rB2 rB3 rB4
  have hk1 : decide ((1 : Int) + z1.length + t1.length < 0) = false := decide_eq_false (by omega)
  have hk2 : decide ((1 : Int) + z1.length + t1.length + z2.length + t2.length < 0) = false := decide_eq_false (by omega)
  go_wp2_with fail
  refine (heldF f1 f2 a1G b1G c1G e1G z1.length t1.length 1 _ m1.toSees m2.toSees (by decide) (by have := HL.out; omega)).mono ?_
  rintro ee w7 ⟨rfl, hb⟩
  replace gA0 := bat hb gA0
  replace gA1 := bat hb gA1
  replace gA2 := bat hb gA2
  replace gA3 := bat hb gA3
  replace gB0 := bat hb gB0
  replace gB1 := bat hb gB1
  replace gB2 := bat hb gB2
  replace gB3 := bat hb gB3
  replace m1 := m1.below hb
  replace m2 := m2.below hb
  replace m3 := m3.below hb
  replace m4 := m4.below hb
  replace B1 := B1.trans (hb.mono B1.size)
  replace S1 := Nat.le_trans S1 hb.size
  clear hb
  go_wp2_with fail
  refine (heldF f3 f4 a2G b2G c2G e2G z2.length t2.length (1 + z1.length + t1.length) _ m3.toSees m4.toSees (by omega) (by have := HL.out; omega)).mono ?_
  rintro ee w8 ⟨rfl, hb⟩
  replace gA0 := bat hb gA0
  replace gA1 := bat hb gA1
  replace gA2 := bat hb gA2
  replace gA3 := bat hb gA3
  replace gB0 := bat hb gB0
  replace gB1 := bat hb gB1
  replace gB2 := bat hb gB2
  replace gB3 := bat hb gB3
  replace m1 := m1.below hb
  replace m2 := m2.below hb
  replace m3 := m3.below hb
  replace m4 := m4.below hb
  replace B1 := B1.trans (hb.mono B1.size)
  replace S1 := Nat.le_trans S1 hb.size
  clear hb
  replace k0 := bat B1 k0
  replace k1 := bat B1 k1
  replace k2 := bat B1 k2
  replace k3 := bat B1 k3
  replace k4 := bat B1 k4
  replace k5 := bat B1 k5
  replace k6 := bat B1 k6
  replace k7 := bat B1 k7
  go_upto_region 15 with fail
  go_cut [79] (fun s W => s = .bool false ∧ W = w8)
  case first =>
    go_wp2
    go_meet
    case rel => exact ⟨rfl, rfl⟩
  obtain ⟨rfl, rfl⟩ := hcut
  rename World => w8
  go_upto_region 17 with fail
  clear hk1 hk2
  go_cut [17, 18, 19] (fun s9 s10 s11 W => ∃ p q a1 c1 b1 e1 a2 c2 b2 e2, s9 = .int .i64 kk ∧ s10 = .pointer (some ⟨p, 0, none⟩) ∧ s11 = .pointer (some ⟨q, 0, none⟩) ∧ Box4 w8.heap.size W p (.bool f1) (.slice a1 z1.length c1) (.bool f2) (.slice b1 t1.length e1) ∧ Box4 w8.heap.size W q (.bool f3) (.slice a2 z2.length c2) (.bool f4) (.slice b2 t2.length e2) ∧ (Own w8.heap.size W a1 c1 z1 ∧ Own w8.heap.size W b1 e1 t1 ∧ Own w8.heap.size W a2 c2 z2 ∧ Own w8.heap.size W b2 e2 t2) ∧ Hid (Apart a1 z1 b1 t1 ∧ Apart a2 z2 b2 t2 ∧ Apart a1 z1 a2 z2 ∧ Apart a1 z1 b2 t2 ∧ Apart b1 t1 a2 z2 ∧ Apart b1 t1 b2 t2) ∧ Hid ((some p ≠ rowOf a1 z1 ∧ some p ≠ rowOf b1 t1 ∧ some p ≠ rowOf a2 z2 ∧ some p ≠ rowOf b2 t2) ∧ (some q ≠ rowOf a1 z1 ∧ some q ≠ rowOf b1 t1 ∧ some q ≠ rowOf a2 z2 ∧ some q ≠ rowOf b2 t2)) ∧ Below w8.heap.size w8 W)
  case first =>
    refine wp_region_held_drew (S := Below w8.heap.size w8) (by kernel_rfl) ((Below.refl _ _).drew) (fun hHeld => ?_)
    have N : Below w8.heap.size w8 w8.drew := hHeld
    revert hHeld N
    generalize w8.drew = ww0
    intro hHeld N
    refine takeQ (i := 0) (gt rfl) (by kernel_rfl) (fun _ _ _ h => h) (by rfl) (by intro wq hSw; have q0 := bat hSw k0; have q1 := bat hSw k1; have q2 := bat hSw k2; have q3 := bat hSw k3; have q4 := bat hSw k4; have q5 := bat hSw k5; have q6 := bat hSw k6; have q7 := bat hSw k7; go_simp <;> with_reducible rfl) (by assumption) ?_
    try simp only [Act.put, sA, sB, sC]
    refine takeQ (i := 2) (gt rfl) (by kernel_rfl) (fun _ _ _ h => h) (by rfl) (by intro wq hSw; have q0 := bat hSw k0; have q1 := bat hSw k1; have q2 := bat hSw k2; have q3 := bat hSw k3; have q4 := bat hSw k4; have q5 := bat hSw k5; have q6 := bat hSw k6; have q7 := bat hSw k7; go_simp <;> with_reducible rfl) (by assumption) ?_
    try simp only [Act.put, sA, sB, sC]
    refine takeQ (i := 4) (gt rfl) (by kernel_rfl) (fun _ _ _ h => h) (by rfl) (by intro wq hSw; have q0 := bat hSw k0; have q1 := bat hSw k1; have q2 := bat hSw k2; have q3 := bat hSw k3; have q4 := bat hSw k4; have q5 := bat hSw k5; have q6 := bat hSw k6; have q7 := bat hSw k7; go_simp <;> with_reducible rfl) (by assumption) ?_
    try simp only [Act.put, sA, sB, sC]
    refine takeQ (i := 6) (gt rfl) (by kernel_rfl) (fun _ _ _ h => h) (by rfl) (by intro wq hSw; have q0 := bat hSw k0; have q1 := bat hSw k1; have q2 := bat hSw k2; have q3 := bat hSw k3; have q4 := bat hSw k4; have q5 := bat hSw k5; have q6 := bat hSw k6; have q7 := bat hSw k7; go_simp <;> with_reducible rfl) (by assumption) ?_
    try simp only [Act.put, sA, sB, sC]
    refine capture (fun wp hwp => ?_)
    have H4_pq : ∀ (p q : Nat) (V : World), Box4 w8.heap.size V p (.bool false) (.slice none 0 0) (.bool false) (.slice none 0 0) → Box4 w8.heap.size V q (.bool false) (.slice none 0 0) (.bool false) (.slice none 0 0) → p ≠ q → Below w8.heap.size w8 V → wp 8 #[true, true, true, true, true, true, true, true, false, false, false, false, false, true, true, false, false, false] ⟨#[.agg #[.int .i64 x1, .int .i64 y1], .agg #[.int .i64 x2, .int .i64 y2], .agg #[.int .i64 x3, .int .i64 y3], .agg #[.int .i64 x4, .int .i64 y4], .pointer (some ⟨w.heap.size, 0, none⟩), .pointer (some ⟨w.heap.size + 1, 0, none⟩), .pointer (some ⟨w.heap.size + 1 + 1, 0, none⟩), .pointer (some ⟨w.heap.size + 1 + 1 + 1, 0, none⟩), .bool false, .int .i64 kk, .pointer (some ⟨pW, 0, none⟩), .pointer (some ⟨qW, 0, none⟩), .int .i64 kk, .pointer (some ⟨pG, 0, none⟩), .pointer (some ⟨qG, 0, none⟩), .int .i64 (1 + z1.length + t1.length + z2.length + t2.length), .int .i64 (1 + z1.length + t1.length + z2.length + t2.length), undef, .pointer (some ⟨p, 0, none⟩), .pointer (some ⟨q, 0, none⟩), u20, u21, u22, u23, u24, u25, u26, u27, u28, u29, u30, u31, u32, u33, u34, u35, u36, u37, u38, u39, u40, u41, u42, u43, u44, u45, u46, u47, u48, u49, u50, u51, u52, u53, u54, u55, u56, u57, u58, u59, u60, u61, u62, u63, u64, u65, u66, u67, u68, u69, u70, u71, u72, u73, u74, u75, u76, u77, u78, .bool false, u80, .agg #[.int .i64 x1, .int .i64 y1], .agg #[.int .i64 x1, .int .i64 y1], .agg #[.int .i64 x2, .int .i64 y2], .agg #[.int .i64 x2, .int .i64 y2], .agg #[.int .i64 x3, .int .i64 y3], .agg #[.int .i64 x3, .int .i64 y3], .agg #[.int .i64 x4, .int .i64 y4], .agg #[.int .i64 x4, .int .i64 y4], u89, u90, u91, u92, u93, u94, u95, u96, u97, u98, u99, u100, u101, u102, u103, u104, u105, u106, u107, u108, u109, u110, u111, u112, u113, u114, u115, u116, u117, u118, u119, u120], []⟩ V := by
     skip
     intro p q V kP kQ n_pq N
     have hHeld : Below w8.heap.size w8 V := N
     rw [hwp]
     refine wpAnyH_ready (rs := [8]) (by kernel_rfl) (by simp) (AllReadyH.cons (gt rfl) (fun K hK => ?_) AllReadyH.nil)
     · go_simp
       have ne_kP_kQ := n_pq
       have ne_kQ_kP := n_pq.symm
       refine (implCross x1 y1 x2 y2 x3 y3 x4 y4 _ kk n1 d1 n2 d2 HC.out).mono ?_
       rintro ee ww1 ⟨u1, u2, rfl, TF, hb⟩
       obtain ⟨a1, c1, b1, e1, a2, c2, b2, e2, rfl, rfl, o1, o2, o3, o4, ap⟩ := TF.as HV.out
       rw [F1.out, F2.out, F3.out, F4.out]
       have bs := N.size
       clear TF
       have r_kP_o1 := row_ne_low o1 kP.lt
       have r_kP_o2 := row_ne_low o2 kP.lt
       have r_kP_o3 := row_ne_low o3 kP.lt
       have r_kP_o4 := row_ne_low o4 kP.lt
       have r_kQ_o1 := row_ne_low o1 kQ.lt
       have r_kQ_o2 := row_ne_low o2 kQ.lt
       have r_kQ_o3 := row_ne_low o3 kQ.lt
       have r_kQ_o4 := row_ne_low o4 kQ.lt
       replace kP := kP.below hb
       replace kQ := kQ.below hb
       replace N := N.trans (hb.mono N.size)
       clear hb
       refine hK.out _ _ N (fun hHeld => ?_)
       clear hK K
       try simp only [Act.put, sA, sB, sC]
       refine takeQ (i := 9) (gt rfl) (by kernel_rfl) (fun _ _ _ h => h) (by rfl) (by intro wq _; go_simp <;> with_reducible rfl) (by assumption) ?_
       try simp only [Act.put, sA, sB, sC]
       refine takeQ (i := 10) (gt rfl) (by kernel_rfl) (fun _ _ _ h => h) (by rfl) (by intro wq _; go_simp <;> with_reducible rfl) (by assumption) ?_
       try simp only [Act.put, sA, sB, sC]
       refine takeQ (i := 11) (gt rfl) (by kernel_rfl) (fun _ _ _ h => h) (by rfl) (by intro wq _; go_simp <;> with_reducible rfl) (by assumption) ?_
       try simp only [Act.put, sA, sB, sC]
       refine takeQ (i := 12) (gt rfl) (by kernel_rfl) (fun _ _ _ h => h) (by rfl) (by intro wq _; go_simp <;> with_reducible rfl) (by assumption) ?_
       try simp only [Act.put, sA, sB, sC]
       refine takeQ (i := 15) (gt rfl) (by kernel_rfl) (fun _ _ _ h => h) (by rfl) (by intro wq _; go_simp <;> with_reducible rfl) (by assumption) ?_
       try simp only [Act.put, sA, sB, sC]
       refine wpAnyH_ready (rs := [16]) (by kernel_rfl) (by simp) (AllReadyH.cons (gt rfl) (fun K hK => ?_) AllReadyH.nil)
       have z0 := kP.c0
       have z1 := kP.c1
       have z2 := kP.c2
       have z3 := kP.c3
       have zf := kP.fr
       go_simp
       clear z0 z1 z2 z3 zf
       replace N := Box4.chain N kP (.bool f1) (.slice a1 z1.length c1) (.bool f2) (.slice b1 t1.length e1)
       replace kQ := kQ.old ne_kQ_kP (.bool f1) (.slice a1 z1.length c1) (.bool f2) (.slice b1 t1.length e1)
       replace o1 := o1.put4 r_kP_o1 (.bool f1) (.slice a1 z1.length c1) (.bool f2) (.slice b1 t1.length e1)
       replace o2 := o2.put4 r_kP_o2 (.bool f1) (.slice a1 z1.length c1) (.bool f2) (.slice b1 t1.length e1)
       replace o3 := o3.put4 r_kP_o3 (.bool f1) (.slice a1 z1.length c1) (.bool f2) (.slice b1 t1.length e1)
       replace o4 := o4.put4 r_kP_o4 (.bool f1) (.slice a1 z1.length c1) (.bool f2) (.slice b1 t1.length e1)
       replace kP := kP.put (.bool f1) (.slice a1 z1.length c1) (.bool f2) (.slice b1 t1.length e1)
       refine hK.out _ _ N (fun hHeld => ?_)
       clear hK K
       try simp only [Act.put, sA, sB, sC]
       refine wpAnyH_ready (rs := [17]) (by kernel_rfl) (by simp) (AllReadyH.cons (gt rfl) (fun K hK => ?_) AllReadyH.nil)
       have z0 := kQ.c0
       have z1 := kQ.c1
       have z2 := kQ.c2
       have z3 := kQ.c3
       have zf := kQ.fr
       go_simp
       clear z0 z1 z2 z3 zf
       replace N := Box4.chain N kQ (.bool f3) (.slice a2 z2.length c2) (.bool f4) (.slice b2 t2.length e2)
       replace kP := kP.old ne_kP_kQ (.bool f3) (.slice a2 z2.length c2) (.bool f4) (.slice b2 t2.length e2)
       replace o1 := o1.put4 r_kQ_o1 (.bool f3) (.slice a2 z2.length c2) (.bool f4) (.slice b2 t2.length e2)
       replace o2 := o2.put4 r_kQ_o2 (.bool f3) (.slice a2 z2.length c2) (.bool f4) (.slice b2 t2.length e2)
       replace o3 := o3.put4 r_kQ_o3 (.bool f3) (.slice a2 z2.length c2) (.bool f4) (.slice b2 t2.length e2)
       replace o4 := o4.put4 r_kQ_o4 (.bool f3) (.slice a2 z2.length c2) (.bool f4) (.slice b2 t2.length e2)
       replace kQ := kQ.put (.bool f3) (.slice a2 z2.length c2) (.bool f4) (.slice b2 t2.length e2)
       refine hK.out _ _ N (fun hHeld => ?_)
       clear hK K
       try simp only [Act.put, sA, sB, sC]
       refine wpAnyH_done (by kernel_rfl) ?_ _
       go_wp2
       go_meet
       case rel => exact ⟨_, _, a1, c1, b1, e1, a2, c2, b2, e2, rfl, rfl, rfl, kP, kQ, ⟨o1.base_le bs, o2.base_le bs, o3.base_le bs, o4.base_le bs⟩, ap, ⟨⟨r_kP_o1, r_kP_o2, r_kP_o3, r_kP_o4⟩, ⟨r_kQ_o1, r_kQ_o2, r_kQ_o3, r_kQ_o4⟩⟩, N⟩
    have H4_p : ∀ (p : Nat) (V : World), Box4 w8.heap.size V p (.bool false) (.slice none 0 0) (.bool false) (.slice none 0 0) → Below w8.heap.size w8 V → wp 9 #[true, true, true, true, true, true, true, true, false, false, false, false, false, true, false, false, false, false] ⟨#[.agg #[.int .i64 x1, .int .i64 y1], .agg #[.int .i64 x2, .int .i64 y2], .agg #[.int .i64 x3, .int .i64 y3], .agg #[.int .i64 x4, .int .i64 y4], .pointer (some ⟨w.heap.size, 0, none⟩), .pointer (some ⟨w.heap.size + 1, 0, none⟩), .pointer (some ⟨w.heap.size + 1 + 1, 0, none⟩), .pointer (some ⟨w.heap.size + 1 + 1 + 1, 0, none⟩), .bool false, .int .i64 kk, .pointer (some ⟨pW, 0, none⟩), .pointer (some ⟨qW, 0, none⟩), .int .i64 kk, .pointer (some ⟨pG, 0, none⟩), .pointer (some ⟨qG, 0, none⟩), .int .i64 (1 + z1.length + t1.length + z2.length + t2.length), .int .i64 (1 + z1.length + t1.length + z2.length + t2.length), undef, .pointer (some ⟨p, 0, none⟩), undef, u20, u21, u22, u23, u24, u25, u26, u27, u28, u29, u30, u31, u32, u33, u34, u35, u36, u37, u38, u39, u40, u41, u42, u43, u44, u45, u46, u47, u48, u49, u50, u51, u52, u53, u54, u55, u56, u57, u58, u59, u60, u61, u62, u63, u64, u65, u66, u67, u68, u69, u70, u71, u72, u73, u74, u75, u76, u77, u78, .bool false, u80, .agg #[.int .i64 x1, .int .i64 y1], .agg #[.int .i64 x1, .int .i64 y1], .agg #[.int .i64 x2, .int .i64 y2], .agg #[.int .i64 x2, .int .i64 y2], .agg #[.int .i64 x3, .int .i64 y3], .agg #[.int .i64 x3, .int .i64 y3], .agg #[.int .i64 x4, .int .i64 y4], .agg #[.int .i64 x4, .int .i64 y4], u89, u90, u91, u92, u93, u94, u95, u96, u97, u98, u99, u100, u101, u102, u103, u104, u105, u106, u107, u108, u109, u110, u111, u112, u113, u114, u115, u116, u117, u118, u119, u120], []⟩ V := by
     skip
     intro p V kP N
     have hHeld : Below w8.heap.size w8 V := N
     rw [hwp]
     refine wpAnyH_ready (rs := [8, 14]) (by kernel_rfl) (by simp) (AllReadyH.cons (gt rfl) (fun K hK => ?_) (AllReadyH.cons (gt rfl) (fun K hK => ?_) AllReadyH.nil))
     · go_simp
       refine (implCross x1 y1 x2 y2 x3 y3 x4 y4 _ kk n1 d1 n2 d2 HC.out).mono ?_
       rintro ee ww4 ⟨u1, u2, rfl, TF, hb⟩
       obtain ⟨a1, c1, b1, e1, a2, c2, b2, e2, rfl, rfl, o1, o2, o3, o4, ap⟩ := TF.as HV.out
       rw [F1.out, F2.out, F3.out, F4.out]
       have bs := N.size
       clear TF
       have r_kP_o1 := row_ne_low o1 kP.lt
       have r_kP_o2 := row_ne_low o2 kP.lt
       have r_kP_o3 := row_ne_low o3 kP.lt
       have r_kP_o4 := row_ne_low o4 kP.lt
       replace kP := kP.below hb
       replace N := N.trans (hb.mono N.size)
       clear hb
       refine hK.out _ _ N (fun hHeld => ?_)
       clear hK K
       try simp only [Act.put, sA, sB, sC]
       refine takeQ (i := 9) (gt rfl) (by kernel_rfl) (fun _ _ _ h => h) (by rfl) (by intro wq _; go_simp <;> with_reducible rfl) (by assumption) ?_
       try simp only [Act.put, sA, sB, sC]
       refine takeQ (i := 10) (gt rfl) (by kernel_rfl) (fun _ _ _ h => h) (by rfl) (by intro wq _; go_simp <;> with_reducible rfl) (by assumption) ?_
       try simp only [Act.put, sA, sB, sC]
       refine takeQ (i := 11) (gt rfl) (by kernel_rfl) (fun _ _ _ h => h) (by rfl) (by intro wq _; go_simp <;> with_reducible rfl) (by assumption) ?_
       try simp only [Act.put, sA, sB, sC]
       refine takeQ (i := 12) (gt rfl) (by kernel_rfl) (fun _ _ _ h => h) (by rfl) (by intro wq _; go_simp <;> with_reducible rfl) (by assumption) ?_
       try simp only [Act.put, sA, sB, sC]
       refine wpAnyH_ready (rs := [14]) (by kernel_rfl) (by simp) (AllReadyH.cons (gt rfl) (fun K hK => ?_) AllReadyH.nil)
       go_simp
       have kQ := Box4.new ww4 N.size (.bool false) (.slice none 0 0) (.bool false) (.slice none 0 0) 28
       have hb := below1 ww4 (.cells #[.bool false, .slice none 0 0, .bool false, .slice none 0 0] 28)
       have r_kQ_o1 := row_ne_high o1.toCame (Nat.le_refl _)
       have r_kQ_o2 := row_ne_high o2.toCame (Nat.le_refl _)
       have r_kQ_o3 := row_ne_high o3.toCame (Nat.le_refl _)
       have r_kQ_o4 := row_ne_high o4.toCame (Nat.le_refl _)
       have ne_kQ_kP := Nat.ne_of_gt kP.lt
       have ne_kP_kQ := ne_kQ_kP.symm
       replace kP := kP.below hb
       replace o1 := o1.below hb
       replace o2 := o2.below hb
       replace o3 := o3.below hb
       replace o4 := o4.below hb
       replace N := N.trans (hb.mono N.size)
       clear hb
       generalize ww4.alloc (.cells #[.bool false, .slice none 0 0, .bool false, .slice none 0 0] 28) = ww5 at *
       refine hK.out _ _ N (fun hHeld => ?_)
       clear hK K
       try simp only [Act.put, sA, sB, sC]
       refine takeQ (i := 15) (gt rfl) (by kernel_rfl) (fun _ _ _ h => h) (by rfl) (by intro wq _; go_simp <;> with_reducible rfl) (by assumption) ?_
       try simp only [Act.put, sA, sB, sC]
       refine wpAnyH_ready (rs := [16]) (by kernel_rfl) (by simp) (AllReadyH.cons (gt rfl) (fun K hK => ?_) AllReadyH.nil)
       have z0 := kP.c0
       have z1 := kP.c1
       have z2 := kP.c2
       have z3 := kP.c3
       have zf := kP.fr
       go_simp
       clear z0 z1 z2 z3 zf
       replace N := Box4.chain N kP (.bool f1) (.slice a1 z1.length c1) (.bool f2) (.slice b1 t1.length e1)
       replace kQ := kQ.old ne_kQ_kP (.bool f1) (.slice a1 z1.length c1) (.bool f2) (.slice b1 t1.length e1)
       replace o1 := o1.put4 r_kP_o1 (.bool f1) (.slice a1 z1.length c1) (.bool f2) (.slice b1 t1.length e1)
       replace o2 := o2.put4 r_kP_o2 (.bool f1) (.slice a1 z1.length c1) (.bool f2) (.slice b1 t1.length e1)
       replace o3 := o3.put4 r_kP_o3 (.bool f1) (.slice a1 z1.length c1) (.bool f2) (.slice b1 t1.length e1)
       replace o4 := o4.put4 r_kP_o4 (.bool f1) (.slice a1 z1.length c1) (.bool f2) (.slice b1 t1.length e1)
       replace kP := kP.put (.bool f1) (.slice a1 z1.length c1) (.bool f2) (.slice b1 t1.length e1)
       refine hK.out _ _ N (fun hHeld => ?_)
       clear hK K
       try simp only [Act.put, sA, sB, sC]
       refine wpAnyH_ready (rs := [17]) (by kernel_rfl) (by simp) (AllReadyH.cons (gt rfl) (fun K hK => ?_) AllReadyH.nil)
       have z0 := kQ.c0
       have z1 := kQ.c1
       have z2 := kQ.c2
       have z3 := kQ.c3
       have zf := kQ.fr
       go_simp
       clear z0 z1 z2 z3 zf
       replace N := Box4.chain N kQ (.bool f3) (.slice a2 z2.length c2) (.bool f4) (.slice b2 t2.length e2)
       replace kP := kP.old ne_kP_kQ (.bool f3) (.slice a2 z2.length c2) (.bool f4) (.slice b2 t2.length e2)
       replace o1 := o1.put4 r_kQ_o1 (.bool f3) (.slice a2 z2.length c2) (.bool f4) (.slice b2 t2.length e2)
       replace o2 := o2.put4 r_kQ_o2 (.bool f3) (.slice a2 z2.length c2) (.bool f4) (.slice b2 t2.length e2)
       replace o3 := o3.put4 r_kQ_o3 (.bool f3) (.slice a2 z2.length c2) (.bool f4) (.slice b2 t2.length e2)
       replace o4 := o4.put4 r_kQ_o4 (.bool f3) (.slice a2 z2.length c2) (.bool f4) (.slice b2 t2.length e2)
       replace kQ := kQ.put (.bool f3) (.slice a2 z2.length c2) (.bool f4) (.slice b2 t2.length e2)
       refine hK.out _ _ N (fun hHeld => ?_)
       clear hK K
       try simp only [Act.put, sA, sB, sC]
       refine wpAnyH_done (by kernel_rfl) ?_ _
       go_wp2
       go_meet
       case rel => exact ⟨_, _, a1, c1, b1, e1, a2, c2, b2, e2, rfl, rfl, rfl, kP, kQ, ⟨o1.base_le bs, o2.base_le bs, o3.base_le bs, o4.base_le bs⟩, ap, ⟨⟨r_kP_o1, r_kP_o2, r_kP_o3, r_kP_o4⟩, ⟨r_kQ_o1, r_kQ_o2, r_kQ_o3, r_kQ_o4⟩⟩, N⟩
     · go_simp
       have kQ := Box4.new V N.size (.bool false) (.slice none 0 0) (.bool false) (.slice none 0 0) 28
       have hb := below1 V (.cells #[.bool false, .slice none 0 0, .bool false, .slice none 0 0] 28)
       have g_p := Nat.ne_of_lt kP.lt
       replace kP := kP.below hb
       replace N := N.trans (hb.mono N.size)
       refine hK.out _ _ N (fun hHeld => ?_)
       clear hK K
       try simp only [Act.put, sA, sB, sC]
       rw [← hwp]
       exact met (H4_pq p _ _ kP kQ g_p N) (by kernel_rfl)
    have H4_q : ∀ (q : Nat) (V : World), Box4 w8.heap.size V q (.bool false) (.slice none 0 0) (.bool false) (.slice none 0 0) → Below w8.heap.size w8 V → wp 9 #[true, true, true, true, true, true, true, true, false, false, false, false, false, false, true, false, false, false] ⟨#[.agg #[.int .i64 x1, .int .i64 y1], .agg #[.int .i64 x2, .int .i64 y2], .agg #[.int .i64 x3, .int .i64 y3], .agg #[.int .i64 x4, .int .i64 y4], .pointer (some ⟨w.heap.size, 0, none⟩), .pointer (some ⟨w.heap.size + 1, 0, none⟩), .pointer (some ⟨w.heap.size + 1 + 1, 0, none⟩), .pointer (some ⟨w.heap.size + 1 + 1 + 1, 0, none⟩), .bool false, .int .i64 kk, .pointer (some ⟨pW, 0, none⟩), .pointer (some ⟨qW, 0, none⟩), .int .i64 kk, .pointer (some ⟨pG, 0, none⟩), .pointer (some ⟨qG, 0, none⟩), .int .i64 (1 + z1.length + t1.length + z2.length + t2.length), .int .i64 (1 + z1.length + t1.length + z2.length + t2.length), undef, undef, .pointer (some ⟨q, 0, none⟩), u20, u21, u22, u23, u24, u25, u26, u27, u28, u29, u30, u31, u32, u33, u34, u35, u36, u37, u38, u39, u40, u41, u42, u43, u44, u45, u46, u47, u48, u49, u50, u51, u52, u53, u54, u55, u56, u57, u58, u59, u60, u61, u62, u63, u64, u65, u66, u67, u68, u69, u70, u71, u72, u73, u74, u75, u76, u77, u78, .bool false, u80, .agg #[.int .i64 x1, .int .i64 y1], .agg #[.int .i64 x1, .int .i64 y1], .agg #[.int .i64 x2, .int .i64 y2], .agg #[.int .i64 x2, .int .i64 y2], .agg #[.int .i64 x3, .int .i64 y3], .agg #[.int .i64 x3, .int .i64 y3], .agg #[.int .i64 x4, .int .i64 y4], .agg #[.int .i64 x4, .int .i64 y4], u89, u90, u91, u92, u93, u94, u95, u96, u97, u98, u99, u100, u101, u102, u103, u104, u105, u106, u107, u108, u109, u110, u111, u112, u113, u114, u115, u116, u117, u118, u119, u120], []⟩ V := by
     skip
     intro q V kQ N
     have hHeld : Below w8.heap.size w8 V := N
     rw [hwp]
     refine wpAnyH_ready (rs := [8, 13]) (by kernel_rfl) (by simp) (AllReadyH.cons (gt rfl) (fun K hK => ?_) (AllReadyH.cons (gt rfl) (fun K hK => ?_) AllReadyH.nil))
     · go_simp
       refine (implCross x1 y1 x2 y2 x3 y3 x4 y4 _ kk n1 d1 n2 d2 HC.out).mono ?_
       rintro ee ww8 ⟨u1, u2, rfl, TF, hb⟩
       obtain ⟨a1, c1, b1, e1, a2, c2, b2, e2, rfl, rfl, o1, o2, o3, o4, ap⟩ := TF.as HV.out
       rw [F1.out, F2.out, F3.out, F4.out]
       have bs := N.size
       clear TF
       have r_kQ_o1 := row_ne_low o1 kQ.lt
       have r_kQ_o2 := row_ne_low o2 kQ.lt
       have r_kQ_o3 := row_ne_low o3 kQ.lt
       have r_kQ_o4 := row_ne_low o4 kQ.lt
       replace kQ := kQ.below hb
       replace N := N.trans (hb.mono N.size)
       clear hb
       refine hK.out _ _ N (fun hHeld => ?_)
       clear hK K
       try simp only [Act.put, sA, sB, sC]
       refine takeQ (i := 9) (gt rfl) (by kernel_rfl) (fun _ _ _ h => h) (by rfl) (by intro wq _; go_simp <;> with_reducible rfl) (by assumption) ?_
       try simp only [Act.put, sA, sB, sC]
       refine takeQ (i := 10) (gt rfl) (by kernel_rfl) (fun _ _ _ h => h) (by rfl) (by intro wq _; go_simp <;> with_reducible rfl) (by assumption) ?_
       try simp only [Act.put, sA, sB, sC]
       refine takeQ (i := 11) (gt rfl) (by kernel_rfl) (fun _ _ _ h => h) (by rfl) (by intro wq _; go_simp <;> with_reducible rfl) (by assumption) ?_
       try simp only [Act.put, sA, sB, sC]
       refine takeQ (i := 12) (gt rfl) (by kernel_rfl) (fun _ _ _ h => h) (by rfl) (by intro wq _; go_simp <;> with_reducible rfl) (by assumption) ?_
       try simp only [Act.put, sA, sB, sC]
       refine wpAnyH_ready (rs := [13]) (by kernel_rfl) (by simp) (AllReadyH.cons (gt rfl) (fun K hK => ?_) AllReadyH.nil)
       go_simp
       have kP := Box4.new ww8 N.size (.bool false) (.slice none 0 0) (.bool false) (.slice none 0 0) 28
       have hb := below1 ww8 (.cells #[.bool false, .slice none 0 0, .bool false, .slice none 0 0] 28)
       have r_kP_o1 := row_ne_high o1.toCame (Nat.le_refl _)
       have r_kP_o2 := row_ne_high o2.toCame (Nat.le_refl _)
       have r_kP_o3 := row_ne_high o3.toCame (Nat.le_refl _)
       have r_kP_o4 := row_ne_high o4.toCame (Nat.le_refl _)
       have ne_kP_kQ := Nat.ne_of_gt kQ.lt
       have ne_kQ_kP := ne_kP_kQ.symm
       replace kQ := kQ.below hb
       replace o1 := o1.below hb
       replace o2 := o2.below hb
       replace o3 := o3.below hb
       replace o4 := o4.below hb
       replace N := N.trans (hb.mono N.size)
       clear hb
       generalize ww8.alloc (.cells #[.bool false, .slice none 0 0, .bool false, .slice none 0 0] 28) = ww9 at *
       refine hK.out _ _ N (fun hHeld => ?_)
       clear hK K
       try simp only [Act.put, sA, sB, sC]
       refine takeQ (i := 15) (gt rfl) (by kernel_rfl) (fun _ _ _ h => h) (by rfl) (by intro wq _; go_simp <;> with_reducible rfl) (by assumption) ?_
       try simp only [Act.put, sA, sB, sC]
       refine wpAnyH_ready (rs := [16]) (by kernel_rfl) (by simp) (AllReadyH.cons (gt rfl) (fun K hK => ?_) AllReadyH.nil)
       have z0 := kP.c0
       have z1 := kP.c1
       have z2 := kP.c2
       have z3 := kP.c3
       have zf := kP.fr
       go_simp
       clear z0 z1 z2 z3 zf
       replace N := Box4.chain N kP (.bool f1) (.slice a1 z1.length c1) (.bool f2) (.slice b1 t1.length e1)
       replace kQ := kQ.old ne_kQ_kP (.bool f1) (.slice a1 z1.length c1) (.bool f2) (.slice b1 t1.length e1)
       replace o1 := o1.put4 r_kP_o1 (.bool f1) (.slice a1 z1.length c1) (.bool f2) (.slice b1 t1.length e1)
       replace o2 := o2.put4 r_kP_o2 (.bool f1) (.slice a1 z1.length c1) (.bool f2) (.slice b1 t1.length e1)
       replace o3 := o3.put4 r_kP_o3 (.bool f1) (.slice a1 z1.length c1) (.bool f2) (.slice b1 t1.length e1)
       replace o4 := o4.put4 r_kP_o4 (.bool f1) (.slice a1 z1.length c1) (.bool f2) (.slice b1 t1.length e1)
       replace kP := kP.put (.bool f1) (.slice a1 z1.length c1) (.bool f2) (.slice b1 t1.length e1)
       refine hK.out _ _ N (fun hHeld => ?_)
       clear hK K
       try simp only [Act.put, sA, sB, sC]
       refine wpAnyH_ready (rs := [17]) (by kernel_rfl) (by simp) (AllReadyH.cons (gt rfl) (fun K hK => ?_) AllReadyH.nil)
       have z0 := kQ.c0
       have z1 := kQ.c1
       have z2 := kQ.c2
       have z3 := kQ.c3
       have zf := kQ.fr
       go_simp
       clear z0 z1 z2 z3 zf
       replace N := Box4.chain N kQ (.bool f3) (.slice a2 z2.length c2) (.bool f4) (.slice b2 t2.length e2)
       replace kP := kP.old ne_kP_kQ (.bool f3) (.slice a2 z2.length c2) (.bool f4) (.slice b2 t2.length e2)
       replace o1 := o1.put4 r_kQ_o1 (.bool f3) (.slice a2 z2.length c2) (.bool f4) (.slice b2 t2.length e2)
       replace o2 := o2.put4 r_kQ_o2 (.bool f3) (.slice a2 z2.length c2) (.bool f4) (.slice b2 t2.length e2)
       replace o3 := o3.put4 r_kQ_o3 (.bool f3) (.slice a2 z2.length c2) (.bool f4) (.slice b2 t2.length e2)
       replace o4 := o4.put4 r_kQ_o4 (.bool f3) (.slice a2 z2.length c2) (.bool f4) (.slice b2 t2.length e2)
       replace kQ := kQ.put (.bool f3) (.slice a2 z2.length c2) (.bool f4) (.slice b2 t2.length e2)
       refine hK.out _ _ N (fun hHeld => ?_)
       clear hK K
       try simp only [Act.put, sA, sB, sC]
       refine wpAnyH_done (by kernel_rfl) ?_ _
       go_wp2
       go_meet
       case rel => exact ⟨_, _, a1, c1, b1, e1, a2, c2, b2, e2, rfl, rfl, rfl, kP, kQ, ⟨o1.base_le bs, o2.base_le bs, o3.base_le bs, o4.base_le bs⟩, ap, ⟨⟨r_kP_o1, r_kP_o2, r_kP_o3, r_kP_o4⟩, ⟨r_kQ_o1, r_kQ_o2, r_kQ_o3, r_kQ_o4⟩⟩, N⟩
     · go_simp
       have kP := Box4.new V N.size (.bool false) (.slice none 0 0) (.bool false) (.slice none 0 0) 28
       have hb := below1 V (.cells #[.bool false, .slice none 0 0, .bool false, .slice none 0 0] 28)
       have g_q := Nat.ne_of_lt kQ.lt
       replace kQ := kQ.below hb
       replace N := N.trans (hb.mono N.size)
       refine hK.out _ _ N (fun hHeld => ?_)
       clear hK K
       try simp only [Act.put, sA, sB, sC]
       rw [← hwp]
       exact met (H4_pq _ q _ kP kQ g_q.symm N) (by kernel_rfl)
    have H4_ : ∀ (V : World), Below w8.heap.size w8 V → wp 10 #[true, true, true, true, true, true, true, true, false, false, false, false, false, false, false, false, false, false] ⟨#[.agg #[.int .i64 x1, .int .i64 y1], .agg #[.int .i64 x2, .int .i64 y2], .agg #[.int .i64 x3, .int .i64 y3], .agg #[.int .i64 x4, .int .i64 y4], .pointer (some ⟨w.heap.size, 0, none⟩), .pointer (some ⟨w.heap.size + 1, 0, none⟩), .pointer (some ⟨w.heap.size + 1 + 1, 0, none⟩), .pointer (some ⟨w.heap.size + 1 + 1 + 1, 0, none⟩), .bool false, .int .i64 kk, .pointer (some ⟨pW, 0, none⟩), .pointer (some ⟨qW, 0, none⟩), .int .i64 kk, .pointer (some ⟨pG, 0, none⟩), .pointer (some ⟨qG, 0, none⟩), .int .i64 (1 + z1.length + t1.length + z2.length + t2.length), .int .i64 (1 + z1.length + t1.length + z2.length + t2.length), undef, undef, undef, u20, u21, u22, u23, u24, u25, u26, u27, u28, u29, u30, u31, u32, u33, u34, u35, u36, u37, u38, u39, u40, u41, u42, u43, u44, u45, u46, u47, u48, u49, u50, u51, u52, u53, u54, u55, u56, u57, u58, u59, u60, u61, u62, u63, u64, u65, u66, u67, u68, u69, u70, u71, u72, u73, u74, u75, u76, u77, u78, .bool false, u80, .agg #[.int .i64 x1, .int .i64 y1], .agg #[.int .i64 x1, .int .i64 y1], .agg #[.int .i64 x2, .int .i64 y2], .agg #[.int .i64 x2, .int .i64 y2], .agg #[.int .i64 x3, .int .i64 y3], .agg #[.int .i64 x3, .int .i64 y3], .agg #[.int .i64 x4, .int .i64 y4], .agg #[.int .i64 x4, .int .i64 y4], u89, u90, u91, u92, u93, u94, u95, u96, u97, u98, u99, u100, u101, u102, u103, u104, u105, u106, u107, u108, u109, u110, u111, u112, u113, u114, u115, u116, u117, u118, u119, u120], []⟩ V := by
     skip
     intro V N
     have hHeld : Below w8.heap.size w8 V := N
     rw [hwp]
     refine wpAnyH_ready (rs := [8, 13, 14]) (by kernel_rfl) (by simp) (AllReadyH.cons (gt rfl) (fun K hK => ?_) (AllReadyH.cons (gt rfl) (fun K hK => ?_) (AllReadyH.cons (gt rfl) (fun K hK => ?_) AllReadyH.nil)))
     · go_simp
       refine (implCross x1 y1 x2 y2 x3 y3 x4 y4 _ kk n1 d1 n2 d2 HC.out).mono ?_
       rintro ee ww12 ⟨u1, u2, rfl, TF, hb⟩
       obtain ⟨a1, c1, b1, e1, a2, c2, b2, e2, rfl, rfl, o1, o2, o3, o4, ap⟩ := TF.as HV.out
       rw [F1.out, F2.out, F3.out, F4.out]
       have bs := N.size
       clear TF
       replace N := N.trans (hb.mono N.size)
       clear hb
       refine hK.out _ _ N (fun hHeld => ?_)
       clear hK K
       try simp only [Act.put, sA, sB, sC]
       refine takeQ (i := 9) (gt rfl) (by kernel_rfl) (fun _ _ _ h => h) (by rfl) (by intro wq _; go_simp <;> with_reducible rfl) (by assumption) ?_
       try simp only [Act.put, sA, sB, sC]
       refine takeQ (i := 10) (gt rfl) (by kernel_rfl) (fun _ _ _ h => h) (by rfl) (by intro wq _; go_simp <;> with_reducible rfl) (by assumption) ?_
       try simp only [Act.put, sA, sB, sC]
       refine takeQ (i := 11) (gt rfl) (by kernel_rfl) (fun _ _ _ h => h) (by rfl) (by intro wq _; go_simp <;> with_reducible rfl) (by assumption) ?_
       try simp only [Act.put, sA, sB, sC]
       refine takeQ (i := 12) (gt rfl) (by kernel_rfl) (fun _ _ _ h => h) (by rfl) (by intro wq _; go_simp <;> with_reducible rfl) (by assumption) ?_
       try simp only [Act.put, sA, sB, sC]
       refine wpAnyH_ready (rs := [13, 14]) (by kernel_rfl) (by simp) (AllReadyH.cons (gt rfl) (fun K hK => ?_) (AllReadyH.cons (gt rfl) (fun K hK => ?_) AllReadyH.nil))
       · skip
         go_simp
         have kP := Box4.new ww12 N.size (.bool false) (.slice none 0 0) (.bool false) (.slice none 0 0) 28
         have hb := below1 ww12 (.cells #[.bool false, .slice none 0 0, .bool false, .slice none 0 0] 28)
         have r_kP_o1 := row_ne_high o1.toCame (Nat.le_refl _)
         have r_kP_o2 := row_ne_high o2.toCame (Nat.le_refl _)
         have r_kP_o3 := row_ne_high o3.toCame (Nat.le_refl _)
         have r_kP_o4 := row_ne_high o4.toCame (Nat.le_refl _)
         replace o1 := o1.below hb
         replace o2 := o2.below hb
         replace o3 := o3.below hb
         replace o4 := o4.below hb
         replace N := N.trans (hb.mono N.size)
         clear hb
         generalize ww12.alloc (.cells #[.bool false, .slice none 0 0, .bool false, .slice none 0 0] 28) = ww13 at *
         refine hK.out _ _ N (fun hHeld => ?_)
         clear hK K
         try simp only [Act.put, sA, sB, sC]
         refine wpAnyH_ready (rs := [14]) (by kernel_rfl) (by simp) (AllReadyH.cons (gt rfl) (fun K hK => ?_) AllReadyH.nil)
         go_simp
         have kQ := Box4.new ww13 N.size (.bool false) (.slice none 0 0) (.bool false) (.slice none 0 0) 28
         have hb := below1 ww13 (.cells #[.bool false, .slice none 0 0, .bool false, .slice none 0 0] 28)
         have r_kQ_o1 := row_ne_high o1.toCame (Nat.le_refl _)
         have r_kQ_o2 := row_ne_high o2.toCame (Nat.le_refl _)
         have r_kQ_o3 := row_ne_high o3.toCame (Nat.le_refl _)
         have r_kQ_o4 := row_ne_high o4.toCame (Nat.le_refl _)
         have ne_kQ_kP := Nat.ne_of_gt kP.lt
         have ne_kP_kQ := ne_kQ_kP.symm
         replace kP := kP.below hb
         replace o1 := o1.below hb
         replace o2 := o2.below hb
         replace o3 := o3.below hb
         replace o4 := o4.below hb
         replace N := N.trans (hb.mono N.size)
         clear hb
         generalize ww13.alloc (.cells #[.bool false, .slice none 0 0, .bool false, .slice none 0 0] 28) = ww14 at *
         refine hK.out _ _ N (fun hHeld => ?_)
         clear hK K
         try simp only [Act.put, sA, sB, sC]
         refine takeQ (i := 15) (gt rfl) (by kernel_rfl) (fun _ _ _ h => h) (by rfl) (by intro wq _; go_simp <;> with_reducible rfl) (by assumption) ?_
         try simp only [Act.put, sA, sB, sC]
         refine wpAnyH_ready (rs := [16]) (by kernel_rfl) (by simp) (AllReadyH.cons (gt rfl) (fun K hK => ?_) AllReadyH.nil)
         have z0 := kP.c0
         have z1 := kP.c1
         have z2 := kP.c2
         have z3 := kP.c3
         have zf := kP.fr
         go_simp
         clear z0 z1 z2 z3 zf
         replace N := Box4.chain N kP (.bool f1) (.slice a1 z1.length c1) (.bool f2) (.slice b1 t1.length e1)
         replace kQ := kQ.old ne_kQ_kP (.bool f1) (.slice a1 z1.length c1) (.bool f2) (.slice b1 t1.length e1)
         replace o1 := o1.put4 r_kP_o1 (.bool f1) (.slice a1 z1.length c1) (.bool f2) (.slice b1 t1.length e1)
         replace o2 := o2.put4 r_kP_o2 (.bool f1) (.slice a1 z1.length c1) (.bool f2) (.slice b1 t1.length e1)
         replace o3 := o3.put4 r_kP_o3 (.bool f1) (.slice a1 z1.length c1) (.bool f2) (.slice b1 t1.length e1)
         replace o4 := o4.put4 r_kP_o4 (.bool f1) (.slice a1 z1.length c1) (.bool f2) (.slice b1 t1.length e1)
         replace kP := kP.put (.bool f1) (.slice a1 z1.length c1) (.bool f2) (.slice b1 t1.length e1)
         refine hK.out _ _ N (fun hHeld => ?_)
         clear hK K
         try simp only [Act.put, sA, sB, sC]
         refine wpAnyH_ready (rs := [17]) (by kernel_rfl) (by simp) (AllReadyH.cons (gt rfl) (fun K hK => ?_) AllReadyH.nil)
         have z0 := kQ.c0
         have z1 := kQ.c1
         have z2 := kQ.c2
         have z3 := kQ.c3
         have zf := kQ.fr
         go_simp
         clear z0 z1 z2 z3 zf
         replace N := Box4.chain N kQ (.bool f3) (.slice a2 z2.length c2) (.bool f4) (.slice b2 t2.length e2)
         replace kP := kP.old ne_kP_kQ (.bool f3) (.slice a2 z2.length c2) (.bool f4) (.slice b2 t2.length e2)
         replace o1 := o1.put4 r_kQ_o1 (.bool f3) (.slice a2 z2.length c2) (.bool f4) (.slice b2 t2.length e2)
         replace o2 := o2.put4 r_kQ_o2 (.bool f3) (.slice a2 z2.length c2) (.bool f4) (.slice b2 t2.length e2)
         replace o3 := o3.put4 r_kQ_o3 (.bool f3) (.slice a2 z2.length c2) (.bool f4) (.slice b2 t2.length e2)
         replace o4 := o4.put4 r_kQ_o4 (.bool f3) (.slice a2 z2.length c2) (.bool f4) (.slice b2 t2.length e2)
         replace kQ := kQ.put (.bool f3) (.slice a2 z2.length c2) (.bool f4) (.slice b2 t2.length e2)
         refine hK.out _ _ N (fun hHeld => ?_)
         clear hK K
         try simp only [Act.put, sA, sB, sC]
         refine wpAnyH_done (by kernel_rfl) ?_ _
         go_wp2
         go_meet
         case rel => exact ⟨_, _, a1, c1, b1, e1, a2, c2, b2, e2, rfl, rfl, rfl, kP, kQ, ⟨o1.base_le bs, o2.base_le bs, o3.base_le bs, o4.base_le bs⟩, ap, ⟨⟨r_kP_o1, r_kP_o2, r_kP_o3, r_kP_o4⟩, ⟨r_kQ_o1, r_kQ_o2, r_kQ_o3, r_kQ_o4⟩⟩, N⟩
       · skip
         go_simp
         have kQ := Box4.new ww12 N.size (.bool false) (.slice none 0 0) (.bool false) (.slice none 0 0) 28
         have hb := below1 ww12 (.cells #[.bool false, .slice none 0 0, .bool false, .slice none 0 0] 28)
         have r_kQ_o1 := row_ne_high o1.toCame (Nat.le_refl _)
         have r_kQ_o2 := row_ne_high o2.toCame (Nat.le_refl _)
         have r_kQ_o3 := row_ne_high o3.toCame (Nat.le_refl _)
         have r_kQ_o4 := row_ne_high o4.toCame (Nat.le_refl _)
         replace o1 := o1.below hb
         replace o2 := o2.below hb
         replace o3 := o3.below hb
         replace o4 := o4.below hb
         replace N := N.trans (hb.mono N.size)
         clear hb
         generalize ww12.alloc (.cells #[.bool false, .slice none 0 0, .bool false, .slice none 0 0] 28) = ww17 at *
         refine hK.out _ _ N (fun hHeld => ?_)
         clear hK K
         try simp only [Act.put, sA, sB, sC]
         refine wpAnyH_ready (rs := [13]) (by kernel_rfl) (by simp) (AllReadyH.cons (gt rfl) (fun K hK => ?_) AllReadyH.nil)
         go_simp
         have kP := Box4.new ww17 N.size (.bool false) (.slice none 0 0) (.bool false) (.slice none 0 0) 28
         have hb := below1 ww17 (.cells #[.bool false, .slice none 0 0, .bool false, .slice none 0 0] 28)
         have r_kP_o1 := row_ne_high o1.toCame (Nat.le_refl _)
         have r_kP_o2 := row_ne_high o2.toCame (Nat.le_refl _)
         have r_kP_o3 := row_ne_high o3.toCame (Nat.le_refl _)
         have r_kP_o4 := row_ne_high o4.toCame (Nat.le_refl _)
         have ne_kP_kQ := Nat.ne_of_gt kQ.lt
         have ne_kQ_kP := ne_kP_kQ.symm
         replace kQ := kQ.below hb
         replace o1 := o1.below hb
         replace o2 := o2.below hb
         replace o3 := o3.below hb
         replace o4 := o4.below hb
         replace N := N.trans (hb.mono N.size)
         clear hb
         generalize ww17.alloc (.cells #[.bool false, .slice none 0 0, .bool false, .slice none 0 0] 28) = ww18 at *
         refine hK.out _ _ N (fun hHeld => ?_)
         clear hK K
         try simp only [Act.put, sA, sB, sC]
         refine takeQ (i := 15) (gt rfl) (by kernel_rfl) (fun _ _ _ h => h) (by rfl) (by intro wq _; go_simp <;> with_reducible rfl) (by assumption) ?_
         try simp only [Act.put, sA, sB, sC]
         refine wpAnyH_ready (rs := [16]) (by kernel_rfl) (by simp) (AllReadyH.cons (gt rfl) (fun K hK => ?_) AllReadyH.nil)
         have z0 := kP.c0
         have z1 := kP.c1
         have z2 := kP.c2
         have z3 := kP.c3
         have zf := kP.fr
         go_simp
         clear z0 z1 z2 z3 zf
         replace N := Box4.chain N kP (.bool f1) (.slice a1 z1.length c1) (.bool f2) (.slice b1 t1.length e1)
         replace kQ := kQ.old ne_kQ_kP (.bool f1) (.slice a1 z1.length c1) (.bool f2) (.slice b1 t1.length e1)
         replace o1 := o1.put4 r_kP_o1 (.bool f1) (.slice a1 z1.length c1) (.bool f2) (.slice b1 t1.length e1)
         replace o2 := o2.put4 r_kP_o2 (.bool f1) (.slice a1 z1.length c1) (.bool f2) (.slice b1 t1.length e1)
         replace o3 := o3.put4 r_kP_o3 (.bool f1) (.slice a1 z1.length c1) (.bool f2) (.slice b1 t1.length e1)
         replace o4 := o4.put4 r_kP_o4 (.bool f1) (.slice a1 z1.length c1) (.bool f2) (.slice b1 t1.length e1)
         replace kP := kP.put (.bool f1) (.slice a1 z1.length c1) (.bool f2) (.slice b1 t1.length e1)
         refine hK.out _ _ N (fun hHeld => ?_)
         clear hK K
         try simp only [Act.put, sA, sB, sC]
         refine wpAnyH_ready (rs := [17]) (by kernel_rfl) (by simp) (AllReadyH.cons (gt rfl) (fun K hK => ?_) AllReadyH.nil)
         have z0 := kQ.c0
         have z1 := kQ.c1
         have z2 := kQ.c2
         have z3 := kQ.c3
         have zf := kQ.fr
         go_simp
         clear z0 z1 z2 z3 zf
         replace N := Box4.chain N kQ (.bool f3) (.slice a2 z2.length c2) (.bool f4) (.slice b2 t2.length e2)
         replace kP := kP.old ne_kP_kQ (.bool f3) (.slice a2 z2.length c2) (.bool f4) (.slice b2 t2.length e2)
         replace o1 := o1.put4 r_kQ_o1 (.bool f3) (.slice a2 z2.length c2) (.bool f4) (.slice b2 t2.length e2)
         replace o2 := o2.put4 r_kQ_o2 (.bool f3) (.slice a2 z2.length c2) (.bool f4) (.slice b2 t2.length e2)
         replace o3 := o3.put4 r_kQ_o3 (.bool f3) (.slice a2 z2.length c2) (.bool f4) (.slice b2 t2.length e2)
         replace o4 := o4.put4 r_kQ_o4 (.bool f3) (.slice a2 z2.length c2) (.bool f4) (.slice b2 t2.length e2)
         replace kQ := kQ.put (.bool f3) (.slice a2 z2.length c2) (.bool f4) (.slice b2 t2.length e2)
         refine hK.out _ _ N (fun hHeld => ?_)
         clear hK K
         try simp only [Act.put, sA, sB, sC]
         refine wpAnyH_done (by kernel_rfl) ?_ _
         go_wp2
         go_meet
         case rel => exact ⟨_, _, a1, c1, b1, e1, a2, c2, b2, e2, rfl, rfl, rfl, kP, kQ, ⟨o1.base_le bs, o2.base_le bs, o3.base_le bs, o4.base_le bs⟩, ap, ⟨⟨r_kP_o1, r_kP_o2, r_kP_o3, r_kP_o4⟩, ⟨r_kQ_o1, r_kQ_o2, r_kQ_o3, r_kQ_o4⟩⟩, N⟩
     · go_simp
       have kP := Box4.new V N.size (.bool false) (.slice none 0 0) (.bool false) (.slice none 0 0) 28
       have hb := below1 V (.cells #[.bool false, .slice none 0 0, .bool false, .slice none 0 0] 28)
       replace N := N.trans (hb.mono N.size)
       refine hK.out _ _ N (fun hHeld => ?_)
       clear hK K
       try simp only [Act.put, sA, sB, sC]
       rw [← hwp]
       exact met (H4_p _ _ kP N) (by kernel_rfl)
     · go_simp
       have kQ := Box4.new V N.size (.bool false) (.slice none 0 0) (.bool false) (.slice none 0 0) 28
       have hb := below1 V (.cells #[.bool false, .slice none 0 0, .bool false, .slice none 0 0] 28)
       replace N := N.trans (hb.mono N.size)
       refine hK.out _ _ N (fun hHeld => ?_)
       clear hK K
       try simp only [Act.put, sA, sB, sC]
       rw [← hwp]
       exact met (H4_q _ _ kQ N) (by kernel_rfl)
    have H3_pq : ∀ (p q : Nat) (V : World), Box4 w8.heap.size V p (.bool false) (.slice none 0 0) (.bool false) (.slice none 0 0) → Box4 w8.heap.size V q (.bool false) (.slice none 0 0) (.bool false) (.slice none 0 0) → p ≠ q → Below w8.heap.size w8 V → wp 9 #[true, true, true, true, true, true, true, false, false, false, false, false, false, true, true, false, false, false] ⟨#[.agg #[.int .i64 x1, .int .i64 y1], .agg #[.int .i64 x2, .int .i64 y2], .agg #[.int .i64 x3, .int .i64 y3], .agg #[.int .i64 x4, .int .i64 y4], .pointer (some ⟨w.heap.size, 0, none⟩), .pointer (some ⟨w.heap.size + 1, 0, none⟩), .pointer (some ⟨w.heap.size + 1 + 1, 0, none⟩), .pointer (some ⟨w.heap.size + 1 + 1 + 1, 0, none⟩), .bool false, .int .i64 kk, .pointer (some ⟨pW, 0, none⟩), .pointer (some ⟨qW, 0, none⟩), .int .i64 kk, .pointer (some ⟨pG, 0, none⟩), .pointer (some ⟨qG, 0, none⟩), .int .i64 (1 + z1.length + t1.length + z2.length + t2.length), .int .i64 (1 + z1.length + t1.length + z2.length + t2.length), undef, .pointer (some ⟨p, 0, none⟩), .pointer (some ⟨q, 0, none⟩), u20, u21, u22, u23, u24, u25, u26, u27, u28, u29, u30, u31, u32, u33, u34, u35, u36, u37, u38, u39, u40, u41, u42, u43, u44, u45, u46, u47, u48, u49, u50, u51, u52, u53, u54, u55, u56, u57, u58, u59, u60, u61, u62, u63, u64, u65, u66, u67, u68, u69, u70, u71, u72, u73, u74, u75, u76, u77, u78, .bool false, u80, .agg #[.int .i64 x1, .int .i64 y1], .agg #[.int .i64 x1, .int .i64 y1], .agg #[.int .i64 x2, .int .i64 y2], .agg #[.int .i64 x2, .int .i64 y2], .agg #[.int .i64 x3, .int .i64 y3], .agg #[.int .i64 x3, .int .i64 y3], .agg #[.int .i64 x4, .int .i64 y4], u88, u89, u90, u91, u92, u93, u94, u95, u96, u97, u98, u99, u100, u101, u102, u103, u104, u105, u106, u107, u108, u109, u110, u111, u112, u113, u114, u115, u116, u117, u118, u119, u120], []⟩ V := by
     as_aux_lemma =>
      intro p q V kP kQ n_pq N
      have hHeld : Below w8.heap.size w8 V := N
      rw [hwp]
      refine wpAnyH_ready (rs := [7]) (by kernel_rfl) (by simp) (AllReadyH.cons (gt rfl) (fun K hK => ?_) AllReadyH.nil)
      · go_simp
        refine (toPt_any x4 y4 _).mono ?_
        rintro ee V' ⟨rfl, hb⟩
        replace kP := kP.below hb
        replace kQ := kQ.below hb
        replace N := N.trans (hb.mono N.size)
        refine hK.out _ _ N (fun hHeld => ?_)
        clear hK K
        try simp only [Act.put, sA, sB, sC]
        rw [← hwp]
        exact met (H4_pq p q _ kP kQ n_pq N) (by kernel_rfl)
    have H3_p : ∀ (p : Nat) (V : World), Box4 w8.heap.size V p (.bool false) (.slice none 0 0) (.bool false) (.slice none 0 0) → Below w8.heap.size w8 V → wp 10 #[true, true, true, true, true, true, true, false, false, false, false, false, false, true, false, false, false, false] ⟨#[.agg #[.int .i64 x1, .int .i64 y1], .agg #[.int .i64 x2, .int .i64 y2], .agg #[.int .i64 x3, .int .i64 y3], .agg #[.int .i64 x4, .int .i64 y4], .pointer (some ⟨w.heap.size, 0, none⟩), .pointer (some ⟨w.heap.size + 1, 0, none⟩), .pointer (some ⟨w.heap.size + 1 + 1, 0, none⟩), .pointer (some ⟨w.heap.size + 1 + 1 + 1, 0, none⟩), .bool false, .int .i64 kk, .pointer (some ⟨pW, 0, none⟩), .pointer (some ⟨qW, 0, none⟩), .int .i64 kk, .pointer (some ⟨pG, 0, none⟩), .pointer (some ⟨qG, 0, none⟩), .int .i64 (1 + z1.length + t1.length + z2.length + t2.length), .int .i64 (1 + z1.length + t1.length + z2.length + t2.length), undef, .pointer (some ⟨p, 0, none⟩), undef, u20, u21, u22, u23, u24, u25, u26, u27, u28, u29, u30, u31, u32, u33, u34, u35, u36, u37, u38, u39, u40, u41, u42, u43, u44, u45, u46, u47, u48, u49, u50, u51, u52, u53, u54, u55, u56, u57, u58, u59, u60, u61, u62, u63, u64, u65, u66, u67, u68, u69, u70, u71, u72, u73, u74, u75, u76, u77, u78, .bool false, u80, .agg #[.int .i64 x1, .int .i64 y1], .agg #[.int .i64 x1, .int .i64 y1], .agg #[.int .i64 x2, .int .i64 y2], .agg #[.int .i64 x2, .int .i64 y2], .agg #[.int .i64 x3, .int .i64 y3], .agg #[.int .i64 x3, .int .i64 y3], .agg #[.int .i64 x4, .int .i64 y4], u88, u89, u90, u91, u92, u93, u94, u95, u96, u97, u98, u99, u100, u101, u102, u103, u104, u105, u106, u107, u108, u109, u110, u111, u112, u113, u114, u115, u116, u117, u118, u119, u120], []⟩ V := by
     as_aux_lemma =>
      intro p V kP N
      have hHeld : Below w8.heap.size w8 V := N
      rw [hwp]
      refine wpAnyH_ready (rs := [7, 14]) (by kernel_rfl) (by simp) (AllReadyH.cons (gt rfl) (fun K hK => ?_) (AllReadyH.cons (gt rfl) (fun K hK => ?_) AllReadyH.nil))
      · go_simp
        refine (toPt_any x4 y4 _).mono ?_
        rintro ee V' ⟨rfl, hb⟩
        replace kP := kP.below hb
        replace N := N.trans (hb.mono N.size)
        refine hK.out _ _ N (fun hHeld => ?_)
        clear hK K
        try simp only [Act.put, sA, sB, sC]
        rw [← hwp]
        exact met (H4_p p _ kP N) (by kernel_rfl)
      · go_simp
        have kQ := Box4.new V N.size (.bool false) (.slice none 0 0) (.bool false) (.slice none 0 0) 28
        have hb := below1 V (.cells #[.bool false, .slice none 0 0, .bool false, .slice none 0 0] 28)
        have g_p := Nat.ne_of_lt kP.lt
        replace kP := kP.below hb
        replace N := N.trans (hb.mono N.size)
        refine hK.out _ _ N (fun hHeld => ?_)
        clear hK K
        try simp only [Act.put, sA, sB, sC]
        rw [← hwp]
        exact met (H3_pq p _ _ kP kQ g_p N) (by kernel_rfl)
    have H3_q : ∀ (q : Nat) (V : World), Box4 w8.heap.size V q (.bool false) (.slice none 0 0) (.bool false) (.slice none 0 0) → Below w8.heap.size w8 V → wp 10 #[true, true, true, true, true, true, true, false, false, false, false, false, false, false, true, false, false, false] ⟨#[.agg #[.int .i64 x1, .int .i64 y1], .agg #[.int .i64 x2, .int .i64 y2], .agg #[.int .i64 x3, .int .i64 y3], .agg #[.int .i64 x4, .int .i64 y4], .pointer (some ⟨w.heap.size, 0, none⟩), .pointer (some ⟨w.heap.size + 1, 0, none⟩), .pointer (some ⟨w.heap.size + 1 + 1, 0, none⟩), .pointer (some ⟨w.heap.size + 1 + 1 + 1, 0, none⟩), .bool false, .int .i64 kk, .pointer (some ⟨pW, 0, none⟩), .pointer (some ⟨qW, 0, none⟩), .int .i64 kk, .pointer (some ⟨pG, 0, none⟩), .pointer (some ⟨qG, 0, none⟩), .int .i64 (1 + z1.length + t1.length + z2.length + t2.length), .int .i64 (1 + z1.length + t1.length + z2.length + t2.length), undef, undef, .pointer (some ⟨q, 0, none⟩), u20, u21, u22, u23, u24, u25, u26, u27, u28, u29, u30, u31, u32, u33, u34, u35, u36, u37, u38, u39, u40, u41, u42, u43, u44, u45, u46, u47, u48, u49, u50, u51, u52, u53, u54, u55, u56, u57, u58, u59, u60, u61, u62, u63, u64, u65, u66, u67, u68, u69, u70, u71, u72, u73, u74, u75, u76, u77, u78, .bool false, u80, .agg #[.int .i64 x1, .int .i64 y1], .agg #[.int .i64 x1, .int .i64 y1], .agg #[.int .i64 x2, .int .i64 y2], .agg #[.int .i64 x2, .int .i64 y2], .agg #[.int .i64 x3, .int .i64 y3], .agg #[.int .i64 x3, .int .i64 y3], .agg #[.int .i64 x4, .int .i64 y4], u88, u89, u90, u91, u92, u93, u94, u95, u96, u97, u98, u99, u100, u101, u102, u103, u104, u105, u106, u107, u108, u109, u110, u111, u112, u113, u114, u115, u116, u117, u118, u119, u120], []⟩ V := by
     as_aux_lemma =>
      intro q V kQ N
      have hHeld : Below w8.heap.size w8 V := N
      rw [hwp]
      refine wpAnyH_ready (rs := [7, 13]) (by kernel_rfl) (by simp) (AllReadyH.cons (gt rfl) (fun K hK => ?_) (AllReadyH.cons (gt rfl) (fun K hK => ?_) AllReadyH.nil))
      · go_simp
        refine (toPt_any x4 y4 _).mono ?_
        rintro ee V' ⟨rfl, hb⟩
        replace kQ := kQ.below hb
        replace N := N.trans (hb.mono N.size)
        refine hK.out _ _ N (fun hHeld => ?_)
        clear hK K
        try simp only [Act.put, sA, sB, sC]
        rw [← hwp]
        exact met (H4_q q _ kQ N) (by kernel_rfl)
      · go_simp
        have kP := Box4.new V N.size (.bool false) (.slice none 0 0) (.bool false) (.slice none 0 0) 28
        have hb := below1 V (.cells #[.bool false, .slice none 0 0, .bool false, .slice none 0 0] 28)
        have g_q := Nat.ne_of_lt kQ.lt
        replace kQ := kQ.below hb
        replace N := N.trans (hb.mono N.size)
        refine hK.out _ _ N (fun hHeld => ?_)
        clear hK K
        try simp only [Act.put, sA, sB, sC]
        rw [← hwp]
        exact met (H3_pq _ q _ kP kQ g_q.symm N) (by kernel_rfl)
    have H3_ : ∀ (V : World), Below w8.heap.size w8 V → wp 11 #[true, true, true, true, true, true, true, false, false, false, false, false, false, false, false, false, false, false] ⟨#[.agg #[.int .i64 x1, .int .i64 y1], .agg #[.int .i64 x2, .int .i64 y2], .agg #[.int .i64 x3, .int .i64 y3], .agg #[.int .i64 x4, .int .i64 y4], .pointer (some ⟨w.heap.size, 0, none⟩), .pointer (some ⟨w.heap.size + 1, 0, none⟩), .pointer (some ⟨w.heap.size + 1 + 1, 0, none⟩), .pointer (some ⟨w.heap.size + 1 + 1 + 1, 0, none⟩), .bool false, .int .i64 kk, .pointer (some ⟨pW, 0, none⟩), .pointer (some ⟨qW, 0, none⟩), .int .i64 kk, .pointer (some ⟨pG, 0, none⟩), .pointer (some ⟨qG, 0, none⟩), .int .i64 (1 + z1.length + t1.length + z2.length + t2.length), .int .i64 (1 + z1.length + t1.length + z2.length + t2.length), undef, undef, undef, u20, u21, u22, u23, u24, u25, u26, u27, u28, u29, u30, u31, u32, u33, u34, u35, u36, u37, u38, u39, u40, u41, u42, u43, u44, u45, u46, u47, u48, u49, u50, u51, u52, u53, u54, u55, u56, u57, u58, u59, u60, u61, u62, u63, u64, u65, u66, u67, u68, u69, u70, u71, u72, u73, u74, u75, u76, u77, u78, .bool false, u80, .agg #[.int .i64 x1, .int .i64 y1], .agg #[.int .i64 x1, .int .i64 y1], .agg #[.int .i64 x2, .int .i64 y2], .agg #[.int .i64 x2, .int .i64 y2], .agg #[.int .i64 x3, .int .i64 y3], .agg #[.int .i64 x3, .int .i64 y3], .agg #[.int .i64 x4, .int .i64 y4], u88, u89, u90, u91, u92, u93, u94, u95, u96, u97, u98, u99, u100, u101, u102, u103, u104, u105, u106, u107, u108, u109, u110, u111, u112, u113, u114, u115, u116, u117, u118, u119, u120], []⟩ V := by
     as_aux_lemma =>
      intro V N
      have hHeld : Below w8.heap.size w8 V := N
      rw [hwp]
      refine wpAnyH_ready (rs := [7, 13, 14]) (by kernel_rfl) (by simp) (AllReadyH.cons (gt rfl) (fun K hK => ?_) (AllReadyH.cons (gt rfl) (fun K hK => ?_) (AllReadyH.cons (gt rfl) (fun K hK => ?_) AllReadyH.nil)))
      · go_simp
        refine (toPt_any x4 y4 _).mono ?_
        rintro ee V' ⟨rfl, hb⟩
        replace N := N.trans (hb.mono N.size)
        refine hK.out _ _ N (fun hHeld => ?_)
        clear hK K
        try simp only [Act.put, sA, sB, sC]
        rw [← hwp]
        exact met (H4_ _ N) (by kernel_rfl)
      · go_simp
        have kP := Box4.new V N.size (.bool false) (.slice none 0 0) (.bool false) (.slice none 0 0) 28
        have hb := below1 V (.cells #[.bool false, .slice none 0 0, .bool false, .slice none 0 0] 28)
        replace N := N.trans (hb.mono N.size)
        refine hK.out _ _ N (fun hHeld => ?_)
        clear hK K
        try simp only [Act.put, sA, sB, sC]
        rw [← hwp]
        exact met (H3_p _ _ kP N) (by kernel_rfl)
      · go_simp
        have kQ := Box4.new V N.size (.bool false) (.slice none 0 0) (.bool false) (.slice none 0 0) 28
        have hb := below1 V (.cells #[.bool false, .slice none 0 0, .bool false, .slice none 0 0] 28)
        replace N := N.trans (hb.mono N.size)
        refine hK.out _ _ N (fun hHeld => ?_)
        clear hK K
        try simp only [Act.put, sA, sB, sC]
        rw [← hwp]
        exact met (H3_q _ _ kQ N) (by kernel_rfl)
    have H2_pq : ∀ (p q : Nat) (V : World), Box4 w8.heap.size V p (.bool false) (.slice none 0 0) (.bool false) (.slice none 0 0) → Box4 w8.heap.size V q (.bool false) (.slice none 0 0) (.bool false) (.slice none 0 0) → p ≠ q → Below w8.heap.size w8 V → wp 10 #[true, true, true, true, true, false, true, false, false, false, false, false, false, true, true, false, false, false] ⟨#[.agg #[.int .i64 x1, .int .i64 y1], .agg #[.int .i64 x2, .int .i64 y2], .agg #[.int .i64 x3, .int .i64 y3], .agg #[.int .i64 x4, .int .i64 y4], .pointer (some ⟨w.heap.size, 0, none⟩), .pointer (some ⟨w.heap.size + 1, 0, none⟩), .pointer (some ⟨w.heap.size + 1 + 1, 0, none⟩), .pointer (some ⟨w.heap.size + 1 + 1 + 1, 0, none⟩), .bool false, .int .i64 kk, .pointer (some ⟨pW, 0, none⟩), .pointer (some ⟨qW, 0, none⟩), .int .i64 kk, .pointer (some ⟨pG, 0, none⟩), .pointer (some ⟨qG, 0, none⟩), .int .i64 (1 + z1.length + t1.length + z2.length + t2.length), .int .i64 (1 + z1.length + t1.length + z2.length + t2.length), undef, .pointer (some ⟨p, 0, none⟩), .pointer (some ⟨q, 0, none⟩), u20, u21, u22, u23, u24, u25, u26, u27, u28, u29, u30, u31, u32, u33, u34, u35, u36, u37, u38, u39, u40, u41, u42, u43, u44, u45, u46, u47, u48, u49, u50, u51, u52, u53, u54, u55, u56, u57, u58, u59, u60, u61, u62, u63, u64, u65, u66, u67, u68, u69, u70, u71, u72, u73, u74, u75, u76, u77, u78, .bool false, u80, .agg #[.int .i64 x1, .int .i64 y1], .agg #[.int .i64 x1, .int .i64 y1], .agg #[.int .i64 x2, .int .i64 y2], .agg #[.int .i64 x2, .int .i64 y2], .agg #[.int .i64 x3, .int .i64 y3], u86, .agg #[.int .i64 x4, .int .i64 y4], u88, u89, u90, u91, u92, u93, u94, u95, u96, u97, u98, u99, u100, u101, u102, u103, u104, u105, u106, u107, u108, u109, u110, u111, u112, u113, u114, u115, u116, u117, u118, u119, u120], []⟩ V := by
     as_aux_lemma =>
      intro p q V kP kQ n_pq N
      have hHeld : Below w8.heap.size w8 V := N
      rw [hwp]
      refine wpAnyH_ready (rs := [5]) (by kernel_rfl) (by simp) (AllReadyH.cons (gt rfl) (fun K hK => ?_) AllReadyH.nil)
      · go_simp
        refine (toPt_any x3 y3 _).mono ?_
        rintro ee V' ⟨rfl, hb⟩
        replace kP := kP.below hb
        replace kQ := kQ.below hb
        replace N := N.trans (hb.mono N.size)
        refine hK.out _ _ N (fun hHeld => ?_)
        clear hK K
        try simp only [Act.put, sA, sB, sC]
        rw [← hwp]
        exact met (H3_pq p q _ kP kQ n_pq N) (by kernel_rfl)
    have H2_p : ∀ (p : Nat) (V : World), Box4 w8.heap.size V p (.bool false) (.slice none 0 0) (.bool false) (.slice none 0 0) → Below w8.heap.size w8 V → wp 11 #[true, true, true, true, true, false, true, false, false, false, false, false, false, true, false, false, false, false] ⟨#[.agg #[.int .i64 x1, .int .i64 y1], .agg #[.int .i64 x2, .int .i64 y2], .agg #[.int .i64 x3, .int .i64 y3], .agg #[.int .i64 x4, .int .i64 y4], .pointer (some ⟨w.heap.size, 0, none⟩), .pointer (some ⟨w.heap.size + 1, 0, none⟩), .pointer (some ⟨w.heap.size + 1 + 1, 0, none⟩), .pointer (some ⟨w.heap.size + 1 + 1 + 1, 0, none⟩), .bool false, .int .i64 kk, .pointer (some ⟨pW, 0, none⟩), .pointer (some ⟨qW, 0, none⟩), .int .i64 kk, .pointer (some ⟨pG, 0, none⟩), .pointer (some ⟨qG, 0, none⟩), .int .i64 (1 + z1.length + t1.length + z2.length + t2.length), .int .i64 (1 + z1.length + t1.length + z2.length + t2.length), undef, .pointer (some ⟨p, 0, none⟩), undef, u20, u21, u22, u23, u24, u25, u26, u27, u28, u29, u30, u31, u32, u33, u34, u35, u36, u37, u38, u39, u40, u41, u42, u43, u44, u45, u46, u47, u48, u49, u50, u51, u52, u53, u54, u55, u56, u57, u58, u59, u60, u61, u62, u63, u64, u65, u66, u67, u68, u69, u70, u71, u72, u73, u74, u75, u76, u77, u78, .bool false, u80, .agg #[.int .i64 x1, .int .i64 y1], .agg #[.int .i64 x1, .int .i64 y1], .agg #[.int .i64 x2, .int .i64 y2], .agg #[.int .i64 x2, .int .i64 y2], .agg #[.int .i64 x3, .int .i64 y3], u86, .agg #[.int .i64 x4, .int .i64 y4], u88, u89, u90, u91, u92, u93, u94, u95, u96, u97, u98, u99, u100, u101, u102, u103, u104, u105, u106, u107, u108, u109, u110, u111, u112, u113, u114, u115, u116, u117, u118, u119, u120], []⟩ V := by
     as_aux_lemma =>
      intro p V kP N
      have hHeld : Below w8.heap.size w8 V := N
      rw [hwp]
      refine wpAnyH_ready (rs := [5, 14]) (by kernel_rfl) (by simp) (AllReadyH.cons (gt rfl) (fun K hK => ?_) (AllReadyH.cons (gt rfl) (fun K hK => ?_) AllReadyH.nil))
      · go_simp
        refine (toPt_any x3 y3 _).mono ?_
        rintro ee V' ⟨rfl, hb⟩
        replace kP := kP.below hb
        replace N := N.trans (hb.mono N.size)
        refine hK.out _ _ N (fun hHeld => ?_)
        clear hK K
        try simp only [Act.put, sA, sB, sC]
        rw [← hwp]
        exact met (H3_p p _ kP N) (by kernel_rfl)
      · go_simp
        have kQ := Box4.new V N.size (.bool false) (.slice none 0 0) (.bool false) (.slice none 0 0) 28
        have hb := below1 V (.cells #[.bool false, .slice none 0 0, .bool false, .slice none 0 0] 28)
        have g_p := Nat.ne_of_lt kP.lt
        replace kP := kP.below hb
        replace N := N.trans (hb.mono N.size)
        refine hK.out _ _ N (fun hHeld => ?_)
        clear hK K
        try simp only [Act.put, sA, sB, sC]
        rw [← hwp]
        exact met (H2_pq p _ _ kP kQ g_p N) (by kernel_rfl)
    have H2_q : ∀ (q : Nat) (V : World), Box4 w8.heap.size V q (.bool false) (.slice none 0 0) (.bool false) (.slice none 0 0) → Below w8.heap.size w8 V → wp 11 #[true, true, true, true, true, false, true, false, false, false, false, false, false, false, true, false, false, false] ⟨#[.agg #[.int .i64 x1, .int .i64 y1], .agg #[.int .i64 x2, .int .i64 y2], .agg #[.int .i64 x3, .int .i64 y3], .agg #[.int .i64 x4, .int .i64 y4], .pointer (some ⟨w.heap.size, 0, none⟩), .pointer (some ⟨w.heap.size + 1, 0, none⟩), .pointer (some ⟨w.heap.size + 1 + 1, 0, none⟩), .pointer (some ⟨w.heap.size + 1 + 1 + 1, 0, none⟩), .bool false, .int .i64 kk, .pointer (some ⟨pW, 0, none⟩), .pointer (some ⟨qW, 0, none⟩), .int .i64 kk, .pointer (some ⟨pG, 0, none⟩), .pointer (some ⟨qG, 0, none⟩), .int .i64 (1 + z1.length + t1.length + z2.length + t2.length), .int .i64 (1 + z1.length + t1.length + z2.length + t2.length), undef, undef, .pointer (some ⟨q, 0, none⟩), u20, u21, u22, u23, u24, u25, u26, u27, u28, u29, u30, u31, u32, u33, u34, u35, u36, u37, u38, u39, u40, u41, u42, u43, u44, u45, u46, u47, u48, u49, u50, u51, u52, u53, u54, u55, u56, u57, u58, u59, u60, u61, u62, u63, u64, u65, u66, u67, u68, u69, u70, u71, u72, u73, u74, u75, u76, u77, u78, .bool false, u80, .agg #[.int .i64 x1, .int .i64 y1], .agg #[.int .i64 x1, .int .i64 y1], .agg #[.int .i64 x2, .int .i64 y2], .agg #[.int .i64 x2, .int .i64 y2], .agg #[.int .i64 x3, .int .i64 y3], u86, .agg #[.int .i64 x4, .int .i64 y4], u88, u89, u90, u91, u92, u93, u94, u95, u96, u97, u98, u99, u100, u101, u102, u103, u104, u105, u106, u107, u108, u109, u110, u111, u112, u113, u114, u115, u116, u117, u118, u119, u120], []⟩ V := by
     as_aux_lemma =>
      intro q V kQ N
      have hHeld : Below w8.heap.size w8 V := N
      rw [hwp]
      refine wpAnyH_ready (rs := [5, 13]) (by kernel_rfl) (by simp) (AllReadyH.cons (gt rfl) (fun K hK => ?_) (AllReadyH.cons (gt rfl) (fun K hK => ?_) AllReadyH.nil))
      · go_simp
        refine (toPt_any x3 y3 _).mono ?_
        rintro ee V' ⟨rfl, hb⟩
        replace kQ := kQ.below hb
        replace N := N.trans (hb.mono N.size)
        refine hK.out _ _ N (fun hHeld => ?_)
        clear hK K
        try simp only [Act.put, sA, sB, sC]
        rw [← hwp]
        exact met (H3_q q _ kQ N) (by kernel_rfl)
      · go_simp
        have kP := Box4.new V N.size (.bool false) (.slice none 0 0) (.bool false) (.slice none 0 0) 28
        have hb := below1 V (.cells #[.bool false, .slice none 0 0, .bool false, .slice none 0 0] 28)
        have g_q := Nat.ne_of_lt kQ.lt
        replace kQ := kQ.below hb
        replace N := N.trans (hb.mono N.size)
        refine hK.out _ _ N (fun hHeld => ?_)
        clear hK K
        try simp only [Act.put, sA, sB, sC]
        rw [← hwp]
        exact met (H2_pq _ q _ kP kQ g_q.symm N) (by kernel_rfl)
    have H2_ : ∀ (V : World), Below w8.heap.size w8 V → wp 12 #[true, true, true, true, true, false, true, false, false, false, false, false, false, false, false, false, false, false] ⟨#[.agg #[.int .i64 x1, .int .i64 y1], .agg #[.int .i64 x2, .int .i64 y2], .agg #[.int .i64 x3, .int .i64 y3], .agg #[.int .i64 x4, .int .i64 y4], .pointer (some ⟨w.heap.size, 0, none⟩), .pointer (some ⟨w.heap.size + 1, 0, none⟩), .pointer (some ⟨w.heap.size + 1 + 1, 0, none⟩), .pointer (some ⟨w.heap.size + 1 + 1 + 1, 0, none⟩), .bool false, .int .i64 kk, .pointer (some ⟨pW, 0, none⟩), .pointer (some ⟨qW, 0, none⟩), .int .i64 kk, .pointer (some ⟨pG, 0, none⟩), .pointer (some ⟨qG, 0, none⟩), .int .i64 (1 + z1.length + t1.length + z2.length + t2.length), .int .i64 (1 + z1.length + t1.length + z2.length + t2.length), undef, undef, undef, u20, u21, u22, u23, u24, u25, u26, u27, u28, u29, u30, u31, u32, u33, u34, u35, u36, u37, u38, u39, u40, u41, u42, u43, u44, u45, u46, u47, u48, u49, u50, u51, u52, u53, u54, u55, u56, u57, u58, u59, u60, u61, u62, u63, u64, u65, u66, u67, u68, u69, u70, u71, u72, u73, u74, u75, u76, u77, u78, .bool false, u80, .agg #[.int .i64 x1, .int .i64 y1], .agg #[.int .i64 x1, .int .i64 y1], .agg #[.int .i64 x2, .int .i64 y2], .agg #[.int .i64 x2, .int .i64 y2], .agg #[.int .i64 x3, .int .i64 y3], u86, .agg #[.int .i64 x4, .int .i64 y4], u88, u89, u90, u91, u92, u93, u94, u95, u96, u97, u98, u99, u100, u101, u102, u103, u104, u105, u106, u107, u108, u109, u110, u111, u112, u113, u114, u115, u116, u117, u118, u119, u120], []⟩ V := by
     as_aux_lemma =>
      intro V N
      have hHeld : Below w8.heap.size w8 V := N
      rw [hwp]
      refine wpAnyH_ready (rs := [5, 13, 14]) (by kernel_rfl) (by simp) (AllReadyH.cons (gt rfl) (fun K hK => ?_) (AllReadyH.cons (gt rfl) (fun K hK => ?_) (AllReadyH.cons (gt rfl) (fun K hK => ?_) AllReadyH.nil)))
      · go_simp
        refine (toPt_any x3 y3 _).mono ?_
        rintro ee V' ⟨rfl, hb⟩
        replace N := N.trans (hb.mono N.size)
        refine hK.out _ _ N (fun hHeld => ?_)
        clear hK K
        try simp only [Act.put, sA, sB, sC]
        rw [← hwp]
        exact met (H3_ _ N) (by kernel_rfl)
      · go_simp
        have kP := Box4.new V N.size (.bool false) (.slice none 0 0) (.bool false) (.slice none 0 0) 28
        have hb := below1 V (.cells #[.bool false, .slice none 0 0, .bool false, .slice none 0 0] 28)
        replace N := N.trans (hb.mono N.size)
        refine hK.out _ _ N (fun hHeld => ?_)
        clear hK K
        try simp only [Act.put, sA, sB, sC]
        rw [← hwp]
        exact met (H2_p _ _ kP N) (by kernel_rfl)
      · go_simp
        have kQ := Box4.new V N.size (.bool false) (.slice none 0 0) (.bool false) (.slice none 0 0) 28
        have hb := below1 V (.cells #[.bool false, .slice none 0 0, .bool false, .slice none 0 0] 28)
        replace N := N.trans (hb.mono N.size)
        refine hK.out _ _ N (fun hHeld => ?_)
        clear hK K
        try simp only [Act.put, sA, sB, sC]
        rw [← hwp]
        exact met (H2_q _ _ kQ N) (by kernel_rfl)
    have H1_pq : ∀ (p q : Nat) (V : World), Box4 w8.heap.size V p (.bool false) (.slice none 0 0) (.bool false) (.slice none 0 0) → Box4 w8.heap.size V q (.bool false) (.slice none 0 0) (.bool false) (.slice none 0 0) → p ≠ q → Below w8.heap.size w8 V → wp 11 #[true, true, true, false, true, false, true, false, false, false, false, false, false, true, true, false, false, false] ⟨#[.agg #[.int .i64 x1, .int .i64 y1], .agg #[.int .i64 x2, .int .i64 y2], .agg #[.int .i64 x3, .int .i64 y3], .agg #[.int .i64 x4, .int .i64 y4], .pointer (some ⟨w.heap.size, 0, none⟩), .pointer (some ⟨w.heap.size + 1, 0, none⟩), .pointer (some ⟨w.heap.size + 1 + 1, 0, none⟩), .pointer (some ⟨w.heap.size + 1 + 1 + 1, 0, none⟩), .bool false, .int .i64 kk, .pointer (some ⟨pW, 0, none⟩), .pointer (some ⟨qW, 0, none⟩), .int .i64 kk, .pointer (some ⟨pG, 0, none⟩), .pointer (some ⟨qG, 0, none⟩), .int .i64 (1 + z1.length + t1.length + z2.length + t2.length), .int .i64 (1 + z1.length + t1.length + z2.length + t2.length), undef, .pointer (some ⟨p, 0, none⟩), .pointer (some ⟨q, 0, none⟩), u20, u21, u22, u23, u24, u25, u26, u27, u28, u29, u30, u31, u32, u33, u34, u35, u36, u37, u38, u39, u40, u41, u42, u43, u44, u45, u46, u47, u48, u49, u50, u51, u52, u53, u54, u55, u56, u57, u58, u59, u60, u61, u62, u63, u64, u65, u66, u67, u68, u69, u70, u71, u72, u73, u74, u75, u76, u77, u78, .bool false, u80, .agg #[.int .i64 x1, .int .i64 y1], .agg #[.int .i64 x1, .int .i64 y1], .agg #[.int .i64 x2, .int .i64 y2], u84, .agg #[.int .i64 x3, .int .i64 y3], u86, .agg #[.int .i64 x4, .int .i64 y4], u88, u89, u90, u91, u92, u93, u94, u95, u96, u97, u98, u99, u100, u101, u102, u103, u104, u105, u106, u107, u108, u109, u110, u111, u112, u113, u114, u115, u116, u117, u118, u119, u120], []⟩ V := by
     as_aux_lemma =>
      intro p q V kP kQ n_pq N
      have hHeld : Below w8.heap.size w8 V := N
      rw [hwp]
      refine wpAnyH_ready (rs := [3]) (by kernel_rfl) (by simp) (AllReadyH.cons (gt rfl) (fun K hK => ?_) AllReadyH.nil)
      · go_simp
        refine (toPt_any x2 y2 _).mono ?_
        rintro ee V' ⟨rfl, hb⟩
        replace kP := kP.below hb
        replace kQ := kQ.below hb
        replace N := N.trans (hb.mono N.size)
        refine hK.out _ _ N (fun hHeld => ?_)
        clear hK K
        try simp only [Act.put, sA, sB, sC]
        rw [← hwp]
        exact met (H2_pq p q _ kP kQ n_pq N) (by kernel_rfl)
    have H1_p : ∀ (p : Nat) (V : World), Box4 w8.heap.size V p (.bool false) (.slice none 0 0) (.bool false) (.slice none 0 0) → Below w8.heap.size w8 V → wp 12 #[true, true, true, false, true, false, true, false, false, false, false, false, false, true, false, false, false, false] ⟨#[.agg #[.int .i64 x1, .int .i64 y1], .agg #[.int .i64 x2, .int .i64 y2], .agg #[.int .i64 x3, .int .i64 y3], .agg #[.int .i64 x4, .int .i64 y4], .pointer (some ⟨w.heap.size, 0, none⟩), .pointer (some ⟨w.heap.size + 1, 0, none⟩), .pointer (some ⟨w.heap.size + 1 + 1, 0, none⟩), .pointer (some ⟨w.heap.size + 1 + 1 + 1, 0, none⟩), .bool false, .int .i64 kk, .pointer (some ⟨pW, 0, none⟩), .pointer (some ⟨qW, 0, none⟩), .int .i64 kk, .pointer (some ⟨pG, 0, none⟩), .pointer (some ⟨qG, 0, none⟩), .int .i64 (1 + z1.length + t1.length + z2.length + t2.length), .int .i64 (1 + z1.length + t1.length + z2.length + t2.length), undef, .pointer (some ⟨p, 0, none⟩), undef, u20, u21, u22, u23, u24, u25, u26, u27, u28, u29, u30, u31, u32, u33, u34, u35, u36, u37, u38, u39, u40, u41, u42, u43, u44, u45, u46, u47, u48, u49, u50, u51, u52, u53, u54, u55, u56, u57, u58, u59, u60, u61, u62, u63, u64, u65, u66, u67, u68, u69, u70, u71, u72, u73, u74, u75, u76, u77, u78, .bool false, u80, .agg #[.int .i64 x1, .int .i64 y1], .agg #[.int .i64 x1, .int .i64 y1], .agg #[.int .i64 x2, .int .i64 y2], u84, .agg #[.int .i64 x3, .int .i64 y3], u86, .agg #[.int .i64 x4, .int .i64 y4], u88, u89, u90, u91, u92, u93, u94, u95, u96, u97, u98, u99, u100, u101, u102, u103, u104, u105, u106, u107, u108, u109, u110, u111, u112, u113, u114, u115, u116, u117, u118, u119, u120], []⟩ V := by
     as_aux_lemma =>
      intro p V kP N
      have hHeld : Below w8.heap.size w8 V := N
      rw [hwp]
      refine wpAnyH_ready (rs := [3, 14]) (by kernel_rfl) (by simp) (AllReadyH.cons (gt rfl) (fun K hK => ?_) (AllReadyH.cons (gt rfl) (fun K hK => ?_) AllReadyH.nil))
      · go_simp
        refine (toPt_any x2 y2 _).mono ?_
        rintro ee V' ⟨rfl, hb⟩
        replace kP := kP.below hb
        replace N := N.trans (hb.mono N.size)
        refine hK.out _ _ N (fun hHeld => ?_)
        clear hK K
        try simp only [Act.put, sA, sB, sC]
        rw [← hwp]
        exact met (H2_p p _ kP N) (by kernel_rfl)
      · go_simp
        have kQ := Box4.new V N.size (.bool false) (.slice none 0 0) (.bool false) (.slice none 0 0) 28
        have hb := below1 V (.cells #[.bool false, .slice none 0 0, .bool false, .slice none 0 0] 28)
        have g_p := Nat.ne_of_lt kP.lt
        replace kP := kP.below hb
        replace N := N.trans (hb.mono N.size)
        refine hK.out _ _ N (fun hHeld => ?_)
        clear hK K
        try simp only [Act.put, sA, sB, sC]
        rw [← hwp]
        exact met (H1_pq p _ _ kP kQ g_p N) (by kernel_rfl)
    have H1_q : ∀ (q : Nat) (V : World), Box4 w8.heap.size V q (.bool false) (.slice none 0 0) (.bool false) (.slice none 0 0) → Below w8.heap.size w8 V → wp 12 #[true, true, true, false, true, false, true, false, false, false, false, false, false, false, true, false, false, false] ⟨#[.agg #[.int .i64 x1, .int .i64 y1], .agg #[.int .i64 x2, .int .i64 y2], .agg #[.int .i64 x3, .int .i64 y3], .agg #[.int .i64 x4, .int .i64 y4], .pointer (some ⟨w.heap.size, 0, none⟩), .pointer (some ⟨w.heap.size + 1, 0, none⟩), .pointer (some ⟨w.heap.size + 1 + 1, 0, none⟩), .pointer (some ⟨w.heap.size + 1 + 1 + 1, 0, none⟩), .bool false, .int .i64 kk, .pointer (some ⟨pW, 0, none⟩), .pointer (some ⟨qW, 0, none⟩), .int .i64 kk, .pointer (some ⟨pG, 0, none⟩), .pointer (some ⟨qG, 0, none⟩), .int .i64 (1 + z1.length + t1.length + z2.length + t2.length), .int .i64 (1 + z1.length + t1.length + z2.length + t2.length), undef, undef, .pointer (some ⟨q, 0, none⟩), u20, u21, u22, u23, u24, u25, u26, u27, u28, u29, u30, u31, u32, u33, u34, u35, u36, u37, u38, u39, u40, u41, u42, u43, u44, u45, u46, u47, u48, u49, u50, u51, u52, u53, u54, u55, u56, u57, u58, u59, u60, u61, u62, u63, u64, u65, u66, u67, u68, u69, u70, u71, u72, u73, u74, u75, u76, u77, u78, .bool false, u80, .agg #[.int .i64 x1, .int .i64 y1], .agg #[.int .i64 x1, .int .i64 y1], .agg #[.int .i64 x2, .int .i64 y2], u84, .agg #[.int .i64 x3, .int .i64 y3], u86, .agg #[.int .i64 x4, .int .i64 y4], u88, u89, u90, u91, u92, u93, u94, u95, u96, u97, u98, u99, u100, u101, u102, u103, u104, u105, u106, u107, u108, u109, u110, u111, u112, u113, u114, u115, u116, u117, u118, u119, u120], []⟩ V := by
     as_aux_lemma =>
      intro q V kQ N
      have hHeld : Below w8.heap.size w8 V := N
      rw [hwp]
      refine wpAnyH_ready (rs := [3, 13]) (by kernel_rfl) (by simp) (AllReadyH.cons (gt rfl) (fun K hK => ?_) (AllReadyH.cons (gt rfl) (fun K hK => ?_) AllReadyH.nil))
      · go_simp
        refine (toPt_any x2 y2 _).mono ?_
        rintro ee V' ⟨rfl, hb⟩
        replace kQ := kQ.below hb
        replace N := N.trans (hb.mono N.size)
        refine hK.out _ _ N (fun hHeld => ?_)
        clear hK K
        try simp only [Act.put, sA, sB, sC]
        rw [← hwp]
        exact met (H2_q q _ kQ N) (by kernel_rfl)
      · go_simp
        have kP := Box4.new V N.size (.bool false) (.slice none 0 0) (.bool false) (.slice none 0 0) 28
        have hb := below1 V (.cells #[.bool false, .slice none 0 0, .bool false, .slice none 0 0] 28)
        have g_q := Nat.ne_of_lt kQ.lt
        replace kQ := kQ.below hb
        replace N := N.trans (hb.mono N.size)
        refine hK.out _ _ N (fun hHeld => ?_)
        clear hK K
        try simp only [Act.put, sA, sB, sC]
        rw [← hwp]
        exact met (H1_pq _ q _ kP kQ g_q.symm N) (by kernel_rfl)
    have H1_ : ∀ (V : World), Below w8.heap.size w8 V → wp 13 #[true, true, true, false, true, false, true, false, false, false, false, false, false, false, false, false, false, false] ⟨#[.agg #[.int .i64 x1, .int .i64 y1], .agg #[.int .i64 x2, .int .i64 y2], .agg #[.int .i64 x3, .int .i64 y3], .agg #[.int .i64 x4, .int .i64 y4], .pointer (some ⟨w.heap.size, 0, none⟩), .pointer (some ⟨w.heap.size + 1, 0, none⟩), .pointer (some ⟨w.heap.size + 1 + 1, 0, none⟩), .pointer (some ⟨w.heap.size + 1 + 1 + 1, 0, none⟩), .bool false, .int .i64 kk, .pointer (some ⟨pW, 0, none⟩), .pointer (some ⟨qW, 0, none⟩), .int .i64 kk, .pointer (some ⟨pG, 0, none⟩), .pointer (some ⟨qG, 0, none⟩), .int .i64 (1 + z1.length + t1.length + z2.length + t2.length), .int .i64 (1 + z1.length + t1.length + z2.length + t2.length), undef, undef, undef, u20, u21, u22, u23, u24, u25, u26, u27, u28, u29, u30, u31, u32, u33, u34, u35, u36, u37, u38, u39, u40, u41, u42, u43, u44, u45, u46, u47, u48, u49, u50, u51, u52, u53, u54, u55, u56, u57, u58, u59, u60, u61, u62, u63, u64, u65, u66, u67, u68, u69, u70, u71, u72, u73, u74, u75, u76, u77, u78, .bool false, u80, .agg #[.int .i64 x1, .int .i64 y1], .agg #[.int .i64 x1, .int .i64 y1], .agg #[.int .i64 x2, .int .i64 y2], u84, .agg #[.int .i64 x3, .int .i64 y3], u86, .agg #[.int .i64 x4, .int .i64 y4], u88, u89, u90, u91, u92, u93, u94, u95, u96, u97, u98, u99, u100, u101, u102, u103, u104, u105, u106, u107, u108, u109, u110, u111, u112, u113, u114, u115, u116, u117, u118, u119, u120], []⟩ V := by
     as_aux_lemma =>
      intro V N
      have hHeld : Below w8.heap.size w8 V := N
      rw [hwp]
      refine wpAnyH_ready (rs := [3, 13, 14]) (by kernel_rfl) (by simp) (AllReadyH.cons (gt rfl) (fun K hK => ?_) (AllReadyH.cons (gt rfl) (fun K hK => ?_) (AllReadyH.cons (gt rfl) (fun K hK => ?_) AllReadyH.nil)))
      · go_simp
        refine (toPt_any x2 y2 _).mono ?_
        rintro ee V' ⟨rfl, hb⟩
        replace N := N.trans (hb.mono N.size)
        refine hK.out _ _ N (fun hHeld => ?_)
        clear hK K
        try simp only [Act.put, sA, sB, sC]
        rw [← hwp]
        exact met (H2_ _ N) (by kernel_rfl)
      · go_simp
        have kP := Box4.new V N.size (.bool false) (.slice none 0 0) (.bool false) (.slice none 0 0) 28
        have hb := below1 V (.cells #[.bool false, .slice none 0 0, .bool false, .slice none 0 0] 28)
        replace N := N.trans (hb.mono N.size)
        refine hK.out _ _ N (fun hHeld => ?_)
        clear hK K
        try simp only [Act.put, sA, sB, sC]
        rw [← hwp]
        exact met (H1_p _ _ kP N) (by kernel_rfl)
      · go_simp
        have kQ := Box4.new V N.size (.bool false) (.slice none 0 0) (.bool false) (.slice none 0 0) 28
        have hb := below1 V (.cells #[.bool false, .slice none 0 0, .bool false, .slice none 0 0] 28)
        replace N := N.trans (hb.mono N.size)
        refine hK.out _ _ N (fun hHeld => ?_)
        clear hK K
        try simp only [Act.put, sA, sB, sC]
        rw [← hwp]
        exact met (H1_q _ _ kQ N) (by kernel_rfl)
    have H0_pq : ∀ (p q : Nat) (V : World), Box4 w8.heap.size V p (.bool false) (.slice none 0 0) (.bool false) (.slice none 0 0) → Box4 w8.heap.size V q (.bool false) (.slice none 0 0) (.bool false) (.slice none 0 0) → p ≠ q → Below w8.heap.size w8 V → wp 12 #[true, false, true, false, true, false, true, false, false, false, false, false, false, true, true, false, false, false] ⟨#[.agg #[.int .i64 x1, .int .i64 y1], .agg #[.int .i64 x2, .int .i64 y2], .agg #[.int .i64 x3, .int .i64 y3], .agg #[.int .i64 x4, .int .i64 y4], .pointer (some ⟨w.heap.size, 0, none⟩), .pointer (some ⟨w.heap.size + 1, 0, none⟩), .pointer (some ⟨w.heap.size + 1 + 1, 0, none⟩), .pointer (some ⟨w.heap.size + 1 + 1 + 1, 0, none⟩), .bool false, .int .i64 kk, .pointer (some ⟨pW, 0, none⟩), .pointer (some ⟨qW, 0, none⟩), .int .i64 kk, .pointer (some ⟨pG, 0, none⟩), .pointer (some ⟨qG, 0, none⟩), .int .i64 (1 + z1.length + t1.length + z2.length + t2.length), .int .i64 (1 + z1.length + t1.length + z2.length + t2.length), undef, .pointer (some ⟨p, 0, none⟩), .pointer (some ⟨q, 0, none⟩), u20, u21, u22, u23, u24, u25, u26, u27, u28, u29, u30, u31, u32, u33, u34, u35, u36, u37, u38, u39, u40, u41, u42, u43, u44, u45, u46, u47, u48, u49, u50, u51, u52, u53, u54, u55, u56, u57, u58, u59, u60, u61, u62, u63, u64, u65, u66, u67, u68, u69, u70, u71, u72, u73, u74, u75, u76, u77, u78, .bool false, u80, .agg #[.int .i64 x1, .int .i64 y1], u82, .agg #[.int .i64 x2, .int .i64 y2], u84, .agg #[.int .i64 x3, .int .i64 y3], u86, .agg #[.int .i64 x4, .int .i64 y4], u88, u89, u90, u91, u92, u93, u94, u95, u96, u97, u98, u99, u100, u101, u102, u103, u104, u105, u106, u107, u108, u109, u110, u111, u112, u113, u114, u115, u116, u117, u118, u119, u120], []⟩ V := by
     as_aux_lemma =>
      intro p q V kP kQ n_pq N
      have hHeld : Below w8.heap.size w8 V := N
      rw [hwp]
      refine wpAnyH_ready (rs := [1]) (by kernel_rfl) (by simp) (AllReadyH.cons (gt rfl) (fun K hK => ?_) AllReadyH.nil)
      · go_simp
        refine (toPt_any x1 y1 _).mono ?_
        rintro ee V' ⟨rfl, hb⟩
        replace kP := kP.below hb
        replace kQ := kQ.below hb
        replace N := N.trans (hb.mono N.size)
        refine hK.out _ _ N (fun hHeld => ?_)
        clear hK K
        try simp only [Act.put, sA, sB, sC]
        rw [← hwp]
        exact met (H1_pq p q _ kP kQ n_pq N) (by kernel_rfl)
    have H0_p : ∀ (p : Nat) (V : World), Box4 w8.heap.size V p (.bool false) (.slice none 0 0) (.bool false) (.slice none 0 0) → Below w8.heap.size w8 V → wp 13 #[true, false, true, false, true, false, true, false, false, false, false, false, false, true, false, false, false, false] ⟨#[.agg #[.int .i64 x1, .int .i64 y1], .agg #[.int .i64 x2, .int .i64 y2], .agg #[.int .i64 x3, .int .i64 y3], .agg #[.int .i64 x4, .int .i64 y4], .pointer (some ⟨w.heap.size, 0, none⟩), .pointer (some ⟨w.heap.size + 1, 0, none⟩), .pointer (some ⟨w.heap.size + 1 + 1, 0, none⟩), .pointer (some ⟨w.heap.size + 1 + 1 + 1, 0, none⟩), .bool false, .int .i64 kk, .pointer (some ⟨pW, 0, none⟩), .pointer (some ⟨qW, 0, none⟩), .int .i64 kk, .pointer (some ⟨pG, 0, none⟩), .pointer (some ⟨qG, 0, none⟩), .int .i64 (1 + z1.length + t1.length + z2.length + t2.length), .int .i64 (1 + z1.length + t1.length + z2.length + t2.length), undef, .pointer (some ⟨p, 0, none⟩), undef, u20, u21, u22, u23, u24, u25, u26, u27, u28, u29, u30, u31, u32, u33, u34, u35, u36, u37, u38, u39, u40, u41, u42, u43, u44, u45, u46, u47, u48, u49, u50, u51, u52, u53, u54, u55, u56, u57, u58, u59, u60, u61, u62, u63, u64, u65, u66, u67, u68, u69, u70, u71, u72, u73, u74, u75, u76, u77, u78, .bool false, u80, .agg #[.int .i64 x1, .int .i64 y1], u82, .agg #[.int .i64 x2, .int .i64 y2], u84, .agg #[.int .i64 x3, .int .i64 y3], u86, .agg #[.int .i64 x4, .int .i64 y4], u88, u89, u90, u91, u92, u93, u94, u95, u96, u97, u98, u99, u100, u101, u102, u103, u104, u105, u106, u107, u108, u109, u110, u111, u112, u113, u114, u115, u116, u117, u118, u119, u120], []⟩ V := by
     as_aux_lemma =>
      intro p V kP N
      have hHeld : Below w8.heap.size w8 V := N
      rw [hwp]
      refine wpAnyH_ready (rs := [1, 14]) (by kernel_rfl) (by simp) (AllReadyH.cons (gt rfl) (fun K hK => ?_) (AllReadyH.cons (gt rfl) (fun K hK => ?_) AllReadyH.nil))
      · go_simp
        refine (toPt_any x1 y1 _).mono ?_
        rintro ee V' ⟨rfl, hb⟩
        replace kP := kP.below hb
        replace N := N.trans (hb.mono N.size)
        refine hK.out _ _ N (fun hHeld => ?_)
        clear hK K
        try simp only [Act.put, sA, sB, sC]
        rw [← hwp]
        exact met (H1_p p _ kP N) (by kernel_rfl)
      · go_simp
        have kQ := Box4.new V N.size (.bool false) (.slice none 0 0) (.bool false) (.slice none 0 0) 28
        have hb := below1 V (.cells #[.bool false, .slice none 0 0, .bool false, .slice none 0 0] 28)
        have g_p := Nat.ne_of_lt kP.lt
        replace kP := kP.below hb
        replace N := N.trans (hb.mono N.size)
        refine hK.out _ _ N (fun hHeld => ?_)
        clear hK K
        try simp only [Act.put, sA, sB, sC]
        rw [← hwp]
        exact met (H0_pq p _ _ kP kQ g_p N) (by kernel_rfl)
    have H0_q : ∀ (q : Nat) (V : World), Box4 w8.heap.size V q (.bool false) (.slice none 0 0) (.bool false) (.slice none 0 0) → Below w8.heap.size w8 V → wp 13 #[true, false, true, false, true, false, true, false, false, false, false, false, false, false, true, false, false, false] ⟨#[.agg #[.int .i64 x1, .int .i64 y1], .agg #[.int .i64 x2, .int .i64 y2], .agg #[.int .i64 x3, .int .i64 y3], .agg #[.int .i64 x4, .int .i64 y4], .pointer (some ⟨w.heap.size, 0, none⟩), .pointer (some ⟨w.heap.size + 1, 0, none⟩), .pointer (some ⟨w.heap.size + 1 + 1, 0, none⟩), .pointer (some ⟨w.heap.size + 1 + 1 + 1, 0, none⟩), .bool false, .int .i64 kk, .pointer (some ⟨pW, 0, none⟩), .pointer (some ⟨qW, 0, none⟩), .int .i64 kk, .pointer (some ⟨pG, 0, none⟩), .pointer (some ⟨qG, 0, none⟩), .int .i64 (1 + z1.length + t1.length + z2.length + t2.length), .int .i64 (1 + z1.length + t1.length + z2.length + t2.length), undef, undef, .pointer (some ⟨q, 0, none⟩), u20, u21, u22, u23, u24, u25, u26, u27, u28, u29, u30, u31, u32, u33, u34, u35, u36, u37, u38, u39, u40, u41, u42, u43, u44, u45, u46, u47, u48, u49, u50, u51, u52, u53, u54, u55, u56, u57, u58, u59, u60, u61, u62, u63, u64, u65, u66, u67, u68, u69, u70, u71, u72, u73, u74, u75, u76, u77, u78, .bool false, u80, .agg #[.int .i64 x1, .int .i64 y1], u82, .agg #[.int .i64 x2, .int .i64 y2], u84, .agg #[.int .i64 x3, .int .i64 y3], u86, .agg #[.int .i64 x4, .int .i64 y4], u88, u89, u90, u91, u92, u93, u94, u95, u96, u97, u98, u99, u100, u101, u102, u103, u104, u105, u106, u107, u108, u109, u110, u111, u112, u113, u114, u115, u116, u117, u118, u119, u120], []⟩ V := by
     as_aux_lemma =>
      intro q V kQ N
      have hHeld : Below w8.heap.size w8 V := N
      rw [hwp]
      refine wpAnyH_ready (rs := [1, 13]) (by kernel_rfl) (by simp) (AllReadyH.cons (gt rfl) (fun K hK => ?_) (AllReadyH.cons (gt rfl) (fun K hK => ?_) AllReadyH.nil))
      · go_simp
        refine (toPt_any x1 y1 _).mono ?_
        rintro ee V' ⟨rfl, hb⟩
        replace kQ := kQ.below hb
        replace N := N.trans (hb.mono N.size)
        refine hK.out _ _ N (fun hHeld => ?_)
        clear hK K
        try simp only [Act.put, sA, sB, sC]
        rw [← hwp]
        exact met (H1_q q _ kQ N) (by kernel_rfl)
      · go_simp
        have kP := Box4.new V N.size (.bool false) (.slice none 0 0) (.bool false) (.slice none 0 0) 28
        have hb := below1 V (.cells #[.bool false, .slice none 0 0, .bool false, .slice none 0 0] 28)
        have g_q := Nat.ne_of_lt kQ.lt
        replace kQ := kQ.below hb
        replace N := N.trans (hb.mono N.size)
        refine hK.out _ _ N (fun hHeld => ?_)
        clear hK K
        try simp only [Act.put, sA, sB, sC]
        rw [← hwp]
        exact met (H0_pq _ q _ kP kQ g_q.symm N) (by kernel_rfl)
    have H0_ : ∀ (V : World), Below w8.heap.size w8 V → wp 14 #[true, false, true, false, true, false, true, false, false, false, false, false, false, false, false, false, false, false] ⟨#[.agg #[.int .i64 x1, .int .i64 y1], .agg #[.int .i64 x2, .int .i64 y2], .agg #[.int .i64 x3, .int .i64 y3], .agg #[.int .i64 x4, .int .i64 y4], .pointer (some ⟨w.heap.size, 0, none⟩), .pointer (some ⟨w.heap.size + 1, 0, none⟩), .pointer (some ⟨w.heap.size + 1 + 1, 0, none⟩), .pointer (some ⟨w.heap.size + 1 + 1 + 1, 0, none⟩), .bool false, .int .i64 kk, .pointer (some ⟨pW, 0, none⟩), .pointer (some ⟨qW, 0, none⟩), .int .i64 kk, .pointer (some ⟨pG, 0, none⟩), .pointer (some ⟨qG, 0, none⟩), .int .i64 (1 + z1.length + t1.length + z2.length + t2.length), .int .i64 (1 + z1.length + t1.length + z2.length + t2.length), undef, undef, undef, u20, u21, u22, u23, u24, u25, u26, u27, u28, u29, u30, u31, u32, u33, u34, u35, u36, u37, u38, u39, u40, u41, u42, u43, u44, u45, u46, u47, u48, u49, u50, u51, u52, u53, u54, u55, u56, u57, u58, u59, u60, u61, u62, u63, u64, u65, u66, u67, u68, u69, u70, u71, u72, u73, u74, u75, u76, u77, u78, .bool false, u80, .agg #[.int .i64 x1, .int .i64 y1], u82, .agg #[.int .i64 x2, .int .i64 y2], u84, .agg #[.int .i64 x3, .int .i64 y3], u86, .agg #[.int .i64 x4, .int .i64 y4], u88, u89, u90, u91, u92, u93, u94, u95, u96, u97, u98, u99, u100, u101, u102, u103, u104, u105, u106, u107, u108, u109, u110, u111, u112, u113, u114, u115, u116, u117, u118, u119, u120], []⟩ V := by
     as_aux_lemma =>
      intro V N
      have hHeld : Below w8.heap.size w8 V := N
      rw [hwp]
      refine wpAnyH_ready (rs := [1, 13, 14]) (by kernel_rfl) (by simp) (AllReadyH.cons (gt rfl) (fun K hK => ?_) (AllReadyH.cons (gt rfl) (fun K hK => ?_) (AllReadyH.cons (gt rfl) (fun K hK => ?_) AllReadyH.nil)))
      · go_simp
        refine (toPt_any x1 y1 _).mono ?_
        rintro ee V' ⟨rfl, hb⟩
        replace N := N.trans (hb.mono N.size)
        refine hK.out _ _ N (fun hHeld => ?_)
        clear hK K
        try simp only [Act.put, sA, sB, sC]
        rw [← hwp]
        exact met (H1_ _ N) (by kernel_rfl)
      · go_simp
        have kP := Box4.new V N.size (.bool false) (.slice none 0 0) (.bool false) (.slice none 0 0) 28
        have hb := below1 V (.cells #[.bool false, .slice none 0 0, .bool false, .slice none 0 0] 28)
        replace N := N.trans (hb.mono N.size)
        refine hK.out _ _ N (fun hHeld => ?_)
        clear hK K
        try simp only [Act.put, sA, sB, sC]
        rw [← hwp]
        exact met (H0_p _ _ kP N) (by kernel_rfl)
      · go_simp
        have kQ := Box4.new V N.size (.bool false) (.slice none 0 0) (.bool false) (.slice none 0 0) 28
        have hb := below1 V (.cells #[.bool false, .slice none 0 0, .bool false, .slice none 0 0] 28)
        replace N := N.trans (hb.mono N.size)
        refine hK.out _ _ N (fun hHeld => ?_)
        clear hK K
        try simp only [Act.put, sA, sB, sC]
        rw [← hwp]
        exact met (H0_q _ _ kQ N) (by kernel_rfl)
    exact met (H0_ _ N) (by kernel_rfl)
  obtain ⟨pH, qH, a1H, c1H, b1H, e1H, a2H, c2H, b2H, e2H, rfl, rfl, rfl, VPH, VQH, ⟨o1H, o2H, o3H, o4H⟩, apH, rrH, hb⟩ := hcut
  rename World => W9
  clear apH rrH
  obtain ⟨hA0, hA1, hA2, hA3, _, _⟩ := VPH
  obtain ⟨hB0, hB1, hB2, hB3, _, _⟩ := VQH
  replace gA0 := bat hb gA0
  replace gA1 := bat hb gA1
  replace gA2 := bat hb gA2
  replace gA3 := bat hb gA3
  replace gB0 := bat hb gB0
  replace gB1 := bat hb gB1
  replace gB2 := bat hb gB2
  replace gB3 := bat hb gB3
  replace m1 := m1.below hb
  replace m2 := m2.below hb
  replace m3 := m3.below hb
  replace m4 := m4.below hb
  replace B1 := B1.trans (hb.mono B1.size)
  replace S1 := Nat.le_trans S1 hb.size
  clear hb
  obtain ⟨wA0, wA1, wA2, wA3, _, _⟩ := VPW.below B1
  obtain ⟨wB0, wB1, wB2, wB3, _, _⟩ := VQW.below B1
  go_wp2_with fail
  clear wA0 wA1 wA2 wA3 wB0 wB1 wB2 wB3
  refine (eqF f1 f2 a1H a1W b1H b1W c1H c1W e1H e1W z1 t1 _ o1H.toSees (o1W.below B1).toSees o2H.toSees (o2W.below B1).toSees).mono ?_
  rintro ee w10 ⟨rfl, hb⟩
  replace hA0 := bat hb hA0
  replace hA1 := bat hb hA1
  replace hA2 := bat hb hA2
  replace hA3 := bat hb hA3
  replace hB0 := bat hb hB0
  replace hB1 := bat hb hB1
  replace hB2 := bat hb hB2
  replace hB3 := bat hb hB3
  replace o1H := o1H.below hb
  replace o2H := o2H.below hb
  replace o3H := o3H.below hb
  replace o4H := o4H.below hb
  replace gA0 := bat hb gA0
  replace gA1 := bat hb gA1
  replace gA2 := bat hb gA2
  replace gA3 := bat hb gA3
  replace gB0 := bat hb gB0
  replace gB1 := bat hb gB1
  replace gB2 := bat hb gB2
  replace gB3 := bat hb gB3
  replace m1 := m1.below hb
  replace m2 := m2.below hb
  replace m3 := m3.below hb
  replace m4 := m4.below hb
  replace B1 := B1.trans (hb.mono B1.size)
  replace S1 := Nat.le_trans S1 hb.size
  clear hb
  obtain ⟨wA0, wA1, wA2, wA3, _, _⟩ := VPW.below B1
  obtain ⟨wB0, wB1, wB2, wB3, _, _⟩ := VQW.below B1
  go_wp2_with fail
  clear wA0 wA1 wA2 wA3 wB0 wB1 wB2 wB3
  refine (eqF f3 f4 a2H a2W b2H b2W c2H c2W e2H e2W z2 t2 _ o3H.toSees (o3W.below B1).toSees o4H.toSees (o4W.below B1).toSees).mono ?_
  rintro ee w11 ⟨rfl, hb⟩
  replace hA0 := bat hb hA0
  replace hA1 := bat hb hA1
  replace hA2 := bat hb hA2
  replace hA3 := bat hb hA3
  replace hB0 := bat hb hB0
  replace hB1 := bat hb hB1
  replace hB2 := bat hb hB2
  replace hB3 := bat hb hB3
  replace o1H := o1H.below hb
  replace o2H := o2H.below hb
  replace o3H := o3H.below hb
  replace o4H := o4H.below hb
  replace gA0 := bat hb gA0
  replace gA1 := bat hb gA1
  replace gA2 := bat hb gA2
  replace gA3 := bat hb gA3
  replace gB0 := bat hb gB0
  replace gB1 := bat hb gB1
  replace gB2 := bat hb gB2
  replace gB3 := bat hb gB3
  replace m1 := m1.below hb
  replace m2 := m2.below hb
  replace m3 := m3.below hb
  replace m4 := m4.below hb
  replace B1 := B1.trans (hb.mono B1.size)
  replace S1 := Nat.le_trans S1 hb.size
  clear hb
  clear hA0 hA1 hA2 hA3 hB0 hB1 hB2 hB3 o1H o2H o3H o4H
  have hk1 : decide ((1 : Int) + z1.length + t1.length < 0) = false := decide_eq_false (by omega)
  have hk2 : decide ((1 : Int) + z1.length + t1.length + z2.length + t2.length < 0) = false := decide_eq_false (by omega)
  go_wp2_with fail
  refine (heldF f1 f2 a1G b1G c1G e1G z1.length t1.length 1 _ m1.toSees m2.toSees (by decide) (by have := HL.out; omega)).mono ?_
  rintro ee w12 ⟨rfl, hb⟩
  replace gA0 := bat hb gA0
  replace gA1 := bat hb gA1
  replace gA2 := bat hb gA2
  replace gA3 := bat hb gA3
  replace gB0 := bat hb gB0
  replace gB1 := bat hb gB1
  replace gB2 := bat hb gB2
  replace gB3 := bat hb gB3
  replace m1 := m1.below hb
  replace m2 := m2.below hb
  replace m3 := m3.below hb
  replace m4 := m4.below hb
  replace B1 := B1.trans (hb.mono B1.size)
  replace S1 := Nat.le_trans S1 hb.size
  clear hb
  go_wp2_with fail
  refine (heldF f3 f4 a2G b2G c2G e2G z2.length t2.length (1 + z1.length + t1.length) _ m3.toSees m4.toSees (by omega) (by have := HL.out; omega)).mono ?_
  rintro ee w13 ⟨rfl, hb⟩
  replace gA0 := bat hb gA0
  replace gA1 := bat hb gA1
  replace gA2 := bat hb gA2
  replace gA3 := bat hb gA3
  replace gB0 := bat hb gB0
  replace gB1 := bat hb gB1
  replace gB2 := bat hb gB2
  replace gB3 := bat hb gB3
  replace m1 := m1.below hb
  replace m2 := m2.below hb
  replace m3 := m3.below hb
  replace m4 := m4.below hb
  replace B1 := B1.trans (hb.mono B1.size)
  replace S1 := Nat.le_trans S1 hb.size
  clear hb
  go_wp2
  go_ret
  exact ⟨rfl, B.trans (B1.mono B.size)⟩
end Go.Proofs.Ythfgeihgmknkcaa
