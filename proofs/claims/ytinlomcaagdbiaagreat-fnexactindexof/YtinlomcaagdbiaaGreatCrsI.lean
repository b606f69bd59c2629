import Derived.Test.YtinlomcaagdbiaaGreatHoleI
import Derived.Test.YtinlomcaagdbiaaGreatRing
import Derived.Test.YtinlomcaagdbiaaGreatParM
import Derived.Test.YtinlomcaagdbiaaGreatPtB
import Derived.Deep.DeepCutAuto
import Derived.Test.YtinlomcaagdbiaaGreatPtG
import Derived.Handy
import Derived.Test.YtinlomcaagdbiaaGreatPtsL
/- Whether an edge of a ring meets a later one where it may not: of the program (firstCrossed). -/
namespace Go.Proofs.YtinlomcaagdbiaaGreat
open Go.RowKit

theorem liesBack_any (x1 y1 x2 y2 x3 y3 : Int) (w : World) (c1 : Crd x1) (d1 : Crd y1) (c2 : Crd x2) (d2 : Crd y2) (c3 : Crd x3) (d3 : Crd y3) :
  Calls Tryz.prog 133 #[.agg #[.int .i64 x1, .int .i64 y1], .agg #[.int .i64 x2, .int .i64 y2], .agg #[.int .i64 x3, .int .i64 y3]] w fun e w' => e = .returned (.bool (onB x1 y1 x2 y2 x3 y3 || onB x2 y2 x3 y3 x1 y1)) ∧ Below w.heap.size w w' := by
 have k0 := ptbox3 w x1 y1 x2 y2 x3 y3 25
 have B := ptbelow3 w x1 y1 x2 y2 x3 y3 25
 obtain ⟨q1, q2, q3, q4, q5, q6⟩ := id k0
 cases o1 : onB x1 y1 x2 y2 x3 y3
 ·rw [Bool.false_or]
  go_enter Tryz.func133, Tryz.ntmps133
  go_wp2_with fail
  generalize (((w.alloc (.cells #[.int .i64 x1, .int .i64 y1] 25)).alloc (.cells #[.int .i64 x2, .int .i64 y2] 25)).alloc (.cells #[.int .i64 x3, .int .i64 y3] 25)) = W0 at *
  refine (onSeg_any x1 y1 x2 y2 x3 y3 _ c1 d1 c2 d2 c3 d3).mono ?_
  rintro e w1 ⟨rfl, hb⟩
  rw [o1]
  replace q1 := bat hb q1
  replace q2 := bat hb q2
  replace q3 := bat hb q3
  replace q4 := bat hb q4
  replace q5 := bat hb q5
  replace q6 := bat hb q6
  replace B := B.trans (hb.mono B.size)
  clear hb k0 o1
  go_wp2_with fail
  refine (onSeg_any x2 y2 x3 y3 x1 y1 _ c2 d2 c3 d3 c1 d1).mono ?_
  rintro e w2 ⟨rfl, hb⟩
  replace B := B.trans (hb.mono B.size)
  clear hb q1 q2 q3 q4 q5 q6
  go_wp2
  go_ret
  exact ⟨rfl, B⟩
 ·rw [Bool.true_or]
  go_enter Tryz.func133, Tryz.ntmps133
  go_wp2_with fail
  generalize (((w.alloc (.cells #[.int .i64 x1, .int .i64 y1] 25)).alloc (.cells #[.int .i64 x2, .int .i64 y2] 25)).alloc (.cells #[.int .i64 x3, .int .i64 y3] 25)) = W0 at *
  refine (onSeg_any x1 y1 x2 y2 x3 y3 _ c1 d1 c2 d2 c3 d3).mono ?_
  rintro e w1 ⟨rfl, hb⟩
  rw [o1]
  replace B := B.trans (hb.mono B.size)
  clear hb q1 q2 q3 q4 q5 q6 k0 o1
  go_wp2
  go_ret
  exact ⟨rfl, B⟩

theorem badE_next {ps : List (Int × Int)} {i k : Nat} (h : k = i + 1) (hk : k < ps.length) : badE ps i k = (onB (ptA ps i).1 (ptA ps i).2 (ptA ps (nx ps.length i)).1 (ptA ps (nx ps.length i)).2 (ptA ps (nx ps.length k)).1 (ptA ps (nx ps.length k)).2 || onB (ptA ps (nx ps.length i)).1 (ptA ps (nx ps.length i)).2 (ptA ps (nx ps.length k)).1 (ptA ps (nx ps.length k)).2 (ptA ps i).1 (ptA ps i).2) := by
 unfold badE
 rw [if_pos h]
 have e : nx ps.length i = k := by unfold nx; rw [Nat.mod_eq_of_lt (by omega)]; omega
 rw [e]
theorem badE_last {ps : List (Int × Int)} {i k : Nat} (h : ¬ k = i + 1) (h0 : i = 0) (hk : k = ps.length - 1) (hn : 0 < ps.length) : badE ps i k = (onB (ptA ps k).1 (ptA ps k).2 (ptA ps (nx ps.length k)).1 (ptA ps (nx ps.length k)).2 (ptA ps (nx ps.length i)).1 (ptA ps (nx ps.length i)).2 || onB (ptA ps (nx ps.length k)).1 (ptA ps (nx ps.length k)).2 (ptA ps (nx ps.length i)).1 (ptA ps (nx ps.length i)).2 (ptA ps k).1 (ptA ps k).2) := by
 unfold badE
 rw [if_neg h, if_pos ⟨h0, hk⟩]
 have e : nx ps.length k = i := by unfold nx; rw [hk, Nat.sub_add_cancel hn, Nat.mod_self, h0]
 rw [e, Bool.or_comm]
theorem badE_other {ps : List (Int × Int)} {i k : Nat} (h : ¬ k = i + 1) (h0 : ¬ (i = 0 ∧ k = ps.length - 1)) : badE ps i k = metI (ptA ps i).1 (ptA ps i).2 (ptA ps (nx ps.length i)).1 (ptA ps (nx ps.length i)).2 (ptA ps k).1 (ptA ps k).2 (ptA ps (nx ps.length k)).1 (ptA ps (nx ps.length k)).2 := by
 unfold badE
 rw [if_neg h, if_neg h0]

set_option maxRecDepth 20000 in
set_option maxHeartbeats 4000000 in
theorem crossed_any (g : Nat) (ps : List (Int × Int)) (i j : Nat) (w : World) (h : SeesE w g ps.length ps.length ps) (hs : ps.length ≤ 60) (ok : okL ps = true) (hij : i < j) (hj : j < ps.length) :
  Calls Tryz.prog 117 #[.slice (some ⟨g, 0, none⟩) ps.length ps.length, .int .i64 i, .int .i64 j] w fun e w' => e = .returned (.bool (badE ps i j)) ∧ Below w.heap.size w w' := by
 have hi : i < ps.length := by omega
 obtain ⟨g1, g2, g3, g4⟩ := h.c i hi
 obtain ⟨g5, g6, g7, g8⟩ := h.c j hj
 obtain ⟨a1, a2⟩ := okL_at ok hi
 obtain ⟨a3, a4⟩ := okL_at ok (nx_lt hi)
 obtain ⟨c1, c2⟩ := okL_at ok hj
 obtain ⟨c3, c4⟩ := okL_at ok (nx_lt hj)
 have H1 : Hid (j = i + 1 → badE ps i j = _) := fun q => badE_next q hj
 have H2 : Hid (¬ j = i + 1 → i = 0 → j = ps.length - 1 → badE ps i j = _) := fun q r s => badE_last q r s (by omega)
 have H3 : Hid (¬ j = i + 1 → ¬ (i = 0 ∧ j = ps.length - 1) → badE ps i j = _) := fun q r => badE_other q r
 generalize (ptA ps i).1 = x at *
 generalize (ptA ps i).2 = y at *
 generalize (ptA ps (nx ps.length i)).1 = u at *
 generalize (ptA ps (nx ps.length i)).2 = v at *
 generalize (ptA ps j).1 = x2 at *
 generalize (ptA ps j).2 = y2 at *
 generalize (ptA ps (nx ps.length j)).1 = u2 at *
 generalize (ptA ps (nx ps.length j)).2 = v2 at *
 clear h ok
 go_enter Tryz.func117, Tryz.ntmps117
 go_upto_region 1 with fail
 go_cut [7, 8] (fun s7 s8 W => ∃ p q, s7 = .pointer (some ⟨p, 0, none⟩) ∧ s8 = .pointer (some ⟨q, 0, none⟩) ∧ Box4 w.heap.size W p (.int .i64 x) (.int .i64 y) (.int .i64 u) (.int .i64 v) ∧ Box4 w.heap.size W q (.int .i64 x2) (.int .i64 y2) (.int .i64 u2) (.int .i64 v2) ∧ Below w.heap.size w W)
 case first =>
  refine wp_region_held_drew (S := Below w.heap.size w) (by kernel_rfl) ((Below.refl _ _).drew) (fun hHeld => ?_)
  have N : Below w.heap.size w w.drew := hHeld
  revert hHeld N
  generalize w.drew = ww0
  intro hHeld N
  refine takeA (i := 0) (h := ?_)
  refine takeA (i := 1) (h := ?_)
  refine takeA (i := 2) (h := ?_)
  refine takeA (i := 3) (hy := by intro wq hSw; have q0 := bat hSw g1; have q1 := bat hSw g2; have q2 := bat hSw g3; have q3 := bat hSw g4; have q4 := bat hSw g5; have q5 := bat hSw g6; have q6 := bat hSw g7; have q7 := bat hSw g8; go_simp <;> with_reducible rfl) (h := ?_)
  refine takeA (i := 4) (h := ?_)
  refine takeA (i := 5) (h := ?_)
  refine takeA (i := 6) (h := ?_)
  refine takeA (i := 7) (hy := by intro wq hSw; have q0 := bat hSw g1; have q1 := bat hSw g2; have q2 := bat hSw g3; have q3 := bat hSw g4; have q4 := bat hSw g5; have q5 := bat hSw g6; have q6 := bat hSw g7; have q7 := bat hSw g8; go_simp <;> with_reducible rfl) (h := ?_)
  refine wpAnyH_ready (rs := [8, 9]) (by kernel_rfl) (by simp) (AllReadyH.cons (gt rfl) (fun K hK => ?_) (AllReadyH.cons (gt rfl) (fun K hK => ?_) AllReadyH.nil))
  ·skip
   go_simp
   have kP := Box4.new ww0 N.size (.int .i64 0) (.int .i64 0) (.int .i64 0) (.int .i64 0) 182
   have hb := below1 ww0 (.cells #[.int .i64 0, .int .i64 0, .int .i64 0, .int .i64 0] 182)
   replace N := N.trans (hb.mono N.size)
   clear hb
   generalize ww0.alloc (.cells #[.int .i64 0, .int .i64 0, .int .i64 0, .int .i64 0] 182) = ww1 at *
   refine hK.out _ _ N (fun hHeld => ?_)
   clear hK K
   try simp only [Act.put, sA, sB, sC]
   refine rdA (i := 9) (h := fun K hK => ?_)
   go_simp
   have kQ := Box4.new ww1 N.size (.int .i64 0) (.int .i64 0) (.int .i64 0) (.int .i64 0) 182
   have hb := below1 ww1 (.cells #[.int .i64 0, .int .i64 0, .int .i64 0, .int .i64 0] 182)
   have ne_kQ_kP := Nat.ne_of_gt kP.lt
   have ne_kP_kQ := ne_kQ_kP.symm
   replace kP := kP.below hb
   replace N := N.trans (hb.mono N.size)
   clear hb
   generalize ww1.alloc (.cells #[.int .i64 0, .int .i64 0, .int .i64 0, .int .i64 0] 182) = ww2 at *
   refine hK.out _ _ N (fun hHeld => ?_)
   clear hK K
   try simp only [Act.put, sA, sB, sC]
   refine rdA (i := 10) (h := fun K hK => ?_)
   have z0 := kP.c0
   have z1 := kP.c1
   have z2 := kP.c2
   have z3 := kP.c3
   have zf := kP.fr
   go_simp
   clear z0 z1 z2 z3 zf
   replace N := Box4.chain N kP (.int .i64 x) (.int .i64 y) (.int .i64 u) (.int .i64 v)
   replace kQ := kQ.old ne_kQ_kP (.int .i64 x) (.int .i64 y) (.int .i64 u) (.int .i64 v)
   replace kP := kP.put (.int .i64 x) (.int .i64 y) (.int .i64 u) (.int .i64 v)
   refine hK.out _ _ N (fun hHeld => ?_)
   clear hK K
   try simp only [Act.put, sA, sB, sC]
   refine rdA (i := 11) (h := fun K hK => ?_)
   have z0 := kQ.c0
   have z1 := kQ.c1
   have z2 := kQ.c2
   have z3 := kQ.c3
   have zf := kQ.fr
   go_simp
   clear z0 z1 z2 z3 zf
   replace N := Box4.chain N kQ (.int .i64 x2) (.int .i64 y2) (.int .i64 u2) (.int .i64 v2)
   replace kP := kP.old ne_kP_kQ (.int .i64 x2) (.int .i64 y2) (.int .i64 u2) (.int .i64 v2)
   replace kQ := kQ.put (.int .i64 x2) (.int .i64 y2) (.int .i64 u2) (.int .i64 v2)
   refine hK.out _ _ N (fun hHeld => ?_)
   clear hK K
   try simp only [Act.put, sA, sB, sC]
   refine wpAnyH_done (by kernel_rfl) ?_ _
   go_wp2
   go_meet
   case rel => exact ⟨_, _, rfl, rfl, kP, kQ, N⟩
  ·skip
   go_simp
   have kQ := Box4.new ww0 N.size (.int .i64 0) (.int .i64 0) (.int .i64 0) (.int .i64 0) 182
   have hb := below1 ww0 (.cells #[.int .i64 0, .int .i64 0, .int .i64 0, .int .i64 0] 182)
   replace N := N.trans (hb.mono N.size)
   clear hb
   generalize ww0.alloc (.cells #[.int .i64 0, .int .i64 0, .int .i64 0, .int .i64 0] 182) = ww5 at *
   refine hK.out _ _ N (fun hHeld => ?_)
   clear hK K
   try simp only [Act.put, sA, sB, sC]
   refine rdA (i := 8) (h := fun K hK => ?_)
   go_simp
   have kP := Box4.new ww5 N.size (.int .i64 0) (.int .i64 0) (.int .i64 0) (.int .i64 0) 182
   have hb := below1 ww5 (.cells #[.int .i64 0, .int .i64 0, .int .i64 0, .int .i64 0] 182)
   have ne_kP_kQ := Nat.ne_of_gt kQ.lt
   have ne_kQ_kP := ne_kP_kQ.symm
   replace kQ := kQ.below hb
   replace N := N.trans (hb.mono N.size)
   clear hb
   generalize ww5.alloc (.cells #[.int .i64 0, .int .i64 0, .int .i64 0, .int .i64 0] 182) = ww6 at *
   refine hK.out _ _ N (fun hHeld => ?_)
   clear hK K
   try simp only [Act.put, sA, sB, sC]
   refine rdA (i := 10) (h := fun K hK => ?_)
   have z0 := kP.c0
   have z1 := kP.c1
   have z2 := kP.c2
   have z3 := kP.c3
   have zf := kP.fr
   go_simp
   clear z0 z1 z2 z3 zf
   replace N := Box4.chain N kP (.int .i64 x) (.int .i64 y) (.int .i64 u) (.int .i64 v)
   replace kQ := kQ.old ne_kQ_kP (.int .i64 x) (.int .i64 y) (.int .i64 u) (.int .i64 v)
   replace kP := kP.put (.int .i64 x) (.int .i64 y) (.int .i64 u) (.int .i64 v)
   refine hK.out _ _ N (fun hHeld => ?_)
   clear hK K
   try simp only [Act.put, sA, sB, sC]
   refine rdA (i := 11) (h := fun K hK => ?_)
   have z0 := kQ.c0
   have z1 := kQ.c1
   have z2 := kQ.c2
   have z3 := kQ.c3
   have zf := kQ.fr
   go_simp
   clear z0 z1 z2 z3 zf
   replace N := Box4.chain N kQ (.int .i64 x2) (.int .i64 y2) (.int .i64 u2) (.int .i64 v2)
   replace kP := kP.old ne_kP_kQ (.int .i64 x2) (.int .i64 y2) (.int .i64 u2) (.int .i64 v2)
   replace kQ := kQ.put (.int .i64 x2) (.int .i64 y2) (.int .i64 u2) (.int .i64 v2)
   refine hK.out _ _ N (fun hHeld => ?_)
   clear hK K
   try simp only [Act.put, sA, sB, sC]
   refine wpAnyH_done (by kernel_rfl) ?_ _
   go_wp2
   go_meet
   case rel => exact ⟨_, _, rfl, rfl, kP, kQ, N⟩
 obtain ⟨p, q, rfl, rfl, VP, VQ, B⟩ := hcut
 rename World => W1
 clear g1 g2 g3 g4 g5 g6 g7 g8
 obtain ⟨n0, n1, n2, n3, _, _⟩ := id VP
 obtain ⟨m0, m1, m2, m3, _, _⟩ := id VQ
 by_cases hk : j = i + 1
 ·have F : Hid (badE ps i j = (onB x y u v u2 v2 || onB u v u2 v2 x y)) := H1.out hk
  have hkb : ((j : Int) == (i : Int) + 1) = true := by rw [hk]; simp
  clear H1 H2 H3
  go_wp2_with fail
  refine (liesBack_any x y u v u2 v2 _ a1 a2 a3 a4 c3 c4).mono ?_
  rintro e w2 ⟨rfl, hb⟩
  replace B := B.trans (hb.mono B.size)
  clear hb
  go_wp2
  go_ret
  exact ⟨congrArg (fun b => Ending.returned (.bool b)) F.out.symm, B⟩
 ·have hkb : ((j : Int) == (i : Int) + 1) = false := by rw [beq_eq_false_iff_ne]; omega
  by_cases hz : i = 0 ∧ j = ps.length - 1
  ·have F : Hid (badE ps i j = (onB x2 y2 u2 v2 u v || onB u2 v2 u v x2 y2)) := H2.out hk hz.1 hz.2
   have hj0 : ((i : Int) == 0) = true := by rw [hz.1]; rfl
   have hin : ((j : Int) == (ps.length : Int) - 1) = true := by rw [beq_iff_eq]; omega
   clear H1 H2 H3 hz
   go_wp2_with fail
   refine (liesBack_any x2 y2 u2 v2 u v _ c1 c2 c3 c4 a3 a4).mono ?_
   rintro e w2 ⟨rfl, hb⟩
   replace B := B.trans (hb.mono B.size)
   clear hb
   go_wp2
   go_ret
   exact ⟨congrArg (fun b => Ending.returned (.bool b)) F.out.symm, B⟩
  ·have F : Hid (badE ps i j = metI x y u v x2 y2 u2 v2) := H3.out hk hz
   by_cases hjz : i = 0
   ·have hj0 : ((i : Int) == 0) = true := by rw [hjz]; rfl
    have hin : ((j : Int) == (ps.length : Int) - 1) = false := by rw [beq_eq_false_iff_ne]; intro q; exact hz ⟨hjz, by omega⟩
    clear H1 H2 H3 hz hjz
    go_wp2_with fail
    refine (meet_any x y u v x2 y2 u2 v2 _ a1 a2 a3 a4 c1 c2 c3 c4).mono ?_
    rintro e w2 ⟨rfl, hb⟩
    replace B := B.trans (hb.mono B.size)
    clear hb
    go_wp2
    go_ret
    exact ⟨congrArg (fun b => Ending.returned (.bool b)) F.out.symm, B⟩
   ·have hj0 : ((i : Int) == 0) = false := by rw [beq_eq_false_iff_ne]; omega
    clear H1 H2 H3 hz hjz
    go_wp2_with fail
    refine (meet_any x y u v x2 y2 u2 v2 _ a1 a2 a3 a4 c1 c2 c3 c4).mono ?_
    rintro e w2 ⟨rfl, hb⟩
    replace B := B.trans (hb.mono B.size)
    clear hb
    go_wp2
    go_ret
    exact ⟨congrArg (fun b => Ending.returned (.bool b)) F.out.symm, B⟩

set_option maxRecDepth 20000 in
set_option maxHeartbeats 2500000 in
theorem firstCrossed_any (g : Nat) (ps : List (Int × Int)) (w : World) (h : SeesE w g ps.length ps.length ps) (hs : ps.length ≤ 60) (ok : okL ps = true) :
  Calls Tryz.prog 100 #[.slice (some ⟨g, 0, none⟩) ps.length ps.length] w fun e w' => ∃ z : Int, e = .returned (.int .i64 z) ∧ Hid (decide (0 ≤ z) = slf ps ps.length ∧ -1 ≤ z ∧ z < ps.length + 1) ∧ Below w.heap.size w w' := by
 go_enter Tryz.func100, Tryz.ntmps100
 go_wp2
 go_loopw [7] (fun s7 wr => ∃ j : Nat, j ≤ ps.length ∧ s7 = .int .i64 j ∧ Hid (slf ps j = false) ∧ Below w.heap.size w wr) (fun s7 _ => ps.length - (intOf s7).toNat)
 case atStart => exact ⟨0, Nat.zero_le _, rfl, rfl, Below.refl _ _⟩
 case round =>
  obtain ⟨j, hj, rfl, T, B⟩ := hrel
  rename World => wr
  by_cases hlt : j < ps.length
  ·go_wp2
   go_loopw [4] (fun s4 wi => ∃ i : Nat, j + 1 ≤ i ∧ i ≤ ps.length ∧ s4 = .int .i64 i ∧ Hid (slfE ps j i = false) ∧ Below wr.heap.size wr wi) (fun s4 _ => ps.length - (intOf s4).toNat)
   case atStart => exact ⟨j + 1, by omega, by omega, by go_num, slfE_low ps j (j + 1) (by omega), Below.refl _ _⟩
   case round =>
    obtain ⟨i, hji, hi, rfl, M, Bi⟩ := hrel
    rename World => wi
    by_cases hli : i < ps.length
    ·have RF : Hid (badE ps j i = true → decide (0 ≤ (j : Int)) = slf ps ps.length ∧ -1 ≤ (j : Int) ∧ (j : Int) < ps.length + 1) := fun q => ⟨by rw [slf_found (show j < i by omega) hli q]; simp, by omega, by omega⟩
     have RN : Hid (badE ps j i = false → slfE ps j (i + 1) = false) := fun q => slfE_step M.out q
     clear M
     go_wp2_with fail
     refine (crossed_any g ps j i _ ((h.below B).below Bi) hs ok (by omega) hli).mono ?_
     rintro e w2 ⟨rfl, hb⟩
     replace Bi := Bi.trans (hb.mono Bi.size)
     clear hb
     cases o1 : badE ps j i
     ·have R := RN.out o1
      clear RN RF o1
      go_wp2
      go_roundw
      case rel => exact ⟨i + 1, by omega, by omega, by go_num, R, Bi⟩
      case measure => simp [intOf]; omega
     ·have R4 : Hid (decide (0 ≤ (j : Int)) = slf ps ps.length ∧ -1 ≤ (j : Int) ∧ (j : Int) < ps.length + 1) := RF.out o1
      clear RN RF o1
      go_wp2
      go_ret
      exact ⟨_, rfl, R4, B.trans (Bi.mono B.size)⟩
    ·obtain rfl : i = ps.length := by omega
     go_wp2
     go_roundw
     case rel => exact ⟨j + 1, by omega, by go_num, (by show _ = _; simp only [slf]; rw [T.out, M.out]; rfl), B.trans (Bi.mono B.size)⟩
     case measure => simp [intOf]; omega
  ·obtain rfl : j = ps.length := by omega
   go_wp2
   go_ret
   exact ⟨-1, rfl, ⟨by rw [T.out]; rfl, by omega, by omega⟩, B⟩
end Go.Proofs.YtinlomcaagdbiaaGreat

/- How many points a row of each kind must have, of the specification (l5Least). -/
namespace Go.Proofs.YtinlomcaagdbiaaGreat
open Go.RowKit

def leastN (k : Int) : Int := if k = 1 then 1 else if k = 2 then 1 else if k = 3 then 2 else if k = 4 then 2 else if k = 5 then 3 else 0
def mostN (k : Int) : Int := if k = 1 then 1 else if k = 2 then 60 else if k = 3 then 60 else if k = 4 then 60 else if k = 5 then 60 else -1
def sevN (k : Int) : Bool := if k = 4 then true else if k = 5 then true else false

set_option maxRecDepth 20000 in
theorem l5Least_any (k : Int) (w : World) :
  Calls Tryz.prog 87 #[.int .i64 k] w fun e w' => e = .returned (.tuple #[.int .i64 (leastN k), .int .i64 (mostN k), .bool (sevN k)]) ∧ w' = w := by
 by_cases h1 : k = 1
 ·subst h1
  go_enter Tryz.func87, Tryz.ntmps87
  go_wp2
  exact bodyPost_ret (v := .tuple #[.int .i64 _, .int .i64 _, .bool _]) (by simp [results, Tryz.results87, go_sem]; exact ⟨rfl, rfl, rfl⟩) rfl ⟨rfl, rfl⟩
 by_cases h2 : k = 2
 ·subst h2
  go_enter Tryz.func87, Tryz.ntmps87
  go_wp2
  exact bodyPost_ret (v := .tuple #[.int .i64 _, .int .i64 _, .bool _]) (by simp [results, Tryz.results87, go_sem]; exact ⟨rfl, rfl, rfl⟩) rfl ⟨rfl, rfl⟩
 by_cases h3 : k = 3
 ·subst h3
  go_enter Tryz.func87, Tryz.ntmps87
  go_wp2
  exact bodyPost_ret (v := .tuple #[.int .i64 _, .int .i64 _, .bool _]) (by simp [results, Tryz.results87, go_sem]; exact ⟨rfl, rfl, rfl⟩) rfl ⟨rfl, rfl⟩
 by_cases h4 : k = 4
 ·subst h4
  go_enter Tryz.func87, Tryz.ntmps87
  go_wp2
  exact bodyPost_ret (v := .tuple #[.int .i64 _, .int .i64 _, .bool _]) (by simp [results, Tryz.results87, go_sem]; exact ⟨rfl, rfl, rfl⟩) rfl ⟨rfl, rfl⟩
 by_cases h5 : k = 5
 ·subst h5
  go_enter Tryz.func87, Tryz.ntmps87
  go_wp2
  exact bodyPost_ret (v := .tuple #[.int .i64 _, .int .i64 _, .bool _]) (by simp [results, Tryz.results87, go_sem]; exact ⟨rfl, rfl, rfl⟩) rfl ⟨rfl, rfl⟩
 have e1 : leastN k = 0 := by unfold leastN; simp [h1, h2, h3, h4, h5]
 have e2 : mostN k = -1 := by unfold mostN; simp [h1, h2, h3, h4, h5]
 have e3 : sevN k = false := by unfold sevN; simp [h4, h5]
 rw [e1, e2, e3]
 go_enter Tryz.func87, Tryz.ntmps87
 go_wp2
 exact bodyPost_ret (v := .tuple #[.int .i64 _, .int .i64 _, .bool _]) (by simp [results, Tryz.results87, go_sem]) rfl ⟨rfl, rfl⟩
end Go.Proofs.YtinlomcaagdbiaaGreat

/- A shape within the program: its figure (an interface with a type for each kind) and its limits. -/
namespace Go.Proofs.YtinlomcaagdbiaaGreat
open Go.RowKit

def figT (k : Int) : Nat := if k = 1 then 150 else if k = 2 then 151 else if k = 3 then 152 else if k = 4 then 153 else 130
def limR (k : Int) : Int := if sevN k then 12 else 1
def figV (k : Int) (v : Value) : Value := if 1 ≤ k ∧ k ≤ 5 then .iface (figT k) (.agg #[v]) else .nilIface

set_option maxRecDepth 20000 in
set_option maxHeartbeats 1000000 in
theorem figureOf_any (k : Int) (a : Option Addr) (n c : Nat) (w : World) :
  Calls Tryz.prog 74 #[.agg #[.int .i64 k, .slice a n c]] w fun e w' => e = .returned (figV k (.slice a n c)) ∧ Below w.heap.size w w' := by
 have B0 := below1 w (.cells #[.int .i64 k, .slice a n c] 50)
 have V0 := Box2.new w (lo := w.heap.size) (Nat.le_refl _) (.int .i64 k) (.slice a n c) 50
 obtain ⟨k0, k1, _, _⟩ := id V0
 clear V0
 by_cases h1 : k = 1
 ·subst h1
  go_enter Tryz.func74, Tryz.ntmps74
  go_wp2
  go_ret
  exact ⟨rfl, B0⟩
 by_cases h2 : k = 2
 ·subst h2
  go_enter Tryz.func74, Tryz.ntmps74
  go_wp2
  go_ret
  exact ⟨rfl, B0⟩
 by_cases h3 : k = 3
 ·subst h3
  go_enter Tryz.func74, Tryz.ntmps74
  go_wp2
  go_ret
  exact ⟨rfl, B0⟩
 by_cases h4 : k = 4
 ·subst h4
  go_enter Tryz.func74, Tryz.ntmps74
  go_wp2
  go_ret
  exact ⟨rfl, B0⟩
 by_cases h5 : k = 5
 ·subst h5
  go_enter Tryz.func74, Tryz.ntmps74
  go_wp2
  go_ret
  exact ⟨rfl, B0⟩
 have e1 : figV k (.slice a n c) = .nilIface := by unfold figV; exact if_neg (by omega)
 rw [e1]
 go_enter Tryz.func74, Tryz.ntmps74
 go_wp2
 go_ret
 exact ⟨rfl, B0⟩

theorem as11 (v : Value) (W : World) : (Instr.typeAssert (.iface 150 (.agg #[v])) 125 150 true).run Tryz.prog W = .ok (.tuple #[.agg #[v], .bool true]) W := by kernel_rfl
theorem as13 (v : Value) (W : World) : (Instr.typeAssert (.iface 150 (.agg #[v])) 125 152 true).run Tryz.prog W = .ok (.tuple #[.agg #[.slice none 0 0], .bool false]) W := by kernel_rfl
theorem as14 (v : Value) (W : World) : (Instr.typeAssert (.iface 150 (.agg #[v])) 125 153 true).run Tryz.prog W = .ok (.tuple #[.agg #[.slice none 0 0], .bool false]) W := by kernel_rfl
theorem as15 (v : Value) (W : World) : (Instr.typeAssert (.iface 150 (.agg #[v])) 125 130 true).run Tryz.prog W = .ok (.tuple #[.agg #[.slice none 0 0], .bool false]) W := by kernel_rfl
theorem as21 (v : Value) (W : World) : (Instr.typeAssert (.iface 151 (.agg #[v])) 125 150 true).run Tryz.prog W = .ok (.tuple #[.agg #[.slice none 0 0], .bool false]) W := by kernel_rfl
theorem as22 (v : Value) (W : World) : (Instr.typeAssert (.iface 151 (.agg #[v])) 125 151 true).run Tryz.prog W = .ok (.tuple #[.agg #[v], .bool true]) W := by kernel_rfl
theorem as23 (v : Value) (W : World) : (Instr.typeAssert (.iface 151 (.agg #[v])) 125 152 true).run Tryz.prog W = .ok (.tuple #[.agg #[.slice none 0 0], .bool false]) W := by kernel_rfl
theorem as24 (v : Value) (W : World) : (Instr.typeAssert (.iface 151 (.agg #[v])) 125 153 true).run Tryz.prog W = .ok (.tuple #[.agg #[.slice none 0 0], .bool false]) W := by kernel_rfl
theorem as25 (v : Value) (W : World) : (Instr.typeAssert (.iface 151 (.agg #[v])) 125 130 true).run Tryz.prog W = .ok (.tuple #[.agg #[.slice none 0 0], .bool false]) W := by kernel_rfl
theorem as31 (v : Value) (W : World) : (Instr.typeAssert (.iface 152 (.agg #[v])) 125 150 true).run Tryz.prog W = .ok (.tuple #[.agg #[.slice none 0 0], .bool false]) W := by kernel_rfl
theorem as32 (v : Value) (W : World) : (Instr.typeAssert (.iface 152 (.agg #[v])) 125 151 true).run Tryz.prog W = .ok (.tuple #[.agg #[.slice none 0 0], .bool false]) W := by kernel_rfl
theorem as33 (v : Value) (W : World) : (Instr.typeAssert (.iface 152 (.agg #[v])) 125 152 true).run Tryz.prog W = .ok (.tuple #[.agg #[v], .bool true]) W := by kernel_rfl
theorem as34 (v : Value) (W : World) : (Instr.typeAssert (.iface 152 (.agg #[v])) 125 153 true).run Tryz.prog W = .ok (.tuple #[.agg #[.slice none 0 0], .bool false]) W := by kernel_rfl
theorem as35 (v : Value) (W : World) : (Instr.typeAssert (.iface 152 (.agg #[v])) 125 130 true).run Tryz.prog W = .ok (.tuple #[.agg #[.slice none 0 0], .bool false]) W := by kernel_rfl
theorem as41 (v : Value) (W : World) : (Instr.typeAssert (.iface 153 (.agg #[v])) 125 150 true).run Tryz.prog W = .ok (.tuple #[.agg #[.slice none 0 0], .bool false]) W := by kernel_rfl
theorem as42 (v : Value) (W : World) : (Instr.typeAssert (.iface 153 (.agg #[v])) 125 151 true).run Tryz.prog W = .ok (.tuple #[.agg #[.slice none 0 0], .bool false]) W := by kernel_rfl
theorem as43 (v : Value) (W : World) : (Instr.typeAssert (.iface 153 (.agg #[v])) 125 152 true).run Tryz.prog W = .ok (.tuple #[.agg #[.slice none 0 0], .bool false]) W := by kernel_rfl
theorem as44 (v : Value) (W : World) : (Instr.typeAssert (.iface 153 (.agg #[v])) 125 153 true).run Tryz.prog W = .ok (.tuple #[.agg #[v], .bool true]) W := by kernel_rfl
theorem as45 (v : Value) (W : World) : (Instr.typeAssert (.iface 153 (.agg #[v])) 125 130 true).run Tryz.prog W = .ok (.tuple #[.agg #[.slice none 0 0], .bool false]) W := by kernel_rfl
theorem as51 (v : Value) (W : World) : (Instr.typeAssert (.iface 130 (.agg #[v])) 125 150 true).run Tryz.prog W = .ok (.tuple #[.agg #[.slice none 0 0], .bool false]) W := by kernel_rfl
theorem as52 (v : Value) (W : World) : (Instr.typeAssert (.iface 130 (.agg #[v])) 125 151 true).run Tryz.prog W = .ok (.tuple #[.agg #[.slice none 0 0], .bool false]) W := by kernel_rfl
theorem as53 (v : Value) (W : World) : (Instr.typeAssert (.iface 130 (.agg #[v])) 125 152 true).run Tryz.prog W = .ok (.tuple #[.agg #[.slice none 0 0], .bool false]) W := by kernel_rfl
theorem as54 (v : Value) (W : World) : (Instr.typeAssert (.iface 130 (.agg #[v])) 125 153 true).run Tryz.prog W = .ok (.tuple #[.agg #[.slice none 0 0], .bool false]) W := by kernel_rfl
theorem as55 (v : Value) (W : World) : (Instr.typeAssert (.iface 130 (.agg #[v])) 125 130 true).run Tryz.prog W = .ok (.tuple #[.agg #[v], .bool true]) W := by kernel_rfl
theorem kinds {k : Int} (h : 1 ≤ k ∧ k ≤ 5) : k = 1 ∨ k = 2 ∨ k = 3 ∨ k = 4 ∨ k = 5 := by omega

set_option maxRecDepth 20000 in
set_option maxHeartbeats 1000000 in
theorem limitsOf_any (k : Int) (hk : 1 ≤ k ∧ k ≤ 5) (v : Value) (w : World) :
  Calls Tryz.prog 96 #[.iface (figT k) (.agg #[v])] w fun e w' => e = .returned (.agg #[.int .i64 (limR k), .int .i64 (leastN k), .int .i64 (mostN k)]) ∧ Below w.heap.size w w' := by
 rcases kinds hk with rfl | rfl | rfl | rfl | rfl
 ·have q1 := as11 v
  rw [show figT 1 = 150 from rfl, show limR 1 = 1 from rfl, show leastN 1 = 1 from rfl, show mostN 1 = 1 from rfl]
  go_enter Tryz.func96, Tryz.ntmps96
  go_wp2
  go_returns
  exact ⟨rfl, below1 _ _⟩
 ·have q1 := as21 v; have q2 := as22 v
  rw [show figT 2 = 151 from rfl, show limR 2 = 1 from rfl, show leastN 2 = 1 from rfl, show mostN 2 = 60 from rfl]
  go_enter Tryz.func96, Tryz.ntmps96
  go_wp2
  go_returns
  exact ⟨rfl, below1 _ _⟩
 ·have q1 := as31 v; have q2 := as32 v; have q3 := as33 v
  rw [show figT 3 = 152 from rfl, show limR 3 = 1 from rfl, show leastN 3 = 2 from rfl, show mostN 3 = 60 from rfl]
  go_enter Tryz.func96, Tryz.ntmps96
  go_wp2
  go_returns
  exact ⟨rfl, below1 _ _⟩
 ·have q1 := as41 v; have q2 := as42 v; have q3 := as43 v; have q4 := as44 v
  rw [show figT 4 = 153 from rfl, show limR 4 = 12 from rfl, show leastN 4 = 2 from rfl, show mostN 4 = 60 from rfl]
  go_enter Tryz.func96, Tryz.ntmps96
  go_wp2
  go_returns
  exact ⟨rfl, below1 _ _⟩
 ·have q1 := as51 v; have q2 := as52 v; have q3 := as53 v; have q4 := as54 v; have q5 := as55 v
  rw [show figT 5 = 130 from rfl, show limR 5 = 12 from rfl, show leastN 5 = 3 from rfl, show mostN 5 = 60 from rfl]
  go_enter Tryz.func96, Tryz.ntmps96
  go_wp2
  go_returns
  exact ⟨rfl, below1 _ _⟩
end Go.Proofs.YtinlomcaagdbiaaGreat

/- A ring's own faults, of the specification (l5Ring): the first ring. -/
namespace Go.Proofs.YtinlomcaagdbiaaGreat
open Go.RowKit

def firstB (ps : List (Int × Int)) : Bool := !slf ps ps.length && decide (0 < tw ps ps.length)

set_option maxRecDepth 20000 in
set_option maxHeartbeats 1500000 in
theorem l5Ring_zero (n : Int) (a : Option Addr) (c : Nat) (rs : List (List (Int × Int))) (w : World) (h : SeesS w a c rs) (hr : 0 < rs.length) (ok : okL (rowA rs 0) = true) (hs : (rowA rs 0).length ≤ 60) :
  Calls Tryz.prog 68 #[.agg #[.int .i64 n, .slice a rs.length c], .int .i64 0] w fun e w' => ∃ z x y : Int, e = .returned (.tuple #[.int .i64 z, .int .i64 x, .int .i64 y]) ∧ Hid (decide (z = 0) = firstB (rowA rs 0)) ∧ Below w.heap.size w w' := by
 have hm := h.max
 have hf := h.fits
 unfold maxLen at hm
 have B0 := below1 w (.cells #[.int .i64 n, .slice a rs.length c] 50)
 have V0 := Box2.new w (lo := w.heap.size) (Nat.le_refl _) (.int .i64 n) (.slice a rs.length c) 50
 obtain ⟨b, off, rfl, hc⟩ := (h.below B0).cells (by intro e; simp [e] at hr)
 obtain ⟨a', c', g, P⟩ := hc 0 hr
 rw [Nat.add_zero] at g
 clear hc h
 obtain ⟨k0, k1, _, _⟩ := id V0
 generalize rowA rs 0 = ps at *
 go_enter Tryz.func68, Tryz.ntmps68
 go_wp2_with fail
 generalize w.alloc (.cells #[.int .i64 n, .slice (some ⟨b, off, none⟩) rs.length c] 50) = W at *
 refine (l5Self_any a' c' ps _ P ok).mono ?_
 rintro e w1 ⟨z, rfl, hz, hb⟩
 replace P := P.below hb
 replace B0 := B0.trans (hb.mono B0.size)
 clear hb
 by_cases hz0 : 0 ≤ z
 ·have F : Hid (firstB ps = false) := by
   show _ = _
   have := hz.out.1
   rw [decide_eq_true hz0] at this
   unfold firstB
   rw [← this]
   rfl
  clear hz
  go_wp2
  exact bodyPost_ret (v := .tuple #[.int .i64 _, .int .i64 _, .int .i64 _]) (by simp [results, Tryz.results68, go_sem]; exact ⟨rfl, rfl, rfl⟩) rfl ⟨_, _, _, rfl, (by show _ = _; rw [F.out]; rfl), B0⟩
 ·have F : Hid (firstB ps = decide (0 < tw ps ps.length)) := by
   show _ = _
   have := hz.out.1
   rw [decide_eq_false hz0] at this
   unfold firstB
   rw [← this]
   rfl
  clear hz
  go_wp2_with fail
  refine (l5Twice_any a' c' ps _ P hs ok).mono ?_
  rintro e w2 ⟨rfl, hb⟩
  replace B0 := B0.trans (hb.mono B0.size)
  clear hb
  generalize tw ps ps.length = t at *
  by_cases ht : t ≤ 0
  ·replace F : Hid (firstB ps = false) := by
    show _ = _
    rw [F.out]
    exact decide_eq_false (by omega)
   go_wp2
   exact bodyPost_ret (v := .tuple #[.int .i64 _, .int .i64 _, .int .i64 _]) (by simp [results, Tryz.results68, go_sem]; exact ⟨rfl, rfl, rfl⟩) rfl ⟨_, _, _, rfl, (by show _ = _; rw [F.out]; rfl), B0⟩
  ·replace F : Hid (firstB ps = true) := by
    show _ = _
    rw [F.out]
    exact decide_eq_true (by omega)
   go_wp2
   exact bodyPost_ret (v := .tuple #[.int .i64 _, .int .i64 _, .int .i64 _]) (by simp [results, Tryz.results68, go_sem]; exact ⟨rfl, rfl, rfl⟩) rfl ⟨_, _, _, rfl, (by show _ = _; rw [F.out]; rfl), B0⟩
end Go.Proofs.YtinlomcaagdbiaaGreat
