/- Whether an edge of a ring meets a later one where it may not: of the program (firstCrossed). -/
import Derived.Test.YthafhfdhahbdoaaSelfS
import Derived.Test.YthafhfdhahbdoaaRing
import Derived.Test.YthafhfdhahbdoaaPtM
import Derived.Test.YthafhfdhahbdoaaPtG
import Derived.Deep.DeepCutAuto
namespace Go.Proofs.Ythafhfdhahbdoaa
open Go.RowKit

theorem liesBack_any (x1 y1 x2 y2 x3 y3 : Int) (w : World) (c1 : Crd x1) (d1 : Crd y1) (c2 : Crd x2) (d2 : Crd y2) (c3 : Crd x3) (d3 : Crd y3) :
    Calls Try.prog 85 #[.agg #[.int .i64 x1, .int .i64 y1], .agg #[.int .i64 x2, .int .i64 y2], .agg #[.int .i64 x3, .int .i64 y3]] w fun e w' => e = .returned (.bool (onB x1 y1 x2 y2 x3 y3 || onB x2 y2 x3 y3 x1 y1)) ∧ Below w.heap.size w w' := by
  have k0 := ptbox3 w x1 y1 x2 y2 x3 y3 35
  have B := ptbelow3 w x1 y1 x2 y2 x3 y3 35
  obtain ⟨q1, q2, q3, q4, q5, q6⟩ := id k0
  cases o1 : onB x1 y1 x2 y2 x3 y3
  · rw [Bool.false_or]
    go_enter Try.func85, Try.ntmps85
    go_wp2_with fail
    generalize (((w.alloc (.cells #[.int .i64 x1, .int .i64 y1] 35)).alloc (.cells #[.int .i64 x2, .int .i64 y2] 35)).alloc (.cells #[.int .i64 x3, .int .i64 y3] 35)) = W0 at *
    refine (onSeg_any x1 y1 x2 y2 x3 y3 _ c1 d1 c2 d2 c3 d3).mono ?_
    rintro e w1 ⟨rfl, hb⟩
    rw [o1]
    replace q1 := bat hb q1
    replace q2 := bat hb q2
    replace q3 := bat hb q3
    replace q4 := bat hb q4
    replace q5 := bat hb q5
    replace q6 := bat hb q6
    replace B := B.trans (hb.mono B.size)
    clear hb k0 o1
    go_wp2_with fail
    refine (onSeg_any x2 y2 x3 y3 x1 y1 _ c2 d2 c3 d3 c1 d1).mono ?_
    rintro e w2 ⟨rfl, hb⟩
    replace B := B.trans (hb.mono B.size)
    clear hb q1 q2 q3 q4 q5 q6
    go_wp2
    go_ret
    exact ⟨rfl, B⟩
  · rw [Bool.true_or]
    go_enter Try.func85, Try.ntmps85
    go_wp2_with fail
    generalize (((w.alloc (.cells #[.int .i64 x1, .int .i64 y1] 35)).alloc (.cells #[.int .i64 x2, .int .i64 y2] 35)).alloc (.cells #[.int .i64 x3, .int .i64 y3] 35)) = W0 at *
    refine (onSeg_any x1 y1 x2 y2 x3 y3 _ c1 d1 c2 d2 c3 d3).mono ?_
    rintro e w1 ⟨rfl, hb⟩
    rw [o1]
    replace B := B.trans (hb.mono B.size)
    clear hb q1 q2 q3 q4 q5 q6 k0 o1
    go_wp2
    go_ret
    exact ⟨rfl, B⟩

theorem badE_next {ps : List (Int × Int)} {i k : Nat} (h : k = i + 1) (hk : k < ps.length) : badE ps i k = (onB (ptA ps i).1 (ptA ps i).2 (ptA ps (nx ps.length i)).1 (ptA ps (nx ps.length i)).2 (ptA ps (nx ps.length k)).1 (ptA ps (nx ps.length k)).2 || onB (ptA ps (nx ps.length i)).1 (ptA ps (nx ps.length i)).2 (ptA ps (nx ps.length k)).1 (ptA ps (nx ps.length k)).2 (ptA ps i).1 (ptA ps i).2) := by
  unfold badE
  rw [if_pos h]
  have e : nx ps.length i = k := by unfold nx; rw [Nat.mod_eq_of_lt (by omega)]; omega
  rw [e]
theorem badE_last {ps : List (Int × Int)} {i k : Nat} (h : ¬ k = i + 1) (h0 : i = 0) (hk : k = ps.length - 1) (hn : 0 < ps.length) : badE ps i k = (onB (ptA ps k).1 (ptA ps k).2 (ptA ps (nx ps.length k)).1 (ptA ps (nx ps.length k)).2 (ptA ps (nx ps.length i)).1 (ptA ps (nx ps.length i)).2 || onB (ptA ps (nx ps.length k)).1 (ptA ps (nx ps.length k)).2 (ptA ps (nx ps.length i)).1 (ptA ps (nx ps.length i)).2 (ptA ps k).1 (ptA ps k).2) := by
  unfold badE
  rw [if_neg h, if_pos ⟨h0, hk⟩]
  have e : nx ps.length k = i := by unfold nx; rw [hk, Nat.sub_add_cancel hn, Nat.mod_self, h0]
  rw [e, Bool.or_comm]
theorem badE_other {ps : List (Int × Int)} {i k : Nat} (h : ¬ k = i + 1) (h0 : ¬ (i = 0 ∧ k = ps.length - 1)) : badE ps i k = metI (ptA ps i).1 (ptA ps i).2 (ptA ps (nx ps.length i)).1 (ptA ps (nx ps.length i)).2 (ptA ps k).1 (ptA ps k).2 (ptA ps (nx ps.length k)).1 (ptA ps (nx ps.length k)).2 := by
  unfold badE
  rw [if_neg h, if_neg h0]

set_option maxRecDepth 20000 in
set_option maxHeartbeats 4000000 in
theorem crossed_any (g : Nat) (ps : List (Int × Int)) (i j : Nat) (w : World) (h : SeesE w g ps.length ps.length ps) (hs : ps.length ≤ 60) (ok : okL ps = true) (hij : i < j) (hj : j < ps.length) :
    Calls Try.prog 75 #[.slice (some ⟨g, 0, none⟩) ps.length ps.length, .int .i64 i, .int .i64 j] w fun e w' => e = .returned (.bool (badE ps i j)) ∧ Below w.heap.size w w' := by
  have hi : i < ps.length := by omega
  obtain ⟨g1, g2, g3, g4⟩ := h.c i hi
  obtain ⟨g5, g6, g7, g8⟩ := h.c j hj
  obtain ⟨a1, a2⟩ := okL_at ok hi
  obtain ⟨a3, a4⟩ := okL_at ok (nx_lt hi)
  obtain ⟨c1, c2⟩ := okL_at ok hj
  obtain ⟨c3, c4⟩ := okL_at ok (nx_lt hj)
  have H1 : Hid (j = i + 1 → badE ps i j = _) := fun q => badE_next q hj
  have H2 : Hid (¬ j = i + 1 → i = 0 → j = ps.length - 1 → badE ps i j = _) := fun q r s => badE_last q r s (by omega)
  have H3 : Hid (¬ j = i + 1 → ¬ (i = 0 ∧ j = ps.length - 1) → badE ps i j = _) := fun q r => badE_other q r
  generalize (ptA ps i).1 = x at *
  generalize (ptA ps i).2 = y at *
  generalize (ptA ps (nx ps.length i)).1 = u at *
  generalize (ptA ps (nx ps.length i)).2 = v at *
  generalize (ptA ps j).1 = x2 at *
  generalize (ptA ps j).2 = y2 at *
  generalize (ptA ps (nx ps.length j)).1 = u2 at *
  generalize (ptA ps (nx ps.length j)).2 = v2 at *
  clear h ok
  go_enter Try.func75, Try.ntmps75
  go_upto_region 1 with fail
  go_cut [7, 8] (fun s7 s8 W => ∃ p q, s7 = .pointer (some ⟨p, 0, none⟩) ∧ s8 = .pointer (some ⟨q, 0, none⟩) ∧ Box4 w.heap.size W p (.int .i64 x) (.int .i64 y) (.int .i64 u) (.int .i64 v) ∧ Box4 w.heap.size W q (.int .i64 x2) (.int .i64 y2) (.int .i64 u2) (.int .i64 v2) ∧ Below w.heap.size w W)
  case first =>
    refine wp_region_held_drew (S := Below w.heap.size w) (by kernel_rfl) ((Below.refl _ _).drew) (fun hHeld => ?_)
    have N : Below w.heap.size w w.drew := hHeld
    revert hHeld N
    generalize w.drew = ww0
    intro hHeld N
    refine takeQ (i := 0) (gt rfl) (by kernel_rfl) (fun _ _ _ h => h) (by rfl) (by intro wq _; go_simp <;> with_reducible rfl) (by assumption) ?_
    try simp only [Act.put, sA, sB, sC]
    refine takeQ (i := 1) (gt rfl) (by kernel_rfl) (fun _ _ _ h => h) (by rfl) (by intro wq _; go_simp <;> with_reducible rfl) (by assumption) ?_
    try simp only [Act.put, sA, sB, sC]
    refine takeQ (i := 2) (gt rfl) (by kernel_rfl) (fun _ _ _ h => h) (by rfl) (by intro wq _; go_simp <;> with_reducible rfl) (by assumption) ?_
    try simp only [Act.put, sA, sB, sC]
    refine takeQ (i := 3) (gt rfl) (by kernel_rfl) (fun _ _ _ h => h) (by rfl) (by intro wq hSw; have q0 := bat hSw g1; have q1 := bat hSw g2; have q2 := bat hSw g3; have q3 := bat hSw g4; have q4 := bat hSw g5; have q5 := bat hSw g6; have q6 := bat hSw g7; have q7 := bat hSw g8; go_simp <;> with_reducible rfl) (by assumption) ?_
    try simp only [Act.put, sA, sB, sC]
    refine takeQ (i := 4) (gt rfl) (by kernel_rfl) (fun _ _ _ h => h) (by rfl) (by intro wq _; go_simp <;> with_reducible rfl) (by assumption) ?_
    try simp only [Act.put, sA, sB, sC]
    refine takeQ (i := 5) (gt rfl) (by kernel_rfl) (fun _ _ _ h => h) (by rfl) (by intro wq _; go_simp <;> with_reducible rfl) (by assumption) ?_
    try simp only [Act.put, sA, sB, sC]
    refine takeQ (i := 6) (gt rfl) (by kernel_rfl) (fun _ _ _ h => h) (by rfl) (by intro wq _; go_simp <;> with_reducible rfl) (by assumption) ?_
    try simp only [Act.put, sA, sB, sC]
    refine takeQ (i := 7) (gt rfl) (by kernel_rfl) (fun _ _ _ h => h) (by rfl) (by intro wq hSw; have q0 := bat hSw g1; have q1 := bat hSw g2; have q2 := bat hSw g3; have q3 := bat hSw g4; have q4 := bat hSw g5; have q5 := bat hSw g6; have q6 := bat hSw g7; have q7 := bat hSw g8; go_simp <;> with_reducible rfl) (by assumption) ?_
    try simp only [Act.put, sA, sB, sC]
    refine wpAnyH_ready (rs := [8, 9]) (by kernel_rfl) (by simp) (AllReadyH.cons (gt rfl) (fun K hK => ?_) (AllReadyH.cons (gt rfl) (fun K hK => ?_) AllReadyH.nil))
    · skip
      go_simp
      have kP := Box4.new ww0 N.size (.int .i64 0) (.int .i64 0) (.int .i64 0) (.int .i64 0) 56
      have hb := below1 ww0 (.cells #[.int .i64 0, .int .i64 0, .int .i64 0, .int .i64 0] 56)
      replace N := N.trans (hb.mono N.size)
      clear hb
      generalize ww0.alloc (.cells #[.int .i64 0, .int .i64 0, .int .i64 0, .int .i64 0] 56) = ww1 at *
      refine hK.out _ _ N (fun hHeld => ?_)
      clear hK K
      try simp only [Act.put, sA, sB, sC]
      refine wpAnyH_ready (rs := [9]) (by kernel_rfl) (by simp) (AllReadyH.cons (gt rfl) (fun K hK => ?_) AllReadyH.nil)
      go_simp
      have kQ := Box4.new ww1 N.size (.int .i64 0) (.int .i64 0) (.int .i64 0) (.int .i64 0) 56
      have hb := below1 ww1 (.cells #[.int .i64 0, .int .i64 0, .int .i64 0, .int .i64 0] 56)
      have ne_kQ_kP := Nat.ne_of_gt kP.lt
      have ne_kP_kQ := ne_kQ_kP.symm
      replace kP := kP.below hb
      replace N := N.trans (hb.mono N.size)
      clear hb
      generalize ww1.alloc (.cells #[.int .i64 0, .int .i64 0, .int .i64 0, .int .i64 0] 56) = ww2 at *
      refine hK.out _ _ N (fun hHeld => ?_)
      clear hK K
      try simp only [Act.put, sA, sB, sC]
      refine wpAnyH_ready (rs := [10]) (by kernel_rfl) (by simp) (AllReadyH.cons (gt rfl) (fun K hK => ?_) AllReadyH.nil)
      have z0 := kP.c0
      have z1 := kP.c1
      have z2 := kP.c2
      have z3 := kP.c3
      have zf := kP.fr
      go_simp
      clear z0 z1 z2 z3 zf
      replace N := Box4.chain N kP (.int .i64 x) (.int .i64 y) (.int .i64 u) (.int .i64 v)
      replace kQ := kQ.old ne_kQ_kP (.int .i64 x) (.int .i64 y) (.int .i64 u) (.int .i64 v)
      replace kP := kP.put (.int .i64 x) (.int .i64 y) (.int .i64 u) (.int .i64 v)
      refine hK.out _ _ N (fun hHeld => ?_)
      clear hK K
      try simp only [Act.put, sA, sB, sC]
      refine wpAnyH_ready (rs := [11]) (by kernel_rfl) (by simp) (AllReadyH.cons (gt rfl) (fun K hK => ?_) AllReadyH.nil)
      have z0 := kQ.c0
      have z1 := kQ.c1
      have z2 := kQ.c2
      have z3 := kQ.c3
      have zf := kQ.fr
      go_simp
      clear z0 z1 z2 z3 zf
      replace N := Box4.chain N kQ (.int .i64 x2) (.int .i64 y2) (.int .i64 u2) (.int .i64 v2)
      replace kP := kP.old ne_kP_kQ (.int .i64 x2) (.int .i64 y2) (.int .i64 u2) (.int .i64 v2)
      replace kQ := kQ.put (.int .i64 x2) (.int .i64 y2) (.int .i64 u2) (.int .i64 v2)
      refine hK.out _ _ N (fun hHeld => ?_)
      clear hK K
      try simp only [Act.put, sA, sB, sC]
      refine wpAnyH_done (by kernel_rfl) ?_ _
      go_wp2
      go_meet
      case rel => exact ⟨_, _, rfl, rfl, kP, kQ, N⟩
    · skip
      go_simp
      have kQ := Box4.new ww0 N.size (.int .i64 0) (.int .i64 0) (.int .i64 0) (.int .i64 0) 56
      have hb := below1 ww0 (.cells #[.int .i64 0, .int .i64 0, .int .i64 0, .int .i64 0] 56)
      replace N := N.trans (hb.mono N.size)
      clear hb
      generalize ww0.alloc (.cells #[.int .i64 0, .int .i64 0, .int .i64 0, .int .i64 0] 56) = ww5 at *
      refine hK.out _ _ N (fun hHeld => ?_)
      clear hK K
      try simp only [Act.put, sA, sB, sC]
      refine wpAnyH_ready (rs := [8]) (by kernel_rfl) (by simp) (AllReadyH.cons (gt rfl) (fun K hK => ?_) AllReadyH.nil)
      go_simp
      have kP := Box4.new ww5 N.size (.int .i64 0) (.int .i64 0) (.int .i64 0) (.int .i64 0) 56
      have hb := below1 ww5 (.cells #[.int .i64 0, .int .i64 0, .int .i64 0, .int .i64 0] 56)
      have ne_kP_kQ := Nat.ne_of_gt kQ.lt
      have ne_kQ_kP := ne_kP_kQ.symm
      replace kQ := kQ.below hb
      replace N := N.trans (hb.mono N.size)
      clear hb
      generalize ww5.alloc (.cells #[.int .i64 0, .int .i64 0, .int .i64 0, .int .i64 0] 56) = ww6 at *
      refine hK.out _ _ N (fun hHeld => ?_)
      clear hK K
      try simp only [Act.put, sA, sB, sC]
      refine wpAnyH_ready (rs := [10]) (by kernel_rfl) (by simp) (AllReadyH.cons (gt rfl) (fun K hK => ?_) AllReadyH.nil)
      have z0 := kP.c0
      have z1 := kP.c1
      have z2 := kP.c2
      have z3 := kP.c3
      have zf := kP.fr
      go_simp
      clear z0 z1 z2 z3 zf
      replace N := Box4.chain N kP (.int .i64 x) (.int .i64 y) (.int .i64 u) (.int .i64 v)
      replace kQ := kQ.old ne_kQ_kP (.int .i64 x) (.int .i64 y) (.int .i64 u) (.int .i64 v)
      replace kP := kP.put (.int .i64 x) (.int .i64 y) (.int .i64 u) (.int .i64 v)
      refine hK.out _ _ N (fun hHeld => ?_)
      clear hK K
      try simp only [Act.put, sA, sB, sC]
      refine wpAnyH_ready (rs := [11]) (by kernel_rfl) (by simp) (AllReadyH.cons (gt rfl) (fun K hK => ?_) AllReadyH.nil)
      have z0 := kQ.c0
      have z1 := kQ.c1
      have z2 := kQ.c2
      have z3 := kQ.c3
      have zf := kQ.fr
      go_simp
      clear z0 z1 z2 z3 zf
      replace N := Box4.chain N kQ (.int .i64 x2) (.int .i64 y2) (.int .i64 u2) (.int .i64 v2)
      replace kP := kP.old ne_kP_kQ (.int .i64 x2) (.int .i64 y2) (.int .i64 u2) (.int .i64 v2)
      replace kQ := kQ.put (.int .i64 x2) (.int .i64 y2) (.int .i64 u2) (.int .i64 v2)
      refine hK.out _ _ N (fun hHeld => ?_)
      clear hK K
      try simp only [Act.put, sA, sB, sC]
      refine wpAnyH_done (by kernel_rfl) ?_ _
      go_wp2
      go_meet
      case rel => exact ⟨_, _, rfl, rfl, kP, kQ, N⟩
  obtain ⟨p, q, rfl, rfl, VP, VQ, B⟩ := hcut
  rename World => W1
  clear g1 g2 g3 g4 g5 g6 g7 g8
  obtain ⟨n0, n1, n2, n3, _, _⟩ := id VP
  obtain ⟨m0, m1, m2, m3, _, _⟩ := id VQ
  by_cases hk : j = i + 1
  · have F : Hid (badE ps i j = (onB x y u v u2 v2 || onB u v u2 v2 x y)) := H1.out hk
    have hkb : ((j : Int) == (i : Int) + 1) = true := by rw [hk]; simp
    clear H1 H2 H3
    go_wp2_with fail
    refine (liesBack_any x y u v u2 v2 _ a1 a2 a3 a4 c3 c4).mono ?_
    rintro e w2 ⟨rfl, hb⟩
    replace B := B.trans (hb.mono B.size)
    clear hb
    go_wp2
    go_ret
    exact ⟨congrArg (fun b => Ending.returned (.bool b)) F.out.symm, B⟩
  · have hkb : ((j : Int) == (i : Int) + 1) = false := by rw [beq_eq_false_iff_ne]; omega
    by_cases hz : i = 0 ∧ j = ps.length - 1
    · have F : Hid (badE ps i j = (onB x2 y2 u2 v2 u v || onB u2 v2 u v x2 y2)) := H2.out hk hz.1 hz.2
      have hj0 : ((i : Int) == 0) = true := by rw [hz.1]; rfl
      have hin : ((j : Int) == (ps.length : Int) - 1) = true := by rw [beq_iff_eq]; omega
      clear H1 H2 H3 hz
      go_wp2_with fail
      refine (liesBack_any x2 y2 u2 v2 u v _ c1 c2 c3 c4 a3 a4).mono ?_
      rintro e w2 ⟨rfl, hb⟩
      replace B := B.trans (hb.mono B.size)
      clear hb
      go_wp2
      go_ret
      exact ⟨congrArg (fun b => Ending.returned (.bool b)) F.out.symm, B⟩
    · have F : Hid (badE ps i j = metI x y u v x2 y2 u2 v2) := H3.out hk hz
      by_cases hjz : i = 0
      · have hj0 : ((i : Int) == 0) = true := by rw [hjz]; rfl
        have hin : ((j : Int) == (ps.length : Int) - 1) = false := by rw [beq_eq_false_iff_ne]; intro q; exact hz ⟨hjz, by omega⟩
        clear H1 H2 H3 hz hjz
        go_wp2_with fail
        refine (meet_any x y u v x2 y2 u2 v2 _ a1 a2 a3 a4 c1 c2 c3 c4).mono ?_
        rintro e w2 ⟨rfl, hb⟩
        replace B := B.trans (hb.mono B.size)
        clear hb
        go_wp2
        go_ret
        exact ⟨congrArg (fun b => Ending.returned (.bool b)) F.out.symm, B⟩
      · have hj0 : ((i : Int) == 0) = false := by rw [beq_eq_false_iff_ne]; omega
        clear H1 H2 H3 hz hjz
        go_wp2_with fail
        refine (meet_any x y u v x2 y2 u2 v2 _ a1 a2 a3 a4 c1 c2 c3 c4).mono ?_
        rintro e w2 ⟨rfl, hb⟩
        replace B := B.trans (hb.mono B.size)
        clear hb
        go_wp2
        go_ret
        exact ⟨congrArg (fun b => Ending.returned (.bool b)) F.out.symm, B⟩

set_option maxRecDepth 20000 in
set_option maxHeartbeats 2500000 in
theorem firstCrossed_any (g : Nat) (ps : List (Int × Int)) (w : World) (h : SeesE w g ps.length ps.length ps) (hs : ps.length ≤ 60) (ok : okL ps = true) :
    Calls Try.prog 66 #[.slice (some ⟨g, 0, none⟩) ps.length ps.length] w fun e w' => ∃ z : Int, e = .returned (.int .i64 z) ∧ Hid (decide (0 ≤ z) = slf ps ps.length ∧ -1 ≤ z ∧ z < ps.length + 1) ∧ Below w.heap.size w w' := by
  go_enter Try.func66, Try.ntmps66
  go_wp2
  go_loopw [7] (fun s7 wr => ∃ j : Nat, j ≤ ps.length ∧ s7 = .int .i64 j ∧ Hid (slf ps j = false) ∧ Below w.heap.size w wr) (fun s7 _ => ps.length - (intOf s7).toNat)
  case atStart => exact ⟨0, Nat.zero_le _, rfl, rfl, Below.refl _ _⟩
  case round =>
    obtain ⟨j, hj, rfl, T, B⟩ := hrel
    rename World => wr
    by_cases hlt : j < ps.length
    · go_wp2
      go_loopw [4] (fun s4 wi => ∃ i : Nat, j + 1 ≤ i ∧ i ≤ ps.length ∧ s4 = .int .i64 i ∧ Hid (slfE ps j i = false) ∧ Below wr.heap.size wr wi) (fun s4 _ => ps.length - (intOf s4).toNat)
      case atStart => exact ⟨j + 1, by omega, by omega, by go_num, slfE_low ps j (j + 1) (by omega), Below.refl _ _⟩
      case round =>
        obtain ⟨i, hji, hi, rfl, M, Bi⟩ := hrel
        rename World => wi
        by_cases hli : i < ps.length
        · have RF : Hid (badE ps j i = true → decide (0 ≤ (j : Int)) = slf ps ps.length ∧ -1 ≤ (j : Int) ∧ (j : Int) < ps.length + 1) := fun q => ⟨by rw [slf_found (show j < i by omega) hli q]; simp, by omega, by omega⟩
          have RN : Hid (badE ps j i = false → slfE ps j (i + 1) = false) := fun q => slfE_step M.out q
          clear M
          go_wp2_with fail
          refine (crossed_any g ps j i _ ((h.below B).below Bi) hs ok (by omega) hli).mono ?_
          rintro e w2 ⟨rfl, hb⟩
          replace Bi := Bi.trans (hb.mono Bi.size)
          clear hb
          cases o1 : badE ps j i
          · have R := RN.out o1
            clear RN RF o1
            go_wp2
            go_roundw
            case rel => exact ⟨i + 1, by omega, by omega, by go_num, R, Bi⟩
            case measure => simp [intOf]; omega
          · have R4 : Hid (decide (0 ≤ (j : Int)) = slf ps ps.length ∧ -1 ≤ (j : Int) ∧ (j : Int) < ps.length + 1) := RF.out o1
            clear RN RF o1
            go_wp2
            go_ret
            exact ⟨_, rfl, R4, B.trans (Bi.mono B.size)⟩
        · obtain rfl : i = ps.length := by omega
          go_wp2
          go_roundw
          case rel => exact ⟨j + 1, by omega, by go_num, (by show _ = _; simp only [slf]; rw [T.out, M.out]; rfl), B.trans (Bi.mono B.size)⟩
          case measure => simp [intOf]; omega
    · obtain rfl : j = ps.length := by omega
      go_wp2
      go_ret
      exact ⟨-1, rfl, ⟨by rw [T.out]; rfl, by omega, by omega⟩, B⟩
end Go.Proofs.Ythafhfdhahbdoaa
