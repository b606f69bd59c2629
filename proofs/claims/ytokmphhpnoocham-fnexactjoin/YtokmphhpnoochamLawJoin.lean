/- The law on Join: at every argument the program's Join is the specification's, field by field; it writes into no argument. -/
import Derived.Test.YtokmphhpnoochamBoxN
import Derived.Test.YtokmphhpnoochamHeldQ
import Derived.Deep.DeepCutAuto
namespace Go.Proofs.Ytokmphhpnoocham
open Go.RowKit

set_option maxRecDepth 20000 in
set_option maxHeartbeats 4000000 in
theorem lawJoin (a b c d m n r s : Int) (w : World) :
    Calls Try.prog 3 #[.agg #[.int .i64 a, .int .i64 b, .int .i64 c, .int .i64 d], .agg #[.int .i64 m, .int .i64 n, .int .i64 r, .int .i64 s]] w fun e w' => e = .returned (.bool true) ∧ Below w.heap.size w w' := by
  obtain ⟨u1, H1⟩ : ∃ u, Hid (oA a b c d m n r s = u) := ⟨_, rfl⟩
  obtain ⟨u2, H2⟩ : ∃ u, Hid (oB a b c d m n r s = u) := ⟨_, rfl⟩
  obtain ⟨u3, H3⟩ : ∃ u, Hid (oC a b c d m n r s = u) := ⟨_, rfl⟩
  obtain ⟨u4, H4⟩ : ∃ u, Hid (oD a b c d m n r s = u) := ⟨_, rfl⟩
  have k0 := bcBB w a b c d m n r s 25 25
  have B0 := below2 w (.cells #[.int .i64 a, .int .i64 b, .int .i64 c, .int .i64 d] 25) (.cells #[.int .i64 m, .int .i64 n, .int .i64 r, .int .i64 s] 25)
  go_enter Try.func3, Try.ntmps3
  go_wp2_with fail
  generalize ((w.alloc (.cells #[.int .i64 a, .int .i64 b, .int .i64 c, .int .i64 d] 25)).alloc (.cells #[.int .i64 m, .int .i64 n, .int .i64 r, .int .i64 s] 25)) = W0 at *
  obtain ⟨k1, k2, k3, k4, k5, k6, k7, k8⟩ := k0
  go_cut [5] (fun sx W => ∃ p, sx = .pointer (some ⟨p, 0, none⟩) ∧ Box4 W0.heap.size W p (.int .i64 u1) (.int .i64 u2) (.int .i64 u3) (.int .i64 u4) ∧ Below W0.heap.size W0 W)
  case first =>
    refine wp_region_held_drew (S := Below W0.heap.size W0) (by kernel_rfl) ((Below.refl _ _).drew) (fun hHeld => ?_)
    have N : Below W0.heap.size W0 W0.drew := hHeld
    revert hHeld N
    generalize W0.drew = ww0
    intro hHeld N
    refine takeQ (i := 0) (gt rfl) (by kernel_rfl) (fun _ _ _ h => h) (by rfl) (by intro wq hSw; have q0 := bat hSw k1; have q1 := bat hSw k2; have q2 := bat hSw k3; have q3 := bat hSw k4; have q4 := bat hSw k5; have q5 := bat hSw k6; have q6 := bat hSw k7; have q7 := bat hSw k8; go_simp <;> with_reducible rfl) (by assumption) ?_
    try simp only [Act.put, sA, sB, sC]
    refine takeQ (i := 2) (gt rfl) (by kernel_rfl) (fun _ _ _ h => h) (by rfl) (by intro wq hSw; have q0 := bat hSw k1; have q1 := bat hSw k2; have q2 := bat hSw k3; have q3 := bat hSw k4; have q4 := bat hSw k5; have q5 := bat hSw k6; have q6 := bat hSw k7; have q7 := bat hSw k8; go_simp <;> with_reducible rfl) (by assumption) ?_
    try simp only [Act.put, sA, sB, sC]
    refine wpAnyH_ready (rs := [1, 5]) (by kernel_rfl) (by simp) (AllReadyH.cons (gt rfl) (fun K hK => ?_) (AllReadyH.cons (gt rfl) (fun K hK => ?_) AllReadyH.nil))
    · skip
      go_simp
      refine (toBox_any _ _ _ _ _).mono ?_
      rintro e ww1 ⟨rfl, hb⟩
      replace N := N.trans (hb.mono N.size)
      clear hb
      refine hK.out _ _ N (fun hHeld => ?_)
      clear hK K
      try simp only [Act.put, sA, sB, sC]
      refine wpAnyH_ready (rs := [3, 5]) (by kernel_rfl) (by simp) (AllReadyH.cons (gt rfl) (fun K hK => ?_) (AllReadyH.cons (gt rfl) (fun K hK => ?_) AllReadyH.nil))
      · skip
        go_simp
        refine (toBox_any _ _ _ _ _).mono ?_
        rintro e ww2 ⟨rfl, hb⟩
        replace N := N.trans (hb.mono N.size)
        clear hb
        refine hK.out _ _ N (fun hHeld => ?_)
        clear hK K
        try simp only [Act.put, sA, sB, sC]
        refine wpAnyH_ready (rs := [4, 5]) (by kernel_rfl) (by simp) (AllReadyH.cons (gt rfl) (fun K hK => ?_) (AllReadyH.cons (gt rfl) (fun K hK => ?_) AllReadyH.nil))
        · skip
          go_simp
          refine (specJoin _ _ _ _ _ _ _ _ _).mono ?_
          rintro e ww3 ⟨rfl, hb⟩
          rw [H1.out, H2.out, H3.out, H4.out]
          replace N := N.trans (hb.mono N.size)
          clear hb
          refine hK.out _ _ N (fun hHeld => ?_)
          clear hK K
          try simp only [Act.put, sA, sB, sC]
          refine wpAnyH_ready (rs := [5]) (by kernel_rfl) (by simp) (AllReadyH.cons (gt rfl) (fun K hK => ?_) AllReadyH.nil)
          go_simp
          have kP := Box4.new ww3 N.size (.int .i64 0) (.int .i64 0) (.int .i64 0) (.int .i64 0) 28
          have hb := below1 ww3 (.cells #[.int .i64 0, .int .i64 0, .int .i64 0, .int .i64 0] 28)
          replace N := N.trans (hb.mono N.size)
          clear hb
          generalize ww3.alloc (.cells #[.int .i64 0, .int .i64 0, .int .i64 0, .int .i64 0] 28) = ww4 at *
          refine hK.out _ _ N (fun hHeld => ?_)
          clear hK K
          try simp only [Act.put, sA, sB, sC]
          refine wpAnyH_ready (rs := [6]) (by kernel_rfl) (by simp) (AllReadyH.cons (gt rfl) (fun K hK => ?_) AllReadyH.nil)
          have z0 := kP.c0
          have z1 := kP.c1
          have z2 := kP.c2
          have z3 := kP.c3
          have zf := kP.fr
          go_simp
          clear z0 z1 z2 z3 zf
          replace N := Box4.chain N kP (.int .i64 u1) (.int .i64 u2) (.int .i64 u3) (.int .i64 u4)
          replace kP := kP.put (.int .i64 u1) (.int .i64 u2) (.int .i64 u3) (.int .i64 u4)
          refine hK.out _ _ N (fun hHeld => ?_)
          clear hK K
          try simp only [Act.put, sA, sB, sC]
          refine wpAnyH_done (by kernel_rfl) ?_ _
          go_wp2
          go_meet
          case rel => exact ⟨_, rfl, kP, N⟩
        · skip
          go_simp
          have kP := Box4.new ww2 N.size (.int .i64 0) (.int .i64 0) (.int .i64 0) (.int .i64 0) 28
          have hb := below1 ww2 (.cells #[.int .i64 0, .int .i64 0, .int .i64 0, .int .i64 0] 28)
          replace N := N.trans (hb.mono N.size)
          clear hb
          generalize ww2.alloc (.cells #[.int .i64 0, .int .i64 0, .int .i64 0, .int .i64 0] 28) = ww6 at *
          refine hK.out _ _ N (fun hHeld => ?_)
          clear hK K
          try simp only [Act.put, sA, sB, sC]
          refine wpAnyH_ready (rs := [4]) (by kernel_rfl) (by simp) (AllReadyH.cons (gt rfl) (fun K hK => ?_) AllReadyH.nil)
          go_simp
          refine (specJoin _ _ _ _ _ _ _ _ _).mono ?_
          rintro e ww7 ⟨rfl, hb⟩
          rw [H1.out, H2.out, H3.out, H4.out]
          replace kP := kP.below hb
          replace N := N.trans (hb.mono N.size)
          clear hb
          refine hK.out _ _ N (fun hHeld => ?_)
          clear hK K
          try simp only [Act.put, sA, sB, sC]
          refine wpAnyH_ready (rs := [6]) (by kernel_rfl) (by simp) (AllReadyH.cons (gt rfl) (fun K hK => ?_) AllReadyH.nil)
          have z0 := kP.c0
          have z1 := kP.c1
          have z2 := kP.c2
          have z3 := kP.c3
          have zf := kP.fr
          go_simp
          clear z0 z1 z2 z3 zf
          replace N := Box4.chain N kP (.int .i64 u1) (.int .i64 u2) (.int .i64 u3) (.int .i64 u4)
          replace kP := kP.put (.int .i64 u1) (.int .i64 u2) (.int .i64 u3) (.int .i64 u4)
          refine hK.out _ _ N (fun hHeld => ?_)
          clear hK K
          try simp only [Act.put, sA, sB, sC]
          refine wpAnyH_done (by kernel_rfl) ?_ _
          go_wp2
          go_meet
          case rel => exact ⟨_, rfl, kP, N⟩
      · skip
        go_simp
        have kP := Box4.new ww1 N.size (.int .i64 0) (.int .i64 0) (.int .i64 0) (.int .i64 0) 28
        have hb := below1 ww1 (.cells #[.int .i64 0, .int .i64 0, .int .i64 0, .int .i64 0] 28)
        replace N := N.trans (hb.mono N.size)
        clear hb
        generalize ww1.alloc (.cells #[.int .i64 0, .int .i64 0, .int .i64 0, .int .i64 0] 28) = ww9 at *
        refine hK.out _ _ N (fun hHeld => ?_)
        clear hK K
        try simp only [Act.put, sA, sB, sC]
        refine wpAnyH_ready (rs := [3]) (by kernel_rfl) (by simp) (AllReadyH.cons (gt rfl) (fun K hK => ?_) AllReadyH.nil)
        go_simp
        refine (toBox_any _ _ _ _ _).mono ?_
        rintro e ww10 ⟨rfl, hb⟩
        replace kP := kP.below hb
        replace N := N.trans (hb.mono N.size)
        clear hb
        refine hK.out _ _ N (fun hHeld => ?_)
        clear hK K
        try simp only [Act.put, sA, sB, sC]
        refine wpAnyH_ready (rs := [4]) (by kernel_rfl) (by simp) (AllReadyH.cons (gt rfl) (fun K hK => ?_) AllReadyH.nil)
        go_simp
        refine (specJoin _ _ _ _ _ _ _ _ _).mono ?_
        rintro e ww11 ⟨rfl, hb⟩
        rw [H1.out, H2.out, H3.out, H4.out]
        replace kP := kP.below hb
        replace N := N.trans (hb.mono N.size)
        clear hb
        refine hK.out _ _ N (fun hHeld => ?_)
        clear hK K
        try simp only [Act.put, sA, sB, sC]
        refine wpAnyH_ready (rs := [6]) (by kernel_rfl) (by simp) (AllReadyH.cons (gt rfl) (fun K hK => ?_) AllReadyH.nil)
        have z0 := kP.c0
        have z1 := kP.c1
        have z2 := kP.c2
        have z3 := kP.c3
        have zf := kP.fr
        go_simp
        clear z0 z1 z2 z3 zf
        replace N := Box4.chain N kP (.int .i64 u1) (.int .i64 u2) (.int .i64 u3) (.int .i64 u4)
        replace kP := kP.put (.int .i64 u1) (.int .i64 u2) (.int .i64 u3) (.int .i64 u4)
        refine hK.out _ _ N (fun hHeld => ?_)
        clear hK K
        try simp only [Act.put, sA, sB, sC]
        refine wpAnyH_done (by kernel_rfl) ?_ _
        go_wp2
        go_meet
        case rel => exact ⟨_, rfl, kP, N⟩
    · skip
      go_simp
      have kP := Box4.new ww0 N.size (.int .i64 0) (.int .i64 0) (.int .i64 0) (.int .i64 0) 28
      have hb := below1 ww0 (.cells #[.int .i64 0, .int .i64 0, .int .i64 0, .int .i64 0] 28)
      replace N := N.trans (hb.mono N.size)
      clear hb
      generalize ww0.alloc (.cells #[.int .i64 0, .int .i64 0, .int .i64 0, .int .i64 0] 28) = ww13 at *
      refine hK.out _ _ N (fun hHeld => ?_)
      clear hK K
      try simp only [Act.put, sA, sB, sC]
      refine wpAnyH_ready (rs := [1]) (by kernel_rfl) (by simp) (AllReadyH.cons (gt rfl) (fun K hK => ?_) AllReadyH.nil)
      go_simp
      refine (toBox_any _ _ _ _ _).mono ?_
      rintro e ww14 ⟨rfl, hb⟩
      replace kP := kP.below hb
      replace N := N.trans (hb.mono N.size)
      clear hb
      refine hK.out _ _ N (fun hHeld => ?_)
      clear hK K
      try simp only [Act.put, sA, sB, sC]
      refine wpAnyH_ready (rs := [3]) (by kernel_rfl) (by simp) (AllReadyH.cons (gt rfl) (fun K hK => ?_) AllReadyH.nil)
      go_simp
      refine (toBox_any _ _ _ _ _).mono ?_
      rintro e ww15 ⟨rfl, hb⟩
      replace kP := kP.below hb
      replace N := N.trans (hb.mono N.size)
      clear hb
      refine hK.out _ _ N (fun hHeld => ?_)
      clear hK K
      try simp only [Act.put, sA, sB, sC]
      refine wpAnyH_ready (rs := [4]) (by kernel_rfl) (by simp) (AllReadyH.cons (gt rfl) (fun K hK => ?_) AllReadyH.nil)
      go_simp
      refine (specJoin _ _ _ _ _ _ _ _ _).mono ?_
      rintro e ww16 ⟨rfl, hb⟩
      rw [H1.out, H2.out, H3.out, H4.out]
      replace kP := kP.below hb
      replace N := N.trans (hb.mono N.size)
      clear hb
      refine hK.out _ _ N (fun hHeld => ?_)
      clear hK K
      try simp only [Act.put, sA, sB, sC]
      refine wpAnyH_ready (rs := [6]) (by kernel_rfl) (by simp) (AllReadyH.cons (gt rfl) (fun K hK => ?_) AllReadyH.nil)
      have z0 := kP.c0
      have z1 := kP.c1
      have z2 := kP.c2
      have z3 := kP.c3
      have zf := kP.fr
      go_simp
      clear z0 z1 z2 z3 zf
      replace N := Box4.chain N kP (.int .i64 u1) (.int .i64 u2) (.int .i64 u3) (.int .i64 u4)
      replace kP := kP.put (.int .i64 u1) (.int .i64 u2) (.int .i64 u3) (.int .i64 u4)
      refine hK.out _ _ N (fun hHeld => ?_)
      clear hK K
      try simp only [Act.put, sA, sB, sC]
      refine wpAnyH_done (by kernel_rfl) ?_ _
      go_wp2
      go_meet
      case rel => exact ⟨_, rfl, kP, N⟩
  rename World => W1
  obtain ⟨p, rfl, KP, N1⟩ := hcut
  replace k1 := bat N1 k1
  replace k2 := bat N1 k2
  replace k3 := bat N1 k3
  replace k4 := bat N1 k4
  replace k5 := bat N1 k5
  replace k6 := bat N1 k6
  replace k7 := bat N1 k7
  replace k8 := bat N1 k8
  go_wp2_with fail
  go_cut [6] (fun sx W => ∃ p, sx = .pointer (some ⟨p, 0, none⟩) ∧ Box4 W1.heap.size W p (.int .i64 u1) (.int .i64 u2) (.int .i64 u3) (.int .i64 u4) ∧ Below W1.heap.size W1 W)
  case first =>
    refine wp_region_held_drew (S := Below W1.heap.size W1) (by kernel_rfl) ((Below.refl _ _).drew) (fun hHeld => ?_)
    have N : Below W1.heap.size W1 W1.drew := hHeld
    revert hHeld N
    generalize W1.drew = ww0
    intro hHeld N
    refine takeQ (i := 0) (gt rfl) (by kernel_rfl) (fun _ _ _ h => h) (by rfl) (by intro wq hSw; have q0 := bat hSw k1; have q1 := bat hSw k2; have q2 := bat hSw k3; have q3 := bat hSw k4; have q4 := bat hSw k5; have q5 := bat hSw k6; have q6 := bat hSw k7; have q7 := bat hSw k8; go_simp <;> with_reducible rfl) (by assumption) ?_
    try simp only [Act.put, sA, sB, sC]
    refine takeQ (i := 2) (gt rfl) (by kernel_rfl) (fun _ _ _ h => h) (by rfl) (by intro wq hSw; have q0 := bat hSw k1; have q1 := bat hSw k2; have q2 := bat hSw k3; have q3 := bat hSw k4; have q4 := bat hSw k5; have q5 := bat hSw k6; have q6 := bat hSw k7; have q7 := bat hSw k8; go_simp <;> with_reducible rfl) (by assumption) ?_
    try simp only [Act.put, sA, sB, sC]
    refine wpAnyH_ready (rs := [1, 5]) (by kernel_rfl) (by simp) (AllReadyH.cons (gt rfl) (fun K hK => ?_) (AllReadyH.cons (gt rfl) (fun K hK => ?_) AllReadyH.nil))
    · skip
      go_simp
      refine (toBox_any _ _ _ _ _).mono ?_
      rintro e ww1 ⟨rfl, hb⟩
      replace N := N.trans (hb.mono N.size)
      clear hb
      refine hK.out _ _ N (fun hHeld => ?_)
      clear hK K
      try simp only [Act.put, sA, sB, sC]
      refine wpAnyH_ready (rs := [3, 5]) (by kernel_rfl) (by simp) (AllReadyH.cons (gt rfl) (fun K hK => ?_) (AllReadyH.cons (gt rfl) (fun K hK => ?_) AllReadyH.nil))
      · skip
        go_simp
        refine (toBox_any _ _ _ _ _).mono ?_
        rintro e ww2 ⟨rfl, hb⟩
        replace N := N.trans (hb.mono N.size)
        clear hb
        refine hK.out _ _ N (fun hHeld => ?_)
        clear hK K
        try simp only [Act.put, sA, sB, sC]
        refine wpAnyH_ready (rs := [4, 5]) (by kernel_rfl) (by simp) (AllReadyH.cons (gt rfl) (fun K hK => ?_) (AllReadyH.cons (gt rfl) (fun K hK => ?_) AllReadyH.nil))
        · skip
          go_simp
          refine (implJoin _ _ _ _ _ _ _ _ _).mono ?_
          rintro e ww3 ⟨rfl, hb⟩
          rw [H1.out, H2.out, H3.out, H4.out]
          replace N := N.trans (hb.mono N.size)
          clear hb
          refine hK.out _ _ N (fun hHeld => ?_)
          clear hK K
          try simp only [Act.put, sA, sB, sC]
          refine wpAnyH_ready (rs := [5]) (by kernel_rfl) (by simp) (AllReadyH.cons (gt rfl) (fun K hK => ?_) AllReadyH.nil)
          go_simp
          have kP := Box4.new ww3 N.size (.int .i64 0) (.int .i64 0) (.int .i64 0) (.int .i64 0) 28
          have hb := below1 ww3 (.cells #[.int .i64 0, .int .i64 0, .int .i64 0, .int .i64 0] 28)
          replace N := N.trans (hb.mono N.size)
          clear hb
          generalize ww3.alloc (.cells #[.int .i64 0, .int .i64 0, .int .i64 0, .int .i64 0] 28) = ww4 at *
          refine hK.out _ _ N (fun hHeld => ?_)
          clear hK K
          try simp only [Act.put, sA, sB, sC]
          refine wpAnyH_ready (rs := [6]) (by kernel_rfl) (by simp) (AllReadyH.cons (gt rfl) (fun K hK => ?_) AllReadyH.nil)
          have z0 := kP.c0
          have z1 := kP.c1
          have z2 := kP.c2
          have z3 := kP.c3
          have zf := kP.fr
          go_simp
          clear z0 z1 z2 z3 zf
          replace N := Box4.chain N kP (.int .i64 u1) (.int .i64 u2) (.int .i64 u3) (.int .i64 u4)
          replace kP := kP.put (.int .i64 u1) (.int .i64 u2) (.int .i64 u3) (.int .i64 u4)
          refine hK.out _ _ N (fun hHeld => ?_)
          clear hK K
          try simp only [Act.put, sA, sB, sC]
          refine wpAnyH_done (by kernel_rfl) ?_ _
          go_wp2
          go_meet
          case rel => exact ⟨_, rfl, kP, N⟩
        · skip
          go_simp
          have kP := Box4.new ww2 N.size (.int .i64 0) (.int .i64 0) (.int .i64 0) (.int .i64 0) 28
          have hb := below1 ww2 (.cells #[.int .i64 0, .int .i64 0, .int .i64 0, .int .i64 0] 28)
          replace N := N.trans (hb.mono N.size)
          clear hb
          generalize ww2.alloc (.cells #[.int .i64 0, .int .i64 0, .int .i64 0, .int .i64 0] 28) = ww6 at *
          refine hK.out _ _ N (fun hHeld => ?_)
          clear hK K
          try simp only [Act.put, sA, sB, sC]
          refine wpAnyH_ready (rs := [4]) (by kernel_rfl) (by simp) (AllReadyH.cons (gt rfl) (fun K hK => ?_) AllReadyH.nil)
          go_simp
          refine (implJoin _ _ _ _ _ _ _ _ _).mono ?_
          rintro e ww7 ⟨rfl, hb⟩
          rw [H1.out, H2.out, H3.out, H4.out]
          replace kP := kP.below hb
          replace N := N.trans (hb.mono N.size)
          clear hb
          refine hK.out _ _ N (fun hHeld => ?_)
          clear hK K
          try simp only [Act.put, sA, sB, sC]
          refine wpAnyH_ready (rs := [6]) (by kernel_rfl) (by simp) (AllReadyH.cons (gt rfl) (fun K hK => ?_) AllReadyH.nil)
          have z0 := kP.c0
          have z1 := kP.c1
          have z2 := kP.c2
          have z3 := kP.c3
          have zf := kP.fr
          go_simp
          clear z0 z1 z2 z3 zf
          replace N := Box4.chain N kP (.int .i64 u1) (.int .i64 u2) (.int .i64 u3) (.int .i64 u4)
          replace kP := kP.put (.int .i64 u1) (.int .i64 u2) (.int .i64 u3) (.int .i64 u4)
          refine hK.out _ _ N (fun hHeld => ?_)
          clear hK K
          try simp only [Act.put, sA, sB, sC]
          refine wpAnyH_done (by kernel_rfl) ?_ _
          go_wp2
          go_meet
          case rel => exact ⟨_, rfl, kP, N⟩
      · skip
        go_simp
        have kP := Box4.new ww1 N.size (.int .i64 0) (.int .i64 0) (.int .i64 0) (.int .i64 0) 28
        have hb := below1 ww1 (.cells #[.int .i64 0, .int .i64 0, .int .i64 0, .int .i64 0] 28)
        replace N := N.trans (hb.mono N.size)
        clear hb
        generalize ww1.alloc (.cells #[.int .i64 0, .int .i64 0, .int .i64 0, .int .i64 0] 28) = ww9 at *
        refine hK.out _ _ N (fun hHeld => ?_)
        clear hK K
        try simp only [Act.put, sA, sB, sC]
        refine wpAnyH_ready (rs := [3]) (by kernel_rfl) (by simp) (AllReadyH.cons (gt rfl) (fun K hK => ?_) AllReadyH.nil)
        go_simp
        refine (toBox_any _ _ _ _ _).mono ?_
        rintro e ww10 ⟨rfl, hb⟩
        replace kP := kP.below hb
        replace N := N.trans (hb.mono N.size)
        clear hb
        refine hK.out _ _ N (fun hHeld => ?_)
        clear hK K
        try simp only [Act.put, sA, sB, sC]
        refine wpAnyH_ready (rs := [4]) (by kernel_rfl) (by simp) (AllReadyH.cons (gt rfl) (fun K hK => ?_) AllReadyH.nil)
        go_simp
        refine (implJoin _ _ _ _ _ _ _ _ _).mono ?_
        rintro e ww11 ⟨rfl, hb⟩
        rw [H1.out, H2.out, H3.out, H4.out]
        replace kP := kP.below hb
        replace N := N.trans (hb.mono N.size)
        clear hb
        refine hK.out _ _ N (fun hHeld => ?_)
        clear hK K
        try simp only [Act.put, sA, sB, sC]
        refine wpAnyH_ready (rs := [6]) (by kernel_rfl) (by simp) (AllReadyH.cons (gt rfl) (fun K hK => ?_) AllReadyH.nil)
        have z0 := kP.c0
        have z1 := kP.c1
        have z2 := kP.c2
        have z3 := kP.c3
        have zf := kP.fr
        go_simp
        clear z0 z1 z2 z3 zf
        replace N := Box4.chain N kP (.int .i64 u1) (.int .i64 u2) (.int .i64 u3) (.int .i64 u4)
        replace kP := kP.put (.int .i64 u1) (.int .i64 u2) (.int .i64 u3) (.int .i64 u4)
        refine hK.out _ _ N (fun hHeld => ?_)
        clear hK K
        try simp only [Act.put, sA, sB, sC]
        refine wpAnyH_done (by kernel_rfl) ?_ _
        go_wp2
        go_meet
        case rel => exact ⟨_, rfl, kP, N⟩
    · skip
      go_simp
      have kP := Box4.new ww0 N.size (.int .i64 0) (.int .i64 0) (.int .i64 0) (.int .i64 0) 28
      have hb := below1 ww0 (.cells #[.int .i64 0, .int .i64 0, .int .i64 0, .int .i64 0] 28)
      replace N := N.trans (hb.mono N.size)
      clear hb
      generalize ww0.alloc (.cells #[.int .i64 0, .int .i64 0, .int .i64 0, .int .i64 0] 28) = ww13 at *
      refine hK.out _ _ N (fun hHeld => ?_)
      clear hK K
      try simp only [Act.put, sA, sB, sC]
      refine wpAnyH_ready (rs := [1]) (by kernel_rfl) (by simp) (AllReadyH.cons (gt rfl) (fun K hK => ?_) AllReadyH.nil)
      go_simp
      refine (toBox_any _ _ _ _ _).mono ?_
      rintro e ww14 ⟨rfl, hb⟩
      replace kP := kP.below hb
      replace N := N.trans (hb.mono N.size)
      clear hb
      refine hK.out _ _ N (fun hHeld => ?_)
      clear hK K
      try simp only [Act.put, sA, sB, sC]
      refine wpAnyH_ready (rs := [3]) (by kernel_rfl) (by simp) (AllReadyH.cons (gt rfl) (fun K hK => ?_) AllReadyH.nil)
      go_simp
      refine (toBox_any _ _ _ _ _).mono ?_
      rintro e ww15 ⟨rfl, hb⟩
      replace kP := kP.below hb
      replace N := N.trans (hb.mono N.size)
      clear hb
      refine hK.out _ _ N (fun hHeld => ?_)
      clear hK K
      try simp only [Act.put, sA, sB, sC]
      refine wpAnyH_ready (rs := [4]) (by kernel_rfl) (by simp) (AllReadyH.cons (gt rfl) (fun K hK => ?_) AllReadyH.nil)
      go_simp
      refine (implJoin _ _ _ _ _ _ _ _ _).mono ?_
      rintro e ww16 ⟨rfl, hb⟩
      rw [H1.out, H2.out, H3.out, H4.out]
      replace kP := kP.below hb
      replace N := N.trans (hb.mono N.size)
      clear hb
      refine hK.out _ _ N (fun hHeld => ?_)
      clear hK K
      try simp only [Act.put, sA, sB, sC]
      refine wpAnyH_ready (rs := [6]) (by kernel_rfl) (by simp) (AllReadyH.cons (gt rfl) (fun K hK => ?_) AllReadyH.nil)
      have z0 := kP.c0
      have z1 := kP.c1
      have z2 := kP.c2
      have z3 := kP.c3
      have zf := kP.fr
      go_simp
      clear z0 z1 z2 z3 zf
      replace N := Box4.chain N kP (.int .i64 u1) (.int .i64 u2) (.int .i64 u3) (.int .i64 u4)
      replace kP := kP.put (.int .i64 u1) (.int .i64 u2) (.int .i64 u3) (.int .i64 u4)
      refine hK.out _ _ N (fun hHeld => ?_)
      clear hK K
      try simp only [Act.put, sA, sB, sC]
      refine wpAnyH_done (by kernel_rfl) ?_ _
      go_wp2
      go_meet
      case rel => exact ⟨_, rfl, kP, N⟩
  rename World => W2
  obtain ⟨q, rfl, KQ, N2⟩ := hcut
  replace KP := KP.below N2
  clear k1 k2 k3 k4 k5 k6 k7 k8
  obtain ⟨c0, c1, c2, c3, _, _⟩ := KP
  obtain ⟨d0, d1, d2, d3, _, _⟩ := KQ
  go_wp2_with fail
  refine (eqBox_any _ _ _ _ _ _ _ _ _).mono ?_
  rintro e w5 ⟨rfl, hb⟩
  rw [eqX_refl]
  replace N2 := N2.trans (hb.mono N2.size)
  replace N1 := N1.trans (N2.mono N1.size)
  clear hb c0 c1 c2 c3 d0 d1 d2 d3
  go_wp2
  go_ret
  exact ⟨rfl, B0.trans (N1.mono B0.size)⟩
end Go.Proofs.Ytokmphhpnoocham
