/- The law on Gap: at every three points the program's Gap is the specification's, limb by limb; its answer owns its memory. -/
import Derived.Test.YtmdbndooigcflaaFracM
import Derived.Test.YtmdbndooigcflaaFracH
import Derived.Test.YtmdbndooigcflaaBase
import Derived.Test.YtmdbndooigcflaaPtW
import Derived.Test.YtmdbndooigcflaaGapI
import Derived.Test.YtmdbndooigcflaaGapS
import Derived.Deep.DeepCutAuto
namespace Go.Proofs.Ytmdbndooigcflaa
open Go.RowKit

set_option maxRecDepth 20000 in
set_option maxHeartbeats 16000000 in
theorem lawGap (x1 y1 x2 y2 x3 y3 : Int) (w : World) :
    Calls Try.prog 3 #[.agg #[.int .i64 x1, .int .i64 y1], .agg #[.int .i64 x2, .int .i64 y2], .agg #[.int .i64 x3, .int .i64 y3]] w fun e w' => e = .returned (.bool true) ∧ Below w.heap.size w w' := by
  obtain ⟨zs, HV1⟩ := limbs_mg (gN (tX x3 y3 - tX x2 y2) (tY x3 y3 - tY x2 y2) (tX x1 y1 - tX x2 y2) (tY x1 y1 - tY x2 y2))
  obtain ⟨ts, HV2⟩ := limbs_mg (gD (tX x3 y3 - tX x2 y2) (tY x3 y3 - tY x2 y2) (tX x1 y1 - tX x2 y2) (tY x1 y1 - tY x2 y2))
  have HV : Hid (Lim zs ∧ Nrm zs ∧ val zs = mg (gN (tX x3 y3 - tX x2 y2) (tY x3 y3 - tY x2 y2) (tX x1 y1 - tX x2 y2) (tY x1 y1 - tY x2 y2)) ∧ Lim ts ∧ Nrm ts ∧ val ts = mg (gD (tX x3 y3 - tX x2 y2) (tY x3 y3 - tY x2 y2) (tX x1 y1 - tX x2 y2) (tY x1 y1 - tY x2 y2))) := ⟨HV1.1, HV1.2.1, HV1.2.2, HV2.1, HV2.2.1, HV2.2.2⟩
  obtain ⟨hl2, hl3⟩ : zs.length ≤ 25 ∧ ts.length ≤ 25 := by
    have c := fun (a b c d : Int) => (tX_crd a b).dif (tX_crd c d)
    have d := fun (a b c d : Int) => (tY_crd a b).dif (tY_crd c d)
    have ex : tX x1 y1 - tX x2 y2 - (tX x3 y3 - tX x2 y2) = tX x1 y1 - tX x3 y3 := by omega
    have ey : tY x1 y1 - tY x2 y2 - (tY x3 y3 - tY x2 y2) = tY x1 y1 - tY x3 y3 := by omega
    have gb := g_bounds (c x3 y3 x2 y2) (d x3 y3 x2 y2) (c x1 y1 x2 y2) (d x1 y1 x2 y2) (by rw [ex]; exact c x1 y1 x3 y3) (by rw [ey]; exact d x1 y1 x3 y3)
    have e4 : (4294967296 : Int) ^ 4 = 340282366920938463463374607431768211456 := by decide
    exact ⟨Nat.le_trans (len_le HV1.1 HV1.2.1 (k := 4) (by rw [HV1.2.2, e4]; omega)) (by decide), Nat.le_trans (len_le HV2.1 HV2.2.1 (k := 4) (by rw [HV2.2.2, e4]; omega)) (by decide)⟩
  clear HV1 HV2
  obtain ⟨gz, HG⟩ : ∃ gz, Hid (decide ((gN (tX x3 y3 - tX x2 y2) (tY x3 y3 - tY x2 y2) (tX x1 y1 - tX x2 y2) (tY x1 y1 - tY x2 y2)) < 0) = gz) := ⟨_, rfl⟩
  obtain ⟨gy, HY⟩ : ∃ gy, Hid (decide ((gD (tX x3 y3 - tX x2 y2) (tY x3 y3 - tY x2 y2) (tX x1 y1 - tX x2 y2) (tY x1 y1 - tY x2 y2)) < 0) = gy) := ⟨_, rfl⟩
  obtain ⟨k0, k1, k2, k3, k4, k5⟩ := ptbox3 w x1 y1 x2 y2 x3 y3 23
  have B := ptbelow3 w x1 y1 x2 y2 x3 y3 23
  go_enter Try.func3, Try.ntmps3
  go_wp2_with fail
  generalize (((w.alloc (.cells #[.int .i64 x1, .int .i64 y1] 23)).alloc (.cells #[.int .i64 x2, .int .i64 y2] 23)).alloc (.cells #[.int .i64 x3, .int .i64 y3] 23)) = W0 at *
  go_cut [7] (fun s6 W => ∃ p a3 c3 b3 d3, s6 = .pointer (some ⟨p, 0, none⟩) ∧ Box4 W0.heap.size W p (.bool gz) (.slice a3 zs.length c3) (.bool gy) (.slice b3 ts.length d3) ∧ Own W0.heap.size W a3 c3 zs ∧ Own W0.heap.size W b3 d3 ts ∧ Apart a3 zs b3 ts ∧ some p ≠ rowOf a3 zs ∧ some p ≠ rowOf b3 ts ∧ Below W0.heap.size W0 W)
  case first =>
    as_aux_lemma =>
      refine wp_region_held_drew (S := Below W0.heap.size W0) (by kernel_rfl) ((Below.refl _ _).drew) (fun hHeld => ?_)
      have N : Below W0.heap.size W0 W0.drew := hHeld
      revert hHeld N
      generalize W0.drew = ww0
      intro hHeld N
      refine takeQ (i := 0) (gt rfl) (by kernel_rfl) (fun _ _ _ h => h) (by rfl) (by intro wq hSw; have q0 := bat hSw k0; have q1 := bat hSw k1; have q2 := bat hSw k2; have q3 := bat hSw k3; have q4 := bat hSw k4; have q5 := bat hSw k5; go_simp <;> with_reducible rfl) (by assumption) ?_
      try simp only [Act.put, sA, sB, sC]
      refine takeQ (i := 2) (gt rfl) (by kernel_rfl) (fun _ _ _ h => h) (by rfl) (by intro wq hSw; have q0 := bat hSw k0; have q1 := bat hSw k1; have q2 := bat hSw k2; have q3 := bat hSw k3; have q4 := bat hSw k4; have q5 := bat hSw k5; go_simp <;> with_reducible rfl) (by assumption) ?_
      try simp only [Act.put, sA, sB, sC]
      refine takeQ (i := 4) (gt rfl) (by kernel_rfl) (fun _ _ _ h => h) (by rfl) (by intro wq hSw; have q0 := bat hSw k0; have q1 := bat hSw k1; have q2 := bat hSw k2; have q3 := bat hSw k3; have q4 := bat hSw k4; have q5 := bat hSw k5; go_simp <;> with_reducible rfl) (by assumption) ?_
      try simp only [Act.put, sA, sB, sC]
      refine wpAnyH_ready (rs := [1, 7]) (by kernel_rfl) (by simp) (AllReadyH.cons (gt rfl) (fun K hK => ?_) (AllReadyH.cons (gt rfl) (fun K hK => ?_) AllReadyH.nil))
      · skip
        go_simp
        refine (toPt_any x1 y1 _).mono ?_
        rintro e1 ww1 ⟨rfl, hb⟩
        replace N := N.trans (hb.mono N.size)
        clear hb
        refine hK.out _ _ N (fun hHeld => ?_)
        clear hK K
        try simp only [Act.put, sA, sB, sC]
        refine wpAnyH_ready (rs := [3, 7]) (by kernel_rfl) (by simp) (AllReadyH.cons (gt rfl) (fun K hK => ?_) (AllReadyH.cons (gt rfl) (fun K hK => ?_) AllReadyH.nil))
        · skip
          go_simp
          refine (toPt_any x2 y2 _).mono ?_
          rintro e1 ww2 ⟨rfl, hb⟩
          replace N := N.trans (hb.mono N.size)
          clear hb
          refine hK.out _ _ N (fun hHeld => ?_)
          clear hK K
          try simp only [Act.put, sA, sB, sC]
          refine wpAnyH_ready (rs := [5, 7]) (by kernel_rfl) (by simp) (AllReadyH.cons (gt rfl) (fun K hK => ?_) (AllReadyH.cons (gt rfl) (fun K hK => ?_) AllReadyH.nil))
          · skip
            go_simp
            refine (toPt_any x3 y3 _).mono ?_
            rintro e1 ww3 ⟨rfl, hb⟩
            replace N := N.trans (hb.mono N.size)
            clear hb
            refine hK.out _ _ N (fun hHeld => ?_)
            clear hK K
            try simp only [Act.put, sA, sB, sC]
            refine wpAnyH_ready (rs := [6, 7]) (by kernel_rfl) (by simp) (AllReadyH.cons (gt rfl) (fun K hK => ?_) (AllReadyH.cons (gt rfl) (fun K hK => ?_) AllReadyH.nil))
            · skip
              go_simp
              refine (specGap x1 y1 x2 y2 x3 y3 _).mono ?_
              rintro e1 ww4 ⟨u, rfl, hI, hb⟩
              obtain ⟨a5, c5, b5, d5, rfl, hoz, hot, apz⟩ := hI.as HV.out
              rw [HG.out, HY.out]
              have bs := N.size
              clear hI
              replace N := N.trans (hb.mono N.size)
              clear hb
              refine hK.out _ _ N (fun hHeld => ?_)
              clear hK K
              try simp only [Act.put, sA, sB, sC]
              refine wpAnyH_ready (rs := [7]) (by kernel_rfl) (by simp) (AllReadyH.cons (gt rfl) (fun K hK => ?_) AllReadyH.nil)
              go_simp
              have kP := Box4.new ww4 N.size (.bool false) (.slice none 0 0) (.bool false) (.slice none 0 0) 28
              have hb := below1 ww4 (.cells #[.bool false, .slice none 0 0, .bool false, .slice none 0 0] 28)
              have r_kP_hoz := row_ne_high hoz.toCame (Nat.le_refl _)
              have r_kP_hot := row_ne_high hot.toCame (Nat.le_refl _)
              replace hoz := hoz.below hb
              replace hot := hot.below hb
              replace N := N.trans (hb.mono N.size)
              clear hb
              generalize ww4.alloc (.cells #[.bool false, .slice none 0 0, .bool false, .slice none 0 0] 28) = ww5 at *
              refine hK.out _ _ N (fun hHeld => ?_)
              clear hK K
              try simp only [Act.put, sA, sB, sC]
              refine wpAnyH_ready (rs := [8]) (by kernel_rfl) (by simp) (AllReadyH.cons (gt rfl) (fun K hK => ?_) AllReadyH.nil)
              have z0 := kP.c0
              have z1 := kP.c1
              have z2 := kP.c2
              have z3 := kP.c3
              have zf := kP.fr
              go_simp
              clear z0 z1 z2 z3 zf
              replace N := Box4.chain N kP (.bool gz) (.slice a5 zs.length c5) (.bool gy) (.slice b5 ts.length d5)
              replace hoz := hoz.put4 r_kP_hoz (.bool gz) (.slice a5 zs.length c5) (.bool gy) (.slice b5 ts.length d5)
              replace hot := hot.put4 r_kP_hot (.bool gz) (.slice a5 zs.length c5) (.bool gy) (.slice b5 ts.length d5)
              replace kP := kP.put (.bool gz) (.slice a5 zs.length c5) (.bool gy) (.slice b5 ts.length d5)
              refine hK.out _ _ N (fun hHeld => ?_)
              clear hK K
              try simp only [Act.put, sA, sB, sC]
              refine wpAnyH_done (by kernel_rfl) ?_ _
              go_wp2
              go_meet
              case rel => exact ⟨_, a5, c5, b5, d5, rfl, kP, hoz.base_le bs, hot.base_le bs, apz, r_kP_hoz, r_kP_hot, N⟩
            · skip
              go_simp
              have kP := Box4.new ww3 N.size (.bool false) (.slice none 0 0) (.bool false) (.slice none 0 0) 28
              have hb := below1 ww3 (.cells #[.bool false, .slice none 0 0, .bool false, .slice none 0 0] 28)
              replace N := N.trans (hb.mono N.size)
              clear hb
              generalize ww3.alloc (.cells #[.bool false, .slice none 0 0, .bool false, .slice none 0 0] 28) = ww7 at *
              refine hK.out _ _ N (fun hHeld => ?_)
              clear hK K
              try simp only [Act.put, sA, sB, sC]
              refine wpAnyH_ready (rs := [6]) (by kernel_rfl) (by simp) (AllReadyH.cons (gt rfl) (fun K hK => ?_) AllReadyH.nil)
              go_simp
              refine (specGap x1 y1 x2 y2 x3 y3 _).mono ?_
              rintro e1 ww8 ⟨u, rfl, hI, hb⟩
              obtain ⟨a5, c5, b5, d5, rfl, hoz, hot, apz⟩ := hI.as HV.out
              rw [HG.out, HY.out]
              have bs := N.size
              clear hI
              have r_kP_hoz := row_ne_low hoz kP.lt
              have r_kP_hot := row_ne_low hot kP.lt
              replace kP := kP.below hb
              replace N := N.trans (hb.mono N.size)
              clear hb
              refine hK.out _ _ N (fun hHeld => ?_)
              clear hK K
              try simp only [Act.put, sA, sB, sC]
              refine wpAnyH_ready (rs := [8]) (by kernel_rfl) (by simp) (AllReadyH.cons (gt rfl) (fun K hK => ?_) AllReadyH.nil)
              have z0 := kP.c0
              have z1 := kP.c1
              have z2 := kP.c2
              have z3 := kP.c3
              have zf := kP.fr
              go_simp
              clear z0 z1 z2 z3 zf
              replace N := Box4.chain N kP (.bool gz) (.slice a5 zs.length c5) (.bool gy) (.slice b5 ts.length d5)
              replace hoz := hoz.put4 r_kP_hoz (.bool gz) (.slice a5 zs.length c5) (.bool gy) (.slice b5 ts.length d5)
              replace hot := hot.put4 r_kP_hot (.bool gz) (.slice a5 zs.length c5) (.bool gy) (.slice b5 ts.length d5)
              replace kP := kP.put (.bool gz) (.slice a5 zs.length c5) (.bool gy) (.slice b5 ts.length d5)
              refine hK.out _ _ N (fun hHeld => ?_)
              clear hK K
              try simp only [Act.put, sA, sB, sC]
              refine wpAnyH_done (by kernel_rfl) ?_ _
              go_wp2
              go_meet
              case rel => exact ⟨_, a5, c5, b5, d5, rfl, kP, hoz.base_le bs, hot.base_le bs, apz, r_kP_hoz, r_kP_hot, N⟩
          · skip
            go_simp
            have kP := Box4.new ww2 N.size (.bool false) (.slice none 0 0) (.bool false) (.slice none 0 0) 28
            have hb := below1 ww2 (.cells #[.bool false, .slice none 0 0, .bool false, .slice none 0 0] 28)
            replace N := N.trans (hb.mono N.size)
            clear hb
            generalize ww2.alloc (.cells #[.bool false, .slice none 0 0, .bool false, .slice none 0 0] 28) = ww10 at *
            refine hK.out _ _ N (fun hHeld => ?_)
            clear hK K
            try simp only [Act.put, sA, sB, sC]
            refine wpAnyH_ready (rs := [5]) (by kernel_rfl) (by simp) (AllReadyH.cons (gt rfl) (fun K hK => ?_) AllReadyH.nil)
            go_simp
            refine (toPt_any x3 y3 _).mono ?_
            rintro e1 ww11 ⟨rfl, hb⟩
            replace kP := kP.below hb
            replace N := N.trans (hb.mono N.size)
            clear hb
            refine hK.out _ _ N (fun hHeld => ?_)
            clear hK K
            try simp only [Act.put, sA, sB, sC]
            refine wpAnyH_ready (rs := [6]) (by kernel_rfl) (by simp) (AllReadyH.cons (gt rfl) (fun K hK => ?_) AllReadyH.nil)
            go_simp
            refine (specGap x1 y1 x2 y2 x3 y3 _).mono ?_
            rintro e1 ww12 ⟨u, rfl, hI, hb⟩
            obtain ⟨a5, c5, b5, d5, rfl, hoz, hot, apz⟩ := hI.as HV.out
            rw [HG.out, HY.out]
            have bs := N.size
            clear hI
            have r_kP_hoz := row_ne_low hoz kP.lt
            have r_kP_hot := row_ne_low hot kP.lt
            replace kP := kP.below hb
            replace N := N.trans (hb.mono N.size)
            clear hb
            refine hK.out _ _ N (fun hHeld => ?_)
            clear hK K
            try simp only [Act.put, sA, sB, sC]
            refine wpAnyH_ready (rs := [8]) (by kernel_rfl) (by simp) (AllReadyH.cons (gt rfl) (fun K hK => ?_) AllReadyH.nil)
            have z0 := kP.c0
            have z1 := kP.c1
            have z2 := kP.c2
            have z3 := kP.c3
            have zf := kP.fr
            go_simp
            clear z0 z1 z2 z3 zf
            replace N := Box4.chain N kP (.bool gz) (.slice a5 zs.length c5) (.bool gy) (.slice b5 ts.length d5)
            replace hoz := hoz.put4 r_kP_hoz (.bool gz) (.slice a5 zs.length c5) (.bool gy) (.slice b5 ts.length d5)
            replace hot := hot.put4 r_kP_hot (.bool gz) (.slice a5 zs.length c5) (.bool gy) (.slice b5 ts.length d5)
            replace kP := kP.put (.bool gz) (.slice a5 zs.length c5) (.bool gy) (.slice b5 ts.length d5)
            refine hK.out _ _ N (fun hHeld => ?_)
            clear hK K
            try simp only [Act.put, sA, sB, sC]
            refine wpAnyH_done (by kernel_rfl) ?_ _
            go_wp2
            go_meet
            case rel => exact ⟨_, a5, c5, b5, d5, rfl, kP, hoz.base_le bs, hot.base_le bs, apz, r_kP_hoz, r_kP_hot, N⟩
        · skip
          go_simp
          have kP := Box4.new ww1 N.size (.bool false) (.slice none 0 0) (.bool false) (.slice none 0 0) 28
          have hb := below1 ww1 (.cells #[.bool false, .slice none 0 0, .bool false, .slice none 0 0] 28)
          replace N := N.trans (hb.mono N.size)
          clear hb
          generalize ww1.alloc (.cells #[.bool false, .slice none 0 0, .bool false, .slice none 0 0] 28) = ww14 at *
          refine hK.out _ _ N (fun hHeld => ?_)
          clear hK K
          try simp only [Act.put, sA, sB, sC]
          refine wpAnyH_ready (rs := [3]) (by kernel_rfl) (by simp) (AllReadyH.cons (gt rfl) (fun K hK => ?_) AllReadyH.nil)
          go_simp
          refine (toPt_any x2 y2 _).mono ?_
          rintro e1 ww15 ⟨rfl, hb⟩
          replace kP := kP.below hb
          replace N := N.trans (hb.mono N.size)
          clear hb
          refine hK.out _ _ N (fun hHeld => ?_)
          clear hK K
          try simp only [Act.put, sA, sB, sC]
          refine wpAnyH_ready (rs := [5]) (by kernel_rfl) (by simp) (AllReadyH.cons (gt rfl) (fun K hK => ?_) AllReadyH.nil)
          go_simp
          refine (toPt_any x3 y3 _).mono ?_
          rintro e1 ww16 ⟨rfl, hb⟩
          replace kP := kP.below hb
          replace N := N.trans (hb.mono N.size)
          clear hb
          refine hK.out _ _ N (fun hHeld => ?_)
          clear hK K
          try simp only [Act.put, sA, sB, sC]
          refine wpAnyH_ready (rs := [6]) (by kernel_rfl) (by simp) (AllReadyH.cons (gt rfl) (fun K hK => ?_) AllReadyH.nil)
          go_simp
          refine (specGap x1 y1 x2 y2 x3 y3 _).mono ?_
          rintro e1 ww17 ⟨u, rfl, hI, hb⟩
          obtain ⟨a5, c5, b5, d5, rfl, hoz, hot, apz⟩ := hI.as HV.out
          rw [HG.out, HY.out]
          have bs := N.size
          clear hI
          have r_kP_hoz := row_ne_low hoz kP.lt
          have r_kP_hot := row_ne_low hot kP.lt
          replace kP := kP.below hb
          replace N := N.trans (hb.mono N.size)
          clear hb
          refine hK.out _ _ N (fun hHeld => ?_)
          clear hK K
          try simp only [Act.put, sA, sB, sC]
          refine wpAnyH_ready (rs := [8]) (by kernel_rfl) (by simp) (AllReadyH.cons (gt rfl) (fun K hK => ?_) AllReadyH.nil)
          have z0 := kP.c0
          have z1 := kP.c1
          have z2 := kP.c2
          have z3 := kP.c3
          have zf := kP.fr
          go_simp
          clear z0 z1 z2 z3 zf
          replace N := Box4.chain N kP (.bool gz) (.slice a5 zs.length c5) (.bool gy) (.slice b5 ts.length d5)
          replace hoz := hoz.put4 r_kP_hoz (.bool gz) (.slice a5 zs.length c5) (.bool gy) (.slice b5 ts.length d5)
          replace hot := hot.put4 r_kP_hot (.bool gz) (.slice a5 zs.length c5) (.bool gy) (.slice b5 ts.length d5)
          replace kP := kP.put (.bool gz) (.slice a5 zs.length c5) (.bool gy) (.slice b5 ts.length d5)
          refine hK.out _ _ N (fun hHeld => ?_)
          clear hK K
          try simp only [Act.put, sA, sB, sC]
          refine wpAnyH_done (by kernel_rfl) ?_ _
          go_wp2
          go_meet
          case rel => exact ⟨_, a5, c5, b5, d5, rfl, kP, hoz.base_le bs, hot.base_le bs, apz, r_kP_hoz, r_kP_hot, N⟩
      · skip
        go_simp
        have kP := Box4.new ww0 N.size (.bool false) (.slice none 0 0) (.bool false) (.slice none 0 0) 28
        have hb := below1 ww0 (.cells #[.bool false, .slice none 0 0, .bool false, .slice none 0 0] 28)
        replace N := N.trans (hb.mono N.size)
        clear hb
        generalize ww0.alloc (.cells #[.bool false, .slice none 0 0, .bool false, .slice none 0 0] 28) = ww19 at *
        refine hK.out _ _ N (fun hHeld => ?_)
        clear hK K
        try simp only [Act.put, sA, sB, sC]
        refine wpAnyH_ready (rs := [1]) (by kernel_rfl) (by simp) (AllReadyH.cons (gt rfl) (fun K hK => ?_) AllReadyH.nil)
        go_simp
        refine (toPt_any x1 y1 _).mono ?_
        rintro e1 ww20 ⟨rfl, hb⟩
        replace kP := kP.below hb
        replace N := N.trans (hb.mono N.size)
        clear hb
        refine hK.out _ _ N (fun hHeld => ?_)
        clear hK K
        try simp only [Act.put, sA, sB, sC]
        refine wpAnyH_ready (rs := [3]) (by kernel_rfl) (by simp) (AllReadyH.cons (gt rfl) (fun K hK => ?_) AllReadyH.nil)
        go_simp
        refine (toPt_any x2 y2 _).mono ?_
        rintro e1 ww21 ⟨rfl, hb⟩
        replace kP := kP.below hb
        replace N := N.trans (hb.mono N.size)
        clear hb
        refine hK.out _ _ N (fun hHeld => ?_)
        clear hK K
        try simp only [Act.put, sA, sB, sC]
        refine wpAnyH_ready (rs := [5]) (by kernel_rfl) (by simp) (AllReadyH.cons (gt rfl) (fun K hK => ?_) AllReadyH.nil)
        go_simp
        refine (toPt_any x3 y3 _).mono ?_
        rintro e1 ww22 ⟨rfl, hb⟩
        replace kP := kP.below hb
        replace N := N.trans (hb.mono N.size)
        clear hb
        refine hK.out _ _ N (fun hHeld => ?_)
        clear hK K
        try simp only [Act.put, sA, sB, sC]
        refine wpAnyH_ready (rs := [6]) (by kernel_rfl) (by simp) (AllReadyH.cons (gt rfl) (fun K hK => ?_) AllReadyH.nil)
        go_simp
        refine (specGap x1 y1 x2 y2 x3 y3 _).mono ?_
        rintro e1 ww23 ⟨u, rfl, hI, hb⟩
        obtain ⟨a5, c5, b5, d5, rfl, hoz, hot, apz⟩ := hI.as HV.out
        rw [HG.out, HY.out]
        have bs := N.size
        clear hI
        have r_kP_hoz := row_ne_low hoz kP.lt
        have r_kP_hot := row_ne_low hot kP.lt
        replace kP := kP.below hb
        replace N := N.trans (hb.mono N.size)
        clear hb
        refine hK.out _ _ N (fun hHeld => ?_)
        clear hK K
        try simp only [Act.put, sA, sB, sC]
        refine wpAnyH_ready (rs := [8]) (by kernel_rfl) (by simp) (AllReadyH.cons (gt rfl) (fun K hK => ?_) AllReadyH.nil)
        have z0 := kP.c0
        have z1 := kP.c1
        have z2 := kP.c2
        have z3 := kP.c3
        have zf := kP.fr
        go_simp
        clear z0 z1 z2 z3 zf
        replace N := Box4.chain N kP (.bool gz) (.slice a5 zs.length c5) (.bool gy) (.slice b5 ts.length d5)
        replace hoz := hoz.put4 r_kP_hoz (.bool gz) (.slice a5 zs.length c5) (.bool gy) (.slice b5 ts.length d5)
        replace hot := hot.put4 r_kP_hot (.bool gz) (.slice a5 zs.length c5) (.bool gy) (.slice b5 ts.length d5)
        replace kP := kP.put (.bool gz) (.slice a5 zs.length c5) (.bool gy) (.slice b5 ts.length d5)
        refine hK.out _ _ N (fun hHeld => ?_)
        clear hK K
        try simp only [Act.put, sA, sB, sC]
        refine wpAnyH_done (by kernel_rfl) ?_ _
        go_wp2
        go_meet
        case rel => exact ⟨_, a5, c5, b5, d5, rfl, kP, hoz.base_le bs, hot.base_le bs, apz, r_kP_hoz, r_kP_hot, N⟩
  rename World => W1
  obtain ⟨p, a3, c3, b3, d3, rfl, KP, ho0, ho1, _, _, _, hb⟩ := hcut
  obtain ⟨kW0, kW1, kW2, kW3, _, _⟩ := KP
  replace k0 := bat hb k0
  replace k1 := bat hb k1
  replace k2 := bat hb k2
  replace k3 := bat hb k3
  replace k4 := bat hb k4
  replace k5 := bat hb k5
  replace B := B.trans (hb.mono B.size)
  clear hb
  go_wp2_with fail
  go_cut [8] (fun s6 W => ∃ p a3 c3 b3 d3, s6 = .pointer (some ⟨p, 0, none⟩) ∧ Box4 W1.heap.size W p (.bool gz) (.slice a3 zs.length c3) (.bool gy) (.slice b3 ts.length d3) ∧ Own W1.heap.size W a3 c3 zs ∧ Own W1.heap.size W b3 d3 ts ∧ Apart a3 zs b3 ts ∧ some p ≠ rowOf a3 zs ∧ some p ≠ rowOf b3 ts ∧ Below W1.heap.size W1 W)
  case first =>
    as_aux_lemma =>
      refine wp_region_held_drew (S := Below W1.heap.size W1) (by kernel_rfl) ((Below.refl _ _).drew) (fun hHeld => ?_)
      have N : Below W1.heap.size W1 W1.drew := hHeld
      revert hHeld N
      generalize W1.drew = ww0
      intro hHeld N
      refine takeQ (i := 0) (gt rfl) (by kernel_rfl) (fun _ _ _ h => h) (by rfl) (by intro wq hSw; have q0 := bat hSw k0; have q1 := bat hSw k1; have q2 := bat hSw k2; have q3 := bat hSw k3; have q4 := bat hSw k4; have q5 := bat hSw k5; go_simp <;> with_reducible rfl) (by assumption) ?_
      try simp only [Act.put, sA, sB, sC]
      refine takeQ (i := 2) (gt rfl) (by kernel_rfl) (fun _ _ _ h => h) (by rfl) (by intro wq hSw; have q0 := bat hSw k0; have q1 := bat hSw k1; have q2 := bat hSw k2; have q3 := bat hSw k3; have q4 := bat hSw k4; have q5 := bat hSw k5; go_simp <;> with_reducible rfl) (by assumption) ?_
      try simp only [Act.put, sA, sB, sC]
      refine takeQ (i := 4) (gt rfl) (by kernel_rfl) (fun _ _ _ h => h) (by rfl) (by intro wq hSw; have q0 := bat hSw k0; have q1 := bat hSw k1; have q2 := bat hSw k2; have q3 := bat hSw k3; have q4 := bat hSw k4; have q5 := bat hSw k5; go_simp <;> with_reducible rfl) (by assumption) ?_
      try simp only [Act.put, sA, sB, sC]
      refine wpAnyH_ready (rs := [1, 7]) (by kernel_rfl) (by simp) (AllReadyH.cons (gt rfl) (fun K hK => ?_) (AllReadyH.cons (gt rfl) (fun K hK => ?_) AllReadyH.nil))
      · skip
        go_simp
        refine (toPt_any x1 y1 _).mono ?_
        rintro e1 ww1 ⟨rfl, hb⟩
        replace N := N.trans (hb.mono N.size)
        clear hb
        refine hK.out _ _ N (fun hHeld => ?_)
        clear hK K
        try simp only [Act.put, sA, sB, sC]
        refine wpAnyH_ready (rs := [3, 7]) (by kernel_rfl) (by simp) (AllReadyH.cons (gt rfl) (fun K hK => ?_) (AllReadyH.cons (gt rfl) (fun K hK => ?_) AllReadyH.nil))
        · skip
          go_simp
          refine (toPt_any x2 y2 _).mono ?_
          rintro e1 ww2 ⟨rfl, hb⟩
          replace N := N.trans (hb.mono N.size)
          clear hb
          refine hK.out _ _ N (fun hHeld => ?_)
          clear hK K
          try simp only [Act.put, sA, sB, sC]
          refine wpAnyH_ready (rs := [5, 7]) (by kernel_rfl) (by simp) (AllReadyH.cons (gt rfl) (fun K hK => ?_) (AllReadyH.cons (gt rfl) (fun K hK => ?_) AllReadyH.nil))
          · skip
            go_simp
            refine (toPt_any x3 y3 _).mono ?_
            rintro e1 ww3 ⟨rfl, hb⟩
            replace N := N.trans (hb.mono N.size)
            clear hb
            refine hK.out _ _ N (fun hHeld => ?_)
            clear hK K
            try simp only [Act.put, sA, sB, sC]
            refine wpAnyH_ready (rs := [6, 7]) (by kernel_rfl) (by simp) (AllReadyH.cons (gt rfl) (fun K hK => ?_) (AllReadyH.cons (gt rfl) (fun K hK => ?_) AllReadyH.nil))
            · skip
              go_simp
              refine (implGap x1 y1 x2 y2 x3 y3 _).mono ?_
              rintro e1 ww4 ⟨u, rfl, hI, hb⟩
              obtain ⟨a5, c5, b5, d5, rfl, hoz, hot, apz⟩ := hI.as HV.out
              rw [HG.out, HY.out]
              have bs := N.size
              clear hI
              replace N := N.trans (hb.mono N.size)
              clear hb
              refine hK.out _ _ N (fun hHeld => ?_)
              clear hK K
              try simp only [Act.put, sA, sB, sC]
              refine wpAnyH_ready (rs := [7]) (by kernel_rfl) (by simp) (AllReadyH.cons (gt rfl) (fun K hK => ?_) AllReadyH.nil)
              go_simp
              have kP := Box4.new ww4 N.size (.bool false) (.slice none 0 0) (.bool false) (.slice none 0 0) 28
              have hb := below1 ww4 (.cells #[.bool false, .slice none 0 0, .bool false, .slice none 0 0] 28)
              have r_kP_hoz := row_ne_high hoz.toCame (Nat.le_refl _)
              have r_kP_hot := row_ne_high hot.toCame (Nat.le_refl _)
              replace hoz := hoz.below hb
              replace hot := hot.below hb
              replace N := N.trans (hb.mono N.size)
              clear hb
              generalize ww4.alloc (.cells #[.bool false, .slice none 0 0, .bool false, .slice none 0 0] 28) = ww5 at *
              refine hK.out _ _ N (fun hHeld => ?_)
              clear hK K
              try simp only [Act.put, sA, sB, sC]
              refine wpAnyH_ready (rs := [8]) (by kernel_rfl) (by simp) (AllReadyH.cons (gt rfl) (fun K hK => ?_) AllReadyH.nil)
              have z0 := kP.c0
              have z1 := kP.c1
              have z2 := kP.c2
              have z3 := kP.c3
              have zf := kP.fr
              go_simp
              clear z0 z1 z2 z3 zf
              replace N := Box4.chain N kP (.bool gz) (.slice a5 zs.length c5) (.bool gy) (.slice b5 ts.length d5)
              replace hoz := hoz.put4 r_kP_hoz (.bool gz) (.slice a5 zs.length c5) (.bool gy) (.slice b5 ts.length d5)
              replace hot := hot.put4 r_kP_hot (.bool gz) (.slice a5 zs.length c5) (.bool gy) (.slice b5 ts.length d5)
              replace kP := kP.put (.bool gz) (.slice a5 zs.length c5) (.bool gy) (.slice b5 ts.length d5)
              refine hK.out _ _ N (fun hHeld => ?_)
              clear hK K
              try simp only [Act.put, sA, sB, sC]
              refine wpAnyH_done (by kernel_rfl) ?_ _
              go_wp2
              go_meet
              case rel => exact ⟨_, a5, c5, b5, d5, rfl, kP, hoz.base_le bs, hot.base_le bs, apz, r_kP_hoz, r_kP_hot, N⟩
            · skip
              go_simp
              have kP := Box4.new ww3 N.size (.bool false) (.slice none 0 0) (.bool false) (.slice none 0 0) 28
              have hb := below1 ww3 (.cells #[.bool false, .slice none 0 0, .bool false, .slice none 0 0] 28)
              replace N := N.trans (hb.mono N.size)
              clear hb
              generalize ww3.alloc (.cells #[.bool false, .slice none 0 0, .bool false, .slice none 0 0] 28) = ww7 at *
              refine hK.out _ _ N (fun hHeld => ?_)
              clear hK K
              try simp only [Act.put, sA, sB, sC]
              refine wpAnyH_ready (rs := [6]) (by kernel_rfl) (by simp) (AllReadyH.cons (gt rfl) (fun K hK => ?_) AllReadyH.nil)
              go_simp
              refine (implGap x1 y1 x2 y2 x3 y3 _).mono ?_
              rintro e1 ww8 ⟨u, rfl, hI, hb⟩
              obtain ⟨a5, c5, b5, d5, rfl, hoz, hot, apz⟩ := hI.as HV.out
              rw [HG.out, HY.out]
              have bs := N.size
              clear hI
              have r_kP_hoz := row_ne_low hoz kP.lt
              have r_kP_hot := row_ne_low hot kP.lt
              replace kP := kP.below hb
              replace N := N.trans (hb.mono N.size)
              clear hb
              refine hK.out _ _ N (fun hHeld => ?_)
              clear hK K
              try simp only [Act.put, sA, sB, sC]
              refine wpAnyH_ready (rs := [8]) (by kernel_rfl) (by simp) (AllReadyH.cons (gt rfl) (fun K hK => ?_) AllReadyH.nil)
              have z0 := kP.c0
              have z1 := kP.c1
              have z2 := kP.c2
              have z3 := kP.c3
              have zf := kP.fr
              go_simp
              clear z0 z1 z2 z3 zf
              replace N := Box4.chain N kP (.bool gz) (.slice a5 zs.length c5) (.bool gy) (.slice b5 ts.length d5)
              replace hoz := hoz.put4 r_kP_hoz (.bool gz) (.slice a5 zs.length c5) (.bool gy) (.slice b5 ts.length d5)
              replace hot := hot.put4 r_kP_hot (.bool gz) (.slice a5 zs.length c5) (.bool gy) (.slice b5 ts.length d5)
              replace kP := kP.put (.bool gz) (.slice a5 zs.length c5) (.bool gy) (.slice b5 ts.length d5)
              refine hK.out _ _ N (fun hHeld => ?_)
              clear hK K
              try simp only [Act.put, sA, sB, sC]
              refine wpAnyH_done (by kernel_rfl) ?_ _
              go_wp2
              go_meet
              case rel => exact ⟨_, a5, c5, b5, d5, rfl, kP, hoz.base_le bs, hot.base_le bs, apz, r_kP_hoz, r_kP_hot, N⟩
          · skip
            go_simp
            have kP := Box4.new ww2 N.size (.bool false) (.slice none 0 0) (.bool false) (.slice none 0 0) 28
            have hb := below1 ww2 (.cells #[.bool false, .slice none 0 0, .bool false, .slice none 0 0] 28)
            replace N := N.trans (hb.mono N.size)
            clear hb
            generalize ww2.alloc (.cells #[.bool false, .slice none 0 0, .bool false, .slice none 0 0] 28) = ww10 at *
            refine hK.out _ _ N (fun hHeld => ?_)
            clear hK K
            try simp only [Act.put, sA, sB, sC]
            refine wpAnyH_ready (rs := [5]) (by kernel_rfl) (by simp) (AllReadyH.cons (gt rfl) (fun K hK => ?_) AllReadyH.nil)
            go_simp
            refine (toPt_any x3 y3 _).mono ?_
            rintro e1 ww11 ⟨rfl, hb⟩
            replace kP := kP.below hb
            replace N := N.trans (hb.mono N.size)
            clear hb
            refine hK.out _ _ N (fun hHeld => ?_)
            clear hK K
            try simp only [Act.put, sA, sB, sC]
            refine wpAnyH_ready (rs := [6]) (by kernel_rfl) (by simp) (AllReadyH.cons (gt rfl) (fun K hK => ?_) AllReadyH.nil)
            go_simp
            refine (implGap x1 y1 x2 y2 x3 y3 _).mono ?_
            rintro e1 ww12 ⟨u, rfl, hI, hb⟩
            obtain ⟨a5, c5, b5, d5, rfl, hoz, hot, apz⟩ := hI.as HV.out
            rw [HG.out, HY.out]
            have bs := N.size
            clear hI
            have r_kP_hoz := row_ne_low hoz kP.lt
            have r_kP_hot := row_ne_low hot kP.lt
            replace kP := kP.below hb
            replace N := N.trans (hb.mono N.size)
            clear hb
            refine hK.out _ _ N (fun hHeld => ?_)
            clear hK K
            try simp only [Act.put, sA, sB, sC]
            refine wpAnyH_ready (rs := [8]) (by kernel_rfl) (by simp) (AllReadyH.cons (gt rfl) (fun K hK => ?_) AllReadyH.nil)
            have z0 := kP.c0
            have z1 := kP.c1
            have z2 := kP.c2
            have z3 := kP.c3
            have zf := kP.fr
            go_simp
            clear z0 z1 z2 z3 zf
            replace N := Box4.chain N kP (.bool gz) (.slice a5 zs.length c5) (.bool gy) (.slice b5 ts.length d5)
            replace hoz := hoz.put4 r_kP_hoz (.bool gz) (.slice a5 zs.length c5) (.bool gy) (.slice b5 ts.length d5)
            replace hot := hot.put4 r_kP_hot (.bool gz) (.slice a5 zs.length c5) (.bool gy) (.slice b5 ts.length d5)
            replace kP := kP.put (.bool gz) (.slice a5 zs.length c5) (.bool gy) (.slice b5 ts.length d5)
            refine hK.out _ _ N (fun hHeld => ?_)
            clear hK K
            try simp only [Act.put, sA, sB, sC]
            refine wpAnyH_done (by kernel_rfl) ?_ _
            go_wp2
            go_meet
            case rel => exact ⟨_, a5, c5, b5, d5, rfl, kP, hoz.base_le bs, hot.base_le bs, apz, r_kP_hoz, r_kP_hot, N⟩
        · skip
          go_simp
          have kP := Box4.new ww1 N.size (.bool false) (.slice none 0 0) (.bool false) (.slice none 0 0) 28
          have hb := below1 ww1 (.cells #[.bool false, .slice none 0 0, .bool false, .slice none 0 0] 28)
          replace N := N.trans (hb.mono N.size)
          clear hb
          generalize ww1.alloc (.cells #[.bool false, .slice none 0 0, .bool false, .slice none 0 0] 28) = ww14 at *
          refine hK.out _ _ N (fun hHeld => ?_)
          clear hK K
          try simp only [Act.put, sA, sB, sC]
          refine wpAnyH_ready (rs := [3]) (by kernel_rfl) (by simp) (AllReadyH.cons (gt rfl) (fun K hK => ?_) AllReadyH.nil)
          go_simp
          refine (toPt_any x2 y2 _).mono ?_
          rintro e1 ww15 ⟨rfl, hb⟩
          replace kP := kP.below hb
          replace N := N.trans (hb.mono N.size)
          clear hb
          refine hK.out _ _ N (fun hHeld => ?_)
          clear hK K
          try simp only [Act.put, sA, sB, sC]
          refine wpAnyH_ready (rs := [5]) (by kernel_rfl) (by simp) (AllReadyH.cons (gt rfl) (fun K hK => ?_) AllReadyH.nil)
          go_simp
          refine (toPt_any x3 y3 _).mono ?_
          rintro e1 ww16 ⟨rfl, hb⟩
          replace kP := kP.below hb
          replace N := N.trans (hb.mono N.size)
          clear hb
          refine hK.out _ _ N (fun hHeld => ?_)
          clear hK K
          try simp only [Act.put, sA, sB, sC]
          refine wpAnyH_ready (rs := [6]) (by kernel_rfl) (by simp) (AllReadyH.cons (gt rfl) (fun K hK => ?_) AllReadyH.nil)
          go_simp
          refine (implGap x1 y1 x2 y2 x3 y3 _).mono ?_
          rintro e1 ww17 ⟨u, rfl, hI, hb⟩
          obtain ⟨a5, c5, b5, d5, rfl, hoz, hot, apz⟩ := hI.as HV.out
          rw [HG.out, HY.out]
          have bs := N.size
          clear hI
          have r_kP_hoz := row_ne_low hoz kP.lt
          have r_kP_hot := row_ne_low hot kP.lt
          replace kP := kP.below hb
          replace N := N.trans (hb.mono N.size)
          clear hb
          refine hK.out _ _ N (fun hHeld => ?_)
          clear hK K
          try simp only [Act.put, sA, sB, sC]
          refine wpAnyH_ready (rs := [8]) (by kernel_rfl) (by simp) (AllReadyH.cons (gt rfl) (fun K hK => ?_) AllReadyH.nil)
          have z0 := kP.c0
          have z1 := kP.c1
          have z2 := kP.c2
          have z3 := kP.c3
          have zf := kP.fr
          go_simp
          clear z0 z1 z2 z3 zf
          replace N := Box4.chain N kP (.bool gz) (.slice a5 zs.length c5) (.bool gy) (.slice b5 ts.length d5)
          replace hoz := hoz.put4 r_kP_hoz (.bool gz) (.slice a5 zs.length c5) (.bool gy) (.slice b5 ts.length d5)
          replace hot := hot.put4 r_kP_hot (.bool gz) (.slice a5 zs.length c5) (.bool gy) (.slice b5 ts.length d5)
          replace kP := kP.put (.bool gz) (.slice a5 zs.length c5) (.bool gy) (.slice b5 ts.length d5)
          refine hK.out _ _ N (fun hHeld => ?_)
          clear hK K
          try simp only [Act.put, sA, sB, sC]
          refine wpAnyH_done (by kernel_rfl) ?_ _
          go_wp2
          go_meet
          case rel => exact ⟨_, a5, c5, b5, d5, rfl, kP, hoz.base_le bs, hot.base_le bs, apz, r_kP_hoz, r_kP_hot, N⟩
      · skip
        go_simp
        have kP := Box4.new ww0 N.size (.bool false) (.slice none 0 0) (.bool false) (.slice none 0 0) 28
        have hb := below1 ww0 (.cells #[.bool false, .slice none 0 0, .bool false, .slice none 0 0] 28)
        replace N := N.trans (hb.mono N.size)
        clear hb
        generalize ww0.alloc (.cells #[.bool false, .slice none 0 0, .bool false, .slice none 0 0] 28) = ww19 at *
        refine hK.out _ _ N (fun hHeld => ?_)
        clear hK K
        try simp only [Act.put, sA, sB, sC]
        refine wpAnyH_ready (rs := [1]) (by kernel_rfl) (by simp) (AllReadyH.cons (gt rfl) (fun K hK => ?_) AllReadyH.nil)
        go_simp
        refine (toPt_any x1 y1 _).mono ?_
        rintro e1 ww20 ⟨rfl, hb⟩
        replace kP := kP.below hb
        replace N := N.trans (hb.mono N.size)
        clear hb
        refine hK.out _ _ N (fun hHeld => ?_)
        clear hK K
        try simp only [Act.put, sA, sB, sC]
        refine wpAnyH_ready (rs := [3]) (by kernel_rfl) (by simp) (AllReadyH.cons (gt rfl) (fun K hK => ?_) AllReadyH.nil)
        go_simp
        refine (toPt_any x2 y2 _).mono ?_
        rintro e1 ww21 ⟨rfl, hb⟩
        replace kP := kP.below hb
        replace N := N.trans (hb.mono N.size)
        clear hb
        refine hK.out _ _ N (fun hHeld => ?_)
        clear hK K
        try simp only [Act.put, sA, sB, sC]
        refine wpAnyH_ready (rs := [5]) (by kernel_rfl) (by simp) (AllReadyH.cons (gt rfl) (fun K hK => ?_) AllReadyH.nil)
        go_simp
        refine (toPt_any x3 y3 _).mono ?_
        rintro e1 ww22 ⟨rfl, hb⟩
        replace kP := kP.below hb
        replace N := N.trans (hb.mono N.size)
        clear hb
        refine hK.out _ _ N (fun hHeld => ?_)
        clear hK K
        try simp only [Act.put, sA, sB, sC]
        refine wpAnyH_ready (rs := [6]) (by kernel_rfl) (by simp) (AllReadyH.cons (gt rfl) (fun K hK => ?_) AllReadyH.nil)
        go_simp
        refine (implGap x1 y1 x2 y2 x3 y3 _).mono ?_
        rintro e1 ww23 ⟨u, rfl, hI, hb⟩
        obtain ⟨a5, c5, b5, d5, rfl, hoz, hot, apz⟩ := hI.as HV.out
        rw [HG.out, HY.out]
        have bs := N.size
        clear hI
        have r_kP_hoz := row_ne_low hoz kP.lt
        have r_kP_hot := row_ne_low hot kP.lt
        replace kP := kP.below hb
        replace N := N.trans (hb.mono N.size)
        clear hb
        refine hK.out _ _ N (fun hHeld => ?_)
        clear hK K
        try simp only [Act.put, sA, sB, sC]
        refine wpAnyH_ready (rs := [8]) (by kernel_rfl) (by simp) (AllReadyH.cons (gt rfl) (fun K hK => ?_) AllReadyH.nil)
        have z0 := kP.c0
        have z1 := kP.c1
        have z2 := kP.c2
        have z3 := kP.c3
        have zf := kP.fr
        go_simp
        clear z0 z1 z2 z3 zf
        replace N := Box4.chain N kP (.bool gz) (.slice a5 zs.length c5) (.bool gy) (.slice b5 ts.length d5)
        replace hoz := hoz.put4 r_kP_hoz (.bool gz) (.slice a5 zs.length c5) (.bool gy) (.slice b5 ts.length d5)
        replace hot := hot.put4 r_kP_hot (.bool gz) (.slice a5 zs.length c5) (.bool gy) (.slice b5 ts.length d5)
        replace kP := kP.put (.bool gz) (.slice a5 zs.length c5) (.bool gy) (.slice b5 ts.length d5)
        refine hK.out _ _ N (fun hHeld => ?_)
        clear hK K
        try simp only [Act.put, sA, sB, sC]
        refine wpAnyH_done (by kernel_rfl) ?_ _
        go_wp2
        go_meet
        case rel => exact ⟨_, a5, c5, b5, d5, rfl, kP, hoz.base_le bs, hot.base_le bs, apz, r_kP_hoz, r_kP_hot, N⟩
  rename World => W2
  obtain ⟨p1, a7, c7, b7, d7, rfl, KP, hog, hoh, apg, r_kG_hog, r_kG_hoh, hb⟩ := hcut
  obtain ⟨kG0, kG1, kG2, kG3, _, _⟩ := KP
  have ap_ho0_hog := apart_later ho0.toCame hog
  have ap_ho1_hog := apart_later ho1.toCame hog
  have r_kW_hog := row_ne_low hog (World.block_lt_of_cell? _ _ kW0)
  have r_b0_hog := row_ne_low hog (World.block_lt_of_cell? _ _ k0)
  have r_b1_hog := row_ne_low hog (World.block_lt_of_cell? _ _ k2)
  have r_b2_hog := row_ne_low hog (World.block_lt_of_cell? _ _ k4)
  have ap_ho0_hoh := apart_later ho0.toCame hoh
  have ap_ho1_hoh := apart_later ho1.toCame hoh
  have r_kW_hoh := row_ne_low hoh (World.block_lt_of_cell? _ _ kW0)
  have r_b0_hoh := row_ne_low hoh (World.block_lt_of_cell? _ _ k0)
  have r_b1_hoh := row_ne_low hoh (World.block_lt_of_cell? _ _ k2)
  have r_b2_hoh := row_ne_low hoh (World.block_lt_of_cell? _ _ k4)
  have sB_hog := B.size
  have S_hog := hb.size
  have HAP_hog : Hid (∀ q off, a7 = some ⟨q, off, none⟩ → zs ≠ [] → rowOf b7 ts ≠ some q) := apg
  clear apg
  replace k0 := bat hb k0
  replace k1 := bat hb k1
  replace k2 := bat hb k2
  replace k3 := bat hb k3
  replace k4 := bat hb k4
  replace k5 := bat hb k5
  replace kW0 := bat hb kW0
  replace kW1 := bat hb kW1
  replace kW2 := bat hb kW2
  replace kW3 := bat hb kW3
  replace ho0 := ho0.below hb
  replace ho1 := ho1.below hb
  replace B := B.trans (hb.mono B.size)
  clear hb
  go_wp2_with fail
  refine (eqF gz gy a7 a3 b7 b3 c7 c3 d7 d3 zs ts _ hog.toSees ho0.toSees hoh.toSees ho1.toSees).mono ?_
  rintro e w7 ⟨rfl, hb⟩
  replace k0 := bat hb k0
  replace k1 := bat hb k1
  replace k2 := bat hb k2
  replace k3 := bat hb k3
  replace k4 := bat hb k4
  replace k5 := bat hb k5
  replace kW0 := bat hb kW0
  replace kW1 := bat hb kW1
  replace kW2 := bat hb kW2
  replace kW3 := bat hb kW3
  replace kG0 := bat hb kG0
  replace kG1 := bat hb kG1
  replace kG2 := bat hb kG2
  replace kG3 := bat hb kG3
  replace ho0 := ho0.below hb
  replace ho1 := ho1.below hb
  replace hog := hog.below hb
  replace hoh := hoh.below hb
  replace S_hog := Nat.le_trans S_hog hb.size
  replace B := B.trans (hb.mono B.size)
  clear hb
  go_wp2_with fail
  refine (markF _ gz gy a7 b7 c7 d7 zs ts 1 _ hog hoh HAP_hog.out (by decide) (by omega)).mono ?_
  rintro e w15 ⟨rfl, wm, g1, g2, hogm, hohm⟩
  replace B := B.trans ((below_two hog hoh g1 g2 S_hog).mono sB_hog)
  replace k0 := g2.cell (g1.cell k0 r_b0_hog) r_b0_hoh
  replace k1 := g2.cell (g1.cell k1 r_b0_hog) r_b0_hoh
  replace k2 := g2.cell (g1.cell k2 r_b1_hog) r_b1_hoh
  replace k3 := g2.cell (g1.cell k3 r_b1_hog) r_b1_hoh
  replace k4 := g2.cell (g1.cell k4 r_b2_hog) r_b2_hoh
  replace k5 := g2.cell (g1.cell k5 r_b2_hog) r_b2_hoh
  clear r_b0_hog r_b0_hoh r_b1_hog r_b1_hoh r_b2_hog r_b2_hoh
  replace kW0 := g2.cell (g1.cell kW0 r_kW_hog) r_kW_hoh
  replace kW1 := g2.cell (g1.cell kW1 r_kW_hog) r_kW_hoh
  replace kW2 := g2.cell (g1.cell kW2 r_kW_hog) r_kW_hoh
  replace kW3 := g2.cell (g1.cell kW3 r_kW_hog) r_kW_hoh
  replace kG0 := g2.cell (g1.cell kG0 r_kG_hog) r_kG_hoh
  replace kG1 := g2.cell (g1.cell kG1 r_kG_hog) r_kG_hoh
  replace kG2 := g2.cell (g1.cell kG2 r_kG_hog) r_kG_hoh
  replace kG3 := g2.cell (g1.cell kG3 r_kG_hog) r_kG_hoh
  replace ho0 := (ho0.kept g1 ap_ho0_hog).kept g2 ap_ho0_hoh
  replace ho1 := (ho1.kept g1 ap_ho1_hog).kept g2 ap_ho1_hoh
  clear g1 g2 hog hoh HAP_hog sB_hog S_hog  r_kW_hog r_kW_hoh r_kG_hog r_kG_hoh ap_ho0_hog ap_ho0_hoh ap_ho1_hog ap_ho1_hoh
  go_wp2_with fail
  refine (heldF gz gy a7 b7 c7 d7 zs.length ts.length 1 _ hogm.toSees hohm.toSees (by decide) (by omega)).mono ?_
  rintro e w16 ⟨rfl, hb⟩
  replace k0 := bat hb k0
  replace k1 := bat hb k1
  replace k2 := bat hb k2
  replace k3 := bat hb k3
  replace k4 := bat hb k4
  replace k5 := bat hb k5
  replace kW0 := bat hb kW0
  replace kW1 := bat hb kW1
  replace kW2 := bat hb kW2
  replace kW3 := bat hb kW3
  replace kG0 := bat hb kG0
  replace kG1 := bat hb kG1
  replace kG2 := bat hb kG2
  replace kG3 := bat hb kG3
  replace ho0 := ho0.below hb
  replace ho1 := ho1.below hb
  replace hogm := hogm.below hb
  replace hohm := hohm.below hb
  replace B := B.trans (hb.mono B.size)
  clear hb
  have hk1 : decide ((1 : Int) + zs.length + ts.length < 0) = false := by simp; omega
  go_wp2_with fail
  clear hk1
  go_cut [11] (fun s6 W => ∃ p a3 c3 b3 d3, s6 = .pointer (some ⟨p, 0, none⟩) ∧ Box4 w16.heap.size W p (.bool gz) (.slice a3 zs.length c3) (.bool gy) (.slice b3 ts.length d3) ∧ Own w16.heap.size W a3 c3 zs ∧ Own w16.heap.size W b3 d3 ts ∧ Apart a3 zs b3 ts ∧ some p ≠ rowOf a3 zs ∧ some p ≠ rowOf b3 ts ∧ Below w16.heap.size w16 W)
  case first =>
    as_aux_lemma =>
      refine wp_region_held_drew (S := Below w16.heap.size w16) (by kernel_rfl) ((Below.refl _ _).drew) (fun hHeld => ?_)
      have N : Below w16.heap.size w16 w16.drew := hHeld
      revert hHeld N
      generalize w16.drew = ww0
      intro hHeld N
      refine takeQ (i := 0) (gt rfl) (by kernel_rfl) (fun _ _ _ h => h) (by rfl) (by intro wq hSw; have q0 := bat hSw k0; have q1 := bat hSw k1; have q2 := bat hSw k2; have q3 := bat hSw k3; have q4 := bat hSw k4; have q5 := bat hSw k5; go_simp <;> with_reducible rfl) (by assumption) ?_
      try simp only [Act.put, sA, sB, sC]
      refine takeQ (i := 2) (gt rfl) (by kernel_rfl) (fun _ _ _ h => h) (by rfl) (by intro wq hSw; have q0 := bat hSw k0; have q1 := bat hSw k1; have q2 := bat hSw k2; have q3 := bat hSw k3; have q4 := bat hSw k4; have q5 := bat hSw k5; go_simp <;> with_reducible rfl) (by assumption) ?_
      try simp only [Act.put, sA, sB, sC]
      refine takeQ (i := 4) (gt rfl) (by kernel_rfl) (fun _ _ _ h => h) (by rfl) (by intro wq hSw; have q0 := bat hSw k0; have q1 := bat hSw k1; have q2 := bat hSw k2; have q3 := bat hSw k3; have q4 := bat hSw k4; have q5 := bat hSw k5; go_simp <;> with_reducible rfl) (by assumption) ?_
      try simp only [Act.put, sA, sB, sC]
      refine wpAnyH_ready (rs := [1, 7]) (by kernel_rfl) (by simp) (AllReadyH.cons (gt rfl) (fun K hK => ?_) (AllReadyH.cons (gt rfl) (fun K hK => ?_) AllReadyH.nil))
      · skip
        go_simp
        refine (toPt_any x1 y1 _).mono ?_
        rintro e1 ww1 ⟨rfl, hb⟩
        replace N := N.trans (hb.mono N.size)
        clear hb
        refine hK.out _ _ N (fun hHeld => ?_)
        clear hK K
        try simp only [Act.put, sA, sB, sC]
        refine wpAnyH_ready (rs := [3, 7]) (by kernel_rfl) (by simp) (AllReadyH.cons (gt rfl) (fun K hK => ?_) (AllReadyH.cons (gt rfl) (fun K hK => ?_) AllReadyH.nil))
        · skip
          go_simp
          refine (toPt_any x2 y2 _).mono ?_
          rintro e1 ww2 ⟨rfl, hb⟩
          replace N := N.trans (hb.mono N.size)
          clear hb
          refine hK.out _ _ N (fun hHeld => ?_)
          clear hK K
          try simp only [Act.put, sA, sB, sC]
          refine wpAnyH_ready (rs := [5, 7]) (by kernel_rfl) (by simp) (AllReadyH.cons (gt rfl) (fun K hK => ?_) (AllReadyH.cons (gt rfl) (fun K hK => ?_) AllReadyH.nil))
          · skip
            go_simp
            refine (toPt_any x3 y3 _).mono ?_
            rintro e1 ww3 ⟨rfl, hb⟩
            replace N := N.trans (hb.mono N.size)
            clear hb
            refine hK.out _ _ N (fun hHeld => ?_)
            clear hK K
            try simp only [Act.put, sA, sB, sC]
            refine wpAnyH_ready (rs := [6, 7]) (by kernel_rfl) (by simp) (AllReadyH.cons (gt rfl) (fun K hK => ?_) (AllReadyH.cons (gt rfl) (fun K hK => ?_) AllReadyH.nil))
            · skip
              go_simp
              refine (implGap x1 y1 x2 y2 x3 y3 _).mono ?_
              rintro e1 ww4 ⟨u, rfl, hI, hb⟩
              obtain ⟨a5, c5, b5, d5, rfl, hoz, hot, apz⟩ := hI.as HV.out
              rw [HG.out, HY.out]
              have bs := N.size
              clear hI
              replace N := N.trans (hb.mono N.size)
              clear hb
              refine hK.out _ _ N (fun hHeld => ?_)
              clear hK K
              try simp only [Act.put, sA, sB, sC]
              refine wpAnyH_ready (rs := [7]) (by kernel_rfl) (by simp) (AllReadyH.cons (gt rfl) (fun K hK => ?_) AllReadyH.nil)
              go_simp
              have kP := Box4.new ww4 N.size (.bool false) (.slice none 0 0) (.bool false) (.slice none 0 0) 28
              have hb := below1 ww4 (.cells #[.bool false, .slice none 0 0, .bool false, .slice none 0 0] 28)
              have r_kP_hoz := row_ne_high hoz.toCame (Nat.le_refl _)
              have r_kP_hot := row_ne_high hot.toCame (Nat.le_refl _)
              replace hoz := hoz.below hb
              replace hot := hot.below hb
              replace N := N.trans (hb.mono N.size)
              clear hb
              generalize ww4.alloc (.cells #[.bool false, .slice none 0 0, .bool false, .slice none 0 0] 28) = ww5 at *
              refine hK.out _ _ N (fun hHeld => ?_)
              clear hK K
              try simp only [Act.put, sA, sB, sC]
              refine wpAnyH_ready (rs := [8]) (by kernel_rfl) (by simp) (AllReadyH.cons (gt rfl) (fun K hK => ?_) AllReadyH.nil)
              have z0 := kP.c0
              have z1 := kP.c1
              have z2 := kP.c2
              have z3 := kP.c3
              have zf := kP.fr
              go_simp
              clear z0 z1 z2 z3 zf
              replace N := Box4.chain N kP (.bool gz) (.slice a5 zs.length c5) (.bool gy) (.slice b5 ts.length d5)
              replace hoz := hoz.put4 r_kP_hoz (.bool gz) (.slice a5 zs.length c5) (.bool gy) (.slice b5 ts.length d5)
              replace hot := hot.put4 r_kP_hot (.bool gz) (.slice a5 zs.length c5) (.bool gy) (.slice b5 ts.length d5)
              replace kP := kP.put (.bool gz) (.slice a5 zs.length c5) (.bool gy) (.slice b5 ts.length d5)
              refine hK.out _ _ N (fun hHeld => ?_)
              clear hK K
              try simp only [Act.put, sA, sB, sC]
              refine wpAnyH_done (by kernel_rfl) ?_ _
              go_wp2
              go_meet
              case rel => exact ⟨_, a5, c5, b5, d5, rfl, kP, hoz.base_le bs, hot.base_le bs, apz, r_kP_hoz, r_kP_hot, N⟩
            · skip
              go_simp
              have kP := Box4.new ww3 N.size (.bool false) (.slice none 0 0) (.bool false) (.slice none 0 0) 28
              have hb := below1 ww3 (.cells #[.bool false, .slice none 0 0, .bool false, .slice none 0 0] 28)
              replace N := N.trans (hb.mono N.size)
              clear hb
              generalize ww3.alloc (.cells #[.bool false, .slice none 0 0, .bool false, .slice none 0 0] 28) = ww7 at *
              refine hK.out _ _ N (fun hHeld => ?_)
              clear hK K
              try simp only [Act.put, sA, sB, sC]
              refine wpAnyH_ready (rs := [6]) (by kernel_rfl) (by simp) (AllReadyH.cons (gt rfl) (fun K hK => ?_) AllReadyH.nil)
              go_simp
              refine (implGap x1 y1 x2 y2 x3 y3 _).mono ?_
              rintro e1 ww8 ⟨u, rfl, hI, hb⟩
              obtain ⟨a5, c5, b5, d5, rfl, hoz, hot, apz⟩ := hI.as HV.out
              rw [HG.out, HY.out]
              have bs := N.size
              clear hI
              have r_kP_hoz := row_ne_low hoz kP.lt
              have r_kP_hot := row_ne_low hot kP.lt
              replace kP := kP.below hb
              replace N := N.trans (hb.mono N.size)
              clear hb
              refine hK.out _ _ N (fun hHeld => ?_)
              clear hK K
              try simp only [Act.put, sA, sB, sC]
              refine wpAnyH_ready (rs := [8]) (by kernel_rfl) (by simp) (AllReadyH.cons (gt rfl) (fun K hK => ?_) AllReadyH.nil)
              have z0 := kP.c0
              have z1 := kP.c1
              have z2 := kP.c2
              have z3 := kP.c3
              have zf := kP.fr
              go_simp
              clear z0 z1 z2 z3 zf
              replace N := Box4.chain N kP (.bool gz) (.slice a5 zs.length c5) (.bool gy) (.slice b5 ts.length d5)
              replace hoz := hoz.put4 r_kP_hoz (.bool gz) (.slice a5 zs.length c5) (.bool gy) (.slice b5 ts.length d5)
              replace hot := hot.put4 r_kP_hot (.bool gz) (.slice a5 zs.length c5) (.bool gy) (.slice b5 ts.length d5)
              replace kP := kP.put (.bool gz) (.slice a5 zs.length c5) (.bool gy) (.slice b5 ts.length d5)
              refine hK.out _ _ N (fun hHeld => ?_)
              clear hK K
              try simp only [Act.put, sA, sB, sC]
              refine wpAnyH_done (by kernel_rfl) ?_ _
              go_wp2
              go_meet
              case rel => exact ⟨_, a5, c5, b5, d5, rfl, kP, hoz.base_le bs, hot.base_le bs, apz, r_kP_hoz, r_kP_hot, N⟩
          · skip
            go_simp
            have kP := Box4.new ww2 N.size (.bool false) (.slice none 0 0) (.bool false) (.slice none 0 0) 28
            have hb := below1 ww2 (.cells #[.bool false, .slice none 0 0, .bool false, .slice none 0 0] 28)
            replace N := N.trans (hb.mono N.size)
            clear hb
            generalize ww2.alloc (.cells #[.bool false, .slice none 0 0, .bool false, .slice none 0 0] 28) = ww10 at *
            refine hK.out _ _ N (fun hHeld => ?_)
            clear hK K
            try simp only [Act.put, sA, sB, sC]
            refine wpAnyH_ready (rs := [5]) (by kernel_rfl) (by simp) (AllReadyH.cons (gt rfl) (fun K hK => ?_) AllReadyH.nil)
            go_simp
            refine (toPt_any x3 y3 _).mono ?_
            rintro e1 ww11 ⟨rfl, hb⟩
            replace kP := kP.below hb
            replace N := N.trans (hb.mono N.size)
            clear hb
            refine hK.out _ _ N (fun hHeld => ?_)
            clear hK K
            try simp only [Act.put, sA, sB, sC]
            refine wpAnyH_ready (rs := [6]) (by kernel_rfl) (by simp) (AllReadyH.cons (gt rfl) (fun K hK => ?_) AllReadyH.nil)
            go_simp
            refine (implGap x1 y1 x2 y2 x3 y3 _).mono ?_
            rintro e1 ww12 ⟨u, rfl, hI, hb⟩
            obtain ⟨a5, c5, b5, d5, rfl, hoz, hot, apz⟩ := hI.as HV.out
            rw [HG.out, HY.out]
            have bs := N.size
            clear hI
            have r_kP_hoz := row_ne_low hoz kP.lt
            have r_kP_hot := row_ne_low hot kP.lt
            replace kP := kP.below hb
            replace N := N.trans (hb.mono N.size)
            clear hb
            refine hK.out _ _ N (fun hHeld => ?_)
            clear hK K
            try simp only [Act.put, sA, sB, sC]
            refine wpAnyH_ready (rs := [8]) (by kernel_rfl) (by simp) (AllReadyH.cons (gt rfl) (fun K hK => ?_) AllReadyH.nil)
            have z0 := kP.c0
            have z1 := kP.c1
            have z2 := kP.c2
            have z3 := kP.c3
            have zf := kP.fr
            go_simp
            clear z0 z1 z2 z3 zf
            replace N := Box4.chain N kP (.bool gz) (.slice a5 zs.length c5) (.bool gy) (.slice b5 ts.length d5)
            replace hoz := hoz.put4 r_kP_hoz (.bool gz) (.slice a5 zs.length c5) (.bool gy) (.slice b5 ts.length d5)
            replace hot := hot.put4 r_kP_hot (.bool gz) (.slice a5 zs.length c5) (.bool gy) (.slice b5 ts.length d5)
            replace kP := kP.put (.bool gz) (.slice a5 zs.length c5) (.bool gy) (.slice b5 ts.length d5)
            refine hK.out _ _ N (fun hHeld => ?_)
            clear hK K
            try simp only [Act.put, sA, sB, sC]
            refine wpAnyH_done (by kernel_rfl) ?_ _
            go_wp2
            go_meet
            case rel => exact ⟨_, a5, c5, b5, d5, rfl, kP, hoz.base_le bs, hot.base_le bs, apz, r_kP_hoz, r_kP_hot, N⟩
        · skip
          go_simp
          have kP := Box4.new ww1 N.size (.bool false) (.slice none 0 0) (.bool false) (.slice none 0 0) 28
          have hb := below1 ww1 (.cells #[.bool false, .slice none 0 0, .bool false, .slice none 0 0] 28)
          replace N := N.trans (hb.mono N.size)
          clear hb
          generalize ww1.alloc (.cells #[.bool false, .slice none 0 0, .bool false, .slice none 0 0] 28) = ww14 at *
          refine hK.out _ _ N (fun hHeld => ?_)
          clear hK K
          try simp only [Act.put, sA, sB, sC]
          refine wpAnyH_ready (rs := [3]) (by kernel_rfl) (by simp) (AllReadyH.cons (gt rfl) (fun K hK => ?_) AllReadyH.nil)
          go_simp
          refine (toPt_any x2 y2 _).mono ?_
          rintro e1 ww15 ⟨rfl, hb⟩
          replace kP := kP.below hb
          replace N := N.trans (hb.mono N.size)
          clear hb
          refine hK.out _ _ N (fun hHeld => ?_)
          clear hK K
          try simp only [Act.put, sA, sB, sC]
          refine wpAnyH_ready (rs := [5]) (by kernel_rfl) (by simp) (AllReadyH.cons (gt rfl) (fun K hK => ?_) AllReadyH.nil)
          go_simp
          refine (toPt_any x3 y3 _).mono ?_
          rintro e1 ww16 ⟨rfl, hb⟩
          replace kP := kP.below hb
          replace N := N.trans (hb.mono N.size)
          clear hb
          refine hK.out _ _ N (fun hHeld => ?_)
          clear hK K
          try simp only [Act.put, sA, sB, sC]
          refine wpAnyH_ready (rs := [6]) (by kernel_rfl) (by simp) (AllReadyH.cons (gt rfl) (fun K hK => ?_) AllReadyH.nil)
          go_simp
          refine (implGap x1 y1 x2 y2 x3 y3 _).mono ?_
          rintro e1 ww17 ⟨u, rfl, hI, hb⟩
          obtain ⟨a5, c5, b5, d5, rfl, hoz, hot, apz⟩ := hI.as HV.out
          rw [HG.out, HY.out]
          have bs := N.size
          clear hI
          have r_kP_hoz := row_ne_low hoz kP.lt
          have r_kP_hot := row_ne_low hot kP.lt
          replace kP := kP.below hb
          replace N := N.trans (hb.mono N.size)
          clear hb
          refine hK.out _ _ N (fun hHeld => ?_)
          clear hK K
          try simp only [Act.put, sA, sB, sC]
          refine wpAnyH_ready (rs := [8]) (by kernel_rfl) (by simp) (AllReadyH.cons (gt rfl) (fun K hK => ?_) AllReadyH.nil)
          have z0 := kP.c0
          have z1 := kP.c1
          have z2 := kP.c2
          have z3 := kP.c3
          have zf := kP.fr
          go_simp
          clear z0 z1 z2 z3 zf
          replace N := Box4.chain N kP (.bool gz) (.slice a5 zs.length c5) (.bool gy) (.slice b5 ts.length d5)
          replace hoz := hoz.put4 r_kP_hoz (.bool gz) (.slice a5 zs.length c5) (.bool gy) (.slice b5 ts.length d5)
          replace hot := hot.put4 r_kP_hot (.bool gz) (.slice a5 zs.length c5) (.bool gy) (.slice b5 ts.length d5)
          replace kP := kP.put (.bool gz) (.slice a5 zs.length c5) (.bool gy) (.slice b5 ts.length d5)
          refine hK.out _ _ N (fun hHeld => ?_)
          clear hK K
          try simp only [Act.put, sA, sB, sC]
          refine wpAnyH_done (by kernel_rfl) ?_ _
          go_wp2
          go_meet
          case rel => exact ⟨_, a5, c5, b5, d5, rfl, kP, hoz.base_le bs, hot.base_le bs, apz, r_kP_hoz, r_kP_hot, N⟩
      · skip
        go_simp
        have kP := Box4.new ww0 N.size (.bool false) (.slice none 0 0) (.bool false) (.slice none 0 0) 28
        have hb := below1 ww0 (.cells #[.bool false, .slice none 0 0, .bool false, .slice none 0 0] 28)
        replace N := N.trans (hb.mono N.size)
        clear hb
        generalize ww0.alloc (.cells #[.bool false, .slice none 0 0, .bool false, .slice none 0 0] 28) = ww19 at *
        refine hK.out _ _ N (fun hHeld => ?_)
        clear hK K
        try simp only [Act.put, sA, sB, sC]
        refine wpAnyH_ready (rs := [1]) (by kernel_rfl) (by simp) (AllReadyH.cons (gt rfl) (fun K hK => ?_) AllReadyH.nil)
        go_simp
        refine (toPt_any x1 y1 _).mono ?_
        rintro e1 ww20 ⟨rfl, hb⟩
        replace kP := kP.below hb
        replace N := N.trans (hb.mono N.size)
        clear hb
        refine hK.out _ _ N (fun hHeld => ?_)
        clear hK K
        try simp only [Act.put, sA, sB, sC]
        refine wpAnyH_ready (rs := [3]) (by kernel_rfl) (by simp) (AllReadyH.cons (gt rfl) (fun K hK => ?_) AllReadyH.nil)
        go_simp
        refine (toPt_any x2 y2 _).mono ?_
        rintro e1 ww21 ⟨rfl, hb⟩
        replace kP := kP.below hb
        replace N := N.trans (hb.mono N.size)
        clear hb
        refine hK.out _ _ N (fun hHeld => ?_)
        clear hK K
        try simp only [Act.put, sA, sB, sC]
        refine wpAnyH_ready (rs := [5]) (by kernel_rfl) (by simp) (AllReadyH.cons (gt rfl) (fun K hK => ?_) AllReadyH.nil)
        go_simp
        refine (toPt_any x3 y3 _).mono ?_
        rintro e1 ww22 ⟨rfl, hb⟩
        replace kP := kP.below hb
        replace N := N.trans (hb.mono N.size)
        clear hb
        refine hK.out _ _ N (fun hHeld => ?_)
        clear hK K
        try simp only [Act.put, sA, sB, sC]
        refine wpAnyH_ready (rs := [6]) (by kernel_rfl) (by simp) (AllReadyH.cons (gt rfl) (fun K hK => ?_) AllReadyH.nil)
        go_simp
        refine (implGap x1 y1 x2 y2 x3 y3 _).mono ?_
        rintro e1 ww23 ⟨u, rfl, hI, hb⟩
        obtain ⟨a5, c5, b5, d5, rfl, hoz, hot, apz⟩ := hI.as HV.out
        rw [HG.out, HY.out]
        have bs := N.size
        clear hI
        have r_kP_hoz := row_ne_low hoz kP.lt
        have r_kP_hot := row_ne_low hot kP.lt
        replace kP := kP.below hb
        replace N := N.trans (hb.mono N.size)
        clear hb
        refine hK.out _ _ N (fun hHeld => ?_)
        clear hK K
        try simp only [Act.put, sA, sB, sC]
        refine wpAnyH_ready (rs := [8]) (by kernel_rfl) (by simp) (AllReadyH.cons (gt rfl) (fun K hK => ?_) AllReadyH.nil)
        have z0 := kP.c0
        have z1 := kP.c1
        have z2 := kP.c2
        have z3 := kP.c3
        have zf := kP.fr
        go_simp
        clear z0 z1 z2 z3 zf
        replace N := Box4.chain N kP (.bool gz) (.slice a5 zs.length c5) (.bool gy) (.slice b5 ts.length d5)
        replace hoz := hoz.put4 r_kP_hoz (.bool gz) (.slice a5 zs.length c5) (.bool gy) (.slice b5 ts.length d5)
        replace hot := hot.put4 r_kP_hot (.bool gz) (.slice a5 zs.length c5) (.bool gy) (.slice b5 ts.length d5)
        replace kP := kP.put (.bool gz) (.slice a5 zs.length c5) (.bool gy) (.slice b5 ts.length d5)
        refine hK.out _ _ N (fun hHeld => ?_)
        clear hK K
        try simp only [Act.put, sA, sB, sC]
        refine wpAnyH_done (by kernel_rfl) ?_ _
        go_wp2
        go_meet
        case rel => exact ⟨_, a5, c5, b5, d5, rfl, kP, hoz.base_le bs, hot.base_le bs, apz, r_kP_hoz, r_kP_hot, N⟩
  rename World => W17
  obtain ⟨p2, a17, c17, b17, d17, rfl, KP, hoi, hoj, _, _, _, hb⟩ := hcut
  obtain ⟨kH0, kH1, kH2, kH3, _, _⟩ := KP
  clear k0 k1 k2 k3 k4 k5
  replace kW0 := bat hb kW0
  replace kW1 := bat hb kW1
  replace kW2 := bat hb kW2
  replace kW3 := bat hb kW3
  replace kG0 := bat hb kG0
  replace kG1 := bat hb kG1
  replace kG2 := bat hb kG2
  replace kG3 := bat hb kG3
  replace ho0 := ho0.below hb
  replace ho1 := ho1.below hb
  replace hogm := hogm.below hb
  replace hohm := hohm.below hb
  replace B := B.trans (hb.mono B.size)
  clear hb
  go_wp2_with fail
  refine (eqF gz gy a17 a3 b17 b3 c17 c3 d17 d3 zs ts _ hoi.toSees ho0.toSees hoj.toSees ho1.toSees).mono ?_
  rintro e w17 ⟨rfl, hb⟩
  replace kW0 := bat hb kW0
  replace kW1 := bat hb kW1
  replace kW2 := bat hb kW2
  replace kW3 := bat hb kW3
  replace kG0 := bat hb kG0
  replace kG1 := bat hb kG1
  replace kG2 := bat hb kG2
  replace kG3 := bat hb kG3
  replace kH0 := bat hb kH0
  replace kH1 := bat hb kH1
  replace kH2 := bat hb kH2
  replace kH3 := bat hb kH3
  replace ho0 := ho0.below hb
  replace ho1 := ho1.below hb
  replace hogm := hogm.below hb
  replace hohm := hohm.below hb
  replace hoi := hoi.below hb
  replace hoj := hoj.below hb
  replace B := B.trans (hb.mono B.size)
  clear hb
  clear hoi
  clear hoj
  clear ho0
  clear ho1
  clear kH0 kH1 kH2 kH3
  clear kW0 kW1 kW2 kW3
  go_wp2_with fail
  refine (heldF gz gy a7 b7 c7 d7 zs.length ts.length 1 _ hogm.toSees hohm.toSees (by decide) (by omega)).mono ?_
  rintro e w18 ⟨rfl, hb⟩
  replace kG0 := bat hb kG0
  replace kG1 := bat hb kG1
  replace kG2 := bat hb kG2
  replace kG3 := bat hb kG3
  replace hogm := hogm.below hb
  replace hohm := hohm.below hb
  replace B := B.trans (hb.mono B.size)
  clear hb
  have hk1 : decide ((1 : Int) + zs.length + ts.length < 0) = false := by simp; omega
  go_wp2
  go_ret
  exact ⟨rfl, B⟩
end Go.Proofs.Ytmdbndooigcflaa
