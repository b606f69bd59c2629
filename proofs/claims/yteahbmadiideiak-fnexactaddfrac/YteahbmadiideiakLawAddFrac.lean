/- The law on AddFrac: at every argument the program's AddFrac is the specification's, limb by limb; it writes into no argument; its answer owns its memory. -/
import Derived.Test.YteahbmadiideiakFracM
import Derived.Test.YteahbmadiideiakFracH
import Derived.Test.YteahbmadiideiakAddF
import Derived.Test.YteahbmadiideiakCut
import Derived.Deep.RegionHeld3
import Derived.Deep.DeepCutAuto
namespace Go.Proofs.Yteahbmadiideiak
open Go.RowKit

theorem lbox8 (w : World) (s t s' t' : Bool) (a b a' b' : Option Addr) (n m n' m' c d c' d' : Nat) (T : TypeId) :
    ((w.alloc (.cells #[.bool s, .slice a n c, .bool t, .slice b m d] T)).alloc (.cells #[.bool s', .slice a' n' c', .bool t', .slice b' m' d'] T)).cell? ⟨w.heap.size, 0, none⟩ = some (.bool s) ∧ ((w.alloc (.cells #[.bool s, .slice a n c, .bool t, .slice b m d] T)).alloc (.cells #[.bool s', .slice a' n' c', .bool t', .slice b' m' d'] T)).cell? ⟨w.heap.size, 1, none⟩ = some (.slice a n c) ∧ ((w.alloc (.cells #[.bool s, .slice a n c, .bool t, .slice b m d] T)).alloc (.cells #[.bool s', .slice a' n' c', .bool t', .slice b' m' d'] T)).cell? ⟨w.heap.size, 2, none⟩ = some (.bool t) ∧ ((w.alloc (.cells #[.bool s, .slice a n c, .bool t, .slice b m d] T)).alloc (.cells #[.bool s', .slice a' n' c', .bool t', .slice b' m' d'] T)).cell? ⟨w.heap.size, 3, none⟩ = some (.slice b m d) ∧ ((w.alloc (.cells #[.bool s, .slice a n c, .bool t, .slice b m d] T)).alloc (.cells #[.bool s', .slice a' n' c', .bool t', .slice b' m' d'] T)).cell? ⟨w.heap.size + 1, 0, none⟩ = some (.bool s') ∧ ((w.alloc (.cells #[.bool s, .slice a n c, .bool t, .slice b m d] T)).alloc (.cells #[.bool s', .slice a' n' c', .bool t', .slice b' m' d'] T)).cell? ⟨w.heap.size + 1, 1, none⟩ = some (.slice a' n' c') ∧ ((w.alloc (.cells #[.bool s, .slice a n c, .bool t, .slice b m d] T)).alloc (.cells #[.bool s', .slice a' n' c', .bool t', .slice b' m' d'] T)).cell? ⟨w.heap.size + 1, 2, none⟩ = some (.bool t') ∧ ((w.alloc (.cells #[.bool s, .slice a n c, .bool t, .slice b m d] T)).alloc (.cells #[.bool s', .slice a' n' c', .bool t', .slice b' m' d'] T)).cell? ⟨w.heap.size + 1, 3, none⟩ = some (.slice b' m' d') := by
  refine ⟨by simp [go_sem], by simp [go_sem], by simp [go_sem], by simp [go_sem], by simp [go_sem], by simp [go_sem], by simp [go_sem], by simp [go_sem]⟩

set_option maxRecDepth 20000 in
set_option maxHeartbeats 16000000 in
theorem lawAddFrac (g h g' h' : Bool) (a b a' b' : Option Addr) (c d c' d' : Nat) (xs ys xs' ys' : List Int) (w : World) (h1 : Came w a c xs) (h2 : Came w b d ys) (k1 : Came w a' c' xs') (k2 : Came w b' d' ys') :
    Calls Try.prog 3 #[.agg #[.bool g, .slice a xs.length c, .bool h, .slice b ys.length d], .agg #[.bool g', .slice a' xs'.length c', .bool h', .slice b' ys'.length d']] w fun e w' => e = .returned (.bool true) ∧ Below w.heap.size w w' := by
  have m1 : xs.length ≤ 9223372036854775807 := by have := h1.max; have := h1.fits; unfold maxLen at *; omega
  have m2 : ys.length ≤ 9223372036854775807 := by have := h2.max; have := h2.fits; unfold maxLen at *; omega
  have m3 : xs'.length ≤ 9223372036854775807 := by have := k1.max; have := k1.fits; unfold maxLen at *; omega
  have m4 : ys'.length ≤ 9223372036854775807 := by have := k2.max; have := k2.fits; unfold maxLen at *; omega
  obtain ⟨zs0, HC1⟩ := limbs_mg (qN (fN g xs h ys * fD g' xs' h' ys' + fN g' xs' h' ys' * fD g xs h ys) (fD g xs h ys * fD g' xs' h' ys'))
  obtain ⟨ts0, HC2⟩ := limbs_mg (qD (fN g xs h ys * fD g' xs' h' ys' + fN g' xs' h' ys' * fD g xs h ys) (fD g xs h ys * fD g' xs' h' ys'))
  have HC : Hid (Lim zs0 ∧ Nrm zs0 ∧ val zs0 = mg (qN (fN g xs h ys * fD g' xs' h' ys' + fN g' xs' h' ys' * fD g xs h ys) (fD g xs h ys * fD g' xs' h' ys')) ∧ Lim ts0 ∧ Nrm ts0 ∧ val ts0 = mg (qD (fN g xs h ys * fD g' xs' h' ys' + fN g' xs' h' ys' * fD g xs h ys) (fD g xs h ys * fD g' xs' h' ys'))) := ⟨HC1.1, HC1.2.1, HC1.2.2, HC2.1, HC2.2.1, HC2.2.2⟩
  clear HC1 HC2
  obtain ⟨zs, HV1⟩ := limbs_mg (fN (decide ((qN (fN g xs h ys * fD g' xs' h' ys' + fN g' xs' h' ys' * fD g xs h ys) (fD g xs h ys * fD g' xs' h' ys')) < 0)) zs0 (decide ((qD (fN g xs h ys * fD g' xs' h' ys' + fN g' xs' h' ys' * fD g xs h ys) (fD g xs h ys * fD g' xs' h' ys')) < 0)) ts0)
  obtain ⟨ts, HV2⟩ := limbs_mg (fD (decide ((qN (fN g xs h ys * fD g' xs' h' ys' + fN g' xs' h' ys' * fD g xs h ys) (fD g xs h ys * fD g' xs' h' ys')) < 0)) zs0 (decide ((qD (fN g xs h ys * fD g' xs' h' ys' + fN g' xs' h' ys' * fD g xs h ys) (fD g xs h ys * fD g' xs' h' ys')) < 0)) ts0)
  have HV : Hid (Lim zs ∧ Nrm zs ∧ val zs = mg (fN (decide ((qN (fN g xs h ys * fD g' xs' h' ys' + fN g' xs' h' ys' * fD g xs h ys) (fD g xs h ys * fD g' xs' h' ys')) < 0)) zs0 (decide ((qD (fN g xs h ys * fD g' xs' h' ys' + fN g' xs' h' ys' * fD g xs h ys) (fD g xs h ys * fD g' xs' h' ys')) < 0)) ts0) ∧ Lim ts ∧ Nrm ts ∧ val ts = mg (fD (decide ((qN (fN g xs h ys * fD g' xs' h' ys' + fN g' xs' h' ys' * fD g xs h ys) (fD g xs h ys * fD g' xs' h' ys')) < 0)) zs0 (decide ((qD (fN g xs h ys * fD g' xs' h' ys' + fN g' xs' h' ys' * fD g xs h ys) (fD g xs h ys * fD g' xs' h' ys')) < 0)) ts0)) := ⟨HV1.1, HV1.2.1, HV1.2.2, HV2.1, HV2.2.1, HV2.2.2⟩
  clear HV1 HV2
  obtain ⟨hl2, hl3⟩ : zs.length ≤ 25 ∧ ts.length ≤ 25 := cut_len HC.out.1 HC.out.2.2.2.1 HV.out
  obtain ⟨gz, HG⟩ : ∃ gz, Hid (decide ((fN (decide ((qN (fN g xs h ys * fD g' xs' h' ys' + fN g' xs' h' ys' * fD g xs h ys) (fD g xs h ys * fD g' xs' h' ys')) < 0)) zs0 (decide ((qD (fN g xs h ys * fD g' xs' h' ys' + fN g' xs' h' ys' * fD g xs h ys) (fD g xs h ys * fD g' xs' h' ys')) < 0)) ts0) < 0) = gz) := ⟨_, rfl⟩
  obtain ⟨gy, HY⟩ : ∃ gy, Hid (decide ((fD (decide ((qN (fN g xs h ys * fD g' xs' h' ys' + fN g' xs' h' ys' * fD g xs h ys) (fD g xs h ys * fD g' xs' h' ys')) < 0)) zs0 (decide ((qD (fN g xs h ys * fD g' xs' h' ys' + fN g' xs' h' ys' * fD g xs h ys) (fD g xs h ys * fD g' xs' h' ys')) < 0)) ts0) < 0) = gy) := ⟨_, rfl⟩
  by_cases hs : xs.length + ys.length ≤ 1048576
  · by_cases hs2 : xs.length + ys.length + xs'.length + ys'.length ≤ 1048576
    · have B := below2 w (.cells #[.bool g, .slice a xs.length c, .bool h, .slice b ys.length d] 26) (.cells #[.bool g', .slice a' xs'.length c', .bool h', .slice b' ys'.length d'] 26)
      obtain ⟨kA0, kA1, kA2, kA3, kB0, kB1, kB2, kB3⟩ := lbox8 w g h g' h' a b a' b' xs.length ys.length xs'.length ys'.length c d c' d' 26
      have hA := h1.below B
      have hA' := h2.below B
      have hB := k1.below B
      have hB' := k2.below B
      clear h1 h2 k1 k2
      go_enter Try.func3, Try.ntmps3
      go_wp2_with fail
      generalize (w.alloc (.cells #[.bool g, .slice a xs.length c, .bool h, .slice b ys.length d] 26)).alloc (.cells #[.bool g', .slice a' xs'.length c', .bool h', .slice b' ys'.length d'] 26) = W at *
      refine (szF g h a b c d xs.length ys.length 1048576 _ (by omega) m1 m2).mono ?_
      rintro e w1 ⟨rfl, hb⟩
      rw [if_neg (by omega)]
      replace kA0 := bat hb kA0
      replace kA1 := bat hb kA1
      replace kA2 := bat hb kA2
      replace kA3 := bat hb kA3
      replace kB0 := bat hb kB0
      replace kB1 := bat hb kB1
      replace kB2 := bat hb kB2
      replace kB3 := bat hb kB3
      replace hA := hA.below hb
      replace hA' := hA'.below hb
      replace hB := hB.below hb
      replace hB' := hB'.below hb
      replace B := B.trans (hb.mono B.size)
      clear hb
      go_wp2_with fail
      refine (szF g' h' a' b' c' d' xs'.length ys'.length (1048576 - xs.length - ys.length) _ (by omega) m3 m4).mono ?_
      rintro e w2 ⟨rfl, hb⟩
      rw [if_neg (by omega)]
      replace kA0 := bat hb kA0
      replace kA1 := bat hb kA1
      replace kA2 := bat hb kA2
      replace kA3 := bat hb kA3
      replace kB0 := bat hb kB0
      replace kB1 := bat hb kB1
      replace kB2 := bat hb kB2
      replace kB3 := bat hb kB3
      replace hA := hA.below hb
      replace hA' := hA'.below hb
      replace hB := hB.below hb
      replace hB' := hB'.below hb
      replace B := B.trans (hb.mono B.size)
      clear hb
      go_wp2_with fail
      go_cut [6] (fun s6 W => ∃ p a3 c3 b3 d3, s6 = .pointer (some ⟨p, 0, none⟩) ∧ Box4 w2.heap.size W p (.bool gz) (.slice a3 zs.length c3) (.bool gy) (.slice b3 ts.length d3) ∧ Own w.heap.size W a3 c3 zs ∧ Own w.heap.size W b3 d3 ts ∧ Below w2.heap.size w2 W)
      case first =>
        have sz := B.size
        refine wp_region_held_drew (S := Below w2.heap.size w2) (by kernel_rfl) ((Below.refl _ _).drew) (fun hHeld => ?_)
        have N : Below w2.heap.size w2 w2.drew := hHeld
        revert hHeld N
        generalize w2.drew = ww0
        intro hHeld N
        refine takeQ (i := 0) (gt rfl) (by kernel_rfl) (fun _ _ _ h => h) (by rfl) (by intro wq hSw; have q0 := bat hSw kA0; have q1 := bat hSw kA1; have q2 := bat hSw kA2; have q3 := bat hSw kA3; have q4 := bat hSw kB0; have q5 := bat hSw kB1; have q6 := bat hSw kB2; have q7 := bat hSw kB3; go_simp <;> with_reducible rfl) (by assumption) ?_
        try simp only [Act.put, sA, sB, sC]
        refine takeQ (i := 2) (gt rfl) (by kernel_rfl) (fun _ _ _ h => h) (by rfl) (by intro wq hSw; have q0 := bat hSw kA0; have q1 := bat hSw kA1; have q2 := bat hSw kA2; have q3 := bat hSw kA3; have q4 := bat hSw kB0; have q5 := bat hSw kB1; have q6 := bat hSw kB2; have q7 := bat hSw kB3; go_simp <;> with_reducible rfl) (by assumption) ?_
        try simp only [Act.put, sA, sB, sC]
        refine wpAnyH_ready (rs := [1, 5]) (by kernel_rfl) (by simp) (AllReadyH.cons (gt rfl) (fun K hK => ?_) (AllReadyH.cons (gt rfl) (fun K hK => ?_) AllReadyH.nil))
        · skip
          go_simp
          refine (toF g h a b c d xs ys _ (hA.below N) (hA'.below N) (by omega) (by omega)).mono ?_
          rintro e1 ww1 ⟨i1, j1, i2, j2, rfl, o1, o2, _, hb⟩
          replace N := N.trans (hb.mono N.size)
          clear hb
          refine hK.out _ _ N (fun hHeld => ?_)
          clear hK K
          try simp only [Act.put, sA, sB, sC]
          refine wpAnyH_ready (rs := [3, 5]) (by kernel_rfl) (by simp) (AllReadyH.cons (gt rfl) (fun K hK => ?_) (AllReadyH.cons (gt rfl) (fun K hK => ?_) AllReadyH.nil))
          · skip
            go_simp
            refine (toF g' h' a' b' c' d' xs' ys' _ (hB.below N) (hB'.below N) (by omega) (by omega)).mono ?_
            rintro e1 ww2 ⟨i3, j3, i4, j4, rfl, o3, o4, _, hb⟩
            replace o1 := o1.below hb
            replace o2 := o2.below hb
            replace N := N.trans (hb.mono N.size)
            clear hb
            refine hK.out _ _ N (fun hHeld => ?_)
            clear hK K
            try simp only [Act.put, sA, sB, sC]
            refine wpAnyH_ready (rs := [4, 5]) (by kernel_rfl) (by simp) (AllReadyH.cons (gt rfl) (fun K hK => ?_) (AllReadyH.cons (gt rfl) (fun K hK => ?_) AllReadyH.nil))
            · skip
              go_simp
              refine (specAddFrac g h g' h' i1 i2 i3 i4 j1 j2 j3 j4 xs ys xs' ys' _ o1.toSees o2.toSees o3.toSees o4.toSees).mono ?_
              rintro e1 ww3 ⟨u, rfl, hI, hb⟩
              obtain ⟨a5, c5, b5, d5, rfl, hoz, hot, _⟩ := (hI.as HC.out).as HV.out
              rw [HG.out, HY.out]
              have bs := Nat.le_trans sz N.size
              clear hI
              replace o1 := o1.below hb
              replace o2 := o2.below hb
              replace o3 := o3.below hb
              replace o4 := o4.below hb
              replace N := N.trans (hb.mono N.size)
              clear hb
              clear o1 o2 o3 o4
              refine hK.out _ _ N (fun hHeld => ?_)
              clear hK K
              try simp only [Act.put, sA, sB, sC]
              refine wpAnyH_ready (rs := [5]) (by kernel_rfl) (by simp) (AllReadyH.cons (gt rfl) (fun K hK => ?_) AllReadyH.nil)
              go_simp
              have kP := Box4.new ww3 N.size (.bool false) (.slice none 0 0) (.bool false) (.slice none 0 0) 30
              have hb := below1 ww3 (.cells #[.bool false, .slice none 0 0, .bool false, .slice none 0 0] 30)
              have r_kP_hoz := row_ne_high hoz.toCame (Nat.le_refl _)
              have r_kP_hot := row_ne_high hot.toCame (Nat.le_refl _)
              replace hoz := hoz.below hb
              replace hot := hot.below hb
              replace N := N.trans (hb.mono N.size)
              clear hb
              generalize ww3.alloc (.cells #[.bool false, .slice none 0 0, .bool false, .slice none 0 0] 30) = ww4 at *
              refine hK.out _ _ N (fun hHeld => ?_)
              clear hK K
              try simp only [Act.put, sA, sB, sC]
              refine wpAnyH_ready (rs := [6]) (by kernel_rfl) (by simp) (AllReadyH.cons (gt rfl) (fun K hK => ?_) AllReadyH.nil)
              have z0 := kP.c0
              have z1 := kP.c1
              have z2 := kP.c2
              have z3 := kP.c3
              have zf := kP.fr
              go_simp
              clear z0 z1 z2 z3 zf
              replace N := Box4.chain N kP (.bool gz) (.slice a5 zs.length c5) (.bool gy) (.slice b5 ts.length d5)
              replace hoz := hoz.put4 r_kP_hoz (.bool gz) (.slice a5 zs.length c5) (.bool gy) (.slice b5 ts.length d5)
              replace hot := hot.put4 r_kP_hot (.bool gz) (.slice a5 zs.length c5) (.bool gy) (.slice b5 ts.length d5)
              replace kP := kP.put (.bool gz) (.slice a5 zs.length c5) (.bool gy) (.slice b5 ts.length d5)
              refine hK.out _ _ N (fun hHeld => ?_)
              clear hK K
              try simp only [Act.put, sA, sB, sC]
              refine wpAnyH_done (by kernel_rfl) ?_ _
              go_wp2
              go_meet
              case rel => exact ⟨_, a5, c5, b5, d5, rfl, kP, hoz.base_le bs, hot.base_le bs, N⟩
            · skip
              go_simp
              have kP := Box4.new ww2 N.size (.bool false) (.slice none 0 0) (.bool false) (.slice none 0 0) 30
              have hb := below1 ww2 (.cells #[.bool false, .slice none 0 0, .bool false, .slice none 0 0] 30)
              replace o1 := o1.below hb
              replace o2 := o2.below hb
              replace o3 := o3.below hb
              replace o4 := o4.below hb
              replace N := N.trans (hb.mono N.size)
              clear hb
              generalize ww2.alloc (.cells #[.bool false, .slice none 0 0, .bool false, .slice none 0 0] 30) = ww6 at *
              refine hK.out _ _ N (fun hHeld => ?_)
              clear hK K
              try simp only [Act.put, sA, sB, sC]
              refine wpAnyH_ready (rs := [4]) (by kernel_rfl) (by simp) (AllReadyH.cons (gt rfl) (fun K hK => ?_) AllReadyH.nil)
              go_simp
              refine (specAddFrac g h g' h' i1 i2 i3 i4 j1 j2 j3 j4 xs ys xs' ys' _ o1.toSees o2.toSees o3.toSees o4.toSees).mono ?_
              rintro e1 ww7 ⟨u, rfl, hI, hb⟩
              obtain ⟨a5, c5, b5, d5, rfl, hoz, hot, _⟩ := (hI.as HC.out).as HV.out
              rw [HG.out, HY.out]
              have bs := Nat.le_trans sz N.size
              clear hI
              have r_kP_hoz := row_ne_low hoz kP.lt
              have r_kP_hot := row_ne_low hot kP.lt
              replace kP := kP.below hb
              replace o1 := o1.below hb
              replace o2 := o2.below hb
              replace o3 := o3.below hb
              replace o4 := o4.below hb
              replace N := N.trans (hb.mono N.size)
              clear hb
              clear o1 o2 o3 o4
              refine hK.out _ _ N (fun hHeld => ?_)
              clear hK K
              try simp only [Act.put, sA, sB, sC]
              refine wpAnyH_ready (rs := [6]) (by kernel_rfl) (by simp) (AllReadyH.cons (gt rfl) (fun K hK => ?_) AllReadyH.nil)
              have z0 := kP.c0
              have z1 := kP.c1
              have z2 := kP.c2
              have z3 := kP.c3
              have zf := kP.fr
              go_simp
              clear z0 z1 z2 z3 zf
              replace N := Box4.chain N kP (.bool gz) (.slice a5 zs.length c5) (.bool gy) (.slice b5 ts.length d5)
              replace hoz := hoz.put4 r_kP_hoz (.bool gz) (.slice a5 zs.length c5) (.bool gy) (.slice b5 ts.length d5)
              replace hot := hot.put4 r_kP_hot (.bool gz) (.slice a5 zs.length c5) (.bool gy) (.slice b5 ts.length d5)
              replace kP := kP.put (.bool gz) (.slice a5 zs.length c5) (.bool gy) (.slice b5 ts.length d5)
              refine hK.out _ _ N (fun hHeld => ?_)
              clear hK K
              try simp only [Act.put, sA, sB, sC]
              refine wpAnyH_done (by kernel_rfl) ?_ _
              go_wp2
              go_meet
              case rel => exact ⟨_, a5, c5, b5, d5, rfl, kP, hoz.base_le bs, hot.base_le bs, N⟩
          · skip
            go_simp
            have kP := Box4.new ww1 N.size (.bool false) (.slice none 0 0) (.bool false) (.slice none 0 0) 30
            have hb := below1 ww1 (.cells #[.bool false, .slice none 0 0, .bool false, .slice none 0 0] 30)
            replace o1 := o1.below hb
            replace o2 := o2.below hb
            replace N := N.trans (hb.mono N.size)
            clear hb
            generalize ww1.alloc (.cells #[.bool false, .slice none 0 0, .bool false, .slice none 0 0] 30) = ww9 at *
            refine hK.out _ _ N (fun hHeld => ?_)
            clear hK K
            try simp only [Act.put, sA, sB, sC]
            refine wpAnyH_ready (rs := [3]) (by kernel_rfl) (by simp) (AllReadyH.cons (gt rfl) (fun K hK => ?_) AllReadyH.nil)
            go_simp
            refine (toF g' h' a' b' c' d' xs' ys' _ (hB.below N) (hB'.below N) (by omega) (by omega)).mono ?_
            rintro e1 ww10 ⟨i3, j3, i4, j4, rfl, o3, o4, _, hb⟩
            replace kP := kP.below hb
            replace o1 := o1.below hb
            replace o2 := o2.below hb
            replace N := N.trans (hb.mono N.size)
            clear hb
            refine hK.out _ _ N (fun hHeld => ?_)
            clear hK K
            try simp only [Act.put, sA, sB, sC]
            refine wpAnyH_ready (rs := [4]) (by kernel_rfl) (by simp) (AllReadyH.cons (gt rfl) (fun K hK => ?_) AllReadyH.nil)
            go_simp
            refine (specAddFrac g h g' h' i1 i2 i3 i4 j1 j2 j3 j4 xs ys xs' ys' _ o1.toSees o2.toSees o3.toSees o4.toSees).mono ?_
            rintro e1 ww11 ⟨u, rfl, hI, hb⟩
            obtain ⟨a5, c5, b5, d5, rfl, hoz, hot, _⟩ := (hI.as HC.out).as HV.out
            rw [HG.out, HY.out]
            have bs := Nat.le_trans sz N.size
            clear hI
            have r_kP_hoz := row_ne_low hoz kP.lt
            have r_kP_hot := row_ne_low hot kP.lt
            replace kP := kP.below hb
            replace o1 := o1.below hb
            replace o2 := o2.below hb
            replace o3 := o3.below hb
            replace o4 := o4.below hb
            replace N := N.trans (hb.mono N.size)
            clear hb
            clear o1 o2 o3 o4
            refine hK.out _ _ N (fun hHeld => ?_)
            clear hK K
            try simp only [Act.put, sA, sB, sC]
            refine wpAnyH_ready (rs := [6]) (by kernel_rfl) (by simp) (AllReadyH.cons (gt rfl) (fun K hK => ?_) AllReadyH.nil)
            have z0 := kP.c0
            have z1 := kP.c1
            have z2 := kP.c2
            have z3 := kP.c3
            have zf := kP.fr
            go_simp
            clear z0 z1 z2 z3 zf
            replace N := Box4.chain N kP (.bool gz) (.slice a5 zs.length c5) (.bool gy) (.slice b5 ts.length d5)
            replace hoz := hoz.put4 r_kP_hoz (.bool gz) (.slice a5 zs.length c5) (.bool gy) (.slice b5 ts.length d5)
            replace hot := hot.put4 r_kP_hot (.bool gz) (.slice a5 zs.length c5) (.bool gy) (.slice b5 ts.length d5)
            replace kP := kP.put (.bool gz) (.slice a5 zs.length c5) (.bool gy) (.slice b5 ts.length d5)
            refine hK.out _ _ N (fun hHeld => ?_)
            clear hK K
            try simp only [Act.put, sA, sB, sC]
            refine wpAnyH_done (by kernel_rfl) ?_ _
            go_wp2
            go_meet
            case rel => exact ⟨_, a5, c5, b5, d5, rfl, kP, hoz.base_le bs, hot.base_le bs, N⟩
        · skip
          go_simp
          have kP := Box4.new ww0 N.size (.bool false) (.slice none 0 0) (.bool false) (.slice none 0 0) 30
          have hb := below1 ww0 (.cells #[.bool false, .slice none 0 0, .bool false, .slice none 0 0] 30)
          replace N := N.trans (hb.mono N.size)
          clear hb
          generalize ww0.alloc (.cells #[.bool false, .slice none 0 0, .bool false, .slice none 0 0] 30) = ww13 at *
          refine hK.out _ _ N (fun hHeld => ?_)
          clear hK K
          try simp only [Act.put, sA, sB, sC]
          refine wpAnyH_ready (rs := [1]) (by kernel_rfl) (by simp) (AllReadyH.cons (gt rfl) (fun K hK => ?_) AllReadyH.nil)
          go_simp
          refine (toF g h a b c d xs ys _ (hA.below N) (hA'.below N) (by omega) (by omega)).mono ?_
          rintro e1 ww14 ⟨i1, j1, i2, j2, rfl, o1, o2, _, hb⟩
          replace kP := kP.below hb
          replace N := N.trans (hb.mono N.size)
          clear hb
          refine hK.out _ _ N (fun hHeld => ?_)
          clear hK K
          try simp only [Act.put, sA, sB, sC]
          refine wpAnyH_ready (rs := [3]) (by kernel_rfl) (by simp) (AllReadyH.cons (gt rfl) (fun K hK => ?_) AllReadyH.nil)
          go_simp
          refine (toF g' h' a' b' c' d' xs' ys' _ (hB.below N) (hB'.below N) (by omega) (by omega)).mono ?_
          rintro e1 ww15 ⟨i3, j3, i4, j4, rfl, o3, o4, _, hb⟩
          replace kP := kP.below hb
          replace o1 := o1.below hb
          replace o2 := o2.below hb
          replace N := N.trans (hb.mono N.size)
          clear hb
          refine hK.out _ _ N (fun hHeld => ?_)
          clear hK K
          try simp only [Act.put, sA, sB, sC]
          refine wpAnyH_ready (rs := [4]) (by kernel_rfl) (by simp) (AllReadyH.cons (gt rfl) (fun K hK => ?_) AllReadyH.nil)
          go_simp
          refine (specAddFrac g h g' h' i1 i2 i3 i4 j1 j2 j3 j4 xs ys xs' ys' _ o1.toSees o2.toSees o3.toSees o4.toSees).mono ?_
          rintro e1 ww16 ⟨u, rfl, hI, hb⟩
          obtain ⟨a5, c5, b5, d5, rfl, hoz, hot, _⟩ := (hI.as HC.out).as HV.out
          rw [HG.out, HY.out]
          have bs := Nat.le_trans sz N.size
          clear hI
          have r_kP_hoz := row_ne_low hoz kP.lt
          have r_kP_hot := row_ne_low hot kP.lt
          replace kP := kP.below hb
          replace o1 := o1.below hb
          replace o2 := o2.below hb
          replace o3 := o3.below hb
          replace o4 := o4.below hb
          replace N := N.trans (hb.mono N.size)
          clear hb
          clear o1 o2 o3 o4
          refine hK.out _ _ N (fun hHeld => ?_)
          clear hK K
          try simp only [Act.put, sA, sB, sC]
          refine wpAnyH_ready (rs := [6]) (by kernel_rfl) (by simp) (AllReadyH.cons (gt rfl) (fun K hK => ?_) AllReadyH.nil)
          have z0 := kP.c0
          have z1 := kP.c1
          have z2 := kP.c2
          have z3 := kP.c3
          have zf := kP.fr
          go_simp
          clear z0 z1 z2 z3 zf
          replace N := Box4.chain N kP (.bool gz) (.slice a5 zs.length c5) (.bool gy) (.slice b5 ts.length d5)
          replace hoz := hoz.put4 r_kP_hoz (.bool gz) (.slice a5 zs.length c5) (.bool gy) (.slice b5 ts.length d5)
          replace hot := hot.put4 r_kP_hot (.bool gz) (.slice a5 zs.length c5) (.bool gy) (.slice b5 ts.length d5)
          replace kP := kP.put (.bool gz) (.slice a5 zs.length c5) (.bool gy) (.slice b5 ts.length d5)
          refine hK.out _ _ N (fun hHeld => ?_)
          clear hK K
          try simp only [Act.put, sA, sB, sC]
          refine wpAnyH_done (by kernel_rfl) ?_ _
          go_wp2
          go_meet
          case rel => exact ⟨_, a5, c5, b5, d5, rfl, kP, hoz.base_le bs, hot.base_le bs, N⟩
      obtain ⟨p, a3, c3, b3, d3, rfl, KP, ho0, ho1, hb⟩ := hcut
      obtain ⟨kW0, kW1, kW2, kW3, _, _⟩ := KP
      replace kA0 := bat hb kA0
      replace kA1 := bat hb kA1
      replace kA2 := bat hb kA2
      replace kA3 := bat hb kA3
      replace kB0 := bat hb kB0
      replace kB1 := bat hb kB1
      replace kB2 := bat hb kB2
      replace kB3 := bat hb kB3
      replace hA := hA.below hb
      replace hA' := hA'.below hb
      replace hB := hB.below hb
      replace hB' := hB'.below hb
      replace B := B.trans (hb.mono B.size)
      clear hb
      go_wp2_with fail
      refine (toF g h a b c d xs ys _ hA hA' (by omega) (by omega)).mono ?_
      rintro e w4 ⟨a4, c4, b4, d4, rfl, ox, ox', hap, hb⟩
      have ap_hA_ox := apart_later hA ox
      have ap_hA'_ox := apart_later hA' ox
      have ap_hB_ox := apart_later hB ox
      have ap_hB'_ox := apart_later hB' ox
      have ap_ho0_ox := apart_later ho0.toCame ox
      have ap_ho1_ox := apart_later ho1.toCame ox
      have r_kA_ox := row_ne_low ox (World.block_lt_of_cell? _ _ kA0)
      have r_kB_ox := row_ne_low ox (World.block_lt_of_cell? _ _ kB0)
      have r_kW_ox := row_ne_low ox (World.block_lt_of_cell? _ _ kW0)
      have ap_hA_ox' := apart_later hA ox'
      have ap_hA'_ox' := apart_later hA' ox'
      have ap_hB_ox' := apart_later hB ox'
      have ap_hB'_ox' := apart_later hB' ox'
      have ap_ho0_ox' := apart_later ho0.toCame ox'
      have ap_ho1_ox' := apart_later ho1.toCame ox'
      have r_kA_ox' := row_ne_low ox' (World.block_lt_of_cell? _ _ kA0)
      have r_kB_ox' := row_ne_low ox' (World.block_lt_of_cell? _ _ kB0)
      have r_kW_ox' := row_ne_low ox' (World.block_lt_of_cell? _ _ kW0)
      have sB_ox := B.size
      have S_ox := hb.size
      have HAP_ox : Hid (∀ q off, a4 = some ⟨q, off, none⟩ → xs ≠ [] → rowOf b4 ys ≠ some q) := hap
      clear hap
      replace kA0 := bat hb kA0
      replace kA1 := bat hb kA1
      replace kA2 := bat hb kA2
      replace kA3 := bat hb kA3
      replace kB0 := bat hb kB0
      replace kB1 := bat hb kB1
      replace kB2 := bat hb kB2
      replace kB3 := bat hb kB3
      replace kW0 := bat hb kW0
      replace kW1 := bat hb kW1
      replace kW2 := bat hb kW2
      replace kW3 := bat hb kW3
      replace hA := hA.below hb
      replace hA' := hA'.below hb
      replace hB := hB.below hb
      replace hB' := hB'.below hb
      replace ho0 := ho0.below hb
      replace ho1 := ho1.below hb
      replace B := B.trans (hb.mono B.size)
      clear hb
      have l_kA := World.block_lt_of_cell? _ _ kA0
      have l_kB := World.block_lt_of_cell? _ _ kB0
      have l_kW := World.block_lt_of_cell? _ _ kW0
      go_wp2_with fail
      clear l_kA l_kB l_kW
      obtain ⟨kX0, kX1, kX2, kX3⟩ := fvar_new w4 g h a4 b4 xs.length ys.length c4 d4 30
      have r_kX_ox := row_ne_high ox.toCame (Nat.le_refl _)
      have r_kX_ox' := row_ne_high ox'.toCame (Nat.le_refl _)
      have hb := below1 w4 (.cells #[.bool g, .slice a4 xs.length c4, .bool h, .slice b4 ys.length d4] 30)
      replace kA0 := bat hb kA0
      replace kA1 := bat hb kA1
      replace kA2 := bat hb kA2
      replace kA3 := bat hb kA3
      replace kB0 := bat hb kB0
      replace kB1 := bat hb kB1
      replace kB2 := bat hb kB2
      replace kB3 := bat hb kB3
      replace kW0 := bat hb kW0
      replace kW1 := bat hb kW1
      replace kW2 := bat hb kW2
      replace kW3 := bat hb kW3
      replace hA := hA.below hb
      replace hA' := hA'.below hb
      replace hB := hB.below hb
      replace hB' := hB'.below hb
      replace ho0 := ho0.below hb
      replace ho1 := ho1.below hb
      replace ox := ox.below hb
      replace ox' := ox'.below hb
      replace S_ox := Nat.le_trans S_ox hb.size
      replace B := B.trans (hb.mono B.size)
      clear hb
      generalize w4.alloc (.cells #[.bool g, .slice a4 xs.length c4, .bool h, .slice b4 ys.length d4] 30) = W4 at *
      refine (toF g' h' a' b' c' d' xs' ys' _ hB hB' (by omega) (by omega)).mono ?_
      rintro e w5 ⟨a6, c6, b6, d6, rfl, oy, oy', hap, hb⟩
      have ap_hA_oy := apart_later hA oy
      have ap_hA'_oy := apart_later hA' oy
      have ap_hB_oy := apart_later hB oy
      have ap_hB'_oy := apart_later hB' oy
      have ap_ho0_oy := apart_later ho0.toCame oy
      have ap_ho1_oy := apart_later ho1.toCame oy
      have ap_ox_oy := apart_later ox.toCame oy
      have ap_ox'_oy := apart_later ox'.toCame oy
      have r_kA_oy := row_ne_low oy (World.block_lt_of_cell? _ _ kA0)
      have r_kB_oy := row_ne_low oy (World.block_lt_of_cell? _ _ kB0)
      have r_kW_oy := row_ne_low oy (World.block_lt_of_cell? _ _ kW0)
      have r_kX_oy := row_ne_low oy (World.block_lt_of_cell? _ _ kX0)
      have ap_oy_ox := apart_before ox.toCame oy
      have ap_oy_ox' := apart_before ox'.toCame oy
      have ap_hA_oy' := apart_later hA oy'
      have ap_hA'_oy' := apart_later hA' oy'
      have ap_hB_oy' := apart_later hB oy'
      have ap_hB'_oy' := apart_later hB' oy'
      have ap_ho0_oy' := apart_later ho0.toCame oy'
      have ap_ho1_oy' := apart_later ho1.toCame oy'
      have ap_ox_oy' := apart_later ox.toCame oy'
      have ap_ox'_oy' := apart_later ox'.toCame oy'
      have r_kA_oy' := row_ne_low oy' (World.block_lt_of_cell? _ _ kA0)
      have r_kB_oy' := row_ne_low oy' (World.block_lt_of_cell? _ _ kB0)
      have r_kW_oy' := row_ne_low oy' (World.block_lt_of_cell? _ _ kW0)
      have r_kX_oy' := row_ne_low oy' (World.block_lt_of_cell? _ _ kX0)
      have ap_oy'_ox := apart_before ox.toCame oy'
      have ap_oy'_ox' := apart_before ox'.toCame oy'
      have sB_oy := B.size
      have S_oy := hb.size
      have HAP_oy : Hid (∀ q off, a6 = some ⟨q, off, none⟩ → xs' ≠ [] → rowOf b6 ys' ≠ some q) := hap
      clear hap
      replace kA0 := bat hb kA0
      replace kA1 := bat hb kA1
      replace kA2 := bat hb kA2
      replace kA3 := bat hb kA3
      replace kB0 := bat hb kB0
      replace kB1 := bat hb kB1
      replace kB2 := bat hb kB2
      replace kB3 := bat hb kB3
      replace kW0 := bat hb kW0
      replace kW1 := bat hb kW1
      replace kW2 := bat hb kW2
      replace kW3 := bat hb kW3
      replace kX0 := bat hb kX0
      replace kX1 := bat hb kX1
      replace kX2 := bat hb kX2
      replace kX3 := bat hb kX3
      replace hA := hA.below hb
      replace hA' := hA'.below hb
      replace hB := hB.below hb
      replace hB' := hB'.below hb
      replace ho0 := ho0.below hb
      replace ho1 := ho1.below hb
      replace ox := ox.below hb
      replace ox' := ox'.below hb
      replace S_ox := Nat.le_trans S_ox hb.size
      replace B := B.trans (hb.mono B.size)
      clear hb
      have l_kA := World.block_lt_of_cell? _ _ kA0
      have l_kB := World.block_lt_of_cell? _ _ kB0
      have l_kW := World.block_lt_of_cell? _ _ kW0
      have l_kX := World.block_lt_of_cell? _ _ kX0
      go_wp2_with fail
      clear l_kA l_kB l_kW l_kX
      obtain ⟨kY0, kY1, kY2, kY3⟩ := fvar_new w5 g' h' a6 b6 xs'.length ys'.length c6 d6 30
      have r_kY_ox := row_ne_high ox.toCame (Nat.le_refl _)
      have r_kY_ox' := row_ne_high ox'.toCame (Nat.le_refl _)
      have r_kY_oy := row_ne_high oy.toCame (Nat.le_refl _)
      have r_kY_oy' := row_ne_high oy'.toCame (Nat.le_refl _)
      have hb := below1 w5 (.cells #[.bool g', .slice a6 xs'.length c6, .bool h', .slice b6 ys'.length d6] 30)
      replace kA0 := bat hb kA0
      replace kA1 := bat hb kA1
      replace kA2 := bat hb kA2
      replace kA3 := bat hb kA3
      replace kB0 := bat hb kB0
      replace kB1 := bat hb kB1
      replace kB2 := bat hb kB2
      replace kB3 := bat hb kB3
      replace kW0 := bat hb kW0
      replace kW1 := bat hb kW1
      replace kW2 := bat hb kW2
      replace kW3 := bat hb kW3
      replace kX0 := bat hb kX0
      replace kX1 := bat hb kX1
      replace kX2 := bat hb kX2
      replace kX3 := bat hb kX3
      replace hA := hA.below hb
      replace hA' := hA'.below hb
      replace hB := hB.below hb
      replace hB' := hB'.below hb
      replace ho0 := ho0.below hb
      replace ho1 := ho1.below hb
      replace ox := ox.below hb
      replace ox' := ox'.below hb
      replace oy := oy.below hb
      replace oy' := oy'.below hb
      replace S_ox := Nat.le_trans S_ox hb.size
      replace S_oy := Nat.le_trans S_oy hb.size
      replace B := B.trans (hb.mono B.size)
      clear hb
      generalize w5.alloc (.cells #[.bool g', .slice a6 xs'.length c6, .bool h', .slice b6 ys'.length d6] 30) = W5 at *
      refine (implAddFrac g h g' h' a4 b4 a6 b6 c4 d4 c6 d6 xs ys xs' ys' _ ox.toSees ox'.toSees oy.toSees oy'.toSees).mono ?_
      rintro e w6 ⟨u, rfl, hI, hb⟩
      obtain ⟨a7, c7, b7, d7, rfl, hog, hoh, apg⟩ := (hI.as HC.out).as HV.out
      rw [HG.out, HY.out]
      clear hI
      have ap_hA_hog := apart_later hA hog
      have ap_hA'_hog := apart_later hA' hog
      have ap_hB_hog := apart_later hB hog
      have ap_hB'_hog := apart_later hB' hog
      have ap_ho0_hog := apart_later ho0.toCame hog
      have ap_ho1_hog := apart_later ho1.toCame hog
      have ap_ox_hog := apart_later ox.toCame hog
      have ap_ox'_hog := apart_later ox'.toCame hog
      have ap_oy_hog := apart_later oy.toCame hog
      have ap_oy'_hog := apart_later oy'.toCame hog
      have r_kA_hog := row_ne_low hog (World.block_lt_of_cell? _ _ kA0)
      have r_kB_hog := row_ne_low hog (World.block_lt_of_cell? _ _ kB0)
      have r_kW_hog := row_ne_low hog (World.block_lt_of_cell? _ _ kW0)
      have r_kX_hog := row_ne_low hog (World.block_lt_of_cell? _ _ kX0)
      have r_kY_hog := row_ne_low hog (World.block_lt_of_cell? _ _ kY0)
      have ap_hog_ox := apart_before ox.toCame hog
      have ap_hog_ox' := apart_before ox'.toCame hog
      have ap_hog_oy := apart_before oy.toCame hog
      have ap_hog_oy' := apart_before oy'.toCame hog
      have ap_hA_hoh := apart_later hA hoh
      have ap_hA'_hoh := apart_later hA' hoh
      have ap_hB_hoh := apart_later hB hoh
      have ap_hB'_hoh := apart_later hB' hoh
      have ap_ho0_hoh := apart_later ho0.toCame hoh
      have ap_ho1_hoh := apart_later ho1.toCame hoh
      have ap_ox_hoh := apart_later ox.toCame hoh
      have ap_ox'_hoh := apart_later ox'.toCame hoh
      have ap_oy_hoh := apart_later oy.toCame hoh
      have ap_oy'_hoh := apart_later oy'.toCame hoh
      have r_kA_hoh := row_ne_low hoh (World.block_lt_of_cell? _ _ kA0)
      have r_kB_hoh := row_ne_low hoh (World.block_lt_of_cell? _ _ kB0)
      have r_kW_hoh := row_ne_low hoh (World.block_lt_of_cell? _ _ kW0)
      have r_kX_hoh := row_ne_low hoh (World.block_lt_of_cell? _ _ kX0)
      have r_kY_hoh := row_ne_low hoh (World.block_lt_of_cell? _ _ kY0)
      have ap_hoh_ox := apart_before ox.toCame hoh
      have ap_hoh_ox' := apart_before ox'.toCame hoh
      have ap_hoh_oy := apart_before oy.toCame hoh
      have ap_hoh_oy' := apart_before oy'.toCame hoh
      have sB_hog := B.size
      have S_hog := hb.size
      have HAP_hog : Hid (∀ q off, a7 = some ⟨q, off, none⟩ → zs ≠ [] → rowOf b7 ts ≠ some q) := apg
      clear apg
      replace kA0 := bat hb kA0
      replace kA1 := bat hb kA1
      replace kA2 := bat hb kA2
      replace kA3 := bat hb kA3
      replace kB0 := bat hb kB0
      replace kB1 := bat hb kB1
      replace kB2 := bat hb kB2
      replace kB3 := bat hb kB3
      replace kW0 := bat hb kW0
      replace kW1 := bat hb kW1
      replace kW2 := bat hb kW2
      replace kW3 := bat hb kW3
      replace kX0 := bat hb kX0
      replace kX1 := bat hb kX1
      replace kX2 := bat hb kX2
      replace kX3 := bat hb kX3
      replace kY0 := bat hb kY0
      replace kY1 := bat hb kY1
      replace kY2 := bat hb kY2
      replace kY3 := bat hb kY3
      replace hA := hA.below hb
      replace hA' := hA'.below hb
      replace hB := hB.below hb
      replace hB' := hB'.below hb
      replace ho0 := ho0.below hb
      replace ho1 := ho1.below hb
      replace ox := ox.below hb
      replace ox' := ox'.below hb
      replace oy := oy.below hb
      replace oy' := oy'.below hb
      replace S_ox := Nat.le_trans S_ox hb.size
      replace S_oy := Nat.le_trans S_oy hb.size
      replace B := B.trans (hb.mono B.size)
      clear hb
      have l_kA := World.block_lt_of_cell? _ _ kA0
      have l_kB := World.block_lt_of_cell? _ _ kB0
      have l_kW := World.block_lt_of_cell? _ _ kW0
      have l_kX := World.block_lt_of_cell? _ _ kX0
      have l_kY := World.block_lt_of_cell? _ _ kY0
      go_wp2_with fail
      clear l_kA l_kB l_kW l_kX l_kY
      obtain ⟨kG0, kG1, kG2, kG3⟩ := fvar_new w6 gz gy a7 b7 zs.length ts.length c7 d7 30
      have r_kG_ox := row_ne_high ox.toCame (Nat.le_refl _)
      have r_kG_ox' := row_ne_high ox'.toCame (Nat.le_refl _)
      have r_kG_oy := row_ne_high oy.toCame (Nat.le_refl _)
      have r_kG_oy' := row_ne_high oy'.toCame (Nat.le_refl _)
      have r_kG_hog := row_ne_high hog.toCame (Nat.le_refl _)
      have r_kG_hoh := row_ne_high hoh.toCame (Nat.le_refl _)
      have hb := below1 w6 (.cells #[.bool gz, .slice a7 zs.length c7, .bool gy, .slice b7 ts.length d7] 30)
      replace kA0 := bat hb kA0
      replace kA1 := bat hb kA1
      replace kA2 := bat hb kA2
      replace kA3 := bat hb kA3
      replace kB0 := bat hb kB0
      replace kB1 := bat hb kB1
      replace kB2 := bat hb kB2
      replace kB3 := bat hb kB3
      replace kW0 := bat hb kW0
      replace kW1 := bat hb kW1
      replace kW2 := bat hb kW2
      replace kW3 := bat hb kW3
      replace kX0 := bat hb kX0
      replace kX1 := bat hb kX1
      replace kX2 := bat hb kX2
      replace kX3 := bat hb kX3
      replace kY0 := bat hb kY0
      replace kY1 := bat hb kY1
      replace kY2 := bat hb kY2
      replace kY3 := bat hb kY3
      replace hA := hA.below hb
      replace hA' := hA'.below hb
      replace hB := hB.below hb
      replace hB' := hB'.below hb
      replace ho0 := ho0.below hb
      replace ho1 := ho1.below hb
      replace ox := ox.below hb
      replace ox' := ox'.below hb
      replace oy := oy.below hb
      replace oy' := oy'.below hb
      replace hog := hog.below hb
      replace hoh := hoh.below hb
      replace S_ox := Nat.le_trans S_ox hb.size
      replace S_oy := Nat.le_trans S_oy hb.size
      replace S_hog := Nat.le_trans S_hog hb.size
      replace B := B.trans (hb.mono B.size)
      clear hb
      generalize w6.alloc (.cells #[.bool gz, .slice a7 zs.length c7, .bool gy, .slice b7 ts.length d7] 30) = W6 at *
      refine (eqF gz gy a7 a3 b7 b3 c7 c3 d7 d3 zs ts _ hog.toSees ho0.toSees hoh.toSees ho1.toSees).mono ?_
      rintro e w7 ⟨rfl, hb⟩
      replace kA0 := bat hb kA0
      replace kA1 := bat hb kA1
      replace kA2 := bat hb kA2
      replace kA3 := bat hb kA3
      replace kB0 := bat hb kB0
      replace kB1 := bat hb kB1
      replace kB2 := bat hb kB2
      replace kB3 := bat hb kB3
      replace kW0 := bat hb kW0
      replace kW1 := bat hb kW1
      replace kW2 := bat hb kW2
      replace kW3 := bat hb kW3
      replace kX0 := bat hb kX0
      replace kX1 := bat hb kX1
      replace kX2 := bat hb kX2
      replace kX3 := bat hb kX3
      replace kY0 := bat hb kY0
      replace kY1 := bat hb kY1
      replace kY2 := bat hb kY2
      replace kY3 := bat hb kY3
      replace kG0 := bat hb kG0
      replace kG1 := bat hb kG1
      replace kG2 := bat hb kG2
      replace kG3 := bat hb kG3
      replace hA := hA.below hb
      replace hA' := hA'.below hb
      replace hB := hB.below hb
      replace hB' := hB'.below hb
      replace ho0 := ho0.below hb
      replace ho1 := ho1.below hb
      replace ox := ox.below hb
      replace ox' := ox'.below hb
      replace oy := oy.below hb
      replace oy' := oy'.below hb
      replace hog := hog.below hb
      replace hoh := hoh.below hb
      replace S_ox := Nat.le_trans S_ox hb.size
      replace S_oy := Nat.le_trans S_oy hb.size
      replace S_hog := Nat.le_trans S_hog hb.size
      replace B := B.trans (hb.mono B.size)
      clear hb
      go_wp2_with fail
      have k0 : w7.cell? ⟨w4.heap.size, 0, none⟩ = some (.bool g) ∧ w7.cell? ⟨w4.heap.size, 1, none⟩ = some (.slice a4 xs.length c4) ∧ w7.cell? ⟨w4.heap.size, 2, none⟩ = some (.bool h) ∧ w7.cell? ⟨w4.heap.size, 3, none⟩ = some (.slice b4 ys.length d4) ∧ w7.cell? ⟨w.heap.size, 0, none⟩ = some (.bool g) ∧ w7.cell? ⟨w.heap.size, 1, none⟩ = some (.slice a xs.length c) ∧ w7.cell? ⟨w.heap.size, 2, none⟩ = some (.bool h) ∧ w7.cell? ⟨w.heap.size, 3, none⟩ = some (.slice b ys.length d) := ⟨kX0, kX1, kX2, kX3, kA0, kA1, kA2, kA3⟩
      go_region_held3 (fun w' => w'.cell? ⟨w4.heap.size, 0, none⟩ = some (.bool g) ∧ w'.cell? ⟨w4.heap.size, 1, none⟩ = some (.slice a4 xs.length c4) ∧ w'.cell? ⟨w4.heap.size, 2, none⟩ = some (.bool h) ∧ w'.cell? ⟨w4.heap.size, 3, none⟩ = some (.slice b4 ys.length d4) ∧ w'.cell? ⟨w.heap.size, 0, none⟩ = some (.bool g) ∧ w'.cell? ⟨w.heap.size, 1, none⟩ = some (.slice a xs.length c) ∧ w'.cell? ⟨w.heap.size, 2, none⟩ = some (.bool h) ∧ w'.cell? ⟨w.heap.size, 3, none⟩ = some (.slice b ys.length d))
        (first | exact k0 | exact n1 | exact n2 | (simp [*]))
        (first
        | (go_at_call 10; refine (toF g h a b c d xs ys _ ?_ ?_ ?_ ?_).mono ?_; exact hA.below (Below.refl _ _).drew; exact hA'.below (Below.refl _ _).drew; omega; omega; rintro e w8 ⟨aq, cq, ar, cr, rfl, oq, orr, _, hbq⟩; have n1 : w8.cell? ⟨w4.heap.size, 0, none⟩ = some (.bool g) ∧ w8.cell? ⟨w4.heap.size, 1, none⟩ = some (.slice a4 xs.length c4) ∧ w8.cell? ⟨w4.heap.size, 2, none⟩ = some (.bool h) ∧ w8.cell? ⟨w4.heap.size, 3, none⟩ = some (.slice b4 ys.length d4) ∧ w8.cell? ⟨w.heap.size, 0, none⟩ = some (.bool g) ∧ w8.cell? ⟨w.heap.size, 1, none⟩ = some (.slice a xs.length c) ∧ w8.cell? ⟨w.heap.size, 2, none⟩ = some (.bool h) ∧ w8.cell? ⟨w.heap.size, 3, none⟩ = some (.slice b ys.length d) := ⟨bat hbq k0.1, bat hbq k0.2.1, bat hbq k0.2.2.1, bat hbq k0.2.2.2.1, bat hbq k0.2.2.2.2.1, bat hbq k0.2.2.2.2.2.1, bat hbq k0.2.2.2.2.2.2.1, bat hbq k0.2.2.2.2.2.2.2⟩)
        | (go_at_call 12; refine (eqF g h a4 aq b4 ar c4 cq d4 cr xs ys _ ?_ oq.toSees ?_ orr.toSees).mono ?_; exact ox.toSees.below ((Below.refl _ _).drew.trans hbq); exact ox'.toSees.below ((Below.refl _ _).drew.trans hbq); rintro e w9 ⟨rfl, hbr⟩; have n2 : w9.cell? ⟨w4.heap.size, 0, none⟩ = some (.bool g) ∧ w9.cell? ⟨w4.heap.size, 1, none⟩ = some (.slice a4 xs.length c4) ∧ w9.cell? ⟨w4.heap.size, 2, none⟩ = some (.bool h) ∧ w9.cell? ⟨w4.heap.size, 3, none⟩ = some (.slice b4 ys.length d4) ∧ w9.cell? ⟨w.heap.size, 0, none⟩ = some (.bool g) ∧ w9.cell? ⟨w.heap.size, 1, none⟩ = some (.slice a xs.length c) ∧ w9.cell? ⟨w.heap.size, 2, none⟩ = some (.bool h) ∧ w9.cell? ⟨w.heap.size, 3, none⟩ = some (.slice b ys.length d) := ⟨bat hbr n1.1, bat hbr n1.2.1, bat hbr n1.2.2.1, bat hbr n1.2.2.2.1, bat hbr n1.2.2.2.2.1, bat hbr n1.2.2.2.2.2.1, bat hbr n1.2.2.2.2.2.2.1, bat hbr n1.2.2.2.2.2.2.2⟩))
      have hb := (Below.refl _ _).drew.trans (hbq.trans (hbr.mono hbq.size))
      clear hbq hbr n1 n2 oq orr k0
      replace kA0 := bat hb kA0
      replace kA1 := bat hb kA1
      replace kA2 := bat hb kA2
      replace kA3 := bat hb kA3
      replace kB0 := bat hb kB0
      replace kB1 := bat hb kB1
      replace kB2 := bat hb kB2
      replace kB3 := bat hb kB3
      replace kW0 := bat hb kW0
      replace kW1 := bat hb kW1
      replace kW2 := bat hb kW2
      replace kW3 := bat hb kW3
      replace kX0 := bat hb kX0
      replace kX1 := bat hb kX1
      replace kX2 := bat hb kX2
      replace kX3 := bat hb kX3
      replace kY0 := bat hb kY0
      replace kY1 := bat hb kY1
      replace kY2 := bat hb kY2
      replace kY3 := bat hb kY3
      replace kG0 := bat hb kG0
      replace kG1 := bat hb kG1
      replace kG2 := bat hb kG2
      replace kG3 := bat hb kG3
      replace hA := hA.below hb
      replace hA' := hA'.below hb
      replace hB := hB.below hb
      replace hB' := hB'.below hb
      replace ho0 := ho0.below hb
      replace ho1 := ho1.below hb
      replace ox := ox.below hb
      replace ox' := ox'.below hb
      replace oy := oy.below hb
      replace oy' := oy'.below hb
      replace hog := hog.below hb
      replace hoh := hoh.below hb
      replace S_ox := Nat.le_trans S_ox hb.size
      replace S_oy := Nat.le_trans S_oy hb.size
      replace S_hog := Nat.le_trans S_hog hb.size
      replace B := B.trans (hb.mono B.size)
      clear hb
      go_wp2_with fail
      have k0 : w9.cell? ⟨w5.heap.size, 0, none⟩ = some (.bool g') ∧ w9.cell? ⟨w5.heap.size, 1, none⟩ = some (.slice a6 xs'.length c6) ∧ w9.cell? ⟨w5.heap.size, 2, none⟩ = some (.bool h') ∧ w9.cell? ⟨w5.heap.size, 3, none⟩ = some (.slice b6 ys'.length d6) ∧ w9.cell? ⟨w.heap.size + 1, 0, none⟩ = some (.bool g') ∧ w9.cell? ⟨w.heap.size + 1, 1, none⟩ = some (.slice a' xs'.length c') ∧ w9.cell? ⟨w.heap.size + 1, 2, none⟩ = some (.bool h') ∧ w9.cell? ⟨w.heap.size + 1, 3, none⟩ = some (.slice b' ys'.length d') := ⟨kY0, kY1, kY2, kY3, kB0, kB1, kB2, kB3⟩
      go_region_held3 (fun w' => w'.cell? ⟨w5.heap.size, 0, none⟩ = some (.bool g') ∧ w'.cell? ⟨w5.heap.size, 1, none⟩ = some (.slice a6 xs'.length c6) ∧ w'.cell? ⟨w5.heap.size, 2, none⟩ = some (.bool h') ∧ w'.cell? ⟨w5.heap.size, 3, none⟩ = some (.slice b6 ys'.length d6) ∧ w'.cell? ⟨w.heap.size + 1, 0, none⟩ = some (.bool g') ∧ w'.cell? ⟨w.heap.size + 1, 1, none⟩ = some (.slice a' xs'.length c') ∧ w'.cell? ⟨w.heap.size + 1, 2, none⟩ = some (.bool h') ∧ w'.cell? ⟨w.heap.size + 1, 3, none⟩ = some (.slice b' ys'.length d'))
        (first | exact k0 | exact n1 | exact n2 | (simp [*]))
        (first
        | (go_at_call 10; refine (toF g' h' a' b' c' d' xs' ys' _ ?_ ?_ ?_ ?_).mono ?_; exact hB.below (Below.refl _ _).drew; exact hB'.below (Below.refl _ _).drew; omega; omega; rintro e w10 ⟨aq, cq, ar, cr, rfl, oq, orr, _, hbq⟩; have n1 : w10.cell? ⟨w5.heap.size, 0, none⟩ = some (.bool g') ∧ w10.cell? ⟨w5.heap.size, 1, none⟩ = some (.slice a6 xs'.length c6) ∧ w10.cell? ⟨w5.heap.size, 2, none⟩ = some (.bool h') ∧ w10.cell? ⟨w5.heap.size, 3, none⟩ = some (.slice b6 ys'.length d6) ∧ w10.cell? ⟨w.heap.size + 1, 0, none⟩ = some (.bool g') ∧ w10.cell? ⟨w.heap.size + 1, 1, none⟩ = some (.slice a' xs'.length c') ∧ w10.cell? ⟨w.heap.size + 1, 2, none⟩ = some (.bool h') ∧ w10.cell? ⟨w.heap.size + 1, 3, none⟩ = some (.slice b' ys'.length d') := ⟨bat hbq k0.1, bat hbq k0.2.1, bat hbq k0.2.2.1, bat hbq k0.2.2.2.1, bat hbq k0.2.2.2.2.1, bat hbq k0.2.2.2.2.2.1, bat hbq k0.2.2.2.2.2.2.1, bat hbq k0.2.2.2.2.2.2.2⟩)
        | (go_at_call 12; refine (eqF g' h' a6 aq b6 ar c6 cq d6 cr xs' ys' _ ?_ oq.toSees ?_ orr.toSees).mono ?_; exact oy.toSees.below ((Below.refl _ _).drew.trans hbq); exact oy'.toSees.below ((Below.refl _ _).drew.trans hbq); rintro e w11 ⟨rfl, hbr⟩; have n2 : w11.cell? ⟨w5.heap.size, 0, none⟩ = some (.bool g') ∧ w11.cell? ⟨w5.heap.size, 1, none⟩ = some (.slice a6 xs'.length c6) ∧ w11.cell? ⟨w5.heap.size, 2, none⟩ = some (.bool h') ∧ w11.cell? ⟨w5.heap.size, 3, none⟩ = some (.slice b6 ys'.length d6) ∧ w11.cell? ⟨w.heap.size + 1, 0, none⟩ = some (.bool g') ∧ w11.cell? ⟨w.heap.size + 1, 1, none⟩ = some (.slice a' xs'.length c') ∧ w11.cell? ⟨w.heap.size + 1, 2, none⟩ = some (.bool h') ∧ w11.cell? ⟨w.heap.size + 1, 3, none⟩ = some (.slice b' ys'.length d') := ⟨bat hbr n1.1, bat hbr n1.2.1, bat hbr n1.2.2.1, bat hbr n1.2.2.2.1, bat hbr n1.2.2.2.2.1, bat hbr n1.2.2.2.2.2.1, bat hbr n1.2.2.2.2.2.2.1, bat hbr n1.2.2.2.2.2.2.2⟩))
      have hb := (Below.refl _ _).drew.trans (hbq.trans (hbr.mono hbq.size))
      clear hbq hbr n1 n2 oq orr k0
      replace kA0 := bat hb kA0
      replace kA1 := bat hb kA1
      replace kA2 := bat hb kA2
      replace kA3 := bat hb kA3
      replace kB0 := bat hb kB0
      replace kB1 := bat hb kB1
      replace kB2 := bat hb kB2
      replace kB3 := bat hb kB3
      replace kW0 := bat hb kW0
      replace kW1 := bat hb kW1
      replace kW2 := bat hb kW2
      replace kW3 := bat hb kW3
      replace kX0 := bat hb kX0
      replace kX1 := bat hb kX1
      replace kX2 := bat hb kX2
      replace kX3 := bat hb kX3
      replace kY0 := bat hb kY0
      replace kY1 := bat hb kY1
      replace kY2 := bat hb kY2
      replace kY3 := bat hb kY3
      replace kG0 := bat hb kG0
      replace kG1 := bat hb kG1
      replace kG2 := bat hb kG2
      replace kG3 := bat hb kG3
      replace hA := hA.below hb
      replace hA' := hA'.below hb
      replace hB := hB.below hb
      replace hB' := hB'.below hb
      replace ho0 := ho0.below hb
      replace ho1 := ho1.below hb
      replace ox := ox.below hb
      replace ox' := ox'.below hb
      replace oy := oy.below hb
      replace oy' := oy'.below hb
      replace hog := hog.below hb
      replace hoh := hoh.below hb
      replace S_ox := Nat.le_trans S_ox hb.size
      replace S_oy := Nat.le_trans S_oy hb.size
      replace S_hog := Nat.le_trans S_hog hb.size
      replace B := B.trans (hb.mono B.size)
      clear hb
      go_wp2_with fail
      refine (markF _ g h a4 b4 c4 d4 xs ys 1 _ ox ox' HAP_ox.out (by decide) (by omega)).mono ?_
      rintro e w12 ⟨rfl, wm, g1, g2, _, _⟩
      replace B := B.trans ((below_two ox ox' g1 g2 S_ox).mono sB_ox)
      replace kA0 := g2.cell (g1.cell kA0 r_kA_ox) r_kA_ox'
      replace kA1 := g2.cell (g1.cell kA1 r_kA_ox) r_kA_ox'
      replace kA2 := g2.cell (g1.cell kA2 r_kA_ox) r_kA_ox'
      replace kA3 := g2.cell (g1.cell kA3 r_kA_ox) r_kA_ox'
      replace kB0 := g2.cell (g1.cell kB0 r_kB_ox) r_kB_ox'
      replace kB1 := g2.cell (g1.cell kB1 r_kB_ox) r_kB_ox'
      replace kB2 := g2.cell (g1.cell kB2 r_kB_ox) r_kB_ox'
      replace kB3 := g2.cell (g1.cell kB3 r_kB_ox) r_kB_ox'
      replace kW0 := g2.cell (g1.cell kW0 r_kW_ox) r_kW_ox'
      replace kW1 := g2.cell (g1.cell kW1 r_kW_ox) r_kW_ox'
      replace kW2 := g2.cell (g1.cell kW2 r_kW_ox) r_kW_ox'
      replace kW3 := g2.cell (g1.cell kW3 r_kW_ox) r_kW_ox'
      replace kY0 := g2.cell (g1.cell kY0 r_kY_ox) r_kY_ox'
      replace kY1 := g2.cell (g1.cell kY1 r_kY_ox) r_kY_ox'
      replace kY2 := g2.cell (g1.cell kY2 r_kY_ox) r_kY_ox'
      replace kY3 := g2.cell (g1.cell kY3 r_kY_ox) r_kY_ox'
      replace kG0 := g2.cell (g1.cell kG0 r_kG_ox) r_kG_ox'
      replace kG1 := g2.cell (g1.cell kG1 r_kG_ox) r_kG_ox'
      replace kG2 := g2.cell (g1.cell kG2 r_kG_ox) r_kG_ox'
      replace kG3 := g2.cell (g1.cell kG3 r_kG_ox) r_kG_ox'
      replace hA := (hA.kept g1 ap_hA_ox).kept g2 ap_hA_ox'
      replace hA' := (hA'.kept g1 ap_hA'_ox).kept g2 ap_hA'_ox'
      replace hB := (hB.kept g1 ap_hB_ox).kept g2 ap_hB_ox'
      replace hB' := (hB'.kept g1 ap_hB'_ox).kept g2 ap_hB'_ox'
      replace ho0 := (ho0.kept g1 ap_ho0_ox).kept g2 ap_ho0_ox'
      replace ho1 := (ho1.kept g1 ap_ho1_ox).kept g2 ap_ho1_ox'
      replace oy := (oy.kept g1 ap_oy_ox).kept g2 ap_oy_ox'
      replace oy' := (oy'.kept g1 ap_oy'_ox).kept g2 ap_oy'_ox'
      replace hog := (hog.kept g1 ap_hog_ox).kept g2 ap_hog_ox'
      replace hoh := (hoh.kept g1 ap_hoh_ox).kept g2 ap_hoh_ox'
      replace S_oy := Nat.le_trans S_oy (Nat.le_trans g1.size g2.size)
      replace S_hog := Nat.le_trans S_hog (Nat.le_trans g1.size g2.size)
      clear g1 g2 ox ox' HAP_ox sB_ox S_ox kX0 kX1 kX2 kX3 r_kA_ox r_kA_ox' r_kB_ox r_kB_ox' r_kW_ox r_kW_ox' r_kY_ox r_kY_ox' r_kG_ox r_kG_ox' ap_hA_ox ap_hA_ox' ap_hA'_ox ap_hA'_ox' ap_hB_ox ap_hB_ox' ap_hB'_ox ap_hB'_ox' ap_ho0_ox ap_ho0_ox' ap_ho1_ox ap_ho1_ox' ap_oy_ox ap_oy_ox' ap_oy'_ox ap_oy'_ox' ap_hog_ox ap_hog_ox' ap_hoh_ox ap_hoh_ox'
      go_wp2_with fail
      refine (markF _ g' h' a6 b6 c6 d6 xs' ys' (1 + xs.length + ys.length) _ oy oy' HAP_oy.out (by omega) (by omega)).mono ?_
      rintro e w13 ⟨rfl, wm, g1, g2, _, _⟩
      replace B := B.trans ((below_two oy oy' g1 g2 S_oy).mono sB_oy)
      replace kA0 := g2.cell (g1.cell kA0 r_kA_oy) r_kA_oy'
      replace kA1 := g2.cell (g1.cell kA1 r_kA_oy) r_kA_oy'
      replace kA2 := g2.cell (g1.cell kA2 r_kA_oy) r_kA_oy'
      replace kA3 := g2.cell (g1.cell kA3 r_kA_oy) r_kA_oy'
      replace kB0 := g2.cell (g1.cell kB0 r_kB_oy) r_kB_oy'
      replace kB1 := g2.cell (g1.cell kB1 r_kB_oy) r_kB_oy'
      replace kB2 := g2.cell (g1.cell kB2 r_kB_oy) r_kB_oy'
      replace kB3 := g2.cell (g1.cell kB3 r_kB_oy) r_kB_oy'
      replace kW0 := g2.cell (g1.cell kW0 r_kW_oy) r_kW_oy'
      replace kW1 := g2.cell (g1.cell kW1 r_kW_oy) r_kW_oy'
      replace kW2 := g2.cell (g1.cell kW2 r_kW_oy) r_kW_oy'
      replace kW3 := g2.cell (g1.cell kW3 r_kW_oy) r_kW_oy'
      replace kG0 := g2.cell (g1.cell kG0 r_kG_oy) r_kG_oy'
      replace kG1 := g2.cell (g1.cell kG1 r_kG_oy) r_kG_oy'
      replace kG2 := g2.cell (g1.cell kG2 r_kG_oy) r_kG_oy'
      replace kG3 := g2.cell (g1.cell kG3 r_kG_oy) r_kG_oy'
      replace hA := (hA.kept g1 ap_hA_oy).kept g2 ap_hA_oy'
      replace hA' := (hA'.kept g1 ap_hA'_oy).kept g2 ap_hA'_oy'
      replace hB := (hB.kept g1 ap_hB_oy).kept g2 ap_hB_oy'
      replace hB' := (hB'.kept g1 ap_hB'_oy).kept g2 ap_hB'_oy'
      replace ho0 := (ho0.kept g1 ap_ho0_oy).kept g2 ap_ho0_oy'
      replace ho1 := (ho1.kept g1 ap_ho1_oy).kept g2 ap_ho1_oy'
      replace hog := (hog.kept g1 ap_hog_oy).kept g2 ap_hog_oy'
      replace hoh := (hoh.kept g1 ap_hoh_oy).kept g2 ap_hoh_oy'
      replace S_hog := Nat.le_trans S_hog (Nat.le_trans g1.size g2.size)
      clear g1 g2 oy oy' HAP_oy sB_oy S_oy kY0 kY1 kY2 kY3 r_kA_oy r_kA_oy' r_kB_oy r_kB_oy' r_kW_oy r_kW_oy' r_kG_oy r_kG_oy' ap_hA_oy ap_hA_oy' ap_hA'_oy ap_hA'_oy' ap_hB_oy ap_hB_oy' ap_hB'_oy ap_hB'_oy' ap_ho0_oy ap_ho0_oy' ap_ho1_oy ap_ho1_oy' ap_hog_oy ap_hog_oy' ap_hoh_oy ap_hoh_oy'
      have hkk : decide ((1 : Int) + xs.length + ys.length + xs'.length + ys'.length < 0) = false := by simp; omega
      go_wp2_with fail
      clear hkk
      refine (eqF gz gy a7 a3 b7 b3 c7 c3 d7 d3 zs ts _ hog.toSees ho0.toSees hoh.toSees ho1.toSees).mono ?_
      rintro e w14 ⟨rfl, hb⟩
      replace kA0 := bat hb kA0
      replace kA1 := bat hb kA1
      replace kA2 := bat hb kA2
      replace kA3 := bat hb kA3
      replace kB0 := bat hb kB0
      replace kB1 := bat hb kB1
      replace kB2 := bat hb kB2
      replace kB3 := bat hb kB3
      replace kW0 := bat hb kW0
      replace kW1 := bat hb kW1
      replace kW2 := bat hb kW2
      replace kW3 := bat hb kW3
      replace kG0 := bat hb kG0
      replace kG1 := bat hb kG1
      replace kG2 := bat hb kG2
      replace kG3 := bat hb kG3
      replace hA := hA.below hb
      replace hA' := hA'.below hb
      replace hB := hB.below hb
      replace hB' := hB'.below hb
      replace ho0 := ho0.below hb
      replace ho1 := ho1.below hb
      replace hog := hog.below hb
      replace hoh := hoh.below hb
      replace S_hog := Nat.le_trans S_hog hb.size
      replace B := B.trans (hb.mono B.size)
      clear hb
      go_wp2_with fail
      refine (markF _ gz gy a7 b7 c7 d7 zs ts 1 _ hog hoh HAP_hog.out (by decide) (by omega)).mono ?_
      rintro e w15 ⟨rfl, wm, g1, g2, hogm, hohm⟩
      replace B := B.trans ((below_two hog hoh g1 g2 S_hog).mono sB_hog)
      replace kA0 := g2.cell (g1.cell kA0 r_kA_hog) r_kA_hoh
      replace kA1 := g2.cell (g1.cell kA1 r_kA_hog) r_kA_hoh
      replace kA2 := g2.cell (g1.cell kA2 r_kA_hog) r_kA_hoh
      replace kA3 := g2.cell (g1.cell kA3 r_kA_hog) r_kA_hoh
      replace kB0 := g2.cell (g1.cell kB0 r_kB_hog) r_kB_hoh
      replace kB1 := g2.cell (g1.cell kB1 r_kB_hog) r_kB_hoh
      replace kB2 := g2.cell (g1.cell kB2 r_kB_hog) r_kB_hoh
      replace kB3 := g2.cell (g1.cell kB3 r_kB_hog) r_kB_hoh
      replace kW0 := g2.cell (g1.cell kW0 r_kW_hog) r_kW_hoh
      replace kW1 := g2.cell (g1.cell kW1 r_kW_hog) r_kW_hoh
      replace kW2 := g2.cell (g1.cell kW2 r_kW_hog) r_kW_hoh
      replace kW3 := g2.cell (g1.cell kW3 r_kW_hog) r_kW_hoh
      replace kG0 := g2.cell (g1.cell kG0 r_kG_hog) r_kG_hoh
      replace kG1 := g2.cell (g1.cell kG1 r_kG_hog) r_kG_hoh
      replace kG2 := g2.cell (g1.cell kG2 r_kG_hog) r_kG_hoh
      replace kG3 := g2.cell (g1.cell kG3 r_kG_hog) r_kG_hoh
      replace hA := (hA.kept g1 ap_hA_hog).kept g2 ap_hA_hoh
      replace hA' := (hA'.kept g1 ap_hA'_hog).kept g2 ap_hA'_hoh
      replace hB := (hB.kept g1 ap_hB_hog).kept g2 ap_hB_hoh
      replace hB' := (hB'.kept g1 ap_hB'_hog).kept g2 ap_hB'_hoh
      replace ho0 := (ho0.kept g1 ap_ho0_hog).kept g2 ap_ho0_hoh
      replace ho1 := (ho1.kept g1 ap_ho1_hog).kept g2 ap_ho1_hoh
      clear g1 g2 hog hoh HAP_hog sB_hog S_hog  r_kA_hog r_kA_hoh r_kB_hog r_kB_hoh r_kW_hog r_kW_hoh r_kG_hog r_kG_hoh ap_hA_hog ap_hA_hoh ap_hA'_hog ap_hA'_hoh ap_hB_hog ap_hB_hoh ap_hB'_hog ap_hB'_hoh ap_ho0_hog ap_ho0_hoh ap_ho1_hog ap_ho1_hoh
      go_wp2_with fail
      refine (heldF gz gy a7 b7 c7 d7 zs.length ts.length 1 _ hogm.toSees hohm.toSees (by decide) (by omega)).mono ?_
      rintro e w16 ⟨rfl, hb⟩
      replace kA0 := bat hb kA0
      replace kA1 := bat hb kA1
      replace kA2 := bat hb kA2
      replace kA3 := bat hb kA3
      replace kB0 := bat hb kB0
      replace kB1 := bat hb kB1
      replace kB2 := bat hb kB2
      replace kB3 := bat hb kB3
      replace kW0 := bat hb kW0
      replace kW1 := bat hb kW1
      replace kW2 := bat hb kW2
      replace kW3 := bat hb kW3
      replace kG0 := bat hb kG0
      replace kG1 := bat hb kG1
      replace kG2 := bat hb kG2
      replace kG3 := bat hb kG3
      replace hA := hA.below hb
      replace hA' := hA'.below hb
      replace hB := hB.below hb
      replace hB' := hB'.below hb
      replace ho0 := ho0.below hb
      replace ho1 := ho1.below hb
      replace hogm := hogm.below hb
      replace hohm := hohm.below hb
      replace B := B.trans (hb.mono B.size)
      clear hb
      have hk1 : decide ((1 : Int) + zs.length + ts.length < 0) = false := by simp; omega
      go_wp2_with fail
      clear hk1
      go_cut [13] (fun s6 W => ∃ p a3 c3 b3 d3, s6 = .pointer (some ⟨p, 0, none⟩) ∧ Box4 w16.heap.size W p (.bool gz) (.slice a3 zs.length c3) (.bool gy) (.slice b3 ts.length d3) ∧ Own w.heap.size W a3 c3 zs ∧ Own w.heap.size W b3 d3 ts ∧ Below w16.heap.size w16 W)
      case first =>
        have sz := B.size
        refine wp_region_held_drew (S := Below w16.heap.size w16) (by kernel_rfl) ((Below.refl _ _).drew) (fun hHeld => ?_)
        have N : Below w16.heap.size w16 w16.drew := hHeld
        revert hHeld N
        generalize w16.drew = ww0
        intro hHeld N
        refine takeQ (i := 0) (gt rfl) (by kernel_rfl) (fun _ _ _ h => h) (by rfl) (by intro wq hSw; have q0 := bat hSw kA0; have q1 := bat hSw kA1; have q2 := bat hSw kA2; have q3 := bat hSw kA3; have q4 := bat hSw kB0; have q5 := bat hSw kB1; have q6 := bat hSw kB2; have q7 := bat hSw kB3; go_simp <;> with_reducible rfl) (by assumption) ?_
        try simp only [Act.put, sA, sB, sC]
        refine takeQ (i := 2) (gt rfl) (by kernel_rfl) (fun _ _ _ h => h) (by rfl) (by intro wq hSw; have q0 := bat hSw kA0; have q1 := bat hSw kA1; have q2 := bat hSw kA2; have q3 := bat hSw kA3; have q4 := bat hSw kB0; have q5 := bat hSw kB1; have q6 := bat hSw kB2; have q7 := bat hSw kB3; go_simp <;> with_reducible rfl) (by assumption) ?_
        try simp only [Act.put, sA, sB, sC]
        refine wpAnyH_ready (rs := [1, 5]) (by kernel_rfl) (by simp) (AllReadyH.cons (gt rfl) (fun K hK => ?_) (AllReadyH.cons (gt rfl) (fun K hK => ?_) AllReadyH.nil))
        · skip
          go_simp
          refine (toF g h a b c d xs ys _ (hA.below N) (hA'.below N) (by omega) (by omega)).mono ?_
          rintro e1 ww1 ⟨i1, j1, i2, j2, rfl, o1, o2, _, hb⟩
          replace N := N.trans (hb.mono N.size)
          clear hb
          refine hK.out _ _ N (fun hHeld => ?_)
          clear hK K
          try simp only [Act.put, sA, sB, sC]
          refine wpAnyH_ready (rs := [3, 5]) (by kernel_rfl) (by simp) (AllReadyH.cons (gt rfl) (fun K hK => ?_) (AllReadyH.cons (gt rfl) (fun K hK => ?_) AllReadyH.nil))
          · skip
            go_simp
            refine (toF g' h' a' b' c' d' xs' ys' _ (hB.below N) (hB'.below N) (by omega) (by omega)).mono ?_
            rintro e1 ww2 ⟨i3, j3, i4, j4, rfl, o3, o4, _, hb⟩
            replace o1 := o1.below hb
            replace o2 := o2.below hb
            replace N := N.trans (hb.mono N.size)
            clear hb
            refine hK.out _ _ N (fun hHeld => ?_)
            clear hK K
            try simp only [Act.put, sA, sB, sC]
            refine wpAnyH_ready (rs := [4, 5]) (by kernel_rfl) (by simp) (AllReadyH.cons (gt rfl) (fun K hK => ?_) (AllReadyH.cons (gt rfl) (fun K hK => ?_) AllReadyH.nil))
            · skip
              go_simp
              refine (implAddFrac g h g' h' i1 i2 i3 i4 j1 j2 j3 j4 xs ys xs' ys' _ o1.toSees o2.toSees o3.toSees o4.toSees).mono ?_
              rintro e1 ww3 ⟨u, rfl, hI, hb⟩
              obtain ⟨a5, c5, b5, d5, rfl, hoz, hot, _⟩ := (hI.as HC.out).as HV.out
              rw [HG.out, HY.out]
              have bs := Nat.le_trans sz N.size
              clear hI
              replace o1 := o1.below hb
              replace o2 := o2.below hb
              replace o3 := o3.below hb
              replace o4 := o4.below hb
              replace N := N.trans (hb.mono N.size)
              clear hb
              clear o1 o2 o3 o4
              refine hK.out _ _ N (fun hHeld => ?_)
              clear hK K
              try simp only [Act.put, sA, sB, sC]
              refine wpAnyH_ready (rs := [5]) (by kernel_rfl) (by simp) (AllReadyH.cons (gt rfl) (fun K hK => ?_) AllReadyH.nil)
              go_simp
              have kP := Box4.new ww3 N.size (.bool false) (.slice none 0 0) (.bool false) (.slice none 0 0) 30
              have hb := below1 ww3 (.cells #[.bool false, .slice none 0 0, .bool false, .slice none 0 0] 30)
              have r_kP_hoz := row_ne_high hoz.toCame (Nat.le_refl _)
              have r_kP_hot := row_ne_high hot.toCame (Nat.le_refl _)
              replace hoz := hoz.below hb
              replace hot := hot.below hb
              replace N := N.trans (hb.mono N.size)
              clear hb
              generalize ww3.alloc (.cells #[.bool false, .slice none 0 0, .bool false, .slice none 0 0] 30) = ww4 at *
              refine hK.out _ _ N (fun hHeld => ?_)
              clear hK K
              try simp only [Act.put, sA, sB, sC]
              refine wpAnyH_ready (rs := [6]) (by kernel_rfl) (by simp) (AllReadyH.cons (gt rfl) (fun K hK => ?_) AllReadyH.nil)
              have z0 := kP.c0
              have z1 := kP.c1
              have z2 := kP.c2
              have z3 := kP.c3
              have zf := kP.fr
              go_simp
              clear z0 z1 z2 z3 zf
              replace N := Box4.chain N kP (.bool gz) (.slice a5 zs.length c5) (.bool gy) (.slice b5 ts.length d5)
              replace hoz := hoz.put4 r_kP_hoz (.bool gz) (.slice a5 zs.length c5) (.bool gy) (.slice b5 ts.length d5)
              replace hot := hot.put4 r_kP_hot (.bool gz) (.slice a5 zs.length c5) (.bool gy) (.slice b5 ts.length d5)
              replace kP := kP.put (.bool gz) (.slice a5 zs.length c5) (.bool gy) (.slice b5 ts.length d5)
              refine hK.out _ _ N (fun hHeld => ?_)
              clear hK K
              try simp only [Act.put, sA, sB, sC]
              refine wpAnyH_done (by kernel_rfl) ?_ _
              go_wp2
              go_meet
              case rel => exact ⟨_, a5, c5, b5, d5, rfl, kP, hoz.base_le bs, hot.base_le bs, N⟩
            · skip
              go_simp
              have kP := Box4.new ww2 N.size (.bool false) (.slice none 0 0) (.bool false) (.slice none 0 0) 30
              have hb := below1 ww2 (.cells #[.bool false, .slice none 0 0, .bool false, .slice none 0 0] 30)
              replace o1 := o1.below hb
              replace o2 := o2.below hb
              replace o3 := o3.below hb
              replace o4 := o4.below hb
              replace N := N.trans (hb.mono N.size)
              clear hb
              generalize ww2.alloc (.cells #[.bool false, .slice none 0 0, .bool false, .slice none 0 0] 30) = ww6 at *
              refine hK.out _ _ N (fun hHeld => ?_)
              clear hK K
              try simp only [Act.put, sA, sB, sC]
              refine wpAnyH_ready (rs := [4]) (by kernel_rfl) (by simp) (AllReadyH.cons (gt rfl) (fun K hK => ?_) AllReadyH.nil)
              go_simp
              refine (implAddFrac g h g' h' i1 i2 i3 i4 j1 j2 j3 j4 xs ys xs' ys' _ o1.toSees o2.toSees o3.toSees o4.toSees).mono ?_
              rintro e1 ww7 ⟨u, rfl, hI, hb⟩
              obtain ⟨a5, c5, b5, d5, rfl, hoz, hot, _⟩ := (hI.as HC.out).as HV.out
              rw [HG.out, HY.out]
              have bs := Nat.le_trans sz N.size
              clear hI
              have r_kP_hoz := row_ne_low hoz kP.lt
              have r_kP_hot := row_ne_low hot kP.lt
              replace kP := kP.below hb
              replace o1 := o1.below hb
              replace o2 := o2.below hb
              replace o3 := o3.below hb
              replace o4 := o4.below hb
              replace N := N.trans (hb.mono N.size)
              clear hb
              clear o1 o2 o3 o4
              refine hK.out _ _ N (fun hHeld => ?_)
              clear hK K
              try simp only [Act.put, sA, sB, sC]
              refine wpAnyH_ready (rs := [6]) (by kernel_rfl) (by simp) (AllReadyH.cons (gt rfl) (fun K hK => ?_) AllReadyH.nil)
              have z0 := kP.c0
              have z1 := kP.c1
              have z2 := kP.c2
              have z3 := kP.c3
              have zf := kP.fr
              go_simp
              clear z0 z1 z2 z3 zf
              replace N := Box4.chain N kP (.bool gz) (.slice a5 zs.length c5) (.bool gy) (.slice b5 ts.length d5)
              replace hoz := hoz.put4 r_kP_hoz (.bool gz) (.slice a5 zs.length c5) (.bool gy) (.slice b5 ts.length d5)
              replace hot := hot.put4 r_kP_hot (.bool gz) (.slice a5 zs.length c5) (.bool gy) (.slice b5 ts.length d5)
              replace kP := kP.put (.bool gz) (.slice a5 zs.length c5) (.bool gy) (.slice b5 ts.length d5)
              refine hK.out _ _ N (fun hHeld => ?_)
              clear hK K
              try simp only [Act.put, sA, sB, sC]
              refine wpAnyH_done (by kernel_rfl) ?_ _
              go_wp2
              go_meet
              case rel => exact ⟨_, a5, c5, b5, d5, rfl, kP, hoz.base_le bs, hot.base_le bs, N⟩
          · skip
            go_simp
            have kP := Box4.new ww1 N.size (.bool false) (.slice none 0 0) (.bool false) (.slice none 0 0) 30
            have hb := below1 ww1 (.cells #[.bool false, .slice none 0 0, .bool false, .slice none 0 0] 30)
            replace o1 := o1.below hb
            replace o2 := o2.below hb
            replace N := N.trans (hb.mono N.size)
            clear hb
            generalize ww1.alloc (.cells #[.bool false, .slice none 0 0, .bool false, .slice none 0 0] 30) = ww9 at *
            refine hK.out _ _ N (fun hHeld => ?_)
            clear hK K
            try simp only [Act.put, sA, sB, sC]
            refine wpAnyH_ready (rs := [3]) (by kernel_rfl) (by simp) (AllReadyH.cons (gt rfl) (fun K hK => ?_) AllReadyH.nil)
            go_simp
            refine (toF g' h' a' b' c' d' xs' ys' _ (hB.below N) (hB'.below N) (by omega) (by omega)).mono ?_
            rintro e1 ww10 ⟨i3, j3, i4, j4, rfl, o3, o4, _, hb⟩
            replace kP := kP.below hb
            replace o1 := o1.below hb
            replace o2 := o2.below hb
            replace N := N.trans (hb.mono N.size)
            clear hb
            refine hK.out _ _ N (fun hHeld => ?_)
            clear hK K
            try simp only [Act.put, sA, sB, sC]
            refine wpAnyH_ready (rs := [4]) (by kernel_rfl) (by simp) (AllReadyH.cons (gt rfl) (fun K hK => ?_) AllReadyH.nil)
            go_simp
            refine (implAddFrac g h g' h' i1 i2 i3 i4 j1 j2 j3 j4 xs ys xs' ys' _ o1.toSees o2.toSees o3.toSees o4.toSees).mono ?_
            rintro e1 ww11 ⟨u, rfl, hI, hb⟩
            obtain ⟨a5, c5, b5, d5, rfl, hoz, hot, _⟩ := (hI.as HC.out).as HV.out
            rw [HG.out, HY.out]
            have bs := Nat.le_trans sz N.size
            clear hI
            have r_kP_hoz := row_ne_low hoz kP.lt
            have r_kP_hot := row_ne_low hot kP.lt
            replace kP := kP.below hb
            replace o1 := o1.below hb
            replace o2 := o2.below hb
            replace o3 := o3.below hb
            replace o4 := o4.below hb
            replace N := N.trans (hb.mono N.size)
            clear hb
            clear o1 o2 o3 o4
            refine hK.out _ _ N (fun hHeld => ?_)
            clear hK K
            try simp only [Act.put, sA, sB, sC]
            refine wpAnyH_ready (rs := [6]) (by kernel_rfl) (by simp) (AllReadyH.cons (gt rfl) (fun K hK => ?_) AllReadyH.nil)
            have z0 := kP.c0
            have z1 := kP.c1
            have z2 := kP.c2
            have z3 := kP.c3
            have zf := kP.fr
            go_simp
            clear z0 z1 z2 z3 zf
            replace N := Box4.chain N kP (.bool gz) (.slice a5 zs.length c5) (.bool gy) (.slice b5 ts.length d5)
            replace hoz := hoz.put4 r_kP_hoz (.bool gz) (.slice a5 zs.length c5) (.bool gy) (.slice b5 ts.length d5)
            replace hot := hot.put4 r_kP_hot (.bool gz) (.slice a5 zs.length c5) (.bool gy) (.slice b5 ts.length d5)
            replace kP := kP.put (.bool gz) (.slice a5 zs.length c5) (.bool gy) (.slice b5 ts.length d5)
            refine hK.out _ _ N (fun hHeld => ?_)
            clear hK K
            try simp only [Act.put, sA, sB, sC]
            refine wpAnyH_done (by kernel_rfl) ?_ _
            go_wp2
            go_meet
            case rel => exact ⟨_, a5, c5, b5, d5, rfl, kP, hoz.base_le bs, hot.base_le bs, N⟩
        · skip
          go_simp
          have kP := Box4.new ww0 N.size (.bool false) (.slice none 0 0) (.bool false) (.slice none 0 0) 30
          have hb := below1 ww0 (.cells #[.bool false, .slice none 0 0, .bool false, .slice none 0 0] 30)
          replace N := N.trans (hb.mono N.size)
          clear hb
          generalize ww0.alloc (.cells #[.bool false, .slice none 0 0, .bool false, .slice none 0 0] 30) = ww13 at *
          refine hK.out _ _ N (fun hHeld => ?_)
          clear hK K
          try simp only [Act.put, sA, sB, sC]
          refine wpAnyH_ready (rs := [1]) (by kernel_rfl) (by simp) (AllReadyH.cons (gt rfl) (fun K hK => ?_) AllReadyH.nil)
          go_simp
          refine (toF g h a b c d xs ys _ (hA.below N) (hA'.below N) (by omega) (by omega)).mono ?_
          rintro e1 ww14 ⟨i1, j1, i2, j2, rfl, o1, o2, _, hb⟩
          replace kP := kP.below hb
          replace N := N.trans (hb.mono N.size)
          clear hb
          refine hK.out _ _ N (fun hHeld => ?_)
          clear hK K
          try simp only [Act.put, sA, sB, sC]
          refine wpAnyH_ready (rs := [3]) (by kernel_rfl) (by simp) (AllReadyH.cons (gt rfl) (fun K hK => ?_) AllReadyH.nil)
          go_simp
          refine (toF g' h' a' b' c' d' xs' ys' _ (hB.below N) (hB'.below N) (by omega) (by omega)).mono ?_
          rintro e1 ww15 ⟨i3, j3, i4, j4, rfl, o3, o4, _, hb⟩
          replace kP := kP.below hb
          replace o1 := o1.below hb
          replace o2 := o2.below hb
          replace N := N.trans (hb.mono N.size)
          clear hb
          refine hK.out _ _ N (fun hHeld => ?_)
          clear hK K
          try simp only [Act.put, sA, sB, sC]
          refine wpAnyH_ready (rs := [4]) (by kernel_rfl) (by simp) (AllReadyH.cons (gt rfl) (fun K hK => ?_) AllReadyH.nil)
          go_simp
          refine (implAddFrac g h g' h' i1 i2 i3 i4 j1 j2 j3 j4 xs ys xs' ys' _ o1.toSees o2.toSees o3.toSees o4.toSees).mono ?_
          rintro e1 ww16 ⟨u, rfl, hI, hb⟩
          obtain ⟨a5, c5, b5, d5, rfl, hoz, hot, _⟩ := (hI.as HC.out).as HV.out
          rw [HG.out, HY.out]
          have bs := Nat.le_trans sz N.size
          clear hI
          have r_kP_hoz := row_ne_low hoz kP.lt
          have r_kP_hot := row_ne_low hot kP.lt
          replace kP := kP.below hb
          replace o1 := o1.below hb
          replace o2 := o2.below hb
          replace o3 := o3.below hb
          replace o4 := o4.below hb
          replace N := N.trans (hb.mono N.size)
          clear hb
          clear o1 o2 o3 o4
          refine hK.out _ _ N (fun hHeld => ?_)
          clear hK K
          try simp only [Act.put, sA, sB, sC]
          refine wpAnyH_ready (rs := [6]) (by kernel_rfl) (by simp) (AllReadyH.cons (gt rfl) (fun K hK => ?_) AllReadyH.nil)
          have z0 := kP.c0
          have z1 := kP.c1
          have z2 := kP.c2
          have z3 := kP.c3
          have zf := kP.fr
          go_simp
          clear z0 z1 z2 z3 zf
          replace N := Box4.chain N kP (.bool gz) (.slice a5 zs.length c5) (.bool gy) (.slice b5 ts.length d5)
          replace hoz := hoz.put4 r_kP_hoz (.bool gz) (.slice a5 zs.length c5) (.bool gy) (.slice b5 ts.length d5)
          replace hot := hot.put4 r_kP_hot (.bool gz) (.slice a5 zs.length c5) (.bool gy) (.slice b5 ts.length d5)
          replace kP := kP.put (.bool gz) (.slice a5 zs.length c5) (.bool gy) (.slice b5 ts.length d5)
          refine hK.out _ _ N (fun hHeld => ?_)
          clear hK K
          try simp only [Act.put, sA, sB, sC]
          refine wpAnyH_done (by kernel_rfl) ?_ _
          go_wp2
          go_meet
          case rel => exact ⟨_, a5, c5, b5, d5, rfl, kP, hoz.base_le bs, hot.base_le bs, N⟩
      obtain ⟨p2, a17, c17, b17, d17, rfl, KP, hoi, hoj, hb⟩ := hcut
      obtain ⟨kH0, kH1, kH2, kH3, _, _⟩ := KP
      clear kA0 kA1 kA2 kA3
      clear kB0 kB1 kB2 kB3
      clear hA
      clear hA'
      clear hB
      clear hB'
      replace kW0 := bat hb kW0
      replace kW1 := bat hb kW1
      replace kW2 := bat hb kW2
      replace kW3 := bat hb kW3
      replace kG0 := bat hb kG0
      replace kG1 := bat hb kG1
      replace kG2 := bat hb kG2
      replace kG3 := bat hb kG3
      replace ho0 := ho0.below hb
      replace ho1 := ho1.below hb
      replace hogm := hogm.below hb
      replace hohm := hohm.below hb
      replace B := B.trans (hb.mono B.size)
      clear hb
      go_wp2_with fail
      refine (eqF gz gy a17 a3 b17 b3 c17 c3 d17 d3 zs ts _ hoi.toSees ho0.toSees hoj.toSees ho1.toSees).mono ?_
      rintro e w17 ⟨rfl, hb⟩
      replace kW0 := bat hb kW0
      replace kW1 := bat hb kW1
      replace kW2 := bat hb kW2
      replace kW3 := bat hb kW3
      replace kG0 := bat hb kG0
      replace kG1 := bat hb kG1
      replace kG2 := bat hb kG2
      replace kG3 := bat hb kG3
      replace kH0 := bat hb kH0
      replace kH1 := bat hb kH1
      replace kH2 := bat hb kH2
      replace kH3 := bat hb kH3
      replace ho0 := ho0.below hb
      replace ho1 := ho1.below hb
      replace hogm := hogm.below hb
      replace hohm := hohm.below hb
      replace hoi := hoi.below hb
      replace hoj := hoj.below hb
      replace B := B.trans (hb.mono B.size)
      clear hb
      clear hoi
      clear hoj
      clear ho0
      clear ho1
      clear kH0 kH1 kH2 kH3
      clear kW0 kW1 kW2 kW3
      go_wp2_with fail
      refine (heldF gz gy a7 b7 c7 d7 zs.length ts.length 1 _ hogm.toSees hohm.toSees (by decide) (by omega)).mono ?_
      rintro e w18 ⟨rfl, hb⟩
      replace kG0 := bat hb kG0
      replace kG1 := bat hb kG1
      replace kG2 := bat hb kG2
      replace kG3 := bat hb kG3
      replace hogm := hogm.below hb
      replace hohm := hohm.below hb
      replace B := B.trans (hb.mono B.size)
      clear hb
      have hk1 : decide ((1 : Int) + zs.length + ts.length < 0) = false := by simp; omega
      go_wp2
      go_ret
      exact ⟨rfl, B⟩
    · have B := below2 w (.cells #[.bool g, .slice a xs.length c, .bool h, .slice b ys.length d] 26) (.cells #[.bool g', .slice a' xs'.length c', .bool h', .slice b' ys'.length d'] 26)
      have k0 := lbox8 w g h g' h' a b a' b' xs.length ys.length xs'.length ys'.length c d c' d' 26
      obtain ⟨kA0, kA1, kA2, kA3, kB0, kB1, kB2, kB3⟩ := k0
      clear h1 h2 k1 k2
      go_enter Try.func3, Try.ntmps3
      go_wp2_with fail
      generalize (w.alloc (.cells #[.bool g, .slice a xs.length c, .bool h, .slice b ys.length d] 26)).alloc (.cells #[.bool g', .slice a' xs'.length c', .bool h', .slice b' ys'.length d'] 26) = W at *
      refine (szF g h a b c d xs.length ys.length 1048576 _ (by omega) m1 m2).mono ?_
      rintro e w1 ⟨rfl, hb⟩
      rw [if_neg (by omega)]
      replace kB0 := bat hb kB0
      replace kB1 := bat hb kB1
      replace kB2 := bat hb kB2
      replace kB3 := bat hb kB3
      replace B := B.trans (hb.mono B.size)
      clear hb
      go_wp2_with fail
      refine (szF g' h' a' b' c' d' xs'.length ys'.length (1048576 - xs.length - ys.length) _ (by omega) m3 m4).mono ?_
      rintro e w2 ⟨rfl, hb⟩
      rw [if_pos (by omega)]
      replace B := B.trans (hb.mono B.size)
      clear hb
      go_wp2
      go_ret
      exact ⟨rfl, B⟩
  · have B := below2 w (.cells #[.bool g, .slice a xs.length c, .bool h, .slice b ys.length d] 26) (.cells #[.bool g', .slice a' xs'.length c', .bool h', .slice b' ys'.length d'] 26)
    clear h1 h2 k1 k2
    go_enter Try.func3, Try.ntmps3
    go_wp2_with fail
    refine (szF g h a b c d xs.length ys.length 1048576 _ (by omega) m1 m2).mono ?_
    rintro e w1 ⟨rfl, hb⟩
    rw [if_pos (by omega)]
    go_wp2
    go_ret
    exact ⟨rfl, B.trans (hb.mono (by simp; omega))⟩
end Go.Proofs.Yteahbmadiideiak
