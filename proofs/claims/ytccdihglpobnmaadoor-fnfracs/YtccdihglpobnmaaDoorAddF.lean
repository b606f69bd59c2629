/- AddFrac: the program's and the specification's. -/
import Derived.Test.YtccdihglpobnmaaDoorMulF
import Derived.Test.YtccdihglpobnmaaDoorAddI
import Derived.Deep.DeepCutAuto
import Derived.Test.YtccdihglpobnmaaDoorSAdd
namespace Go.Proofs.YtccdihglpobnmaaDoor
open Go.RowKit

theorem sg_of_mg' (z : Int) : sg (decide (z < 0)) (mg z) = z := by
  unfold sg mg
  by_cases h : z < 0 <;> simp [h]
theorem sum_len {z1 z2 : Int} {us vs zs : List Int} (hu : Lim us) (hv : Lim vs) (v1 : val us = mg z1) (v2 : val vs = mg z2) (l1 : us.length ≤ 48) (l2 : vs.length ≤ 48) (lz : Lim zs) (nz : Nrm zs) (vz : val zs = mg (z1 + z2)) : zs.length ≤ 49 := by
  refine len_le lz nz ?_
  have b1 := val_lt hu
  have b2 := val_lt hv
  have m1 := p_mono us.length (48 - us.length)
  have m2 := p_mono vs.length (48 - vs.length)
  rw [show us.length + (48 - us.length) = 48 by omega] at m1
  rw [show vs.length + (48 - vs.length) = 48 by omega] at m2
  have hp := p_pos 48
  have e : mg (z1 + z2) ≤ mg z1 + mg z2 := by unfold mg; split <;> split <;> split <;> omega
  have e49 : (4294967296 : Int) ^ 49 = 4294967296 ^ 48 * 4294967296 := Int.pow_succ ..
  rw [vz, e49]
  omega

set_option maxRecDepth 20000 in
set_option maxHeartbeats 8000000 in
theorem plusC (s t s' t' : Bool) (a b a' b' : Option Addr) (c e c' e' : Nat) (ns ds ns' ds' : List Int) (w : World) (n1 d1 n2 d2 : Int) (h1 : Sees w a c ns) (h2 : Sees w b e ds) (h3 : Sees w a' c' ns') (h4 : Sees w b' e' ds') (v1 : val ns = mg n1) (v2 : val ds = mg d1) (v3 : val ns' = mg n2) (v4 : val ds' = mg d2) (l1 : ns.length ≤ 24) (l2 : ds.length ≤ 24) (l3 : ns'.length ≤ 24) (l4 : ds'.length ≤ 24) (f1 : decide (n1 < 0) = s) (f2 : decide (d1 < 0) = t) (f3 : decide (n2 < 0) = s') (f4 : decide (d2 < 0) = t') (p1 : 0 < d1) (p2 : 0 < d2) :
    Calls Tryd.prog 56 #[.agg #[.bool s, .slice a ns.length c, .bool t, .slice b ds.length e], .agg #[.bool s', .slice a' ns'.length c', .bool t', .slice b' ds'.length e']] w fun e w' => ∃ v, e = .returned v ∧ IsFrac w.heap.size w' v (qN (n1 * d2 + n2 * d1) (d1 * d2)) (qD (n1 * d2 + n2 * d1) (d1 * d2)) ∧ Below w.heap.size w w' := by
  obtain ⟨k0, k1, k2, k3, k4, k5, k6, k7, kR, BW⟩ := fboxes s t s' t' a b a' b' c e c' e' ns ds ns' ds' w
  have HP : Hid (sg (s != t') (val ns * val ds') = n1 * d2 ∧ sg (s' != t) (val ns' * val ds) = n2 * d1 ∧ sg (t != t') (val ds * val ds') = d1 * d2) := by
    refine ⟨?_, ?_, ?_⟩
    · rw [v1, v4, ← f1, ← f4]; exact prod_sg n1 d2
    · rw [v3, v2, ← f3, ← f2]; exact prod_sg n2 d1
    · rw [v2, v4, ← f2, ← f4]; exact prod_sg d1 d2
  have HM : Hid (∀ us : List Int, Lim us → Nrm us → (val us = mg (n1 * d2) ∨ val us = mg (n2 * d1) ∨ val us = mg (d1 * d2)) → us.length ≤ 48) := by
    rintro us lu nu (vu | vu | vu)
    · exact prod_len h1.lim h4.lim v1 v4 l1 l4 lu nu vu
    · exact prod_len h3.lim h2.lim v3 v2 l3 l2 lu nu vu
    · exact prod_len h2.lim h4.lim v2 v4 l2 l4 lu nu vu
  have HNE : Hid (∀ ts : List Int, val ts = mg (d1 * d2) → ts ≠ []) := by
    rintro ts vt rfl
    have := Int.mul_pos p1 p2
    rw [(mg_mul_pos p1 p2).2] at vt
    simp only [val] at vt
    omega
  have HD : Hid (decide (d1 * d2 < 0) = false ∧ mg (d1 * d2) = d1 * d2) := mg_mul_pos p1 p2
  have HZ : Hid (∀ zs ts : List Int, val zs = mg (n1 * d2 + n2 * d1) → val ts = mg (d1 * d2) → sg (decide (n1 * d2 + n2 * d1 < 0)) (val zs) / (Int.gcd (val zs) (val ts) : Int) = qN (n1 * d2 + n2 * d1) (d1 * d2) ∧ val ts / (Int.gcd (val zs) (val ts) : Int) = qD (n1 * d2 + n2 * d1) (d1 * d2)) := by
    intro zs ts vz vt
    have eg : Int.gcd (val zs) (val ts) = Int.gcd (n1 * d2 + n2 * d1) (d1 * d2) := by rw [vz, vt, gcd_mgs]
    unfold qN qD
    rw [eg, vz, vt, HD.out.2]
    refine ⟨?_, rfl⟩
    congr 1
    unfold sg mg
    by_cases h : n1 * d2 + n2 * d1 < 0 <;> simp [h]
  have L14 : ns.length + ds'.length ≤ 1048576 := by omega
  have L32 : ns'.length + ds.length ≤ 1048576 := by omega
  have L24 : ds.length + ds'.length ≤ 1048576 := by omega
  have h1' := h1.below BW
  have h2' := h2.below BW
  have h3' := h3.below BW
  have h4' := h4.below BW
  clear h1 h2 h3 h4 v1 v2 v3 v4 l1 l2 l3 l4 f1 f2 f3 f4 p1 p2
  go_enter Tryd.func56, Tryd.ntmps56
  go_wp2_with fail
  generalize ((w.alloc (.cells #[.bool s, .slice a ns.length c, .bool t, .slice b ds.length e] 42)).alloc (.cells #[.bool s', .slice a' ns'.length c', .bool t', .slice b' ds'.length e'] 42)).alloc (.cells #[.bool false, .slice none 0 0, .bool false, .slice none 0 0] 42) = W0 at *
  go_cut [5] (fun s5 W => ∃ p a9 c9 zs, s5 = .pointer (some ⟨p, 0, none⟩) ∧ Box2 W0.heap.size W p (.bool (decide ((n1 * d2 + n2 * d1) < 0))) (.slice a9 zs.length c9) ∧ Own W0.heap.size W a9 c9 zs ∧ Hid (Nrm zs ∧ val zs = mg (n1 * d2 + n2 * d1) ∧ zs.length ≤ 1048575) ∧ Below W0.heap.size W0 W)
  case first =>
    refine wp_region_held_drew (S := Below W0.heap.size W0) (by kernel_rfl) ((Below.refl _ _).drew) (fun hHeld => ?_)
    have N : Below W0.heap.size W0 W0.drew := hHeld
    revert hHeld N
    generalize W0.drew = ww0
    intro hHeld N
    refine takeQ (i := 0) (gt rfl) (by kernel_rfl) (fun _ _ _ h => h) (by rfl) (by intro wq _; go_simp <;> with_reducible rfl) (by assumption) ?_
    try simp only [Act.put, sA, sB, sC]
    refine takeQ (i := 1) (gt rfl) (by kernel_rfl) (fun _ _ _ h => h) (by rfl) (by intro wq hSw; have q0 := bat hSw k0; have q1 := bat hSw k1; have q2 := bat hSw k2; have q3 := bat hSw k3; have q4 := bat hSw k4; have q5 := bat hSw k5; have q6 := bat hSw k6; have q7 := bat hSw k7; go_simp <;> with_reducible rfl) (by assumption) ?_
    try simp only [Act.put, sA, sB, sC]
    refine takeQ (i := 2) (gt rfl) (by kernel_rfl) (fun _ _ _ h => h) (by rfl) (by intro wq _; go_simp <;> with_reducible rfl) (by assumption) ?_
    try simp only [Act.put, sA, sB, sC]
    refine takeQ (i := 3) (gt rfl) (by kernel_rfl) (fun _ _ _ h => h) (by rfl) (by intro wq hSw; have q0 := bat hSw k0; have q1 := bat hSw k1; have q2 := bat hSw k2; have q3 := bat hSw k3; have q4 := bat hSw k4; have q5 := bat hSw k5; have q6 := bat hSw k6; have q7 := bat hSw k7; go_simp <;> with_reducible rfl) (by assumption) ?_
    try simp only [Act.put, sA, sB, sC]
    refine takeQ (i := 5) (gt rfl) (by kernel_rfl) (fun _ _ _ h => h) (by rfl) (by intro wq _; go_simp <;> with_reducible rfl) (by assumption) ?_
    try simp only [Act.put, sA, sB, sC]
    refine takeQ (i := 6) (gt rfl) (by kernel_rfl) (fun _ _ _ h => h) (by rfl) (by intro wq hSw; have q0 := bat hSw k0; have q1 := bat hSw k1; have q2 := bat hSw k2; have q3 := bat hSw k3; have q4 := bat hSw k4; have q5 := bat hSw k5; have q6 := bat hSw k6; have q7 := bat hSw k7; go_simp <;> with_reducible rfl) (by assumption) ?_
    try simp only [Act.put, sA, sB, sC]
    refine takeQ (i := 7) (gt rfl) (by kernel_rfl) (fun _ _ _ h => h) (by rfl) (by intro wq _; go_simp <;> with_reducible rfl) (by assumption) ?_
    try simp only [Act.put, sA, sB, sC]
    refine takeQ (i := 8) (gt rfl) (by kernel_rfl) (fun _ _ _ h => h) (by rfl) (by intro wq hSw; have q0 := bat hSw k0; have q1 := bat hSw k1; have q2 := bat hSw k2; have q3 := bat hSw k3; have q4 := bat hSw k4; have q5 := bat hSw k5; have q6 := bat hSw k6; have q7 := bat hSw k7; go_simp <;> with_reducible rfl) (by assumption) ?_
    try simp only [Act.put, sA, sB, sC]
    refine wpAnyH_ready (rs := [4, 12]) (by kernel_rfl) (by simp) (AllReadyH.cons (gt rfl) (fun K hK => ?_) (AllReadyH.cons (gt rfl) (fun K hK => ?_) AllReadyH.nil))
    · skip
      go_simp
      refine (productC s t' a b' c e' ns ds' _ (h1'.below N) (h4'.below N) L14).mono ?_
      rintro e1 ww1 ⟨u1, rfl, hI, hb⟩
      rw [HP.out.1] at hI
      obtain ⟨a5, c5, us, rfl, ou, nu, vu⟩ := hI
      have lu := HM.out us ou.lim nu (.inl vu)
      replace N := N.trans (hb.mono N.size)
      clear hb
      refine hK.out _ _ N (fun hHeld => ?_)
      clear hK K
      try simp only [Act.put, sA, sB, sC]
      refine wpAnyH_ready (rs := [9, 12]) (by kernel_rfl) (by simp) (AllReadyH.cons (gt rfl) (fun K hK => ?_) (AllReadyH.cons (gt rfl) (fun K hK => ?_) AllReadyH.nil))
      · skip
        go_simp
        refine (productC s' t a' b c' e ns' ds _ (h3'.below N) (h2'.below N) L32).mono ?_
        rintro e2 ww2 ⟨u2, rfl, hI, hb⟩
        rw [HP.out.2.1] at hI
        obtain ⟨a6, c6, ts, rfl, ot, nt, vt⟩ := hI
        have lt := HM.out ts ot.lim nt (.inr (.inl vt))
        replace ou := ou.below hb
        replace N := N.trans (hb.mono N.size)
        clear hb
        refine hK.out _ _ N (fun hHeld => ?_)
        clear hK K
        try simp only [Act.put, sA, sB, sC]
        refine wpAnyH_ready (rs := [10, 12]) (by kernel_rfl) (by simp) (AllReadyH.cons (gt rfl) (fun K hK => ?_) (AllReadyH.cons (gt rfl) (fun K hK => ?_) AllReadyH.nil))
        · skip
          go_simp
          have kS := Box4.new ww2 N.size (.bool (decide (n1 * d2 < 0))) (.slice a5 us.length c5) (.bool (decide (n2 * d1 < 0))) (.slice a6 ts.length c6) 26
          have hb := below1 ww2 (.cells #[.bool (decide (n1 * d2 < 0)), .slice a5 us.length c5, .bool (decide (n2 * d1 < 0)), .slice a6 ts.length c6] 26)
          replace ou := ou.below hb
          replace ot := ot.below hb
          replace N := N.trans (hb.mono N.size)
          clear hb
          generalize ww2.alloc (.cells #[.bool (decide (n1 * d2 < 0)), .slice a5 us.length c5, .bool (decide (n2 * d1 < 0)), .slice a6 ts.length c6] 26) = ww3 at *
          refine hK.out _ _ N (fun hHeld => ?_)
          clear hK K
          try simp only [Act.put, sA, sB, sC]
          refine wpAnyH_ready (rs := [11, 12]) (by kernel_rfl) (by simp) (AllReadyH.cons (gt rfl) (fun K hK => ?_) (AllReadyH.cons (gt rfl) (fun K hK => ?_) AllReadyH.nil))
          · skip
            go_simp
            refine (sumC _ 2 48 _ _ _ _ _ (Parts.two kS.c0 kS.c1 kS.c2 kS.c3 ou.toSees ot.toSees nu nt lu lt) (by decide)).mono ?_
            rintro e3 ww4 ⟨u3, rfl, hI, hb⟩
            rw [psum_two, vu, vt, sg_of_mg', sg_of_mg'] at hI
            obtain ⟨a9, c9, zs, rfl, oz, nz, vz⟩ := hI
            have HS : Hid (Nrm zs ∧ val zs = mg (n1 * d2 + n2 * d1) ∧ zs.length ≤ 1048575) := ⟨nz, vz, Nat.le_trans (sum_len ou.lim ot.lim vu vt lu lt oz.lim nz vz) (by decide)⟩
            have bs := N.size
            clear nz vz
            have r_kS_oz := row_ne_low oz kS.lt
            replace kS := kS.below hb
            replace ou := ou.below hb
            replace ot := ot.below hb
            replace N := N.trans (hb.mono N.size)
            clear hb
            clear ou ot
            refine hK.out _ _ N (fun hHeld => ?_)
            clear hK K
            try simp only [Act.put, sA, sB, sC]
            refine wpAnyH_ready (rs := [12]) (by kernel_rfl) (by simp) (AllReadyH.cons (gt rfl) (fun K hK => ?_) AllReadyH.nil)
            go_simp
            have kP := Box2.new ww4 N.size (.bool false) (.slice none 0 0) 26
            have hb := below1 ww4 (.cells #[.bool false, .slice none 0 0] 26)
            have r_kP_oz := row_ne_high oz.toCame (Nat.le_refl _)
            have ne_kP_kS := Nat.ne_of_gt kS.lt
            have ne_kS_kP := ne_kP_kS.symm
            replace kS := kS.below hb
            replace oz := oz.below hb
            replace N := N.trans (hb.mono N.size)
            clear hb
            generalize ww4.alloc (.cells #[.bool false, .slice none 0 0] 26) = ww5 at *
            refine hK.out _ _ N (fun hHeld => ?_)
            clear hK K
            try simp only [Act.put, sA, sB, sC]
            refine wpAnyH_ready (rs := [13]) (by kernel_rfl) (by simp) (AllReadyH.cons (gt rfl) (fun K hK => ?_) AllReadyH.nil)
            have z0 := kP.c0
            have z1 := kP.c1
            have zf := kP.fr
            go_simp
            clear z0 z1 zf
            replace N := Box2.chain N kP (.bool (decide ((n1 * d2 + n2 * d1) < 0))) (.slice a9 zs.length c9)
            replace kS := kS.old ne_kS_kP (.bool (decide ((n1 * d2 + n2 * d1) < 0))) (.slice a9 zs.length c9)
            replace oz := oz.put2 r_kP_oz (.bool (decide ((n1 * d2 + n2 * d1) < 0))) (.slice a9 zs.length c9)
            replace kP := kP.put (.bool (decide ((n1 * d2 + n2 * d1) < 0))) (.slice a9 zs.length c9)
            refine hK.out _ _ N (fun hHeld => ?_)
            clear hK K
            try simp only [Act.put, sA, sB, sC]
            refine wpAnyH_done (by kernel_rfl) ?_ _
            go_wp2
            go_meet
            case rel => exact ⟨_, a9, c9, zs, rfl, kP, oz.base_le bs, HS, N⟩
          · skip
            go_simp
            have kP := Box2.new ww3 N.size (.bool false) (.slice none 0 0) 26
            have hb := below1 ww3 (.cells #[.bool false, .slice none 0 0] 26)
            have ne_kP_kS := Nat.ne_of_gt kS.lt
            have ne_kS_kP := ne_kP_kS.symm
            replace kS := kS.below hb
            replace ou := ou.below hb
            replace ot := ot.below hb
            replace N := N.trans (hb.mono N.size)
            clear hb
            generalize ww3.alloc (.cells #[.bool false, .slice none 0 0] 26) = ww7 at *
            refine hK.out _ _ N (fun hHeld => ?_)
            clear hK K
            try simp only [Act.put, sA, sB, sC]
            refine wpAnyH_ready (rs := [11]) (by kernel_rfl) (by simp) (AllReadyH.cons (gt rfl) (fun K hK => ?_) AllReadyH.nil)
            go_simp
            refine (sumC _ 2 48 _ _ _ _ _ (Parts.two kS.c0 kS.c1 kS.c2 kS.c3 ou.toSees ot.toSees nu nt lu lt) (by decide)).mono ?_
            rintro e3 ww8 ⟨u3, rfl, hI, hb⟩
            rw [psum_two, vu, vt, sg_of_mg', sg_of_mg'] at hI
            obtain ⟨a9, c9, zs, rfl, oz, nz, vz⟩ := hI
            have HS : Hid (Nrm zs ∧ val zs = mg (n1 * d2 + n2 * d1) ∧ zs.length ≤ 1048575) := ⟨nz, vz, Nat.le_trans (sum_len ou.lim ot.lim vu vt lu lt oz.lim nz vz) (by decide)⟩
            have bs := N.size
            clear nz vz
            have r_kS_oz := row_ne_low oz kS.lt
            have r_kP_oz := row_ne_low oz kP.lt
            replace kS := kS.below hb
            replace kP := kP.below hb
            replace ou := ou.below hb
            replace ot := ot.below hb
            replace N := N.trans (hb.mono N.size)
            clear hb
            clear ou ot
            refine hK.out _ _ N (fun hHeld => ?_)
            clear hK K
            try simp only [Act.put, sA, sB, sC]
            refine wpAnyH_ready (rs := [13]) (by kernel_rfl) (by simp) (AllReadyH.cons (gt rfl) (fun K hK => ?_) AllReadyH.nil)
            have z0 := kP.c0
            have z1 := kP.c1
            have zf := kP.fr
            go_simp
            clear z0 z1 zf
            replace N := Box2.chain N kP (.bool (decide ((n1 * d2 + n2 * d1) < 0))) (.slice a9 zs.length c9)
            replace kS := kS.old ne_kS_kP (.bool (decide ((n1 * d2 + n2 * d1) < 0))) (.slice a9 zs.length c9)
            replace oz := oz.put2 r_kP_oz (.bool (decide ((n1 * d2 + n2 * d1) < 0))) (.slice a9 zs.length c9)
            replace kP := kP.put (.bool (decide ((n1 * d2 + n2 * d1) < 0))) (.slice a9 zs.length c9)
            refine hK.out _ _ N (fun hHeld => ?_)
            clear hK K
            try simp only [Act.put, sA, sB, sC]
            refine wpAnyH_done (by kernel_rfl) ?_ _
            go_wp2
            go_meet
            case rel => exact ⟨_, a9, c9, zs, rfl, kP, oz.base_le bs, HS, N⟩
        · skip
          go_simp
          have kP := Box2.new ww2 N.size (.bool false) (.slice none 0 0) 26
          have hb := below1 ww2 (.cells #[.bool false, .slice none 0 0] 26)
          replace ou := ou.below hb
          replace ot := ot.below hb
          replace N := N.trans (hb.mono N.size)
          clear hb
          generalize ww2.alloc (.cells #[.bool false, .slice none 0 0] 26) = ww10 at *
          refine hK.out _ _ N (fun hHeld => ?_)
          clear hK K
          try simp only [Act.put, sA, sB, sC]
          refine wpAnyH_ready (rs := [10]) (by kernel_rfl) (by simp) (AllReadyH.cons (gt rfl) (fun K hK => ?_) AllReadyH.nil)
          go_simp
          have kS := Box4.new ww10 N.size (.bool (decide (n1 * d2 < 0))) (.slice a5 us.length c5) (.bool (decide (n2 * d1 < 0))) (.slice a6 ts.length c6) 26
          have hb := below1 ww10 (.cells #[.bool (decide (n1 * d2 < 0)), .slice a5 us.length c5, .bool (decide (n2 * d1 < 0)), .slice a6 ts.length c6] 26)
          have ne_kS_kP := Nat.ne_of_gt kP.lt
          have ne_kP_kS := ne_kS_kP.symm
          replace kP := kP.below hb
          replace ou := ou.below hb
          replace ot := ot.below hb
          replace N := N.trans (hb.mono N.size)
          clear hb
          generalize ww10.alloc (.cells #[.bool (decide (n1 * d2 < 0)), .slice a5 us.length c5, .bool (decide (n2 * d1 < 0)), .slice a6 ts.length c6] 26) = ww11 at *
          refine hK.out _ _ N (fun hHeld => ?_)
          clear hK K
          try simp only [Act.put, sA, sB, sC]
          refine wpAnyH_ready (rs := [11]) (by kernel_rfl) (by simp) (AllReadyH.cons (gt rfl) (fun K hK => ?_) AllReadyH.nil)
          go_simp
          refine (sumC _ 2 48 _ _ _ _ _ (Parts.two kS.c0 kS.c1 kS.c2 kS.c3 ou.toSees ot.toSees nu nt lu lt) (by decide)).mono ?_
          rintro e3 ww12 ⟨u3, rfl, hI, hb⟩
          rw [psum_two, vu, vt, sg_of_mg', sg_of_mg'] at hI
          obtain ⟨a9, c9, zs, rfl, oz, nz, vz⟩ := hI
          have HS : Hid (Nrm zs ∧ val zs = mg (n1 * d2 + n2 * d1) ∧ zs.length ≤ 1048575) := ⟨nz, vz, Nat.le_trans (sum_len ou.lim ot.lim vu vt lu lt oz.lim nz vz) (by decide)⟩
          have bs := N.size
          clear nz vz
          have r_kP_oz := row_ne_low oz kP.lt
          have r_kS_oz := row_ne_low oz kS.lt
          replace kP := kP.below hb
          replace kS := kS.below hb
          replace ou := ou.below hb
          replace ot := ot.below hb
          replace N := N.trans (hb.mono N.size)
          clear hb
          clear ou ot
          refine hK.out _ _ N (fun hHeld => ?_)
          clear hK K
          try simp only [Act.put, sA, sB, sC]
          refine wpAnyH_ready (rs := [13]) (by kernel_rfl) (by simp) (AllReadyH.cons (gt rfl) (fun K hK => ?_) AllReadyH.nil)
          have z0 := kP.c0
          have z1 := kP.c1
          have zf := kP.fr
          go_simp
          clear z0 z1 zf
          replace N := Box2.chain N kP (.bool (decide ((n1 * d2 + n2 * d1) < 0))) (.slice a9 zs.length c9)
          replace kS := kS.old ne_kS_kP (.bool (decide ((n1 * d2 + n2 * d1) < 0))) (.slice a9 zs.length c9)
          replace oz := oz.put2 r_kP_oz (.bool (decide ((n1 * d2 + n2 * d1) < 0))) (.slice a9 zs.length c9)
          replace kP := kP.put (.bool (decide ((n1 * d2 + n2 * d1) < 0))) (.slice a9 zs.length c9)
          refine hK.out _ _ N (fun hHeld => ?_)
          clear hK K
          try simp only [Act.put, sA, sB, sC]
          refine wpAnyH_done (by kernel_rfl) ?_ _
          go_wp2
          go_meet
          case rel => exact ⟨_, a9, c9, zs, rfl, kP, oz.base_le bs, HS, N⟩
      · skip
        go_simp
        have kP := Box2.new ww1 N.size (.bool false) (.slice none 0 0) 26
        have hb := below1 ww1 (.cells #[.bool false, .slice none 0 0] 26)
        replace ou := ou.below hb
        replace N := N.trans (hb.mono N.size)
        clear hb
        generalize ww1.alloc (.cells #[.bool false, .slice none 0 0] 26) = ww14 at *
        refine hK.out _ _ N (fun hHeld => ?_)
        clear hK K
        try simp only [Act.put, sA, sB, sC]
        refine wpAnyH_ready (rs := [9]) (by kernel_rfl) (by simp) (AllReadyH.cons (gt rfl) (fun K hK => ?_) AllReadyH.nil)
        go_simp
        refine (productC s' t a' b c' e ns' ds _ (h3'.below N) (h2'.below N) L32).mono ?_
        rintro e2 ww15 ⟨u2, rfl, hI, hb⟩
        rw [HP.out.2.1] at hI
        obtain ⟨a6, c6, ts, rfl, ot, nt, vt⟩ := hI
        have lt := HM.out ts ot.lim nt (.inr (.inl vt))
        replace kP := kP.below hb
        replace ou := ou.below hb
        replace N := N.trans (hb.mono N.size)
        clear hb
        refine hK.out _ _ N (fun hHeld => ?_)
        clear hK K
        try simp only [Act.put, sA, sB, sC]
        refine wpAnyH_ready (rs := [10]) (by kernel_rfl) (by simp) (AllReadyH.cons (gt rfl) (fun K hK => ?_) AllReadyH.nil)
        go_simp
        have kS := Box4.new ww15 N.size (.bool (decide (n1 * d2 < 0))) (.slice a5 us.length c5) (.bool (decide (n2 * d1 < 0))) (.slice a6 ts.length c6) 26
        have hb := below1 ww15 (.cells #[.bool (decide (n1 * d2 < 0)), .slice a5 us.length c5, .bool (decide (n2 * d1 < 0)), .slice a6 ts.length c6] 26)
        have ne_kS_kP := Nat.ne_of_gt kP.lt
        have ne_kP_kS := ne_kS_kP.symm
        replace kP := kP.below hb
        replace ou := ou.below hb
        replace ot := ot.below hb
        replace N := N.trans (hb.mono N.size)
        clear hb
        generalize ww15.alloc (.cells #[.bool (decide (n1 * d2 < 0)), .slice a5 us.length c5, .bool (decide (n2 * d1 < 0)), .slice a6 ts.length c6] 26) = ww16 at *
        refine hK.out _ _ N (fun hHeld => ?_)
        clear hK K
        try simp only [Act.put, sA, sB, sC]
        refine wpAnyH_ready (rs := [11]) (by kernel_rfl) (by simp) (AllReadyH.cons (gt rfl) (fun K hK => ?_) AllReadyH.nil)
        go_simp
        refine (sumC _ 2 48 _ _ _ _ _ (Parts.two kS.c0 kS.c1 kS.c2 kS.c3 ou.toSees ot.toSees nu nt lu lt) (by decide)).mono ?_
        rintro e3 ww17 ⟨u3, rfl, hI, hb⟩
        rw [psum_two, vu, vt, sg_of_mg', sg_of_mg'] at hI
        obtain ⟨a9, c9, zs, rfl, oz, nz, vz⟩ := hI
        have HS : Hid (Nrm zs ∧ val zs = mg (n1 * d2 + n2 * d1) ∧ zs.length ≤ 1048575) := ⟨nz, vz, Nat.le_trans (sum_len ou.lim ot.lim vu vt lu lt oz.lim nz vz) (by decide)⟩
        have bs := N.size
        clear nz vz
        have r_kP_oz := row_ne_low oz kP.lt
        have r_kS_oz := row_ne_low oz kS.lt
        replace kP := kP.below hb
        replace kS := kS.below hb
        replace ou := ou.below hb
        replace ot := ot.below hb
        replace N := N.trans (hb.mono N.size)
        clear hb
        clear ou ot
        refine hK.out _ _ N (fun hHeld => ?_)
        clear hK K
        try simp only [Act.put, sA, sB, sC]
        refine wpAnyH_ready (rs := [13]) (by kernel_rfl) (by simp) (AllReadyH.cons (gt rfl) (fun K hK => ?_) AllReadyH.nil)
        have z0 := kP.c0
        have z1 := kP.c1
        have zf := kP.fr
        go_simp
        clear z0 z1 zf
        replace N := Box2.chain N kP (.bool (decide ((n1 * d2 + n2 * d1) < 0))) (.slice a9 zs.length c9)
        replace kS := kS.old ne_kS_kP (.bool (decide ((n1 * d2 + n2 * d1) < 0))) (.slice a9 zs.length c9)
        replace oz := oz.put2 r_kP_oz (.bool (decide ((n1 * d2 + n2 * d1) < 0))) (.slice a9 zs.length c9)
        replace kP := kP.put (.bool (decide ((n1 * d2 + n2 * d1) < 0))) (.slice a9 zs.length c9)
        refine hK.out _ _ N (fun hHeld => ?_)
        clear hK K
        try simp only [Act.put, sA, sB, sC]
        refine wpAnyH_done (by kernel_rfl) ?_ _
        go_wp2
        go_meet
        case rel => exact ⟨_, a9, c9, zs, rfl, kP, oz.base_le bs, HS, N⟩
    · skip
      go_simp
      have kP := Box2.new ww0 N.size (.bool false) (.slice none 0 0) 26
      have hb := below1 ww0 (.cells #[.bool false, .slice none 0 0] 26)
      replace N := N.trans (hb.mono N.size)
      clear hb
      generalize ww0.alloc (.cells #[.bool false, .slice none 0 0] 26) = ww19 at *
      refine hK.out _ _ N (fun hHeld => ?_)
      clear hK K
      try simp only [Act.put, sA, sB, sC]
      refine wpAnyH_ready (rs := [4]) (by kernel_rfl) (by simp) (AllReadyH.cons (gt rfl) (fun K hK => ?_) AllReadyH.nil)
      go_simp
      refine (productC s t' a b' c e' ns ds' _ (h1'.below N) (h4'.below N) L14).mono ?_
      rintro e1 ww20 ⟨u1, rfl, hI, hb⟩
      rw [HP.out.1] at hI
      obtain ⟨a5, c5, us, rfl, ou, nu, vu⟩ := hI
      have lu := HM.out us ou.lim nu (.inl vu)
      replace kP := kP.below hb
      replace N := N.trans (hb.mono N.size)
      clear hb
      refine hK.out _ _ N (fun hHeld => ?_)
      clear hK K
      try simp only [Act.put, sA, sB, sC]
      refine wpAnyH_ready (rs := [9]) (by kernel_rfl) (by simp) (AllReadyH.cons (gt rfl) (fun K hK => ?_) AllReadyH.nil)
      go_simp
      refine (productC s' t a' b c' e ns' ds _ (h3'.below N) (h2'.below N) L32).mono ?_
      rintro e2 ww21 ⟨u2, rfl, hI, hb⟩
      rw [HP.out.2.1] at hI
      obtain ⟨a6, c6, ts, rfl, ot, nt, vt⟩ := hI
      have lt := HM.out ts ot.lim nt (.inr (.inl vt))
      replace kP := kP.below hb
      replace ou := ou.below hb
      replace N := N.trans (hb.mono N.size)
      clear hb
      refine hK.out _ _ N (fun hHeld => ?_)
      clear hK K
      try simp only [Act.put, sA, sB, sC]
      refine wpAnyH_ready (rs := [10]) (by kernel_rfl) (by simp) (AllReadyH.cons (gt rfl) (fun K hK => ?_) AllReadyH.nil)
      go_simp
      have kS := Box4.new ww21 N.size (.bool (decide (n1 * d2 < 0))) (.slice a5 us.length c5) (.bool (decide (n2 * d1 < 0))) (.slice a6 ts.length c6) 26
      have hb := below1 ww21 (.cells #[.bool (decide (n1 * d2 < 0)), .slice a5 us.length c5, .bool (decide (n2 * d1 < 0)), .slice a6 ts.length c6] 26)
      have ne_kS_kP := Nat.ne_of_gt kP.lt
      have ne_kP_kS := ne_kS_kP.symm
      replace kP := kP.below hb
      replace ou := ou.below hb
      replace ot := ot.below hb
      replace N := N.trans (hb.mono N.size)
      clear hb
      generalize ww21.alloc (.cells #[.bool (decide (n1 * d2 < 0)), .slice a5 us.length c5, .bool (decide (n2 * d1 < 0)), .slice a6 ts.length c6] 26) = ww22 at *
      refine hK.out _ _ N (fun hHeld => ?_)
      clear hK K
      try simp only [Act.put, sA, sB, sC]
      refine wpAnyH_ready (rs := [11]) (by kernel_rfl) (by simp) (AllReadyH.cons (gt rfl) (fun K hK => ?_) AllReadyH.nil)
      go_simp
      refine (sumC _ 2 48 _ _ _ _ _ (Parts.two kS.c0 kS.c1 kS.c2 kS.c3 ou.toSees ot.toSees nu nt lu lt) (by decide)).mono ?_
      rintro e3 ww23 ⟨u3, rfl, hI, hb⟩
      rw [psum_two, vu, vt, sg_of_mg', sg_of_mg'] at hI
      obtain ⟨a9, c9, zs, rfl, oz, nz, vz⟩ := hI
      have HS : Hid (Nrm zs ∧ val zs = mg (n1 * d2 + n2 * d1) ∧ zs.length ≤ 1048575) := ⟨nz, vz, Nat.le_trans (sum_len ou.lim ot.lim vu vt lu lt oz.lim nz vz) (by decide)⟩
      have bs := N.size
      clear nz vz
      have r_kP_oz := row_ne_low oz kP.lt
      have r_kS_oz := row_ne_low oz kS.lt
      replace kP := kP.below hb
      replace kS := kS.below hb
      replace ou := ou.below hb
      replace ot := ot.below hb
      replace N := N.trans (hb.mono N.size)
      clear hb
      clear ou ot
      refine hK.out _ _ N (fun hHeld => ?_)
      clear hK K
      try simp only [Act.put, sA, sB, sC]
      refine wpAnyH_ready (rs := [13]) (by kernel_rfl) (by simp) (AllReadyH.cons (gt rfl) (fun K hK => ?_) AllReadyH.nil)
      have z0 := kP.c0
      have z1 := kP.c1
      have zf := kP.fr
      go_simp
      clear z0 z1 zf
      replace N := Box2.chain N kP (.bool (decide ((n1 * d2 + n2 * d1) < 0))) (.slice a9 zs.length c9)
      replace kS := kS.old ne_kS_kP (.bool (decide ((n1 * d2 + n2 * d1) < 0))) (.slice a9 zs.length c9)
      replace oz := oz.put2 r_kP_oz (.bool (decide ((n1 * d2 + n2 * d1) < 0))) (.slice a9 zs.length c9)
      replace kP := kP.put (.bool (decide ((n1 * d2 + n2 * d1) < 0))) (.slice a9 zs.length c9)
      refine hK.out _ _ N (fun hHeld => ?_)
      clear hK K
      try simp only [Act.put, sA, sB, sC]
      refine wpAnyH_done (by kernel_rfl) ?_ _
      go_wp2
      go_meet
      case rel => exact ⟨_, a9, c9, zs, rfl, kP, oz.base_le bs, HS, N⟩
  rename World => W
  obtain ⟨p, a9, c9, zs, rfl, KP, oz, HS, hb⟩ := hcut
  obtain ⟨nz, vz, m1⟩ := HS.out
  have x0 := KP.c0
  have x1 := KP.c1
  have lop := KP.lo
  have lR := kR.lt
  replace kR := kR.below hb
  replace k2 := bat hb k2
  replace k3 := bat hb k3
  replace k6 := bat hb k6
  replace k7 := bat hb k7
  replace h2' := h2'.below hb
  replace h4' := h4'.below hb
  replace BW := BW.trans (hb.mono BW.size)
  clear hb k0 k1 k4 k5 h1' h3' KP HS
  go_wp2_with fail
  refine wp_region_held_drew (S := Keeps (w.heap.size + 1 + 1) W) (by kernel_rfl) (Keeps.of (Below.refl _ _).drew) (fun hHeld => ?_)
  have N : Below W.heap.size W W.drew := (Below.refl _ _).drew
  replace kR := kR.below N
  revert hHeld N kR
  generalize W.drew = ww0
  intro hHeld N kR
  refine takeQ (i := 0) (gt rfl) (by kernel_rfl) (fun _ _ _ h => h) (by rfl) (by intro wq hSw; have q0 := hSw.at k2 (by omega); have q1 := hSw.at k3 (by omega); have q2 := hSw.at k6 (by omega); have q3 := hSw.at k7 (by omega); have q4 := hSw.at x0 (by omega); have q5 := hSw.at x1 (by omega); go_simp <;> with_reducible rfl) (by assumption) ?_
  try simp only [Act.put, sA, sB, sC]
  refine takeQ (i := 1) (gt rfl) (by kernel_rfl) (fun _ _ _ h => h) (by rfl) (by intro wq _; go_simp <;> with_reducible rfl) (by assumption) ?_
  try simp only [Act.put, sA, sB, sC]
  refine takeQ (i := 2) (gt rfl) (by kernel_rfl) (fun _ _ _ h => h) (by rfl) (by intro wq hSw; have q0 := hSw.at k2 (by omega); have q1 := hSw.at k3 (by omega); have q2 := hSw.at k6 (by omega); have q3 := hSw.at k7 (by omega); have q4 := hSw.at x0 (by omega); have q5 := hSw.at x1 (by omega); go_simp <;> with_reducible rfl) (by assumption) ?_
  try simp only [Act.put, sA, sB, sC]
  refine takeQ (i := 3) (gt rfl) (by kernel_rfl) (fun _ _ _ h => h) (by rfl) (by intro wq _; go_simp <;> with_reducible rfl) (by assumption) ?_
  try simp only [Act.put, sA, sB, sC]
  refine takeQ (i := 4) (gt rfl) (by kernel_rfl) (fun _ _ _ h => h) (by rfl) (by intro wq hSw; have q0 := hSw.at k2 (by omega); have q1 := hSw.at k3 (by omega); have q2 := hSw.at k6 (by omega); have q3 := hSw.at k7 (by omega); have q4 := hSw.at x0 (by omega); have q5 := hSw.at x1 (by omega); go_simp <;> with_reducible rfl) (by assumption) ?_
  try simp only [Act.put, sA, sB, sC]
  refine wpAnyH_ready (rs := [5]) (by kernel_rfl) (by simp) (AllReadyH.cons (gt rfl) (fun K hK => ?_) AllReadyH.nil)
  go_simp
  refine (productC t t' b b' e e' ds ds' _ (h2'.below N) (h4'.below N) L24).mono ?_
  rintro e2 ww1 ⟨u2, rfl, hI, hb⟩
  rw [HP.out.2.2] at hI
  obtain ⟨a6, c6, ts, rfl, ot, nt, vt⟩ := hI
  have m2 : ts.length ≤ 1048575 := Nat.le_trans (HM.out ts ot.lim nt (.inr (.inr vt))) (by decide)
  have m3 := HNE.out ts vt
  rw [HD.out.1]
  replace kR := kR.below hb
  replace N := N.trans (hb.mono N.size)
  clear hb
  refine hK.out _ _ (Keeps.of N) (fun hHeld => ?_)
  clear hK K
  try simp only [Act.put, sA, sB, sC]
  refine takeQ (i := 6) (gt rfl) (by kernel_rfl) (fun _ _ _ h => h) (by rfl) (by intro wq _; go_simp <;> with_reducible rfl) (by assumption) ?_
  try simp only [Act.put, sA, sB, sC]
  refine wpAnyH_ready (rs := [7]) (by kernel_rfl) (by simp) (AllReadyH.cons (gt rfl) (fun K hK => ?_) AllReadyH.nil)
  go_simp
  refine (lowestC (decide (n1 * d2 + n2 * d1 < 0)) a9 a6 c9 c6 zs ts _ (oz.toSees.below N) ot.toSees nz nt m3 m1 m2).mono ?_
  rintro e3 ww2 ⟨u3, rfl, hI, hb⟩
  have hJ := (hI.eq (HZ.out zs ts vz vt).1 (HZ.out zs ts vz vt).2).base_le (show w.heap.size + 1 + 1 + 1 ≤ _ from kR.lt)
  obtain ⟨f5, F5⟩ : ∃ f, Hid (decide (qN (n1 * d2 + n2 * d1) (d1 * d2) < 0) = f) := ⟨_, rfl⟩
  obtain ⟨f6, F6⟩ : ∃ f, Hid (decide (qD (n1 * d2 + n2 * d1) (d1 * d2) < 0) = f) := ⟨_, rfl⟩
  have hJ0 := hJ
  obtain ⟨a7, c7, qs, a8, c8, rs, ev, _⟩ := hJ0
  rw [F5.out, F6.out] at ev
  subst ev
  clear hI
  replace kR := kR.below hb
  replace ot := ot.below hb
  replace N := N.trans (hb.mono N.size)
  clear hb
  clear ot
  refine hK.out _ _ (Keeps.of N) (fun hHeld => ?_)
  clear hK K
  try simp only [Act.put, sA, sB, sC]
  refine wpAnyH_ready (rs := [8]) (by kernel_rfl) (by simp) (AllReadyH.cons (gt rfl) (fun K hK => ?_) AllReadyH.nil)
  have z0 := kR.c0
  have z1 := kR.c1
  have z2 := kR.c2
  have z3 := kR.c3
  have zf := kR.fr
  go_simp
  clear z0 z1 z2 z3 zf
  refine hK.out _ _ ((Keeps.of N).put4 (.bool f5) (.slice a7 qs.length c7) (.bool f6) (.slice a8 rs.length c8)) (fun hHeld => ?_)
  clear hK K
  try simp only [Act.put, sA, sB, sC]
  refine wpAnyH_done (by kernel_rfl) ?_ _
  have JP := hJ.put (b := w.heap.size + 1 + 1) (b0 := w.heap.size) (by omega) (by omega) (.bool f5) (.slice a7 qs.length c7) (.bool f6) (.slice a8 rs.length c8)
  have BP := below_put4' (b := w.heap.size + 1 + 1) (BW.trans (N.mono BW.size)) (by omega) (.bool f5) (.slice a7 qs.length c7) (.bool f6) (.slice a8 rs.length c8)
  obtain ⟨z0, z1, z2, z3, _, _⟩ := kR
  go_wp2
  exact bodyPost_ret (v := .agg #[.bool f5, .slice a7 qs.length c7, .bool f6, .slice a8 rs.length c8]) (by simp [results, Tryd.results56, go_sem, z0, z1, z2, z3]) rfl ⟨_, rfl, JP, BP⟩
set_option maxRecDepth 20000 in
set_option maxHeartbeats 8000000 in
theorem implAddFrac (s t s' t' : Bool) (a b a' b' : Option Addr) (c e c' e' : Nat) (ns ds ns' ds' : List Int) (w : World) (h1 : Sees w a c ns) (h2 : Sees w b e ds) (h3 : Sees w a' c' ns') (h4 : Sees w b' e' ds') :
    Calls Tryd.prog 25 #[.agg #[.bool s, .slice a ns.length c, .bool t, .slice b ds.length e], .agg #[.bool s', .slice a' ns'.length c', .bool t', .slice b' ds'.length e']] w fun e w' => ∃ v, e = .returned v ∧ CutF w.heap.size w' v (qN (fN s ns t ds * fD s' ns' t' ds' + fN s' ns' t' ds' * fD s ns t ds) (fD s ns t ds * fD s' ns' t' ds')) (qD (fN s ns t ds * fD s' ns' t' ds' + fN s' ns' t' ds' * fD s ns t ds) (fD s ns t ds * fD s' ns' t' ds')) ∧ Below w.heap.size w w' := by
  obtain ⟨k0, k1, k2, k3, k4, k5, k6, k7, kR, BW⟩ := fboxes s t s' t' a b a' b' c e c' e' ns ds ns' ds' w
  obtain ⟨n1, hn1⟩ : ∃ n, fN s ns t ds = n := ⟨_, rfl⟩
  obtain ⟨d1, hd1⟩ : ∃ n, fD s ns t ds = n := ⟨_, rfl⟩
  obtain ⟨n2, hn2⟩ : ∃ n, fN s' ns' t' ds' = n := ⟨_, rfl⟩
  obtain ⟨d2, hd2⟩ : ∃ n, fD s' ns' t' ds' = n := ⟨_, rfl⟩
  have P1 : 0 < d1 := by have := fD_pos s ns t ds; omega
  have P2 : 0 < d2 := by have := fD_pos s' ns' t' ds'; omega
  rw [hn1, hd1, hn2, hd2]
  have HN : Hid (fN s ns t ds = n1 ∧ fD s ns t ds = d1 ∧ fN s' ns' t' ds' = n2 ∧ fD s' ns' t' ds' = d2) := ⟨hn1, hd1, hn2, hd2⟩
  clear hn1 hd1 hn2 hd2
  obtain ⟨z, HZ⟩ : ∃ z, Hid (qN (n1 * d2 + n2 * d1) (d1 * d2) = z) := ⟨_, rfl⟩
  obtain ⟨y, HY⟩ : ∃ y, Hid (qD (n1 * d2 + n2 * d1) (d1 * d2) = y) := ⟨_, rfl⟩
  rw [HZ.out, HY.out]
  have h1' := h1.below BW
  have h2' := h2.below BW
  have h3' := h3.below BW
  have h4' := h4.below BW
  clear h1 h2 h3 h4
  go_enter Tryd.func25, Tryd.ntmps25
  go_wp2_with fail
  generalize ((w.alloc (.cells #[.bool s, .slice a ns.length c, .bool t, .slice b ds.length e] 42)).alloc (.cells #[.bool s', .slice a' ns'.length c', .bool t', .slice b' ds'.length e'] 42)).alloc (.cells #[.bool false, .slice none 0 0, .bool false, .slice none 0 0] 42) = W0 at *

  refine wp_region_held_drew (S := Keeps (w.heap.size + 1 + 1) W0) (by kernel_rfl) (Keeps.of (Below.refl _ _).drew) (fun hHeld => ?_)
  have N : Below W0.heap.size W0 W0.drew := (Below.refl _ _).drew
  replace kR := kR.below N
  revert hHeld N kR
  generalize W0.drew = ww0
  intro hHeld N kR
  refine takeQ (i := 0) (gt rfl) (by kernel_rfl) (fun _ _ _ h => h) (by rfl) (by intro wq hSw; have q0 := hSw.at k0 (by omega); have q1 := hSw.at k1 (by omega); have q2 := hSw.at k2 (by omega); have q3 := hSw.at k3 (by omega); have q4 := hSw.at k4 (by omega); have q5 := hSw.at k5 (by omega); have q6 := hSw.at k6 (by omega); have q7 := hSw.at k7 (by omega); go_simp <;> with_reducible rfl) (by assumption) ?_
  try simp only [Act.put, sA, sB, sC]
  refine takeQ (i := 2) (gt rfl) (by kernel_rfl) (fun _ _ _ h => h) (by rfl) (by intro wq hSw; have q0 := hSw.at k0 (by omega); have q1 := hSw.at k1 (by omega); have q2 := hSw.at k2 (by omega); have q3 := hSw.at k3 (by omega); have q4 := hSw.at k4 (by omega); have q5 := hSw.at k5 (by omega); have q6 := hSw.at k6 (by omega); have q7 := hSw.at k7 (by omega); go_simp <;> with_reducible rfl) (by assumption) ?_
  try simp only [Act.put, sA, sB, sC]
  refine wpAnyH_ready (rs := [1]) (by kernel_rfl) (by simp) (AllReadyH.cons (gt rfl) (fun K hK => ?_) AllReadyH.nil)
  go_simp
  refine (implTakenF s t a b c e ns ds _ (h1'.below N) (h2'.below N)).mono ?_
  rintro e1 ww1 ⟨u1, rfl, hI, hb⟩
  rw [HN.out.1, HN.out.2.1] at hI
  obtain ⟨p1, q1, us1, p2, q2, us2, rfl, s1, s2, e1, e2, v1, v2, l1, l2⟩ := hI
  replace kR := kR.below hb
  replace N := N.trans (hb.mono N.size)
  clear hb
  refine hK.out _ _ (Keeps.of N) (fun hHeld => ?_)
  clear hK K
  try simp only [Act.put, sA, sB, sC]
  refine wpAnyH_ready (rs := [3]) (by kernel_rfl) (by simp) (AllReadyH.cons (gt rfl) (fun K hK => ?_) AllReadyH.nil)
  go_simp
  refine (implTakenF s' t' a' b' c' e' ns' ds' _ (h3'.below N) (h4'.below N)).mono ?_
  rintro e1 ww2 ⟨u1, rfl, hI, hb⟩
  rw [HN.out.2.2.1, HN.out.2.2.2] at hI
  obtain ⟨p3, q3, us3, p4, q4, us4, rfl, s3, s4, e3, e4, v3, v4, l3, l4⟩ := hI
  replace kR := kR.below hb
  replace s1 := s1.below hb
  replace s2 := s2.below hb
  replace N := N.trans (hb.mono N.size)
  clear hb
  refine hK.out _ _ (Keeps.of N) (fun hHeld => ?_)
  clear hK K
  try simp only [Act.put, sA, sB, sC]
  refine wpAnyH_ready (rs := [4]) (by kernel_rfl) (by simp) (AllReadyH.cons (gt rfl) (fun K hK => ?_) AllReadyH.nil)
  go_simp
  refine (plusC (decide (n1 < 0)) (decide (d1 < 0)) (decide (n2 < 0)) (decide (d2 < 0)) p1 p2 p3 p4 q1 q2 q3 q4 us1 us2 us3 us4 _ n1 d1 n2 d2 s1 s2 s3 s4 v1 v2 v3 v4 l1 l2 l3 l4 rfl rfl rfl rfl P1 P2).mono ?_
  rintro e1 ww3 ⟨u3, rfl, hI, hb⟩
  rw [HZ.out, HY.out] at hI
  obtain ⟨a5, c5, zs, a6, c6, ts, rfl, oz, ot, nz, nt, vz, vt, ap⟩ := hI
  have lt3 := kR.lt
  have sb := hb.size
  have HC : Hid (Lim zs ∧ Nrm zs ∧ val zs = mg z ∧ Lim ts ∧ Nrm ts ∧ val ts = mg y) := ⟨oz.lim, nz, vz, ot.lim, nt, vt⟩
  clear nz nt vz vt
  clear v1 v2 v3 v4 l1 l2 l3 l4
  replace kR := kR.below hb
  replace s1 := s1.below hb
  replace s2 := s2.below hb
  replace s3 := s3.below hb
  replace s4 := s4.below hb
  replace N := N.trans (hb.mono N.size)
  clear hb
  clear s1 s2 s3 s4
  refine hK.out _ _ (Keeps.of N) (fun hHeld => ?_)
  clear hK K
  try simp only [Act.put, sA, sB, sC]
  refine wpAnyH_ready (rs := [5]) (by kernel_rfl) (by simp) (AllReadyH.cons (gt rfl) (fun K hK => ?_) AllReadyH.nil)
  go_simp
  refine (implTakenO _ (decide (z < 0)) (decide (y < 0)) a5 a6 c5 c6 zs ts _ oz ot ap sb).mono ?_
  rintro e1 ww4 ⟨u4, rfl, hI, hb⟩
  have hJ := hI.base_le lt3
  obtain ⟨f5, F5⟩ : ∃ f, Hid (decide (fN (decide (z < 0)) zs (decide (y < 0)) ts < 0) = f) := ⟨_, rfl⟩
  obtain ⟨f6, F6⟩ : ∃ f, Hid (decide (fD (decide (z < 0)) zs (decide (y < 0)) ts < 0) = f) := ⟨_, rfl⟩
  have hJ0 := hJ
  obtain ⟨a7, c7, qs, a8, c8, rs, ev, _⟩ := hJ0
  rw [F5.out, F6.out] at ev
  subst ev
  clear hI
  replace kR := kR.below hb
  replace oz := oz.below hb
  replace ot := ot.below hb
  replace N := N.trans (hb.mono N.size)
  clear hb
  clear oz ot
  refine hK.out _ _ (Keeps.of N) (fun hHeld => ?_)
  clear hK K
  try simp only [Act.put, sA, sB, sC]
  refine wpAnyH_ready (rs := [6]) (by kernel_rfl) (by simp) (AllReadyH.cons (gt rfl) (fun K hK => ?_) AllReadyH.nil)
  have z0 := kR.c0
  have z1 := kR.c1
  have z2 := kR.c2
  have z3 := kR.c3
  have zf := kR.fr
  go_simp
  clear z0 z1 z2 z3 zf
  refine hK.out _ _ ((Keeps.of N).put4 (.bool f5) (.slice a7 qs.length c7) (.bool f6) (.slice a8 rs.length c8)) (fun hHeld => ?_)
  clear hK K
  try simp only [Act.put, sA, sB, sC]
  refine wpAnyH_done (by kernel_rfl) ?_ _
  have JP := hJ.put (b := w.heap.size + 1 + 1) (b0 := w.heap.size) (by omega) (by omega) (.bool f5) (.slice a7 qs.length c7) (.bool f6) (.slice a8 rs.length c8)
  have BP := below_put4' (b := w.heap.size + 1 + 1) (BW.trans (N.mono BW.size)) (by omega) (.bool f5) (.slice a7 qs.length c7) (.bool f6) (.slice a8 rs.length c8)
  obtain ⟨z0, z1, z2, z3, _, _⟩ := kR
  go_wp2
  exact bodyPost_ret (v := .agg #[.bool f5, .slice a7 qs.length c7, .bool f6, .slice a8 rs.length c8]) (by simp [results, Tryd.results25, go_sem, z0, z1, z2, z3]) rfl ⟨_, rfl, ⟨zs, ts, HC.out.1, HC.out.2.1, HC.out.2.2.1, HC.out.2.2.2.1, HC.out.2.2.2.2.1, HC.out.2.2.2.2.2, JP⟩, BP⟩
end Go.Proofs.YtccdihglpobnmaaDoor
