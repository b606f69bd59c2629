/- impl.partWay. -/
import Derived.Test.YtfhcbgjnojcigaaAddF
import Derived.Test.YtfhcbgjnojcigaaLowN
import Derived.Test.YtfhcbgjnojcigaaSNum
namespace Go.Proofs.Ytfhcbgjnojcigaa
open Go.RowKit

/-- The parts in lowest terms, the second above 0. -/
def cN (n d : Int) : Int := if d < 0 then n / -(Int.gcd n d : Int) else n / (Int.gcd n d : Int)
def cD (n d : Int) : Int := if d < 0 then d / -(Int.gcd n d : Int) else d / (Int.gcd n d : Int)
theorem of_len {n : Int} {us : List Int} (h1 : -9223372036854775808 ≤ n) (h2 : n ≤ 9223372036854775807) (l : Lim us) (m : Nrm us) (v : val us = mg n) : us.length ≤ 24 := by
  refine Nat.le_trans (len_le l m (k := 2) ?_) (by decide)
  have e2 : (4294967296 : Int) ^ 2 = 18446744073709551616 := by decide
  rw [v, e2]
  unfold mg
  split <;> omega
theorem pboxes (s t : Bool) (a b : Option Addr) (c e : Nat) (ps qs : List Int) (w : World) :
    (((w.alloc (.cells #[.bool s, .slice a ps.length c] 30)).alloc (.cells #[.bool t, .slice b qs.length e] 30)).alloc (.cells #[.bool false, .slice none 0 0, .bool false, .slice none 0 0] 32)).cell? ⟨w.heap.size, 0, none⟩ = some (.bool s) ∧ (((w.alloc (.cells #[.bool s, .slice a ps.length c] 30)).alloc (.cells #[.bool t, .slice b qs.length e] 30)).alloc (.cells #[.bool false, .slice none 0 0, .bool false, .slice none 0 0] 32)).cell? ⟨w.heap.size, 1, none⟩ = some (.slice a ps.length c) ∧ (((w.alloc (.cells #[.bool s, .slice a ps.length c] 30)).alloc (.cells #[.bool t, .slice b qs.length e] 30)).alloc (.cells #[.bool false, .slice none 0 0, .bool false, .slice none 0 0] 32)).cell? ⟨w.heap.size + 1, 0, none⟩ = some (.bool t) ∧ (((w.alloc (.cells #[.bool s, .slice a ps.length c] 30)).alloc (.cells #[.bool t, .slice b qs.length e] 30)).alloc (.cells #[.bool false, .slice none 0 0, .bool false, .slice none 0 0] 32)).cell? ⟨w.heap.size + 1, 1, none⟩ = some (.slice b qs.length e) ∧
      Box4 w.heap.size (((w.alloc (.cells #[.bool s, .slice a ps.length c] 30)).alloc (.cells #[.bool t, .slice b qs.length e] 30)).alloc (.cells #[.bool false, .slice none 0 0, .bool false, .slice none 0 0] 32)) (w.heap.size + 1 + 1) (.bool false) (.slice none 0 0) (.bool false) (.slice none 0 0) ∧ Below w.heap.size w (((w.alloc (.cells #[.bool s, .slice a ps.length c] 30)).alloc (.cells #[.bool t, .slice b qs.length e] 30)).alloc (.cells #[.bool false, .slice none 0 0, .bool false, .slice none 0 0] 32)) := by
  refine ⟨by simp [go_sem], by simp [go_sem], by simp [go_sem], by simp [go_sem], ?_, below3 _ _ _ _⟩
  have := Box4.new ((w.alloc (.cells #[.bool s, .slice a ps.length c] 30)).alloc (.cells #[.bool t, .slice b qs.length e] 30)) (lo := w.heap.size) (by simp; omega) (.bool false) (.slice none 0 0) (.bool false) (.slice none 0 0) 32
  rwa [World.size_alloc, World.size_alloc] at this

set_option maxRecDepth 20000 in
set_option maxHeartbeats 8000000 in
theorem partWayC (fr st : Int) (s t : Bool) (a b : Option Addr) (c e : Nat) (ps qs : List Int) (w : World) (P D : Int) (h1 : Sees w a c ps) (h2 : Sees w b e qs) (nq : Nrm qs) (v1 : val ps = mg P) (v2 : val qs = mg D) (l1 : ps.length ≤ 24) (l2 : qs.length ≤ 24) (f1 : decide (P < 0) = s) (f2 : decide (D < 0) = t) (hD : D ≠ 0)
    (b1 : -9223372036854775808 ≤ fr ∧ fr ≤ 9223372036854775807) (b2 : -9223372036854775808 ≤ st ∧ st ≤ 9223372036854775807) :
    Calls Try.prog 35 #[.int .i64 fr, .int .i64 st, .agg #[.bool s, .slice a ps.length c], .agg #[.bool t, .slice b qs.length e]] w fun e w' => ∃ v, e = .returned v ∧ IsFrac w.heap.size w' v (cN (fr * D + st * P) D) (cD (fr * D + st * P) D) ∧ Below w.heap.size w w' := by
  obtain ⟨k0, k1, k2, k3, kR, BW⟩ := pboxes s t a b c e ps qs w
  obtain ⟨g1, G1⟩ : ∃ f, Hid (decide (fr < 0) = f) := ⟨_, rfl⟩
  obtain ⟨g2, G2⟩ : ∃ f, Hid (decide (st < 0) = f) := ⟨_, rfl⟩
  have HB : Hid ((-9223372036854775808 ≤ fr ∧ fr ≤ 9223372036854775807) ∧ (-9223372036854775808 ≤ st ∧ st ≤ 9223372036854775807)) := ⟨b1, b2⟩
  have HP : Hid ((∀ us : List Int, val us = mg fr → sg (g1 != t) (val us * val qs) = fr * D) ∧ (∀ us : List Int, val us = mg st → sg (g2 != s) (val us * val ps) = st * P)) := by
    refine ⟨fun us v => ?_, fun us v => ?_⟩
    · rw [v, v2, ← f2, ← G1.out]; exact prod_sg fr D
    · rw [v, v1, ← f1, ← G2.out]; exact prod_sg st P
  have HM : Hid ((∀ us xs : List Int, Lim us → Nrm us → val us = mg fr → Lim xs → Nrm xs → val xs = mg (fr * D) → us.length + qs.length ≤ 1048576 ∧ xs.length ≤ 48) ∧ (∀ us xs : List Int, Lim us → Nrm us → val us = mg st → Lim xs → Nrm xs → val xs = mg (st * P) → us.length + ps.length ≤ 1048576 ∧ xs.length ≤ 48)) := by
    refine ⟨fun us xs lu nu vu lx nx vx => ?_, fun us xs lu nu vu lx nx vx => ?_⟩
    · have lu' := of_len b1.1 b1.2 lu nu vu
      exact ⟨by omega, prod_len lu h2.lim vu v2 lu' l2 lx nx vx⟩
    · have lu' := of_len b2.1 b2.2 lu nu vu
      exact ⟨by omega, prod_len lu h1.lim vu v1 lu' l1 lx nx vx⟩
  have HL : Hid (∀ us : List Int, Lim us → Nrm us → (val us = mg fr ∨ val us = mg st) → us.length + qs.length ≤ 1048576 ∧ us.length + ps.length ≤ 1048576) := by
    rintro us lu nu (vu | vu)
    · have lu' := of_len b1.1 b1.2 lu nu vu
      exact ⟨by omega, by omega⟩
    · have lu' := of_len b2.1 b2.2 lu nu vu
      exact ⟨by omega, by omega⟩
  have HE : Hid (qs ≠ [] ∧ qs.length ≤ 1048575 ∧ Nrm qs) := by
    refine ⟨?_, by omega, nq⟩
    rintro rfl
    simp only [val] at v2
    unfold mg at v2
    split at v2 <;> omega
  have HZ : Hid (∀ zs : List Int, val zs = mg (fr * D + st * P) → (t = false → sg (decide ((fr * D + st * P) < 0)) (val zs) / (Int.gcd (val zs) (val qs) : Int) = cN (fr * D + st * P) D ∧ val qs / (Int.gcd (val zs) (val qs) : Int) = cD (fr * D + st * P) D) ∧
      (t = true → sg (decide ((fr * D + st * P) < 0)) (val zs) / -(Int.gcd (val zs) (val qs) : Int) = cN (fr * D + st * P) D ∧ -val qs / -(Int.gcd (val zs) (val qs) : Int) = cD (fr * D + st * P) D)) := by
    intro zs vz
    rw [vz, v2, gcd_mgs, sg_of_mg']
    unfold cN cD
    refine ⟨fun h => ?_, fun h => ?_⟩
    · have : ¬ D < 0 := of_decide_eq_false (f2.trans h)
      rw [if_neg this, if_neg this]
      refine ⟨rfl, ?_⟩
      congr 1
      unfold mg; rw [if_neg this]
    · have : D < 0 := of_decide_eq_true (f2.trans h)
      rw [if_pos this, if_pos this]
      refine ⟨rfl, ?_⟩
      congr 1
      unfold mg; rw [if_pos this]; omega
  have h1' := h1.below BW
  have h2' := h2.below BW
  clear h1 h2 v1 v2 l1 l2 f1 f2 hD b1 b2 nq
  go_enter Try.func35, Try.ntmps35
  go_wp2_with fail
  generalize ((w.alloc (.cells #[.bool s, .slice a ps.length c] 30)).alloc (.cells #[.bool t, .slice b qs.length e] 30)).alloc (.cells #[.bool false, .slice none 0 0, .bool false, .slice none 0 0] 32) = W0 at *
  go_cut [9] (fun s9 W => ∃ p a9 c9 zs, s9 = .pointer (some ⟨p, 0, none⟩) ∧ Box2 W0.heap.size W p (.bool (decide ((fr * D + st * P) < 0))) (.slice a9 zs.length c9) ∧ Own W0.heap.size W a9 c9 zs ∧ Hid (Nrm zs ∧ val zs = mg (fr * D + st * P) ∧ zs.length ≤ 1048575) ∧ Below W0.heap.size W0 W)
  case first =>
    refine wp_region_held_drew (S := Below W0.heap.size W0) (by kernel_rfl) ((Below.refl _ _).drew) (fun hHeld => ?_)
    have N : Below W0.heap.size W0 W0.drew := hHeld
    revert hHeld N
    generalize W0.drew = ww0
    intro hHeld N
    refine takeQ (i := 0) (gt rfl) (by kernel_rfl) (fun _ _ _ h => h) (by rfl) (by intro wq _; go_simp <;> with_reducible rfl) (by assumption) ?_
    try simp only [Act.put, sA, sB, sC]
    refine takeQ (i := 2) (gt rfl) (by kernel_rfl) (fun _ _ _ h => h) (by rfl) (by intro wq hSw; have q0 := bat hSw k0; have q1 := bat hSw k1; have q2 := bat hSw k2; have q3 := bat hSw k3; go_simp <;> with_reducible rfl) (by assumption) ?_
    try simp only [Act.put, sA, sB, sC]
    refine takeQ (i := 4) (gt rfl) (by kernel_rfl) (fun _ _ _ h => h) (by rfl) (by intro wq _; go_simp <;> with_reducible rfl) (by assumption) ?_
    try simp only [Act.put, sA, sB, sC]
    refine takeQ (i := 6) (gt rfl) (by kernel_rfl) (fun _ _ _ h => h) (by rfl) (by intro wq hSw; have q0 := bat hSw k0; have q1 := bat hSw k1; have q2 := bat hSw k2; have q3 := bat hSw k3; go_simp <;> with_reducible rfl) (by assumption) ?_
    try simp only [Act.put, sA, sB, sC]
    refine wpAnyH_ready (rs := [1, 10]) (by kernel_rfl) (by simp) (AllReadyH.cons (gt rfl) (fun K hK => ?_) (AllReadyH.cons (gt rfl) (fun K hK => ?_) AllReadyH.nil))
    · skip
      go_simp
      refine (implOf fr _ HB.out.1.1 HB.out.1.2).mono ?_
      rintro e1 ww1 ⟨u1, rfl, hI, hb⟩
      obtain ⟨a5, c5, us, rfl, ou, nu, vu⟩ := hI
      rw [G1.out]
      replace N := N.trans (hb.mono N.size)
      clear hb
      refine hK.out _ _ N (fun hHeld => ?_)
      clear hK K
      try simp only [Act.put, sA, sB, sC]
      refine wpAnyH_ready (rs := [3, 10]) (by kernel_rfl) (by simp) (AllReadyH.cons (gt rfl) (fun K hK => ?_) (AllReadyH.cons (gt rfl) (fun K hK => ?_) AllReadyH.nil))
      · skip
        go_simp
        refine (productC g1 t a5 b c5 e us qs _ ou.toSees (h2'.below N) (HL.out us ou.lim nu (.inl vu)).1).mono ?_
        rintro e2 ww2 ⟨u2, rfl, hI, hb⟩
        rw [HP.out.1 us vu] at hI
        obtain ⟨a6, c6, xs, rfl, ox, nx, vx⟩ := hI
        have lx := (HM.out.1 us xs ou.lim nu vu ox.lim nx vx).2
        replace ou := ou.below hb
        replace N := N.trans (hb.mono N.size)
        clear hb
        clear ou
        refine hK.out _ _ N (fun hHeld => ?_)
        clear hK K
        try simp only [Act.put, sA, sB, sC]
        refine wpAnyH_ready (rs := [5, 10]) (by kernel_rfl) (by simp) (AllReadyH.cons (gt rfl) (fun K hK => ?_) (AllReadyH.cons (gt rfl) (fun K hK => ?_) AllReadyH.nil))
        · skip
          go_simp
          refine (implOf st _ HB.out.2.1 HB.out.2.2).mono ?_
          rintro e3 ww3 ⟨u3, rfl, hI, hb⟩
          obtain ⟨a7, c7, vs, rfl, ov, nv, vv⟩ := hI
          rw [G2.out]
          replace ox := ox.below hb
          replace N := N.trans (hb.mono N.size)
          clear hb
          refine hK.out _ _ N (fun hHeld => ?_)
          clear hK K
          try simp only [Act.put, sA, sB, sC]
          refine wpAnyH_ready (rs := [7, 10]) (by kernel_rfl) (by simp) (AllReadyH.cons (gt rfl) (fun K hK => ?_) (AllReadyH.cons (gt rfl) (fun K hK => ?_) AllReadyH.nil))
          · skip
            go_simp
            refine (productC g2 s a7 a c7 c vs ps _ ov.toSees (h1'.below N) (HL.out vs ov.lim nv (.inr vv)).2).mono ?_
            rintro e4 ww4 ⟨u4, rfl, hI, hb⟩
            rw [HP.out.2 vs vv] at hI
            obtain ⟨a8, c8, ys, rfl, oy, ny, vy⟩ := hI
            have ly := (HM.out.2 vs ys ov.lim nv vv oy.lim ny vy).2
            replace ox := ox.below hb
            replace ov := ov.below hb
            replace N := N.trans (hb.mono N.size)
            clear hb
            clear ov
            refine hK.out _ _ N (fun hHeld => ?_)
            clear hK K
            try simp only [Act.put, sA, sB, sC]
            refine wpAnyH_ready (rs := [8, 10]) (by kernel_rfl) (by simp) (AllReadyH.cons (gt rfl) (fun K hK => ?_) (AllReadyH.cons (gt rfl) (fun K hK => ?_) AllReadyH.nil))
            · skip
              go_simp
              have kS := Box4.new ww4 N.size (.bool (decide (fr * D < 0))) (.slice a6 xs.length c6) (.bool (decide (st * P < 0))) (.slice a8 ys.length c8) 30
              have hb := below1 ww4 (.cells #[.bool (decide (fr * D < 0)), .slice a6 xs.length c6, .bool (decide (st * P < 0)), .slice a8 ys.length c8] 30)
              replace ox := ox.below hb
              replace oy := oy.below hb
              replace N := N.trans (hb.mono N.size)
              clear hb
              generalize ww4.alloc (.cells #[.bool (decide (fr * D < 0)), .slice a6 xs.length c6, .bool (decide (st * P < 0)), .slice a8 ys.length c8] 30) = ww5 at *
              refine hK.out _ _ N (fun hHeld => ?_)
              clear hK K
              try simp only [Act.put, sA, sB, sC]
              refine wpAnyH_ready (rs := [9, 10]) (by kernel_rfl) (by simp) (AllReadyH.cons (gt rfl) (fun K hK => ?_) (AllReadyH.cons (gt rfl) (fun K hK => ?_) AllReadyH.nil))
              · skip
                go_simp
                refine (sumC _ 2 48 _ _ _ _ _ (Parts.two kS.c0 kS.c1 kS.c2 kS.c3 ox.toSees oy.toSees nx ny lx ly) (by decide)).mono ?_
                rintro e5 ww6 ⟨u5, rfl, hI, hb⟩
                rw [psum_two, vx, vy, sg_of_mg', sg_of_mg'] at hI
                obtain ⟨a9, c9, zs, rfl, oz, nz, vz⟩ := hI
                have HS : Hid (Nrm zs ∧ val zs = mg (fr * D + st * P) ∧ zs.length ≤ 1048575) := ⟨nz, vz, Nat.le_trans (sum_len ox.lim oy.lim vx vy lx ly oz.lim nz vz) (by decide)⟩
                have bs := N.size
                clear nz vz
                have r_kS_oz := row_ne_low oz kS.lt
                replace kS := kS.below hb
                replace ox := ox.below hb
                replace oy := oy.below hb
                replace N := N.trans (hb.mono N.size)
                clear hb
                clear ox oy
                refine hK.out _ _ N (fun hHeld => ?_)
                clear hK K
                try simp only [Act.put, sA, sB, sC]
                refine wpAnyH_ready (rs := [10]) (by kernel_rfl) (by simp) (AllReadyH.cons (gt rfl) (fun K hK => ?_) AllReadyH.nil)
                go_simp
                have kP := Box2.new ww6 N.size (.bool false) (.slice none 0 0) 30
                have hb := below1 ww6 (.cells #[.bool false, .slice none 0 0] 30)
                have r_kP_oz := row_ne_high oz.toCame (Nat.le_refl _)
                have ne_kP_kS := Nat.ne_of_gt kS.lt
                have ne_kS_kP := ne_kP_kS.symm
                replace kS := kS.below hb
                replace oz := oz.below hb
                replace N := N.trans (hb.mono N.size)
                clear hb
                generalize ww6.alloc (.cells #[.bool false, .slice none 0 0] 30) = ww7 at *
                refine hK.out _ _ N (fun hHeld => ?_)
                clear hK K
                try simp only [Act.put, sA, sB, sC]
                refine wpAnyH_ready (rs := [11]) (by kernel_rfl) (by simp) (AllReadyH.cons (gt rfl) (fun K hK => ?_) AllReadyH.nil)
                have z0 := kP.c0
                have z1 := kP.c1
                have zf := kP.fr
                go_simp
                clear z0 z1 zf
                replace N := Box2.chain N kP (.bool (decide ((fr * D + st * P) < 0))) (.slice a9 zs.length c9)
                replace kS := kS.old ne_kS_kP (.bool (decide ((fr * D + st * P) < 0))) (.slice a9 zs.length c9)
                replace oz := oz.put2 r_kP_oz (.bool (decide ((fr * D + st * P) < 0))) (.slice a9 zs.length c9)
                replace kP := kP.put (.bool (decide ((fr * D + st * P) < 0))) (.slice a9 zs.length c9)
                refine hK.out _ _ N (fun hHeld => ?_)
                clear hK K
                try simp only [Act.put, sA, sB, sC]
                refine wpAnyH_done (by kernel_rfl) ?_ _
                go_wp2
                go_meet
                case rel => exact ⟨_, a9, c9, zs, rfl, kP, oz.base_le bs, HS, N⟩
              · skip
                go_simp
                have kP := Box2.new ww5 N.size (.bool false) (.slice none 0 0) 30
                have hb := below1 ww5 (.cells #[.bool false, .slice none 0 0] 30)
                have ne_kP_kS := Nat.ne_of_gt kS.lt
                have ne_kS_kP := ne_kP_kS.symm
                replace kS := kS.below hb
                replace ox := ox.below hb
                replace oy := oy.below hb
                replace N := N.trans (hb.mono N.size)
                clear hb
                generalize ww5.alloc (.cells #[.bool false, .slice none 0 0] 30) = ww9 at *
                refine hK.out _ _ N (fun hHeld => ?_)
                clear hK K
                try simp only [Act.put, sA, sB, sC]
                refine wpAnyH_ready (rs := [9]) (by kernel_rfl) (by simp) (AllReadyH.cons (gt rfl) (fun K hK => ?_) AllReadyH.nil)
                go_simp
                refine (sumC _ 2 48 _ _ _ _ _ (Parts.two kS.c0 kS.c1 kS.c2 kS.c3 ox.toSees oy.toSees nx ny lx ly) (by decide)).mono ?_
                rintro e5 ww10 ⟨u5, rfl, hI, hb⟩
                rw [psum_two, vx, vy, sg_of_mg', sg_of_mg'] at hI
                obtain ⟨a9, c9, zs, rfl, oz, nz, vz⟩ := hI
                have HS : Hid (Nrm zs ∧ val zs = mg (fr * D + st * P) ∧ zs.length ≤ 1048575) := ⟨nz, vz, Nat.le_trans (sum_len ox.lim oy.lim vx vy lx ly oz.lim nz vz) (by decide)⟩
                have bs := N.size
                clear nz vz
                have r_kS_oz := row_ne_low oz kS.lt
                have r_kP_oz := row_ne_low oz kP.lt
                replace kS := kS.below hb
                replace kP := kP.below hb
                replace ox := ox.below hb
                replace oy := oy.below hb
                replace N := N.trans (hb.mono N.size)
                clear hb
                clear ox oy
                refine hK.out _ _ N (fun hHeld => ?_)
                clear hK K
                try simp only [Act.put, sA, sB, sC]
                refine wpAnyH_ready (rs := [11]) (by kernel_rfl) (by simp) (AllReadyH.cons (gt rfl) (fun K hK => ?_) AllReadyH.nil)
                have z0 := kP.c0
                have z1 := kP.c1
                have zf := kP.fr
                go_simp
                clear z0 z1 zf
                replace N := Box2.chain N kP (.bool (decide ((fr * D + st * P) < 0))) (.slice a9 zs.length c9)
                replace kS := kS.old ne_kS_kP (.bool (decide ((fr * D + st * P) < 0))) (.slice a9 zs.length c9)
                replace oz := oz.put2 r_kP_oz (.bool (decide ((fr * D + st * P) < 0))) (.slice a9 zs.length c9)
                replace kP := kP.put (.bool (decide ((fr * D + st * P) < 0))) (.slice a9 zs.length c9)
                refine hK.out _ _ N (fun hHeld => ?_)
                clear hK K
                try simp only [Act.put, sA, sB, sC]
                refine wpAnyH_done (by kernel_rfl) ?_ _
                go_wp2
                go_meet
                case rel => exact ⟨_, a9, c9, zs, rfl, kP, oz.base_le bs, HS, N⟩
            · skip
              go_simp
              have kP := Box2.new ww4 N.size (.bool false) (.slice none 0 0) 30
              have hb := below1 ww4 (.cells #[.bool false, .slice none 0 0] 30)
              replace ox := ox.below hb
              replace oy := oy.below hb
              replace N := N.trans (hb.mono N.size)
              clear hb
              generalize ww4.alloc (.cells #[.bool false, .slice none 0 0] 30) = ww12 at *
              refine hK.out _ _ N (fun hHeld => ?_)
              clear hK K
              try simp only [Act.put, sA, sB, sC]
              refine wpAnyH_ready (rs := [8]) (by kernel_rfl) (by simp) (AllReadyH.cons (gt rfl) (fun K hK => ?_) AllReadyH.nil)
              go_simp
              have kS := Box4.new ww12 N.size (.bool (decide (fr * D < 0))) (.slice a6 xs.length c6) (.bool (decide (st * P < 0))) (.slice a8 ys.length c8) 30
              have hb := below1 ww12 (.cells #[.bool (decide (fr * D < 0)), .slice a6 xs.length c6, .bool (decide (st * P < 0)), .slice a8 ys.length c8] 30)
              have ne_kS_kP := Nat.ne_of_gt kP.lt
              have ne_kP_kS := ne_kS_kP.symm
              replace kP := kP.below hb
              replace ox := ox.below hb
              replace oy := oy.below hb
              replace N := N.trans (hb.mono N.size)
              clear hb
              generalize ww12.alloc (.cells #[.bool (decide (fr * D < 0)), .slice a6 xs.length c6, .bool (decide (st * P < 0)), .slice a8 ys.length c8] 30) = ww13 at *
              refine hK.out _ _ N (fun hHeld => ?_)
              clear hK K
              try simp only [Act.put, sA, sB, sC]
              refine wpAnyH_ready (rs := [9]) (by kernel_rfl) (by simp) (AllReadyH.cons (gt rfl) (fun K hK => ?_) AllReadyH.nil)
              go_simp
              refine (sumC _ 2 48 _ _ _ _ _ (Parts.two kS.c0 kS.c1 kS.c2 kS.c3 ox.toSees oy.toSees nx ny lx ly) (by decide)).mono ?_
              rintro e5 ww14 ⟨u5, rfl, hI, hb⟩
              rw [psum_two, vx, vy, sg_of_mg', sg_of_mg'] at hI
              obtain ⟨a9, c9, zs, rfl, oz, nz, vz⟩ := hI
              have HS : Hid (Nrm zs ∧ val zs = mg (fr * D + st * P) ∧ zs.length ≤ 1048575) := ⟨nz, vz, Nat.le_trans (sum_len ox.lim oy.lim vx vy lx ly oz.lim nz vz) (by decide)⟩
              have bs := N.size
              clear nz vz
              have r_kP_oz := row_ne_low oz kP.lt
              have r_kS_oz := row_ne_low oz kS.lt
              replace kP := kP.below hb
              replace kS := kS.below hb
              replace ox := ox.below hb
              replace oy := oy.below hb
              replace N := N.trans (hb.mono N.size)
              clear hb
              clear ox oy
              refine hK.out _ _ N (fun hHeld => ?_)
              clear hK K
              try simp only [Act.put, sA, sB, sC]
              refine wpAnyH_ready (rs := [11]) (by kernel_rfl) (by simp) (AllReadyH.cons (gt rfl) (fun K hK => ?_) AllReadyH.nil)
              have z0 := kP.c0
              have z1 := kP.c1
              have zf := kP.fr
              go_simp
              clear z0 z1 zf
              replace N := Box2.chain N kP (.bool (decide ((fr * D + st * P) < 0))) (.slice a9 zs.length c9)
              replace kS := kS.old ne_kS_kP (.bool (decide ((fr * D + st * P) < 0))) (.slice a9 zs.length c9)
              replace oz := oz.put2 r_kP_oz (.bool (decide ((fr * D + st * P) < 0))) (.slice a9 zs.length c9)
              replace kP := kP.put (.bool (decide ((fr * D + st * P) < 0))) (.slice a9 zs.length c9)
              refine hK.out _ _ N (fun hHeld => ?_)
              clear hK K
              try simp only [Act.put, sA, sB, sC]
              refine wpAnyH_done (by kernel_rfl) ?_ _
              go_wp2
              go_meet
              case rel => exact ⟨_, a9, c9, zs, rfl, kP, oz.base_le bs, HS, N⟩
          · skip
            go_simp
            have kP := Box2.new ww3 N.size (.bool false) (.slice none 0 0) 30
            have hb := below1 ww3 (.cells #[.bool false, .slice none 0 0] 30)
            replace ox := ox.below hb
            replace ov := ov.below hb
            replace N := N.trans (hb.mono N.size)
            clear hb
            generalize ww3.alloc (.cells #[.bool false, .slice none 0 0] 30) = ww16 at *
            refine hK.out _ _ N (fun hHeld => ?_)
            clear hK K
            try simp only [Act.put, sA, sB, sC]
            refine wpAnyH_ready (rs := [7]) (by kernel_rfl) (by simp) (AllReadyH.cons (gt rfl) (fun K hK => ?_) AllReadyH.nil)
            go_simp
            refine (productC g2 s a7 a c7 c vs ps _ ov.toSees (h1'.below N) (HL.out vs ov.lim nv (.inr vv)).2).mono ?_
            rintro e4 ww17 ⟨u4, rfl, hI, hb⟩
            rw [HP.out.2 vs vv] at hI
            obtain ⟨a8, c8, ys, rfl, oy, ny, vy⟩ := hI
            have ly := (HM.out.2 vs ys ov.lim nv vv oy.lim ny vy).2
            replace kP := kP.below hb
            replace ox := ox.below hb
            replace ov := ov.below hb
            replace N := N.trans (hb.mono N.size)
            clear hb
            clear ov
            refine hK.out _ _ N (fun hHeld => ?_)
            clear hK K
            try simp only [Act.put, sA, sB, sC]
            refine wpAnyH_ready (rs := [8]) (by kernel_rfl) (by simp) (AllReadyH.cons (gt rfl) (fun K hK => ?_) AllReadyH.nil)
            go_simp
            have kS := Box4.new ww17 N.size (.bool (decide (fr * D < 0))) (.slice a6 xs.length c6) (.bool (decide (st * P < 0))) (.slice a8 ys.length c8) 30
            have hb := below1 ww17 (.cells #[.bool (decide (fr * D < 0)), .slice a6 xs.length c6, .bool (decide (st * P < 0)), .slice a8 ys.length c8] 30)
            have ne_kS_kP := Nat.ne_of_gt kP.lt
            have ne_kP_kS := ne_kS_kP.symm
            replace kP := kP.below hb
            replace ox := ox.below hb
            replace oy := oy.below hb
            replace N := N.trans (hb.mono N.size)
            clear hb
            generalize ww17.alloc (.cells #[.bool (decide (fr * D < 0)), .slice a6 xs.length c6, .bool (decide (st * P < 0)), .slice a8 ys.length c8] 30) = ww18 at *
            refine hK.out _ _ N (fun hHeld => ?_)
            clear hK K
            try simp only [Act.put, sA, sB, sC]
            refine wpAnyH_ready (rs := [9]) (by kernel_rfl) (by simp) (AllReadyH.cons (gt rfl) (fun K hK => ?_) AllReadyH.nil)
            go_simp
            refine (sumC _ 2 48 _ _ _ _ _ (Parts.two kS.c0 kS.c1 kS.c2 kS.c3 ox.toSees oy.toSees nx ny lx ly) (by decide)).mono ?_
            rintro e5 ww19 ⟨u5, rfl, hI, hb⟩
            rw [psum_two, vx, vy, sg_of_mg', sg_of_mg'] at hI
            obtain ⟨a9, c9, zs, rfl, oz, nz, vz⟩ := hI
            have HS : Hid (Nrm zs ∧ val zs = mg (fr * D + st * P) ∧ zs.length ≤ 1048575) := ⟨nz, vz, Nat.le_trans (sum_len ox.lim oy.lim vx vy lx ly oz.lim nz vz) (by decide)⟩
            have bs := N.size
            clear nz vz
            have r_kP_oz := row_ne_low oz kP.lt
            have r_kS_oz := row_ne_low oz kS.lt
            replace kP := kP.below hb
            replace kS := kS.below hb
            replace ox := ox.below hb
            replace oy := oy.below hb
            replace N := N.trans (hb.mono N.size)
            clear hb
            clear ox oy
            refine hK.out _ _ N (fun hHeld => ?_)
            clear hK K
            try simp only [Act.put, sA, sB, sC]
            refine wpAnyH_ready (rs := [11]) (by kernel_rfl) (by simp) (AllReadyH.cons (gt rfl) (fun K hK => ?_) AllReadyH.nil)
            have z0 := kP.c0
            have z1 := kP.c1
            have zf := kP.fr
            go_simp
            clear z0 z1 zf
            replace N := Box2.chain N kP (.bool (decide ((fr * D + st * P) < 0))) (.slice a9 zs.length c9)
            replace kS := kS.old ne_kS_kP (.bool (decide ((fr * D + st * P) < 0))) (.slice a9 zs.length c9)
            replace oz := oz.put2 r_kP_oz (.bool (decide ((fr * D + st * P) < 0))) (.slice a9 zs.length c9)
            replace kP := kP.put (.bool (decide ((fr * D + st * P) < 0))) (.slice a9 zs.length c9)
            refine hK.out _ _ N (fun hHeld => ?_)
            clear hK K
            try simp only [Act.put, sA, sB, sC]
            refine wpAnyH_done (by kernel_rfl) ?_ _
            go_wp2
            go_meet
            case rel => exact ⟨_, a9, c9, zs, rfl, kP, oz.base_le bs, HS, N⟩
        · skip
          go_simp
          have kP := Box2.new ww2 N.size (.bool false) (.slice none 0 0) 30
          have hb := below1 ww2 (.cells #[.bool false, .slice none 0 0] 30)
          replace ox := ox.below hb
          replace N := N.trans (hb.mono N.size)
          clear hb
          generalize ww2.alloc (.cells #[.bool false, .slice none 0 0] 30) = ww21 at *
          refine hK.out _ _ N (fun hHeld => ?_)
          clear hK K
          try simp only [Act.put, sA, sB, sC]
          refine wpAnyH_ready (rs := [5]) (by kernel_rfl) (by simp) (AllReadyH.cons (gt rfl) (fun K hK => ?_) AllReadyH.nil)
          go_simp
          refine (implOf st _ HB.out.2.1 HB.out.2.2).mono ?_
          rintro e3 ww22 ⟨u3, rfl, hI, hb⟩
          obtain ⟨a7, c7, vs, rfl, ov, nv, vv⟩ := hI
          rw [G2.out]
          replace kP := kP.below hb
          replace ox := ox.below hb
          replace N := N.trans (hb.mono N.size)
          clear hb
          refine hK.out _ _ N (fun hHeld => ?_)
          clear hK K
          try simp only [Act.put, sA, sB, sC]
          refine wpAnyH_ready (rs := [7]) (by kernel_rfl) (by simp) (AllReadyH.cons (gt rfl) (fun K hK => ?_) AllReadyH.nil)
          go_simp
          refine (productC g2 s a7 a c7 c vs ps _ ov.toSees (h1'.below N) (HL.out vs ov.lim nv (.inr vv)).2).mono ?_
          rintro e4 ww23 ⟨u4, rfl, hI, hb⟩
          rw [HP.out.2 vs vv] at hI
          obtain ⟨a8, c8, ys, rfl, oy, ny, vy⟩ := hI
          have ly := (HM.out.2 vs ys ov.lim nv vv oy.lim ny vy).2
          replace kP := kP.below hb
          replace ox := ox.below hb
          replace ov := ov.below hb
          replace N := N.trans (hb.mono N.size)
          clear hb
          clear ov
          refine hK.out _ _ N (fun hHeld => ?_)
          clear hK K
          try simp only [Act.put, sA, sB, sC]
          refine wpAnyH_ready (rs := [8]) (by kernel_rfl) (by simp) (AllReadyH.cons (gt rfl) (fun K hK => ?_) AllReadyH.nil)
          go_simp
          have kS := Box4.new ww23 N.size (.bool (decide (fr * D < 0))) (.slice a6 xs.length c6) (.bool (decide (st * P < 0))) (.slice a8 ys.length c8) 30
          have hb := below1 ww23 (.cells #[.bool (decide (fr * D < 0)), .slice a6 xs.length c6, .bool (decide (st * P < 0)), .slice a8 ys.length c8] 30)
          have ne_kS_kP := Nat.ne_of_gt kP.lt
          have ne_kP_kS := ne_kS_kP.symm
          replace kP := kP.below hb
          replace ox := ox.below hb
          replace oy := oy.below hb
          replace N := N.trans (hb.mono N.size)
          clear hb
          generalize ww23.alloc (.cells #[.bool (decide (fr * D < 0)), .slice a6 xs.length c6, .bool (decide (st * P < 0)), .slice a8 ys.length c8] 30) = ww24 at *
          refine hK.out _ _ N (fun hHeld => ?_)
          clear hK K
          try simp only [Act.put, sA, sB, sC]
          refine wpAnyH_ready (rs := [9]) (by kernel_rfl) (by simp) (AllReadyH.cons (gt rfl) (fun K hK => ?_) AllReadyH.nil)
          go_simp
          refine (sumC _ 2 48 _ _ _ _ _ (Parts.two kS.c0 kS.c1 kS.c2 kS.c3 ox.toSees oy.toSees nx ny lx ly) (by decide)).mono ?_
          rintro e5 ww25 ⟨u5, rfl, hI, hb⟩
          rw [psum_two, vx, vy, sg_of_mg', sg_of_mg'] at hI
          obtain ⟨a9, c9, zs, rfl, oz, nz, vz⟩ := hI
          have HS : Hid (Nrm zs ∧ val zs = mg (fr * D + st * P) ∧ zs.length ≤ 1048575) := ⟨nz, vz, Nat.le_trans (sum_len ox.lim oy.lim vx vy lx ly oz.lim nz vz) (by decide)⟩
          have bs := N.size
          clear nz vz
          have r_kP_oz := row_ne_low oz kP.lt
          have r_kS_oz := row_ne_low oz kS.lt
          replace kP := kP.below hb
          replace kS := kS.below hb
          replace ox := ox.below hb
          replace oy := oy.below hb
          replace N := N.trans (hb.mono N.size)
          clear hb
          clear ox oy
          refine hK.out _ _ N (fun hHeld => ?_)
          clear hK K
          try simp only [Act.put, sA, sB, sC]
          refine wpAnyH_ready (rs := [11]) (by kernel_rfl) (by simp) (AllReadyH.cons (gt rfl) (fun K hK => ?_) AllReadyH.nil)
          have z0 := kP.c0
          have z1 := kP.c1
          have zf := kP.fr
          go_simp
          clear z0 z1 zf
          replace N := Box2.chain N kP (.bool (decide ((fr * D + st * P) < 0))) (.slice a9 zs.length c9)
          replace kS := kS.old ne_kS_kP (.bool (decide ((fr * D + st * P) < 0))) (.slice a9 zs.length c9)
          replace oz := oz.put2 r_kP_oz (.bool (decide ((fr * D + st * P) < 0))) (.slice a9 zs.length c9)
          replace kP := kP.put (.bool (decide ((fr * D + st * P) < 0))) (.slice a9 zs.length c9)
          refine hK.out _ _ N (fun hHeld => ?_)
          clear hK K
          try simp only [Act.put, sA, sB, sC]
          refine wpAnyH_done (by kernel_rfl) ?_ _
          go_wp2
          go_meet
          case rel => exact ⟨_, a9, c9, zs, rfl, kP, oz.base_le bs, HS, N⟩
      · skip
        go_simp
        have kP := Box2.new ww1 N.size (.bool false) (.slice none 0 0) 30
        have hb := below1 ww1 (.cells #[.bool false, .slice none 0 0] 30)
        replace ou := ou.below hb
        replace N := N.trans (hb.mono N.size)
        clear hb
        generalize ww1.alloc (.cells #[.bool false, .slice none 0 0] 30) = ww27 at *
        refine hK.out _ _ N (fun hHeld => ?_)
        clear hK K
        try simp only [Act.put, sA, sB, sC]
        refine wpAnyH_ready (rs := [3]) (by kernel_rfl) (by simp) (AllReadyH.cons (gt rfl) (fun K hK => ?_) AllReadyH.nil)
        go_simp
        refine (productC g1 t a5 b c5 e us qs _ ou.toSees (h2'.below N) (HL.out us ou.lim nu (.inl vu)).1).mono ?_
        rintro e2 ww28 ⟨u2, rfl, hI, hb⟩
        rw [HP.out.1 us vu] at hI
        obtain ⟨a6, c6, xs, rfl, ox, nx, vx⟩ := hI
        have lx := (HM.out.1 us xs ou.lim nu vu ox.lim nx vx).2
        replace kP := kP.below hb
        replace ou := ou.below hb
        replace N := N.trans (hb.mono N.size)
        clear hb
        clear ou
        refine hK.out _ _ N (fun hHeld => ?_)
        clear hK K
        try simp only [Act.put, sA, sB, sC]
        refine wpAnyH_ready (rs := [5]) (by kernel_rfl) (by simp) (AllReadyH.cons (gt rfl) (fun K hK => ?_) AllReadyH.nil)
        go_simp
        refine (implOf st _ HB.out.2.1 HB.out.2.2).mono ?_
        rintro e3 ww29 ⟨u3, rfl, hI, hb⟩
        obtain ⟨a7, c7, vs, rfl, ov, nv, vv⟩ := hI
        rw [G2.out]
        replace kP := kP.below hb
        replace ox := ox.below hb
        replace N := N.trans (hb.mono N.size)
        clear hb
        refine hK.out _ _ N (fun hHeld => ?_)
        clear hK K
        try simp only [Act.put, sA, sB, sC]
        refine wpAnyH_ready (rs := [7]) (by kernel_rfl) (by simp) (AllReadyH.cons (gt rfl) (fun K hK => ?_) AllReadyH.nil)
        go_simp
        refine (productC g2 s a7 a c7 c vs ps _ ov.toSees (h1'.below N) (HL.out vs ov.lim nv (.inr vv)).2).mono ?_
        rintro e4 ww30 ⟨u4, rfl, hI, hb⟩
        rw [HP.out.2 vs vv] at hI
        obtain ⟨a8, c8, ys, rfl, oy, ny, vy⟩ := hI
        have ly := (HM.out.2 vs ys ov.lim nv vv oy.lim ny vy).2
        replace kP := kP.below hb
        replace ox := ox.below hb
        replace ov := ov.below hb
        replace N := N.trans (hb.mono N.size)
        clear hb
        clear ov
        refine hK.out _ _ N (fun hHeld => ?_)
        clear hK K
        try simp only [Act.put, sA, sB, sC]
        refine wpAnyH_ready (rs := [8]) (by kernel_rfl) (by simp) (AllReadyH.cons (gt rfl) (fun K hK => ?_) AllReadyH.nil)
        go_simp
        have kS := Box4.new ww30 N.size (.bool (decide (fr * D < 0))) (.slice a6 xs.length c6) (.bool (decide (st * P < 0))) (.slice a8 ys.length c8) 30
        have hb := below1 ww30 (.cells #[.bool (decide (fr * D < 0)), .slice a6 xs.length c6, .bool (decide (st * P < 0)), .slice a8 ys.length c8] 30)
        have ne_kS_kP := Nat.ne_of_gt kP.lt
        have ne_kP_kS := ne_kS_kP.symm
        replace kP := kP.below hb
        replace ox := ox.below hb
        replace oy := oy.below hb
        replace N := N.trans (hb.mono N.size)
        clear hb
        generalize ww30.alloc (.cells #[.bool (decide (fr * D < 0)), .slice a6 xs.length c6, .bool (decide (st * P < 0)), .slice a8 ys.length c8] 30) = ww31 at *
        refine hK.out _ _ N (fun hHeld => ?_)
        clear hK K
        try simp only [Act.put, sA, sB, sC]
        refine wpAnyH_ready (rs := [9]) (by kernel_rfl) (by simp) (AllReadyH.cons (gt rfl) (fun K hK => ?_) AllReadyH.nil)
        go_simp
        refine (sumC _ 2 48 _ _ _ _ _ (Parts.two kS.c0 kS.c1 kS.c2 kS.c3 ox.toSees oy.toSees nx ny lx ly) (by decide)).mono ?_
        rintro e5 ww32 ⟨u5, rfl, hI, hb⟩
        rw [psum_two, vx, vy, sg_of_mg', sg_of_mg'] at hI
        obtain ⟨a9, c9, zs, rfl, oz, nz, vz⟩ := hI
        have HS : Hid (Nrm zs ∧ val zs = mg (fr * D + st * P) ∧ zs.length ≤ 1048575) := ⟨nz, vz, Nat.le_trans (sum_len ox.lim oy.lim vx vy lx ly oz.lim nz vz) (by decide)⟩
        have bs := N.size
        clear nz vz
        have r_kP_oz := row_ne_low oz kP.lt
        have r_kS_oz := row_ne_low oz kS.lt
        replace kP := kP.below hb
        replace kS := kS.below hb
        replace ox := ox.below hb
        replace oy := oy.below hb
        replace N := N.trans (hb.mono N.size)
        clear hb
        clear ox oy
        refine hK.out _ _ N (fun hHeld => ?_)
        clear hK K
        try simp only [Act.put, sA, sB, sC]
        refine wpAnyH_ready (rs := [11]) (by kernel_rfl) (by simp) (AllReadyH.cons (gt rfl) (fun K hK => ?_) AllReadyH.nil)
        have z0 := kP.c0
        have z1 := kP.c1
        have zf := kP.fr
        go_simp
        clear z0 z1 zf
        replace N := Box2.chain N kP (.bool (decide ((fr * D + st * P) < 0))) (.slice a9 zs.length c9)
        replace kS := kS.old ne_kS_kP (.bool (decide ((fr * D + st * P) < 0))) (.slice a9 zs.length c9)
        replace oz := oz.put2 r_kP_oz (.bool (decide ((fr * D + st * P) < 0))) (.slice a9 zs.length c9)
        replace kP := kP.put (.bool (decide ((fr * D + st * P) < 0))) (.slice a9 zs.length c9)
        refine hK.out _ _ N (fun hHeld => ?_)
        clear hK K
        try simp only [Act.put, sA, sB, sC]
        refine wpAnyH_done (by kernel_rfl) ?_ _
        go_wp2
        go_meet
        case rel => exact ⟨_, a9, c9, zs, rfl, kP, oz.base_le bs, HS, N⟩
    · skip
      go_simp
      have kP := Box2.new ww0 N.size (.bool false) (.slice none 0 0) 30
      have hb := below1 ww0 (.cells #[.bool false, .slice none 0 0] 30)
      replace N := N.trans (hb.mono N.size)
      clear hb
      generalize ww0.alloc (.cells #[.bool false, .slice none 0 0] 30) = ww34 at *
      refine hK.out _ _ N (fun hHeld => ?_)
      clear hK K
      try simp only [Act.put, sA, sB, sC]
      refine wpAnyH_ready (rs := [1]) (by kernel_rfl) (by simp) (AllReadyH.cons (gt rfl) (fun K hK => ?_) AllReadyH.nil)
      go_simp
      refine (implOf fr _ HB.out.1.1 HB.out.1.2).mono ?_
      rintro e1 ww35 ⟨u1, rfl, hI, hb⟩
      obtain ⟨a5, c5, us, rfl, ou, nu, vu⟩ := hI
      rw [G1.out]
      replace kP := kP.below hb
      replace N := N.trans (hb.mono N.size)
      clear hb
      refine hK.out _ _ N (fun hHeld => ?_)
      clear hK K
      try simp only [Act.put, sA, sB, sC]
      refine wpAnyH_ready (rs := [3]) (by kernel_rfl) (by simp) (AllReadyH.cons (gt rfl) (fun K hK => ?_) AllReadyH.nil)
      go_simp
      refine (productC g1 t a5 b c5 e us qs _ ou.toSees (h2'.below N) (HL.out us ou.lim nu (.inl vu)).1).mono ?_
      rintro e2 ww36 ⟨u2, rfl, hI, hb⟩
      rw [HP.out.1 us vu] at hI
      obtain ⟨a6, c6, xs, rfl, ox, nx, vx⟩ := hI
      have lx := (HM.out.1 us xs ou.lim nu vu ox.lim nx vx).2
      replace kP := kP.below hb
      replace ou := ou.below hb
      replace N := N.trans (hb.mono N.size)
      clear hb
      clear ou
      refine hK.out _ _ N (fun hHeld => ?_)
      clear hK K
      try simp only [Act.put, sA, sB, sC]
      refine wpAnyH_ready (rs := [5]) (by kernel_rfl) (by simp) (AllReadyH.cons (gt rfl) (fun K hK => ?_) AllReadyH.nil)
      go_simp
      refine (implOf st _ HB.out.2.1 HB.out.2.2).mono ?_
      rintro e3 ww37 ⟨u3, rfl, hI, hb⟩
      obtain ⟨a7, c7, vs, rfl, ov, nv, vv⟩ := hI
      rw [G2.out]
      replace kP := kP.below hb
      replace ox := ox.below hb
      replace N := N.trans (hb.mono N.size)
      clear hb
      refine hK.out _ _ N (fun hHeld => ?_)
      clear hK K
      try simp only [Act.put, sA, sB, sC]
      refine wpAnyH_ready (rs := [7]) (by kernel_rfl) (by simp) (AllReadyH.cons (gt rfl) (fun K hK => ?_) AllReadyH.nil)
      go_simp
      refine (productC g2 s a7 a c7 c vs ps _ ov.toSees (h1'.below N) (HL.out vs ov.lim nv (.inr vv)).2).mono ?_
      rintro e4 ww38 ⟨u4, rfl, hI, hb⟩
      rw [HP.out.2 vs vv] at hI
      obtain ⟨a8, c8, ys, rfl, oy, ny, vy⟩ := hI
      have ly := (HM.out.2 vs ys ov.lim nv vv oy.lim ny vy).2
      replace kP := kP.below hb
      replace ox := ox.below hb
      replace ov := ov.below hb
      replace N := N.trans (hb.mono N.size)
      clear hb
      clear ov
      refine hK.out _ _ N (fun hHeld => ?_)
      clear hK K
      try simp only [Act.put, sA, sB, sC]
      refine wpAnyH_ready (rs := [8]) (by kernel_rfl) (by simp) (AllReadyH.cons (gt rfl) (fun K hK => ?_) AllReadyH.nil)
      go_simp
      have kS := Box4.new ww38 N.size (.bool (decide (fr * D < 0))) (.slice a6 xs.length c6) (.bool (decide (st * P < 0))) (.slice a8 ys.length c8) 30
      have hb := below1 ww38 (.cells #[.bool (decide (fr * D < 0)), .slice a6 xs.length c6, .bool (decide (st * P < 0)), .slice a8 ys.length c8] 30)
      have ne_kS_kP := Nat.ne_of_gt kP.lt
      have ne_kP_kS := ne_kS_kP.symm
      replace kP := kP.below hb
      replace ox := ox.below hb
      replace oy := oy.below hb
      replace N := N.trans (hb.mono N.size)
      clear hb
      generalize ww38.alloc (.cells #[.bool (decide (fr * D < 0)), .slice a6 xs.length c6, .bool (decide (st * P < 0)), .slice a8 ys.length c8] 30) = ww39 at *
      refine hK.out _ _ N (fun hHeld => ?_)
      clear hK K
      try simp only [Act.put, sA, sB, sC]
      refine wpAnyH_ready (rs := [9]) (by kernel_rfl) (by simp) (AllReadyH.cons (gt rfl) (fun K hK => ?_) AllReadyH.nil)
      go_simp
      refine (sumC _ 2 48 _ _ _ _ _ (Parts.two kS.c0 kS.c1 kS.c2 kS.c3 ox.toSees oy.toSees nx ny lx ly) (by decide)).mono ?_
      rintro e5 ww40 ⟨u5, rfl, hI, hb⟩
      rw [psum_two, vx, vy, sg_of_mg', sg_of_mg'] at hI
      obtain ⟨a9, c9, zs, rfl, oz, nz, vz⟩ := hI
      have HS : Hid (Nrm zs ∧ val zs = mg (fr * D + st * P) ∧ zs.length ≤ 1048575) := ⟨nz, vz, Nat.le_trans (sum_len ox.lim oy.lim vx vy lx ly oz.lim nz vz) (by decide)⟩
      have bs := N.size
      clear nz vz
      have r_kP_oz := row_ne_low oz kP.lt
      have r_kS_oz := row_ne_low oz kS.lt
      replace kP := kP.below hb
      replace kS := kS.below hb
      replace ox := ox.below hb
      replace oy := oy.below hb
      replace N := N.trans (hb.mono N.size)
      clear hb
      clear ox oy
      refine hK.out _ _ N (fun hHeld => ?_)
      clear hK K
      try simp only [Act.put, sA, sB, sC]
      refine wpAnyH_ready (rs := [11]) (by kernel_rfl) (by simp) (AllReadyH.cons (gt rfl) (fun K hK => ?_) AllReadyH.nil)
      have z0 := kP.c0
      have z1 := kP.c1
      have zf := kP.fr
      go_simp
      clear z0 z1 zf
      replace N := Box2.chain N kP (.bool (decide ((fr * D + st * P) < 0))) (.slice a9 zs.length c9)
      replace kS := kS.old ne_kS_kP (.bool (decide ((fr * D + st * P) < 0))) (.slice a9 zs.length c9)
      replace oz := oz.put2 r_kP_oz (.bool (decide ((fr * D + st * P) < 0))) (.slice a9 zs.length c9)
      replace kP := kP.put (.bool (decide ((fr * D + st * P) < 0))) (.slice a9 zs.length c9)
      refine hK.out _ _ N (fun hHeld => ?_)
      clear hK K
      try simp only [Act.put, sA, sB, sC]
      refine wpAnyH_done (by kernel_rfl) ?_ _
      go_wp2
      go_meet
      case rel => exact ⟨_, a9, c9, zs, rfl, kP, oz.base_le bs, HS, N⟩
  rename World => W
  obtain ⟨p, a9, c9, zs, rfl, KP, oz, HS, hb⟩ := hcut
  obtain ⟨nz, vz, m1⟩ := HS.out
  have x0 := KP.c0
  have x1 := KP.c1
  replace kR := kR.below hb
  replace k2 := bat hb k2
  replace k3 := bat hb k3
  replace h2' := h2'.below hb
  replace BW := BW.trans (hb.mono BW.size)
  obtain ⟨gz, GZ⟩ : ∃ f, Hid (decide ((fr * D + st * P) < 0) = f) := ⟨_, rfl⟩
  rw [GZ.out] at x0
  have HQ := HZ.out zs vz
  rw [GZ.out] at HQ
  clear hb k0 k1 h1' KP HS HZ
  cases t
  · have HQ' : Hid _ := HQ.1 rfl
    clear HQ
    go_wp2_with fail
    refine (lowestC gz a9 b c9 e zs qs _ oz.toSees h2' nz HE.out.2.2 HE.out.1 m1 HE.out.2.1).mono ?_
    rintro e3 w3 ⟨u3, rfl, hI, hb⟩
    have lR := kR.lt
    have hJ := (hI.eq HQ'.out.1 HQ'.out.2).base_le (show w.heap.size + 1 + 1 + 1 ≤ _ from lR)
    obtain ⟨f5, F5⟩ : ∃ f, Hid (decide (cN (fr * D + st * P) D < 0) = f) := ⟨_, rfl⟩
    obtain ⟨f6, F6⟩ : ∃ f, Hid (decide (cD (fr * D + st * P) D < 0) = f) := ⟨_, rfl⟩
    have hJ0 := hJ
    obtain ⟨a7, c7, rs, a8, c8, ts, ev, _⟩ := hJ0
    rw [F5.out, F6.out] at ev
    subst ev
    replace kR := kR.below hb
    replace BW := BW.trans (hb.mono BW.size)
    have JP := hJ.put (b := w.heap.size + 1 + 1) (b0 := w.heap.size) (by omega) (by omega) (.bool f5) (.slice a7 rs.length c7) (.bool f6) (.slice a8 ts.length c8)
    have BP := below_put4 (b := w.heap.size + 1 + 1) BW (by omega) (.bool f5) (.slice a7 rs.length c7) (.bool f6) (.slice a8 ts.length c8)
    obtain ⟨z0, z1, z2, z3, zf, _⟩ := kR
    clear hb hI hJ x0 x1 k2 k3 BW
    go_wp2
    exact bodyPost_ret (v := .agg #[.bool f5, .slice a7 rs.length c7, .bool f6, .slice a8 ts.length c8]) (by simp [results, Try.results35, go_sem, z0, z1, z2, z3]) rfl ⟨_, rfl, JP, BP⟩
  · have HQ' : Hid _ := HQ.2 rfl
    clear HQ
    go_wp2_with fail
    refine (lowestN gz a9 b c9 e zs qs _ oz.toSees h2' nz HE.out.2.2 HE.out.1 m1 HE.out.2.1).mono ?_
    rintro e3 w3 ⟨u3, rfl, hI, hb⟩
    have lR := kR.lt
    have hJ := (hI.eq HQ'.out.1 HQ'.out.2).base_le (show w.heap.size + 1 + 1 + 1 ≤ _ from lR)
    obtain ⟨f5, F5⟩ : ∃ f, Hid (decide (cN (fr * D + st * P) D < 0) = f) := ⟨_, rfl⟩
    obtain ⟨f6, F6⟩ : ∃ f, Hid (decide (cD (fr * D + st * P) D < 0) = f) := ⟨_, rfl⟩
    have hJ0 := hJ
    obtain ⟨a7, c7, rs, a8, c8, ts, ev, _⟩ := hJ0
    rw [F5.out, F6.out] at ev
    subst ev
    replace kR := kR.below hb
    replace BW := BW.trans (hb.mono BW.size)
    have JP := hJ.put (b := w.heap.size + 1 + 1) (b0 := w.heap.size) (by omega) (by omega) (.bool f5) (.slice a7 rs.length c7) (.bool f6) (.slice a8 ts.length c8)
    have BP := below_put4 (b := w.heap.size + 1 + 1) BW (by omega) (.bool f5) (.slice a7 rs.length c7) (.bool f6) (.slice a8 ts.length c8)
    obtain ⟨z0, z1, z2, z3, zf, _⟩ := kR
    clear hb hI hJ x0 x1 k2 k3 BW
    go_wp2
    exact bodyPost_ret (v := .agg #[.bool f5, .slice a7 rs.length c7, .bool f6, .slice a8 ts.length c8]) (by simp [results, Try.results35, go_sem, z0, z1, z2, z3]) rfl ⟨_, rfl, JP, BP⟩
end Go.Proofs.Ytfhcbgjnojcigaa
