/- The room behind a log's end, the program's side. -/
import Derived.Test.YtonbmeepfgejmaaGreatDoorTrim
import Derived.Test.YtonbmeepfgejmaaGreatDoorCmp
import Derived.Test.YtonbmeepfgejmaaGreatDoorQuR
import Derived.Deep.DeepCutAuto
namespace Go.Proofs.YtonbmeepfgejmaaGreatDoor
open Go.RowKit

/-- A variable of eight cells. -/
structure Box8 (lo : Nat) (w : World) (p : Nat) (x0 x1 x2 x3 x4 x5 x6 x7 : Value) : Prop where
  c0 : w.cell? ⟨p, 0, none⟩ = some x0
  c1 : w.cell? ⟨p, 1, none⟩ = some x1
  c2 : w.cell? ⟨p, 2, none⟩ = some x2
  c3 : w.cell? ⟨p, 3, none⟩ = some x3
  c4 : w.cell? ⟨p, 4, none⟩ = some x4
  c5 : w.cell? ⟨p, 5, none⟩ = some x5
  c6 : w.cell? ⟨p, 6, none⟩ = some x6
  c7 : w.cell? ⟨p, 7, none⟩ = some x7
  lo : lo ≤ p
theorem Box8.new (w : World) {lo : Nat} (h : lo ≤ w.heap.size) (x0 x1 x2 x3 x4 x5 x6 x7 : Value) (t : TypeId) : Box8 lo (w.alloc (.cells #[x0, x1, x2, x3, x4, x5, x6, x7] t)) w.heap.size x0 x1 x2 x3 x4 x5 x6 x7 :=
  ⟨cell_new w _ t 0 rfl, cell_new w _ t 1 rfl, cell_new w _ t 2 rfl, cell_new w _ t 3 rfl, cell_new w _ t 4 rfl, cell_new w _ t 5 rfl, cell_new w _ t 6 rfl, cell_new w _ t 7 rfl, h⟩
theorem Box8.lt {lo p : Nat} {w : World} {x0 x1 x2 x3 x4 x5 x6 x7 : Value} (h : Box8 lo w p x0 x1 x2 x3 x4 x5 x6 x7) : p < w.heap.size := World.block_lt_of_cell? _ _ h.c0
theorem Box8.below {lo p : Nat} {w w' : World} {x0 x1 x2 x3 x4 x5 x6 x7 : Value} (h : Box8 lo w p x0 x1 x2 x3 x4 x5 x6 x7) (hb : Below w.heap.size w w') : Box8 lo w' p x0 x1 x2 x3 x4 x5 x6 x7 :=
  ⟨bat hb h.c0, bat hb h.c1, bat hb h.c2, bat hb h.c3, bat hb h.c4, bat hb h.c5, bat hb h.c6, bat hb h.c7, h.lo⟩
theorem Box8.old {lo p q : Nat} {w : World} {x0 x1 x2 x3 x4 x5 x6 x7 : Value} (_ : Box8 lo w q x0 x1 x2 x3 x4 x5 x6 x7) (_ : q ≠ p) (_ _ : Value) : True := trivial

theorem Parts.four {w : World} {pb c0 c1 c2 c3 L : Nat} {g0 g1 g2 g3 : Bool} {a0 a1 a2 a3 : Option Addr} {x0 x1 x2 x3 : List Int} {lo : Nat}
    (h : Box8 lo w pb (.bool g0) (.slice a0 x0.length c0) (.bool g1) (.slice a1 x1.length c1) (.bool g2) (.slice a2 x2.length c2) (.bool g3) (.slice a3 x3.length c3))
    (s0 : Sees w a0 c0 x0) (s1 : Sees w a1 c1 x1) (s2 : Sees w a2 c2 x2) (s3 : Sees w a3 c3 x3) (n0 : Nrm x0) (n1 : Nrm x1) (n2 : Nrm x2) (n3 : Nrm x3) (l0 : x0.length ≤ L) (l1 : x1.length ≤ L) (l2 : x2.length ≤ L) (l3 : x3.length ≤ L) :
    Parts w pb 4 L (fun j => if j = 0 then g0 else if j = 1 then g1 else if j = 2 then g2 else g3) (fun j => if j = 0 then a0 else if j = 1 then a1 else if j = 2 then a2 else a3) (fun j => if j = 0 then c0 else if j = 1 then c1 else if j = 2 then c2 else c3) (fun j => if j = 0 then x0 else if j = 1 then x1 else if j = 2 then x2 else x3) := by
  refine ⟨fun j hj => ?_, fun j hj => ?_, fun j hj => ?_, fun j hj => ?_, fun j hj => ?_⟩
  all_goals
    have : j = 0 ∨ j = 1 ∨ j = 2 ∨ j = 3 := by omega
    rcases this with rfl | rfl | rfl | rfl
  · exact h.c0
  · exact h.c2
  · exact h.c4
  · exact h.c6
  · exact h.c1
  · exact h.c3
  · exact h.c5
  · exact h.c7
  · exact s0
  · exact s1
  · exact s2
  · exact s3
  · exact n0
  · exact n1
  · exact n2
  · exact n3
  · exact l0
  · exact l1
  · exact l2
  · exact l3
theorem psum_four (g0 g1 g2 g3 : Bool) (x0 x1 x2 x3 : List Int) : psum (fun j => if j = 0 then g0 else if j = 1 then g1 else if j = 2 then g2 else g3) (fun j => if j = 0 then x0 else if j = 1 then x1 else if j = 2 then x2 else x3) 4 = sg g0 (val x0) + sg g1 (val x1) + sg g2 (val x2) + sg g3 (val x3) := by simp [psum]
theorem sg_back (z : Int) : sg (decide (z < 0)) (mg z) = z := by
  unfold sg mg
  by_cases h : z < 0 <;> simp [h]
theorem neg_back {z : Int} {xs : List Int} (h : val xs = mg z) : sg (!decide (z < 0) && decide (0 < xs.length)) (val xs) = -z := by
  rw [neg_flag, h, sg_back]
  rintro rfl
  have : z = 0 := by simp only [val] at h; unfold mg at h; split at h <;> omega
  subst this
  rfl
theorem small_len {z : Int} {xs : List Int} (hl : Lim xs) (hn : Nrm xs) (h : val xs = mg z) (h1 : -9223372036854775808 ≤ z) (h2 : z ≤ 9223372036854775807) : xs.length ≤ 2 := by
  refine len_le hl hn ?_
  rw [h]
  unfold mg
  split <;> omega

set_option maxRecDepth 20000 in
set_option maxHeartbeats 4000000 in
theorem implLogRoom (F L X E : Int) (w : World) (f1 : -9223372036854775808 ≤ F ∧ F ≤ 9223372036854775807) (l1 : -9223372036854775808 ≤ L ∧ L ≤ 9223372036854775807) (x1 : -9223372036854775808 ≤ X ∧ X ≤ 9223372036854775807) (hz : 0 ≤ L + 1 + -F + -X ∧ L + 1 + -F + -X ≤ 9223372036854775807) :
    Calls Tryz.prog 57 #[.agg #[.int .i64 F, .int .i64 L, .int .i64 X, .int .i64 E]] w fun e w' => e = .returned (.int .i64 (L + 1 + -F + -X)) ∧ Below w.heap.size w w' := by
  have B := below1 w (.cells #[.int .i64 F, .int .i64 L, .int .i64 X, .int .i64 E] 32)
  have V := Box4.new w (lo := w.heap.size) (Nat.le_refl _) (.int .i64 F) (.int .i64 L) (.int .i64 X) (.int .i64 E) 32
  have HB : Hid ((-9223372036854775808 ≤ F ∧ F ≤ 9223372036854775807) ∧ (-9223372036854775808 ≤ L ∧ L ≤ 9223372036854775807) ∧ (-9223372036854775808 ≤ X ∧ X ≤ 9223372036854775807)) := ⟨f1, l1, x1⟩
  obtain ⟨z, hzz⟩ : ∃ z, Hid (L + 1 + -F + -X = z) := ⟨_, rfl⟩
  rw [hzz.out] at hz ⊢
  have HZ : Hid (0 ≤ z ∧ z ≤ 9223372036854775807) := hz
  clear f1 l1 x1 hz
  go_enter Tryz.func57, Tryz.ntmps57
  go_upto_region 1 with fail
  generalize w.alloc (.cells #[.int .i64 F, .int .i64 L, .int .i64 X, .int .i64 E] 32) = W0 at *
  obtain ⟨v0, v1, v2, v3, vf, _⟩ := id V
  go_cut [3] (fun s3 W => ∃ p a9 c9 zs, s3 = .pointer (some ⟨p, 0, none⟩) ∧ Box2 W0.heap.size W p (.bool false) (.slice a9 zs.length c9) ∧ Own W0.heap.size W a9 c9 zs ∧ Hid (Nrm zs ∧ val zs = z) ∧ Below W0.heap.size W0 W)
  case first =>
    refine wp_region_held_drew (S := Below W0.heap.size W0) (by kernel_rfl) ((Below.refl _ _).drew) (fun hHeld => ?_)
    have N : Below W0.heap.size W0 W0.drew := hHeld
    revert hHeld N
    generalize W0.drew = ww0
    intro hHeld N
    refine takeQ (i := 0) (gt rfl) (by kernel_rfl) (fun _ _ _ h => h) (by rfl) (by intro wq _; go_simp <;> with_reducible rfl) (by assumption) ?_
    try simp only [Act.put, sA, sB, sC]
    refine takeQ (i := 1) (gt rfl) (by kernel_rfl) (fun _ _ _ h => h) (by rfl) (by intro wq hSw; have q0 := bat hSw v0; have q1 := bat hSw v1; have q2 := bat hSw v2; go_simp <;> with_reducible rfl) (by assumption) ?_
    try simp only [Act.put, sA, sB, sC]
    refine takeQ (i := 4) (gt rfl) (by kernel_rfl) (fun _ _ _ h => h) (by rfl) (by intro wq _; go_simp <;> with_reducible rfl) (by assumption) ?_
    try simp only [Act.put, sA, sB, sC]
    refine takeQ (i := 5) (gt rfl) (by kernel_rfl) (fun _ _ _ h => h) (by rfl) (by intro wq hSw; have q0 := bat hSw v0; have q1 := bat hSw v1; have q2 := bat hSw v2; go_simp <;> with_reducible rfl) (by assumption) ?_
    try simp only [Act.put, sA, sB, sC]
    refine takeQ (i := 8) (gt rfl) (by kernel_rfl) (fun _ _ _ h => h) (by rfl) (by intro wq _; go_simp <;> with_reducible rfl) (by assumption) ?_
    try simp only [Act.put, sA, sB, sC]
    refine takeQ (i := 9) (gt rfl) (by kernel_rfl) (fun _ _ _ h => h) (by rfl) (by intro wq hSw; have q0 := bat hSw v0; have q1 := bat hSw v1; have q2 := bat hSw v2; go_simp <;> with_reducible rfl) (by assumption) ?_
    try simp only [Act.put, sA, sB, sC]
    refine wpAnyH_ready (rs := [2, 14]) (by kernel_rfl) (by simp) (AllReadyH.cons (gt rfl) (fun K hK => ?_) (AllReadyH.cons (gt rfl) (fun K hK => ?_) AllReadyH.nil))
    · skip
      go_simp
      refine (implOf L _ (HB.out.2.1).1 (HB.out.2.1).2).mono ?_
      rintro e1 ww1 ⟨u1, rfl, hI, hb⟩
      obtain ⟨a1, c1, xs1, rfl, o1, n1, t1⟩ := hI
      have l1 := small_len o1.lim n1 t1 (HB.out.2.1).1 (HB.out.2.1).2
      replace N := N.trans (hb.mono N.size)
      clear hb
      refine hK.out _ _ N (fun hHeld => ?_)
      clear hK K
      try simp only [Act.put, sA, sB, sC]
      refine wpAnyH_ready (rs := [3, 14]) (by kernel_rfl) (by simp) (AllReadyH.cons (gt rfl) (fun K hK => ?_) (AllReadyH.cons (gt rfl) (fun K hK => ?_) AllReadyH.nil))
      · skip
        go_simp
        refine (implOf 1 _ ((⟨by omega, by omega⟩ : (-9223372036854775808 : Int) ≤ 1 ∧ (1 : Int) ≤ 9223372036854775807)).1 ((⟨by omega, by omega⟩ : (-9223372036854775808 : Int) ≤ 1 ∧ (1 : Int) ≤ 9223372036854775807)).2).mono ?_
        rintro e2 ww2 ⟨u2, rfl, hI, hb⟩
        obtain ⟨a2, c2, xs2, rfl, o2, n2, t2⟩ := hI
        have l2 := small_len o2.lim n2 t2 ((⟨by omega, by omega⟩ : (-9223372036854775808 : Int) ≤ 1 ∧ (1 : Int) ≤ 9223372036854775807)).1 ((⟨by omega, by omega⟩ : (-9223372036854775808 : Int) ≤ 1 ∧ (1 : Int) ≤ 9223372036854775807)).2
        replace o1 := o1.below hb
        replace N := N.trans (hb.mono N.size)
        clear hb
        refine hK.out _ _ N (fun hHeld => ?_)
        clear hK K
        try simp only [Act.put, sA, sB, sC]
        refine wpAnyH_ready (rs := [6, 14]) (by kernel_rfl) (by simp) (AllReadyH.cons (gt rfl) (fun K hK => ?_) (AllReadyH.cons (gt rfl) (fun K hK => ?_) AllReadyH.nil))
        · skip
          go_simp
          refine (implOf F _ (HB.out.1).1 (HB.out.1).2).mono ?_
          rintro e3 ww3 ⟨u3, rfl, hI, hb⟩
          obtain ⟨a3, c3, xs3, rfl, o3, n3, t3⟩ := hI
          have l3 := small_len o3.lim n3 t3 (HB.out.1).1 (HB.out.1).2
          replace o1 := o1.below hb
          replace o2 := o2.below hb
          replace N := N.trans (hb.mono N.size)
          clear hb
          refine hK.out _ _ N (fun hHeld => ?_)
          clear hK K
          try simp only [Act.put, sA, sB, sC]
          refine wpAnyH_ready (rs := [7, 14]) (by kernel_rfl) (by simp) (AllReadyH.cons (gt rfl) (fun K hK => ?_) (AllReadyH.cons (gt rfl) (fun K hK => ?_) AllReadyH.nil))
          · skip
            go_simp
            refine (negatedC (decide (F < 0)) a3 c3 xs3.length _ (by omega)).mono ?_
            rintro e4 ww4 ⟨rfl, hb⟩
            replace o1 := o1.below hb
            replace o2 := o2.below hb
            replace o3 := o3.below hb
            replace N := N.trans (hb.mono N.size)
            clear hb
            refine hK.out _ _ N (fun hHeld => ?_)
            clear hK K
            try simp only [Act.put, sA, sB, sC]
            refine wpAnyH_ready (rs := [10, 14]) (by kernel_rfl) (by simp) (AllReadyH.cons (gt rfl) (fun K hK => ?_) (AllReadyH.cons (gt rfl) (fun K hK => ?_) AllReadyH.nil))
            · skip
              go_simp
              refine (implOf X _ (HB.out.2.2).1 (HB.out.2.2).2).mono ?_
              rintro e5 ww5 ⟨u5, rfl, hI, hb⟩
              obtain ⟨a5, c5, xs5, rfl, o5, n5, t5⟩ := hI
              have l5 := small_len o5.lim n5 t5 (HB.out.2.2).1 (HB.out.2.2).2
              replace o1 := o1.below hb
              replace o2 := o2.below hb
              replace o3 := o3.below hb
              replace N := N.trans (hb.mono N.size)
              clear hb
              refine hK.out _ _ N (fun hHeld => ?_)
              clear hK K
              try simp only [Act.put, sA, sB, sC]
              refine wpAnyH_ready (rs := [11, 14]) (by kernel_rfl) (by simp) (AllReadyH.cons (gt rfl) (fun K hK => ?_) (AllReadyH.cons (gt rfl) (fun K hK => ?_) AllReadyH.nil))
              · skip
                go_simp
                refine (negatedC (decide (X < 0)) a5 c5 xs5.length _ (by omega)).mono ?_
                rintro e6 ww6 ⟨rfl, hb⟩
                replace o1 := o1.below hb
                replace o2 := o2.below hb
                replace o3 := o3.below hb
                replace o5 := o5.below hb
                replace N := N.trans (hb.mono N.size)
                clear hb
                refine hK.out _ _ N (fun hHeld => ?_)
                clear hK K
                try simp only [Act.put, sA, sB, sC]
                refine wpAnyH_ready (rs := [12, 14]) (by kernel_rfl) (by simp) (AllReadyH.cons (gt rfl) (fun K hK => ?_) (AllReadyH.cons (gt rfl) (fun K hK => ?_) AllReadyH.nil))
                · skip
                  go_simp
                  have kS := Box8.new ww6 N.size (.bool (decide (L < 0))) (.slice a1 xs1.length c1) (.bool false) (.slice a2 xs2.length c2) (.bool (!decide (F < 0) && decide (0 < xs3.length))) (.slice a3 xs3.length c3) (.bool (!decide (X < 0) && decide (0 < xs5.length))) (.slice a5 xs5.length c5) 94
                  have hb := below1 ww6 (.cells #[.bool (decide (L < 0)), .slice a1 xs1.length c1, .bool false, .slice a2 xs2.length c2, .bool (!decide (F < 0) && decide (0 < xs3.length)), .slice a3 xs3.length c3, .bool (!decide (X < 0) && decide (0 < xs5.length)), .slice a5 xs5.length c5] 94)
                  replace o1 := o1.below hb
                  replace o2 := o2.below hb
                  replace o3 := o3.below hb
                  replace o5 := o5.below hb
                  replace N := N.trans (hb.mono N.size)
                  clear hb
                  generalize ww6.alloc (.cells #[.bool (decide (L < 0)), .slice a1 xs1.length c1, .bool false, .slice a2 xs2.length c2, .bool (!decide (F < 0) && decide (0 < xs3.length)), .slice a3 xs3.length c3, .bool (!decide (X < 0) && decide (0 < xs5.length)), .slice a5 xs5.length c5] 94) = ww7 at *
                  refine hK.out _ _ N (fun hHeld => ?_)
                  clear hK K
                  try simp only [Act.put, sA, sB, sC]
                  refine wpAnyH_ready (rs := [13, 14]) (by kernel_rfl) (by simp) (AllReadyH.cons (gt rfl) (fun K hK => ?_) (AllReadyH.cons (gt rfl) (fun K hK => ?_) AllReadyH.nil))
                  · skip
                    go_simp
                    refine (sumC _ 4 2 _ _ _ _ _ (Parts.four kS o1.toSees o2.toSees o3.toSees o5.toSees n1 n2 n3 n5 l1 l2 l3 l5) (by decide)).mono ?_
                    rintro e7 ww8 ⟨u7, rfl, hI, hb⟩
                    rw [psum_four, t1, t2, neg_back t3, neg_back t5, sg_back, show sg false (mg 1) = 1 from rfl, hzz.out] at hI
                    obtain ⟨a9, c9, zs, rfl, oz, nz, vz⟩ := hI
                    have HS : Hid (Nrm zs ∧ val zs = z) := ⟨nz, by rw [vz]; unfold mg; rw [if_neg (by have := HZ.out; omega)]⟩
                    have zd : decide (z < 0) = false := decide_eq_false (by have := HZ.out; omega)
                    rw [zd]
                    have bs := N.size
                    clear nz vz
                    have r_kS_oz := row_ne_low oz kS.lt
                    replace kS := kS.below hb
                    replace o1 := o1.below hb
                    replace o2 := o2.below hb
                    replace o3 := o3.below hb
                    replace o5 := o5.below hb
                    replace N := N.trans (hb.mono N.size)
                    clear hb
                    clear o1 o2 o3 o5
                    refine hK.out _ _ N (fun hHeld => ?_)
                    clear hK K
                    try simp only [Act.put, sA, sB, sC]
                    refine wpAnyH_ready (rs := [14]) (by kernel_rfl) (by simp) (AllReadyH.cons (gt rfl) (fun K hK => ?_) AllReadyH.nil)
                    go_simp
                    have kP := Box2.new ww8 N.size (.bool false) (.slice none 0 0) 94
                    have hb := below1 ww8 (.cells #[.bool false, .slice none 0 0] 94)
                    have r_kP_oz := row_ne_high oz.toCame (Nat.le_refl _)
                    have ne_kP_kS := Nat.ne_of_gt kS.lt
                    have ne_kS_kP := ne_kP_kS.symm
                    replace kS := kS.below hb
                    replace oz := oz.below hb
                    replace N := N.trans (hb.mono N.size)
                    clear hb
                    generalize ww8.alloc (.cells #[.bool false, .slice none 0 0] 94) = ww9 at *
                    refine hK.out _ _ N (fun hHeld => ?_)
                    clear hK K
                    try simp only [Act.put, sA, sB, sC]
                    refine wpAnyH_ready (rs := [15]) (by kernel_rfl) (by simp) (AllReadyH.cons (gt rfl) (fun K hK => ?_) AllReadyH.nil)
                    have z0 := kP.c0
                    have z1 := kP.c1
                    have zf := kP.fr
                    go_simp
                    clear z0 z1 zf
                    replace N := Box2.chain N kP (.bool false) (.slice a9 zs.length c9)
                    replace kS := kS.old ne_kS_kP (.bool false) (.slice a9 zs.length c9)
                    replace oz := oz.put2 r_kP_oz (.bool false) (.slice a9 zs.length c9)
                    replace kP := kP.put (.bool false) (.slice a9 zs.length c9)
                    refine hK.out _ _ N (fun hHeld => ?_)
                    clear hK K
                    try simp only [Act.put, sA, sB, sC]
                    refine wpAnyH_done (by kernel_rfl) ?_ _
                    go_wp2
                    go_meet
                    case rel => exact ⟨_, a9, c9, zs, rfl, kP, oz.base_le bs, HS, N⟩
                  · skip
                    go_simp
                    have kP := Box2.new ww7 N.size (.bool false) (.slice none 0 0) 94
                    have hb := below1 ww7 (.cells #[.bool false, .slice none 0 0] 94)
                    have ne_kP_kS := Nat.ne_of_gt kS.lt
                    have ne_kS_kP := ne_kP_kS.symm
                    replace kS := kS.below hb
                    replace o1 := o1.below hb
                    replace o2 := o2.below hb
                    replace o3 := o3.below hb
                    replace o5 := o5.below hb
                    replace N := N.trans (hb.mono N.size)
                    clear hb
                    generalize ww7.alloc (.cells #[.bool false, .slice none 0 0] 94) = ww11 at *
                    refine hK.out _ _ N (fun hHeld => ?_)
                    clear hK K
                    try simp only [Act.put, sA, sB, sC]
                    refine wpAnyH_ready (rs := [13]) (by kernel_rfl) (by simp) (AllReadyH.cons (gt rfl) (fun K hK => ?_) AllReadyH.nil)
                    go_simp
                    refine (sumC _ 4 2 _ _ _ _ _ (Parts.four kS o1.toSees o2.toSees o3.toSees o5.toSees n1 n2 n3 n5 l1 l2 l3 l5) (by decide)).mono ?_
                    rintro e7 ww12 ⟨u7, rfl, hI, hb⟩
                    rw [psum_four, t1, t2, neg_back t3, neg_back t5, sg_back, show sg false (mg 1) = 1 from rfl, hzz.out] at hI
                    obtain ⟨a9, c9, zs, rfl, oz, nz, vz⟩ := hI
                    have HS : Hid (Nrm zs ∧ val zs = z) := ⟨nz, by rw [vz]; unfold mg; rw [if_neg (by have := HZ.out; omega)]⟩
                    have zd : decide (z < 0) = false := decide_eq_false (by have := HZ.out; omega)
                    rw [zd]
                    have bs := N.size
                    clear nz vz
                    have r_kS_oz := row_ne_low oz kS.lt
                    have r_kP_oz := row_ne_low oz kP.lt
                    replace kS := kS.below hb
                    replace kP := kP.below hb
                    replace o1 := o1.below hb
                    replace o2 := o2.below hb
                    replace o3 := o3.below hb
                    replace o5 := o5.below hb
                    replace N := N.trans (hb.mono N.size)
                    clear hb
                    clear o1 o2 o3 o5
                    refine hK.out _ _ N (fun hHeld => ?_)
                    clear hK K
                    try simp only [Act.put, sA, sB, sC]
                    refine wpAnyH_ready (rs := [15]) (by kernel_rfl) (by simp) (AllReadyH.cons (gt rfl) (fun K hK => ?_) AllReadyH.nil)
                    have z0 := kP.c0
                    have z1 := kP.c1
                    have zf := kP.fr
                    go_simp
                    clear z0 z1 zf
                    replace N := Box2.chain N kP (.bool false) (.slice a9 zs.length c9)
                    replace kS := kS.old ne_kS_kP (.bool false) (.slice a9 zs.length c9)
                    replace oz := oz.put2 r_kP_oz (.bool false) (.slice a9 zs.length c9)
                    replace kP := kP.put (.bool false) (.slice a9 zs.length c9)
                    refine hK.out _ _ N (fun hHeld => ?_)
                    clear hK K
                    try simp only [Act.put, sA, sB, sC]
                    refine wpAnyH_done (by kernel_rfl) ?_ _
                    go_wp2
                    go_meet
                    case rel => exact ⟨_, a9, c9, zs, rfl, kP, oz.base_le bs, HS, N⟩
                · skip
                  go_simp
                  have kP := Box2.new ww6 N.size (.bool false) (.slice none 0 0) 94
                  have hb := below1 ww6 (.cells #[.bool false, .slice none 0 0] 94)
                  replace o1 := o1.below hb
                  replace o2 := o2.below hb
                  replace o3 := o3.below hb
                  replace o5 := o5.below hb
                  replace N := N.trans (hb.mono N.size)
                  clear hb
                  generalize ww6.alloc (.cells #[.bool false, .slice none 0 0] 94) = ww14 at *
                  refine hK.out _ _ N (fun hHeld => ?_)
                  clear hK K
                  try simp only [Act.put, sA, sB, sC]
                  refine wpAnyH_ready (rs := [12]) (by kernel_rfl) (by simp) (AllReadyH.cons (gt rfl) (fun K hK => ?_) AllReadyH.nil)
                  go_simp
                  have kS := Box8.new ww14 N.size (.bool (decide (L < 0))) (.slice a1 xs1.length c1) (.bool false) (.slice a2 xs2.length c2) (.bool (!decide (F < 0) && decide (0 < xs3.length))) (.slice a3 xs3.length c3) (.bool (!decide (X < 0) && decide (0 < xs5.length))) (.slice a5 xs5.length c5) 94
                  have hb := below1 ww14 (.cells #[.bool (decide (L < 0)), .slice a1 xs1.length c1, .bool false, .slice a2 xs2.length c2, .bool (!decide (F < 0) && decide (0 < xs3.length)), .slice a3 xs3.length c3, .bool (!decide (X < 0) && decide (0 < xs5.length)), .slice a5 xs5.length c5] 94)
                  have ne_kS_kP := Nat.ne_of_gt kP.lt
                  have ne_kP_kS := ne_kS_kP.symm
                  replace kP := kP.below hb
                  replace o1 := o1.below hb
                  replace o2 := o2.below hb
                  replace o3 := o3.below hb
                  replace o5 := o5.below hb
                  replace N := N.trans (hb.mono N.size)
                  clear hb
                  generalize ww14.alloc (.cells #[.bool (decide (L < 0)), .slice a1 xs1.length c1, .bool false, .slice a2 xs2.length c2, .bool (!decide (F < 0) && decide (0 < xs3.length)), .slice a3 xs3.length c3, .bool (!decide (X < 0) && decide (0 < xs5.length)), .slice a5 xs5.length c5] 94) = ww15 at *
                  refine hK.out _ _ N (fun hHeld => ?_)
                  clear hK K
                  try simp only [Act.put, sA, sB, sC]
                  refine wpAnyH_ready (rs := [13]) (by kernel_rfl) (by simp) (AllReadyH.cons (gt rfl) (fun K hK => ?_) AllReadyH.nil)
                  go_simp
                  refine (sumC _ 4 2 _ _ _ _ _ (Parts.four kS o1.toSees o2.toSees o3.toSees o5.toSees n1 n2 n3 n5 l1 l2 l3 l5) (by decide)).mono ?_
                  rintro e7 ww16 ⟨u7, rfl, hI, hb⟩
                  rw [psum_four, t1, t2, neg_back t3, neg_back t5, sg_back, show sg false (mg 1) = 1 from rfl, hzz.out] at hI
                  obtain ⟨a9, c9, zs, rfl, oz, nz, vz⟩ := hI
                  have HS : Hid (Nrm zs ∧ val zs = z) := ⟨nz, by rw [vz]; unfold mg; rw [if_neg (by have := HZ.out; omega)]⟩
                  have zd : decide (z < 0) = false := decide_eq_false (by have := HZ.out; omega)
                  rw [zd]
                  have bs := N.size
                  clear nz vz
                  have r_kP_oz := row_ne_low oz kP.lt
                  have r_kS_oz := row_ne_low oz kS.lt
                  replace kP := kP.below hb
                  replace kS := kS.below hb
                  replace o1 := o1.below hb
                  replace o2 := o2.below hb
                  replace o3 := o3.below hb
                  replace o5 := o5.below hb
                  replace N := N.trans (hb.mono N.size)
                  clear hb
                  clear o1 o2 o3 o5
                  refine hK.out _ _ N (fun hHeld => ?_)
                  clear hK K
                  try simp only [Act.put, sA, sB, sC]
                  refine wpAnyH_ready (rs := [15]) (by kernel_rfl) (by simp) (AllReadyH.cons (gt rfl) (fun K hK => ?_) AllReadyH.nil)
                  have z0 := kP.c0
                  have z1 := kP.c1
                  have zf := kP.fr
                  go_simp
                  clear z0 z1 zf
                  replace N := Box2.chain N kP (.bool false) (.slice a9 zs.length c9)
                  replace kS := kS.old ne_kS_kP (.bool false) (.slice a9 zs.length c9)
                  replace oz := oz.put2 r_kP_oz (.bool false) (.slice a9 zs.length c9)
                  replace kP := kP.put (.bool false) (.slice a9 zs.length c9)
                  refine hK.out _ _ N (fun hHeld => ?_)
                  clear hK K
                  try simp only [Act.put, sA, sB, sC]
                  refine wpAnyH_done (by kernel_rfl) ?_ _
                  go_wp2
                  go_meet
                  case rel => exact ⟨_, a9, c9, zs, rfl, kP, oz.base_le bs, HS, N⟩
              · skip
                go_simp
                have kP := Box2.new ww5 N.size (.bool false) (.slice none 0 0) 94
                have hb := below1 ww5 (.cells #[.bool false, .slice none 0 0] 94)
                replace o1 := o1.below hb
                replace o2 := o2.below hb
                replace o3 := o3.below hb
                replace o5 := o5.below hb
                replace N := N.trans (hb.mono N.size)
                clear hb
                generalize ww5.alloc (.cells #[.bool false, .slice none 0 0] 94) = ww18 at *
                refine hK.out _ _ N (fun hHeld => ?_)
                clear hK K
                try simp only [Act.put, sA, sB, sC]
                refine wpAnyH_ready (rs := [11]) (by kernel_rfl) (by simp) (AllReadyH.cons (gt rfl) (fun K hK => ?_) AllReadyH.nil)
                go_simp
                refine (negatedC (decide (X < 0)) a5 c5 xs5.length _ (by omega)).mono ?_
                rintro e6 ww19 ⟨rfl, hb⟩
                replace kP := kP.below hb
                replace o1 := o1.below hb
                replace o2 := o2.below hb
                replace o3 := o3.below hb
                replace o5 := o5.below hb
                replace N := N.trans (hb.mono N.size)
                clear hb
                refine hK.out _ _ N (fun hHeld => ?_)
                clear hK K
                try simp only [Act.put, sA, sB, sC]
                refine wpAnyH_ready (rs := [12]) (by kernel_rfl) (by simp) (AllReadyH.cons (gt rfl) (fun K hK => ?_) AllReadyH.nil)
                go_simp
                have kS := Box8.new ww19 N.size (.bool (decide (L < 0))) (.slice a1 xs1.length c1) (.bool false) (.slice a2 xs2.length c2) (.bool (!decide (F < 0) && decide (0 < xs3.length))) (.slice a3 xs3.length c3) (.bool (!decide (X < 0) && decide (0 < xs5.length))) (.slice a5 xs5.length c5) 94
                have hb := below1 ww19 (.cells #[.bool (decide (L < 0)), .slice a1 xs1.length c1, .bool false, .slice a2 xs2.length c2, .bool (!decide (F < 0) && decide (0 < xs3.length)), .slice a3 xs3.length c3, .bool (!decide (X < 0) && decide (0 < xs5.length)), .slice a5 xs5.length c5] 94)
                have ne_kS_kP := Nat.ne_of_gt kP.lt
                have ne_kP_kS := ne_kS_kP.symm
                replace kP := kP.below hb
                replace o1 := o1.below hb
                replace o2 := o2.below hb
                replace o3 := o3.below hb
                replace o5 := o5.below hb
                replace N := N.trans (hb.mono N.size)
                clear hb
                generalize ww19.alloc (.cells #[.bool (decide (L < 0)), .slice a1 xs1.length c1, .bool false, .slice a2 xs2.length c2, .bool (!decide (F < 0) && decide (0 < xs3.length)), .slice a3 xs3.length c3, .bool (!decide (X < 0) && decide (0 < xs5.length)), .slice a5 xs5.length c5] 94) = ww20 at *
                refine hK.out _ _ N (fun hHeld => ?_)
                clear hK K
                try simp only [Act.put, sA, sB, sC]
                refine wpAnyH_ready (rs := [13]) (by kernel_rfl) (by simp) (AllReadyH.cons (gt rfl) (fun K hK => ?_) AllReadyH.nil)
                go_simp
                refine (sumC _ 4 2 _ _ _ _ _ (Parts.four kS o1.toSees o2.toSees o3.toSees o5.toSees n1 n2 n3 n5 l1 l2 l3 l5) (by decide)).mono ?_
                rintro e7 ww21 ⟨u7, rfl, hI, hb⟩
                rw [psum_four, t1, t2, neg_back t3, neg_back t5, sg_back, show sg false (mg 1) = 1 from rfl, hzz.out] at hI
                obtain ⟨a9, c9, zs, rfl, oz, nz, vz⟩ := hI
                have HS : Hid (Nrm zs ∧ val zs = z) := ⟨nz, by rw [vz]; unfold mg; rw [if_neg (by have := HZ.out; omega)]⟩
                have zd : decide (z < 0) = false := decide_eq_false (by have := HZ.out; omega)
                rw [zd]
                have bs := N.size
                clear nz vz
                have r_kP_oz := row_ne_low oz kP.lt
                have r_kS_oz := row_ne_low oz kS.lt
                replace kP := kP.below hb
                replace kS := kS.below hb
                replace o1 := o1.below hb
                replace o2 := o2.below hb
                replace o3 := o3.below hb
                replace o5 := o5.below hb
                replace N := N.trans (hb.mono N.size)
                clear hb
                clear o1 o2 o3 o5
                refine hK.out _ _ N (fun hHeld => ?_)
                clear hK K
                try simp only [Act.put, sA, sB, sC]
                refine wpAnyH_ready (rs := [15]) (by kernel_rfl) (by simp) (AllReadyH.cons (gt rfl) (fun K hK => ?_) AllReadyH.nil)
                have z0 := kP.c0
                have z1 := kP.c1
                have zf := kP.fr
                go_simp
                clear z0 z1 zf
                replace N := Box2.chain N kP (.bool false) (.slice a9 zs.length c9)
                replace kS := kS.old ne_kS_kP (.bool false) (.slice a9 zs.length c9)
                replace oz := oz.put2 r_kP_oz (.bool false) (.slice a9 zs.length c9)
                replace kP := kP.put (.bool false) (.slice a9 zs.length c9)
                refine hK.out _ _ N (fun hHeld => ?_)
                clear hK K
                try simp only [Act.put, sA, sB, sC]
                refine wpAnyH_done (by kernel_rfl) ?_ _
                go_wp2
                go_meet
                case rel => exact ⟨_, a9, c9, zs, rfl, kP, oz.base_le bs, HS, N⟩
            · skip
              go_simp
              have kP := Box2.new ww4 N.size (.bool false) (.slice none 0 0) 94
              have hb := below1 ww4 (.cells #[.bool false, .slice none 0 0] 94)
              replace o1 := o1.below hb
              replace o2 := o2.below hb
              replace o3 := o3.below hb
              replace N := N.trans (hb.mono N.size)
              clear hb
              generalize ww4.alloc (.cells #[.bool false, .slice none 0 0] 94) = ww23 at *
              refine hK.out _ _ N (fun hHeld => ?_)
              clear hK K
              try simp only [Act.put, sA, sB, sC]
              refine wpAnyH_ready (rs := [10]) (by kernel_rfl) (by simp) (AllReadyH.cons (gt rfl) (fun K hK => ?_) AllReadyH.nil)
              go_simp
              refine (implOf X _ (HB.out.2.2).1 (HB.out.2.2).2).mono ?_
              rintro e5 ww24 ⟨u5, rfl, hI, hb⟩
              obtain ⟨a5, c5, xs5, rfl, o5, n5, t5⟩ := hI
              have l5 := small_len o5.lim n5 t5 (HB.out.2.2).1 (HB.out.2.2).2
              replace kP := kP.below hb
              replace o1 := o1.below hb
              replace o2 := o2.below hb
              replace o3 := o3.below hb
              replace N := N.trans (hb.mono N.size)
              clear hb
              refine hK.out _ _ N (fun hHeld => ?_)
              clear hK K
              try simp only [Act.put, sA, sB, sC]
              refine wpAnyH_ready (rs := [11]) (by kernel_rfl) (by simp) (AllReadyH.cons (gt rfl) (fun K hK => ?_) AllReadyH.nil)
              go_simp
              refine (negatedC (decide (X < 0)) a5 c5 xs5.length _ (by omega)).mono ?_
              rintro e6 ww25 ⟨rfl, hb⟩
              replace kP := kP.below hb
              replace o1 := o1.below hb
              replace o2 := o2.below hb
              replace o3 := o3.below hb
              replace o5 := o5.below hb
              replace N := N.trans (hb.mono N.size)
              clear hb
              refine hK.out _ _ N (fun hHeld => ?_)
              clear hK K
              try simp only [Act.put, sA, sB, sC]
              refine wpAnyH_ready (rs := [12]) (by kernel_rfl) (by simp) (AllReadyH.cons (gt rfl) (fun K hK => ?_) AllReadyH.nil)
              go_simp
              have kS := Box8.new ww25 N.size (.bool (decide (L < 0))) (.slice a1 xs1.length c1) (.bool false) (.slice a2 xs2.length c2) (.bool (!decide (F < 0) && decide (0 < xs3.length))) (.slice a3 xs3.length c3) (.bool (!decide (X < 0) && decide (0 < xs5.length))) (.slice a5 xs5.length c5) 94
              have hb := below1 ww25 (.cells #[.bool (decide (L < 0)), .slice a1 xs1.length c1, .bool false, .slice a2 xs2.length c2, .bool (!decide (F < 0) && decide (0 < xs3.length)), .slice a3 xs3.length c3, .bool (!decide (X < 0) && decide (0 < xs5.length)), .slice a5 xs5.length c5] 94)
              have ne_kS_kP := Nat.ne_of_gt kP.lt
              have ne_kP_kS := ne_kS_kP.symm
              replace kP := kP.below hb
              replace o1 := o1.below hb
              replace o2 := o2.below hb
              replace o3 := o3.below hb
              replace o5 := o5.below hb
              replace N := N.trans (hb.mono N.size)
              clear hb
              generalize ww25.alloc (.cells #[.bool (decide (L < 0)), .slice a1 xs1.length c1, .bool false, .slice a2 xs2.length c2, .bool (!decide (F < 0) && decide (0 < xs3.length)), .slice a3 xs3.length c3, .bool (!decide (X < 0) && decide (0 < xs5.length)), .slice a5 xs5.length c5] 94) = ww26 at *
              refine hK.out _ _ N (fun hHeld => ?_)
              clear hK K
              try simp only [Act.put, sA, sB, sC]
              refine wpAnyH_ready (rs := [13]) (by kernel_rfl) (by simp) (AllReadyH.cons (gt rfl) (fun K hK => ?_) AllReadyH.nil)
              go_simp
              refine (sumC _ 4 2 _ _ _ _ _ (Parts.four kS o1.toSees o2.toSees o3.toSees o5.toSees n1 n2 n3 n5 l1 l2 l3 l5) (by decide)).mono ?_
              rintro e7 ww27 ⟨u7, rfl, hI, hb⟩
              rw [psum_four, t1, t2, neg_back t3, neg_back t5, sg_back, show sg false (mg 1) = 1 from rfl, hzz.out] at hI
              obtain ⟨a9, c9, zs, rfl, oz, nz, vz⟩ := hI
              have HS : Hid (Nrm zs ∧ val zs = z) := ⟨nz, by rw [vz]; unfold mg; rw [if_neg (by have := HZ.out; omega)]⟩
              have zd : decide (z < 0) = false := decide_eq_false (by have := HZ.out; omega)
              rw [zd]
              have bs := N.size
              clear nz vz
              have r_kP_oz := row_ne_low oz kP.lt
              have r_kS_oz := row_ne_low oz kS.lt
              replace kP := kP.below hb
              replace kS := kS.below hb
              replace o1 := o1.below hb
              replace o2 := o2.below hb
              replace o3 := o3.below hb
              replace o5 := o5.below hb
              replace N := N.trans (hb.mono N.size)
              clear hb
              clear o1 o2 o3 o5
              refine hK.out _ _ N (fun hHeld => ?_)
              clear hK K
              try simp only [Act.put, sA, sB, sC]
              refine wpAnyH_ready (rs := [15]) (by kernel_rfl) (by simp) (AllReadyH.cons (gt rfl) (fun K hK => ?_) AllReadyH.nil)
              have z0 := kP.c0
              have z1 := kP.c1
              have zf := kP.fr
              go_simp
              clear z0 z1 zf
              replace N := Box2.chain N kP (.bool false) (.slice a9 zs.length c9)
              replace kS := kS.old ne_kS_kP (.bool false) (.slice a9 zs.length c9)
              replace oz := oz.put2 r_kP_oz (.bool false) (.slice a9 zs.length c9)
              replace kP := kP.put (.bool false) (.slice a9 zs.length c9)
              refine hK.out _ _ N (fun hHeld => ?_)
              clear hK K
              try simp only [Act.put, sA, sB, sC]
              refine wpAnyH_done (by kernel_rfl) ?_ _
              go_wp2
              go_meet
              case rel => exact ⟨_, a9, c9, zs, rfl, kP, oz.base_le bs, HS, N⟩
          · skip
            go_simp
            have kP := Box2.new ww3 N.size (.bool false) (.slice none 0 0) 94
            have hb := below1 ww3 (.cells #[.bool false, .slice none 0 0] 94)
            replace o1 := o1.below hb
            replace o2 := o2.below hb
            replace o3 := o3.below hb
            replace N := N.trans (hb.mono N.size)
            clear hb
            generalize ww3.alloc (.cells #[.bool false, .slice none 0 0] 94) = ww29 at *
            refine hK.out _ _ N (fun hHeld => ?_)
            clear hK K
            try simp only [Act.put, sA, sB, sC]
            refine wpAnyH_ready (rs := [7]) (by kernel_rfl) (by simp) (AllReadyH.cons (gt rfl) (fun K hK => ?_) AllReadyH.nil)
            go_simp
            refine (negatedC (decide (F < 0)) a3 c3 xs3.length _ (by omega)).mono ?_
            rintro e4 ww30 ⟨rfl, hb⟩
            replace kP := kP.below hb
            replace o1 := o1.below hb
            replace o2 := o2.below hb
            replace o3 := o3.below hb
            replace N := N.trans (hb.mono N.size)
            clear hb
            refine hK.out _ _ N (fun hHeld => ?_)
            clear hK K
            try simp only [Act.put, sA, sB, sC]
            refine wpAnyH_ready (rs := [10]) (by kernel_rfl) (by simp) (AllReadyH.cons (gt rfl) (fun K hK => ?_) AllReadyH.nil)
            go_simp
            refine (implOf X _ (HB.out.2.2).1 (HB.out.2.2).2).mono ?_
            rintro e5 ww31 ⟨u5, rfl, hI, hb⟩
            obtain ⟨a5, c5, xs5, rfl, o5, n5, t5⟩ := hI
            have l5 := small_len o5.lim n5 t5 (HB.out.2.2).1 (HB.out.2.2).2
            replace kP := kP.below hb
            replace o1 := o1.below hb
            replace o2 := o2.below hb
            replace o3 := o3.below hb
            replace N := N.trans (hb.mono N.size)
            clear hb
            refine hK.out _ _ N (fun hHeld => ?_)
            clear hK K
            try simp only [Act.put, sA, sB, sC]
            refine wpAnyH_ready (rs := [11]) (by kernel_rfl) (by simp) (AllReadyH.cons (gt rfl) (fun K hK => ?_) AllReadyH.nil)
            go_simp
            refine (negatedC (decide (X < 0)) a5 c5 xs5.length _ (by omega)).mono ?_
            rintro e6 ww32 ⟨rfl, hb⟩
            replace kP := kP.below hb
            replace o1 := o1.below hb
            replace o2 := o2.below hb
            replace o3 := o3.below hb
            replace o5 := o5.below hb
            replace N := N.trans (hb.mono N.size)
            clear hb
            refine hK.out _ _ N (fun hHeld => ?_)
            clear hK K
            try simp only [Act.put, sA, sB, sC]
            refine wpAnyH_ready (rs := [12]) (by kernel_rfl) (by simp) (AllReadyH.cons (gt rfl) (fun K hK => ?_) AllReadyH.nil)
            go_simp
            have kS := Box8.new ww32 N.size (.bool (decide (L < 0))) (.slice a1 xs1.length c1) (.bool false) (.slice a2 xs2.length c2) (.bool (!decide (F < 0) && decide (0 < xs3.length))) (.slice a3 xs3.length c3) (.bool (!decide (X < 0) && decide (0 < xs5.length))) (.slice a5 xs5.length c5) 94
            have hb := below1 ww32 (.cells #[.bool (decide (L < 0)), .slice a1 xs1.length c1, .bool false, .slice a2 xs2.length c2, .bool (!decide (F < 0) && decide (0 < xs3.length)), .slice a3 xs3.length c3, .bool (!decide (X < 0) && decide (0 < xs5.length)), .slice a5 xs5.length c5] 94)
            have ne_kS_kP := Nat.ne_of_gt kP.lt
            have ne_kP_kS := ne_kS_kP.symm
            replace kP := kP.below hb
            replace o1 := o1.below hb
            replace o2 := o2.below hb
            replace o3 := o3.below hb
            replace o5 := o5.below hb
            replace N := N.trans (hb.mono N.size)
            clear hb
            generalize ww32.alloc (.cells #[.bool (decide (L < 0)), .slice a1 xs1.length c1, .bool false, .slice a2 xs2.length c2, .bool (!decide (F < 0) && decide (0 < xs3.length)), .slice a3 xs3.length c3, .bool (!decide (X < 0) && decide (0 < xs5.length)), .slice a5 xs5.length c5] 94) = ww33 at *
            refine hK.out _ _ N (fun hHeld => ?_)
            clear hK K
            try simp only [Act.put, sA, sB, sC]
            refine wpAnyH_ready (rs := [13]) (by kernel_rfl) (by simp) (AllReadyH.cons (gt rfl) (fun K hK => ?_) AllReadyH.nil)
            go_simp
            refine (sumC _ 4 2 _ _ _ _ _ (Parts.four kS o1.toSees o2.toSees o3.toSees o5.toSees n1 n2 n3 n5 l1 l2 l3 l5) (by decide)).mono ?_
            rintro e7 ww34 ⟨u7, rfl, hI, hb⟩
            rw [psum_four, t1, t2, neg_back t3, neg_back t5, sg_back, show sg false (mg 1) = 1 from rfl, hzz.out] at hI
            obtain ⟨a9, c9, zs, rfl, oz, nz, vz⟩ := hI
            have HS : Hid (Nrm zs ∧ val zs = z) := ⟨nz, by rw [vz]; unfold mg; rw [if_neg (by have := HZ.out; omega)]⟩
            have zd : decide (z < 0) = false := decide_eq_false (by have := HZ.out; omega)
            rw [zd]
            have bs := N.size
            clear nz vz
            have r_kP_oz := row_ne_low oz kP.lt
            have r_kS_oz := row_ne_low oz kS.lt
            replace kP := kP.below hb
            replace kS := kS.below hb
            replace o1 := o1.below hb
            replace o2 := o2.below hb
            replace o3 := o3.below hb
            replace o5 := o5.below hb
            replace N := N.trans (hb.mono N.size)
            clear hb
            clear o1 o2 o3 o5
            refine hK.out _ _ N (fun hHeld => ?_)
            clear hK K
            try simp only [Act.put, sA, sB, sC]
            refine wpAnyH_ready (rs := [15]) (by kernel_rfl) (by simp) (AllReadyH.cons (gt rfl) (fun K hK => ?_) AllReadyH.nil)
            have z0 := kP.c0
            have z1 := kP.c1
            have zf := kP.fr
            go_simp
            clear z0 z1 zf
            replace N := Box2.chain N kP (.bool false) (.slice a9 zs.length c9)
            replace kS := kS.old ne_kS_kP (.bool false) (.slice a9 zs.length c9)
            replace oz := oz.put2 r_kP_oz (.bool false) (.slice a9 zs.length c9)
            replace kP := kP.put (.bool false) (.slice a9 zs.length c9)
            refine hK.out _ _ N (fun hHeld => ?_)
            clear hK K
            try simp only [Act.put, sA, sB, sC]
            refine wpAnyH_done (by kernel_rfl) ?_ _
            go_wp2
            go_meet
            case rel => exact ⟨_, a9, c9, zs, rfl, kP, oz.base_le bs, HS, N⟩
        · skip
          go_simp
          have kP := Box2.new ww2 N.size (.bool false) (.slice none 0 0) 94
          have hb := below1 ww2 (.cells #[.bool false, .slice none 0 0] 94)
          replace o1 := o1.below hb
          replace o2 := o2.below hb
          replace N := N.trans (hb.mono N.size)
          clear hb
          generalize ww2.alloc (.cells #[.bool false, .slice none 0 0] 94) = ww36 at *
          refine hK.out _ _ N (fun hHeld => ?_)
          clear hK K
          try simp only [Act.put, sA, sB, sC]
          refine wpAnyH_ready (rs := [6]) (by kernel_rfl) (by simp) (AllReadyH.cons (gt rfl) (fun K hK => ?_) AllReadyH.nil)
          go_simp
          refine (implOf F _ (HB.out.1).1 (HB.out.1).2).mono ?_
          rintro e3 ww37 ⟨u3, rfl, hI, hb⟩
          obtain ⟨a3, c3, xs3, rfl, o3, n3, t3⟩ := hI
          have l3 := small_len o3.lim n3 t3 (HB.out.1).1 (HB.out.1).2
          replace kP := kP.below hb
          replace o1 := o1.below hb
          replace o2 := o2.below hb
          replace N := N.trans (hb.mono N.size)
          clear hb
          refine hK.out _ _ N (fun hHeld => ?_)
          clear hK K
          try simp only [Act.put, sA, sB, sC]
          refine wpAnyH_ready (rs := [7]) (by kernel_rfl) (by simp) (AllReadyH.cons (gt rfl) (fun K hK => ?_) AllReadyH.nil)
          go_simp
          refine (negatedC (decide (F < 0)) a3 c3 xs3.length _ (by omega)).mono ?_
          rintro e4 ww38 ⟨rfl, hb⟩
          replace kP := kP.below hb
          replace o1 := o1.below hb
          replace o2 := o2.below hb
          replace o3 := o3.below hb
          replace N := N.trans (hb.mono N.size)
          clear hb
          refine hK.out _ _ N (fun hHeld => ?_)
          clear hK K
          try simp only [Act.put, sA, sB, sC]
          refine wpAnyH_ready (rs := [10]) (by kernel_rfl) (by simp) (AllReadyH.cons (gt rfl) (fun K hK => ?_) AllReadyH.nil)
          go_simp
          refine (implOf X _ (HB.out.2.2).1 (HB.out.2.2).2).mono ?_
          rintro e5 ww39 ⟨u5, rfl, hI, hb⟩
          obtain ⟨a5, c5, xs5, rfl, o5, n5, t5⟩ := hI
          have l5 := small_len o5.lim n5 t5 (HB.out.2.2).1 (HB.out.2.2).2
          replace kP := kP.below hb
          replace o1 := o1.below hb
          replace o2 := o2.below hb
          replace o3 := o3.below hb
          replace N := N.trans (hb.mono N.size)
          clear hb
          refine hK.out _ _ N (fun hHeld => ?_)
          clear hK K
          try simp only [Act.put, sA, sB, sC]
          refine wpAnyH_ready (rs := [11]) (by kernel_rfl) (by simp) (AllReadyH.cons (gt rfl) (fun K hK => ?_) AllReadyH.nil)
          go_simp
          refine (negatedC (decide (X < 0)) a5 c5 xs5.length _ (by omega)).mono ?_
          rintro e6 ww40 ⟨rfl, hb⟩
          replace kP := kP.below hb
          replace o1 := o1.below hb
          replace o2 := o2.below hb
          replace o3 := o3.below hb
          replace o5 := o5.below hb
          replace N := N.trans (hb.mono N.size)
          clear hb
          refine hK.out _ _ N (fun hHeld => ?_)
          clear hK K
          try simp only [Act.put, sA, sB, sC]
          refine wpAnyH_ready (rs := [12]) (by kernel_rfl) (by simp) (AllReadyH.cons (gt rfl) (fun K hK => ?_) AllReadyH.nil)
          go_simp
          have kS := Box8.new ww40 N.size (.bool (decide (L < 0))) (.slice a1 xs1.length c1) (.bool false) (.slice a2 xs2.length c2) (.bool (!decide (F < 0) && decide (0 < xs3.length))) (.slice a3 xs3.length c3) (.bool (!decide (X < 0) && decide (0 < xs5.length))) (.slice a5 xs5.length c5) 94
          have hb := below1 ww40 (.cells #[.bool (decide (L < 0)), .slice a1 xs1.length c1, .bool false, .slice a2 xs2.length c2, .bool (!decide (F < 0) && decide (0 < xs3.length)), .slice a3 xs3.length c3, .bool (!decide (X < 0) && decide (0 < xs5.length)), .slice a5 xs5.length c5] 94)
          have ne_kS_kP := Nat.ne_of_gt kP.lt
          have ne_kP_kS := ne_kS_kP.symm
          replace kP := kP.below hb
          replace o1 := o1.below hb
          replace o2 := o2.below hb
          replace o3 := o3.below hb
          replace o5 := o5.below hb
          replace N := N.trans (hb.mono N.size)
          clear hb
          generalize ww40.alloc (.cells #[.bool (decide (L < 0)), .slice a1 xs1.length c1, .bool false, .slice a2 xs2.length c2, .bool (!decide (F < 0) && decide (0 < xs3.length)), .slice a3 xs3.length c3, .bool (!decide (X < 0) && decide (0 < xs5.length)), .slice a5 xs5.length c5] 94) = ww41 at *
          refine hK.out _ _ N (fun hHeld => ?_)
          clear hK K
          try simp only [Act.put, sA, sB, sC]
          refine wpAnyH_ready (rs := [13]) (by kernel_rfl) (by simp) (AllReadyH.cons (gt rfl) (fun K hK => ?_) AllReadyH.nil)
          go_simp
          refine (sumC _ 4 2 _ _ _ _ _ (Parts.four kS o1.toSees o2.toSees o3.toSees o5.toSees n1 n2 n3 n5 l1 l2 l3 l5) (by decide)).mono ?_
          rintro e7 ww42 ⟨u7, rfl, hI, hb⟩
          rw [psum_four, t1, t2, neg_back t3, neg_back t5, sg_back, show sg false (mg 1) = 1 from rfl, hzz.out] at hI
          obtain ⟨a9, c9, zs, rfl, oz, nz, vz⟩ := hI
          have HS : Hid (Nrm zs ∧ val zs = z) := ⟨nz, by rw [vz]; unfold mg; rw [if_neg (by have := HZ.out; omega)]⟩
          have zd : decide (z < 0) = false := decide_eq_false (by have := HZ.out; omega)
          rw [zd]
          have bs := N.size
          clear nz vz
          have r_kP_oz := row_ne_low oz kP.lt
          have r_kS_oz := row_ne_low oz kS.lt
          replace kP := kP.below hb
          replace kS := kS.below hb
          replace o1 := o1.below hb
          replace o2 := o2.below hb
          replace o3 := o3.below hb
          replace o5 := o5.below hb
          replace N := N.trans (hb.mono N.size)
          clear hb
          clear o1 o2 o3 o5
          refine hK.out _ _ N (fun hHeld => ?_)
          clear hK K
          try simp only [Act.put, sA, sB, sC]
          refine wpAnyH_ready (rs := [15]) (by kernel_rfl) (by simp) (AllReadyH.cons (gt rfl) (fun K hK => ?_) AllReadyH.nil)
          have z0 := kP.c0
          have z1 := kP.c1
          have zf := kP.fr
          go_simp
          clear z0 z1 zf
          replace N := Box2.chain N kP (.bool false) (.slice a9 zs.length c9)
          replace kS := kS.old ne_kS_kP (.bool false) (.slice a9 zs.length c9)
          replace oz := oz.put2 r_kP_oz (.bool false) (.slice a9 zs.length c9)
          replace kP := kP.put (.bool false) (.slice a9 zs.length c9)
          refine hK.out _ _ N (fun hHeld => ?_)
          clear hK K
          try simp only [Act.put, sA, sB, sC]
          refine wpAnyH_done (by kernel_rfl) ?_ _
          go_wp2
          go_meet
          case rel => exact ⟨_, a9, c9, zs, rfl, kP, oz.base_le bs, HS, N⟩
      · skip
        go_simp
        have kP := Box2.new ww1 N.size (.bool false) (.slice none 0 0) 94
        have hb := below1 ww1 (.cells #[.bool false, .slice none 0 0] 94)
        replace o1 := o1.below hb
        replace N := N.trans (hb.mono N.size)
        clear hb
        generalize ww1.alloc (.cells #[.bool false, .slice none 0 0] 94) = ww44 at *
        refine hK.out _ _ N (fun hHeld => ?_)
        clear hK K
        try simp only [Act.put, sA, sB, sC]
        refine wpAnyH_ready (rs := [3]) (by kernel_rfl) (by simp) (AllReadyH.cons (gt rfl) (fun K hK => ?_) AllReadyH.nil)
        go_simp
        refine (implOf 1 _ ((⟨by omega, by omega⟩ : (-9223372036854775808 : Int) ≤ 1 ∧ (1 : Int) ≤ 9223372036854775807)).1 ((⟨by omega, by omega⟩ : (-9223372036854775808 : Int) ≤ 1 ∧ (1 : Int) ≤ 9223372036854775807)).2).mono ?_
        rintro e2 ww45 ⟨u2, rfl, hI, hb⟩
        obtain ⟨a2, c2, xs2, rfl, o2, n2, t2⟩ := hI
        have l2 := small_len o2.lim n2 t2 ((⟨by omega, by omega⟩ : (-9223372036854775808 : Int) ≤ 1 ∧ (1 : Int) ≤ 9223372036854775807)).1 ((⟨by omega, by omega⟩ : (-9223372036854775808 : Int) ≤ 1 ∧ (1 : Int) ≤ 9223372036854775807)).2
        replace kP := kP.below hb
        replace o1 := o1.below hb
        replace N := N.trans (hb.mono N.size)
        clear hb
        refine hK.out _ _ N (fun hHeld => ?_)
        clear hK K
        try simp only [Act.put, sA, sB, sC]
        refine wpAnyH_ready (rs := [6]) (by kernel_rfl) (by simp) (AllReadyH.cons (gt rfl) (fun K hK => ?_) AllReadyH.nil)
        go_simp
        refine (implOf F _ (HB.out.1).1 (HB.out.1).2).mono ?_
        rintro e3 ww46 ⟨u3, rfl, hI, hb⟩
        obtain ⟨a3, c3, xs3, rfl, o3, n3, t3⟩ := hI
        have l3 := small_len o3.lim n3 t3 (HB.out.1).1 (HB.out.1).2
        replace kP := kP.below hb
        replace o1 := o1.below hb
        replace o2 := o2.below hb
        replace N := N.trans (hb.mono N.size)
        clear hb
        refine hK.out _ _ N (fun hHeld => ?_)
        clear hK K
        try simp only [Act.put, sA, sB, sC]
        refine wpAnyH_ready (rs := [7]) (by kernel_rfl) (by simp) (AllReadyH.cons (gt rfl) (fun K hK => ?_) AllReadyH.nil)
        go_simp
        refine (negatedC (decide (F < 0)) a3 c3 xs3.length _ (by omega)).mono ?_
        rintro e4 ww47 ⟨rfl, hb⟩
        replace kP := kP.below hb
        replace o1 := o1.below hb
        replace o2 := o2.below hb
        replace o3 := o3.below hb
        replace N := N.trans (hb.mono N.size)
        clear hb
        refine hK.out _ _ N (fun hHeld => ?_)
        clear hK K
        try simp only [Act.put, sA, sB, sC]
        refine wpAnyH_ready (rs := [10]) (by kernel_rfl) (by simp) (AllReadyH.cons (gt rfl) (fun K hK => ?_) AllReadyH.nil)
        go_simp
        refine (implOf X _ (HB.out.2.2).1 (HB.out.2.2).2).mono ?_
        rintro e5 ww48 ⟨u5, rfl, hI, hb⟩
        obtain ⟨a5, c5, xs5, rfl, o5, n5, t5⟩ := hI
        have l5 := small_len o5.lim n5 t5 (HB.out.2.2).1 (HB.out.2.2).2
        replace kP := kP.below hb
        replace o1 := o1.below hb
        replace o2 := o2.below hb
        replace o3 := o3.below hb
        replace N := N.trans (hb.mono N.size)
        clear hb
        refine hK.out _ _ N (fun hHeld => ?_)
        clear hK K
        try simp only [Act.put, sA, sB, sC]
        refine wpAnyH_ready (rs := [11]) (by kernel_rfl) (by simp) (AllReadyH.cons (gt rfl) (fun K hK => ?_) AllReadyH.nil)
        go_simp
        refine (negatedC (decide (X < 0)) a5 c5 xs5.length _ (by omega)).mono ?_
        rintro e6 ww49 ⟨rfl, hb⟩
        replace kP := kP.below hb
        replace o1 := o1.below hb
        replace o2 := o2.below hb
        replace o3 := o3.below hb
        replace o5 := o5.below hb
        replace N := N.trans (hb.mono N.size)
        clear hb
        refine hK.out _ _ N (fun hHeld => ?_)
        clear hK K
        try simp only [Act.put, sA, sB, sC]
        refine wpAnyH_ready (rs := [12]) (by kernel_rfl) (by simp) (AllReadyH.cons (gt rfl) (fun K hK => ?_) AllReadyH.nil)
        go_simp
        have kS := Box8.new ww49 N.size (.bool (decide (L < 0))) (.slice a1 xs1.length c1) (.bool false) (.slice a2 xs2.length c2) (.bool (!decide (F < 0) && decide (0 < xs3.length))) (.slice a3 xs3.length c3) (.bool (!decide (X < 0) && decide (0 < xs5.length))) (.slice a5 xs5.length c5) 94
        have hb := below1 ww49 (.cells #[.bool (decide (L < 0)), .slice a1 xs1.length c1, .bool false, .slice a2 xs2.length c2, .bool (!decide (F < 0) && decide (0 < xs3.length)), .slice a3 xs3.length c3, .bool (!decide (X < 0) && decide (0 < xs5.length)), .slice a5 xs5.length c5] 94)
        have ne_kS_kP := Nat.ne_of_gt kP.lt
        have ne_kP_kS := ne_kS_kP.symm
        replace kP := kP.below hb
        replace o1 := o1.below hb
        replace o2 := o2.below hb
        replace o3 := o3.below hb
        replace o5 := o5.below hb
        replace N := N.trans (hb.mono N.size)
        clear hb
        generalize ww49.alloc (.cells #[.bool (decide (L < 0)), .slice a1 xs1.length c1, .bool false, .slice a2 xs2.length c2, .bool (!decide (F < 0) && decide (0 < xs3.length)), .slice a3 xs3.length c3, .bool (!decide (X < 0) && decide (0 < xs5.length)), .slice a5 xs5.length c5] 94) = ww50 at *
        refine hK.out _ _ N (fun hHeld => ?_)
        clear hK K
        try simp only [Act.put, sA, sB, sC]
        refine wpAnyH_ready (rs := [13]) (by kernel_rfl) (by simp) (AllReadyH.cons (gt rfl) (fun K hK => ?_) AllReadyH.nil)
        go_simp
        refine (sumC _ 4 2 _ _ _ _ _ (Parts.four kS o1.toSees o2.toSees o3.toSees o5.toSees n1 n2 n3 n5 l1 l2 l3 l5) (by decide)).mono ?_
        rintro e7 ww51 ⟨u7, rfl, hI, hb⟩
        rw [psum_four, t1, t2, neg_back t3, neg_back t5, sg_back, show sg false (mg 1) = 1 from rfl, hzz.out] at hI
        obtain ⟨a9, c9, zs, rfl, oz, nz, vz⟩ := hI
        have HS : Hid (Nrm zs ∧ val zs = z) := ⟨nz, by rw [vz]; unfold mg; rw [if_neg (by have := HZ.out; omega)]⟩
        have zd : decide (z < 0) = false := decide_eq_false (by have := HZ.out; omega)
        rw [zd]
        have bs := N.size
        clear nz vz
        have r_kP_oz := row_ne_low oz kP.lt
        have r_kS_oz := row_ne_low oz kS.lt
        replace kP := kP.below hb
        replace kS := kS.below hb
        replace o1 := o1.below hb
        replace o2 := o2.below hb
        replace o3 := o3.below hb
        replace o5 := o5.below hb
        replace N := N.trans (hb.mono N.size)
        clear hb
        clear o1 o2 o3 o5
        refine hK.out _ _ N (fun hHeld => ?_)
        clear hK K
        try simp only [Act.put, sA, sB, sC]
        refine wpAnyH_ready (rs := [15]) (by kernel_rfl) (by simp) (AllReadyH.cons (gt rfl) (fun K hK => ?_) AllReadyH.nil)
        have z0 := kP.c0
        have z1 := kP.c1
        have zf := kP.fr
        go_simp
        clear z0 z1 zf
        replace N := Box2.chain N kP (.bool false) (.slice a9 zs.length c9)
        replace kS := kS.old ne_kS_kP (.bool false) (.slice a9 zs.length c9)
        replace oz := oz.put2 r_kP_oz (.bool false) (.slice a9 zs.length c9)
        replace kP := kP.put (.bool false) (.slice a9 zs.length c9)
        refine hK.out _ _ N (fun hHeld => ?_)
        clear hK K
        try simp only [Act.put, sA, sB, sC]
        refine wpAnyH_done (by kernel_rfl) ?_ _
        go_wp2
        go_meet
        case rel => exact ⟨_, a9, c9, zs, rfl, kP, oz.base_le bs, HS, N⟩
    · skip
      go_simp
      have kP := Box2.new ww0 N.size (.bool false) (.slice none 0 0) 94
      have hb := below1 ww0 (.cells #[.bool false, .slice none 0 0] 94)
      replace N := N.trans (hb.mono N.size)
      clear hb
      generalize ww0.alloc (.cells #[.bool false, .slice none 0 0] 94) = ww53 at *
      refine hK.out _ _ N (fun hHeld => ?_)
      clear hK K
      try simp only [Act.put, sA, sB, sC]
      refine wpAnyH_ready (rs := [2]) (by kernel_rfl) (by simp) (AllReadyH.cons (gt rfl) (fun K hK => ?_) AllReadyH.nil)
      go_simp
      refine (implOf L _ (HB.out.2.1).1 (HB.out.2.1).2).mono ?_
      rintro e1 ww54 ⟨u1, rfl, hI, hb⟩
      obtain ⟨a1, c1, xs1, rfl, o1, n1, t1⟩ := hI
      have l1 := small_len o1.lim n1 t1 (HB.out.2.1).1 (HB.out.2.1).2
      replace kP := kP.below hb
      replace N := N.trans (hb.mono N.size)
      clear hb
      refine hK.out _ _ N (fun hHeld => ?_)
      clear hK K
      try simp only [Act.put, sA, sB, sC]
      refine wpAnyH_ready (rs := [3]) (by kernel_rfl) (by simp) (AllReadyH.cons (gt rfl) (fun K hK => ?_) AllReadyH.nil)
      go_simp
      refine (implOf 1 _ ((⟨by omega, by omega⟩ : (-9223372036854775808 : Int) ≤ 1 ∧ (1 : Int) ≤ 9223372036854775807)).1 ((⟨by omega, by omega⟩ : (-9223372036854775808 : Int) ≤ 1 ∧ (1 : Int) ≤ 9223372036854775807)).2).mono ?_
      rintro e2 ww55 ⟨u2, rfl, hI, hb⟩
      obtain ⟨a2, c2, xs2, rfl, o2, n2, t2⟩ := hI
      have l2 := small_len o2.lim n2 t2 ((⟨by omega, by omega⟩ : (-9223372036854775808 : Int) ≤ 1 ∧ (1 : Int) ≤ 9223372036854775807)).1 ((⟨by omega, by omega⟩ : (-9223372036854775808 : Int) ≤ 1 ∧ (1 : Int) ≤ 9223372036854775807)).2
      replace kP := kP.below hb
      replace o1 := o1.below hb
      replace N := N.trans (hb.mono N.size)
      clear hb
      refine hK.out _ _ N (fun hHeld => ?_)
      clear hK K
      try simp only [Act.put, sA, sB, sC]
      refine wpAnyH_ready (rs := [6]) (by kernel_rfl) (by simp) (AllReadyH.cons (gt rfl) (fun K hK => ?_) AllReadyH.nil)
      go_simp
      refine (implOf F _ (HB.out.1).1 (HB.out.1).2).mono ?_
      rintro e3 ww56 ⟨u3, rfl, hI, hb⟩
      obtain ⟨a3, c3, xs3, rfl, o3, n3, t3⟩ := hI
      have l3 := small_len o3.lim n3 t3 (HB.out.1).1 (HB.out.1).2
      replace kP := kP.below hb
      replace o1 := o1.below hb
      replace o2 := o2.below hb
      replace N := N.trans (hb.mono N.size)
      clear hb
      refine hK.out _ _ N (fun hHeld => ?_)
      clear hK K
      try simp only [Act.put, sA, sB, sC]
      refine wpAnyH_ready (rs := [7]) (by kernel_rfl) (by simp) (AllReadyH.cons (gt rfl) (fun K hK => ?_) AllReadyH.nil)
      go_simp
      refine (negatedC (decide (F < 0)) a3 c3 xs3.length _ (by omega)).mono ?_
      rintro e4 ww57 ⟨rfl, hb⟩
      replace kP := kP.below hb
      replace o1 := o1.below hb
      replace o2 := o2.below hb
      replace o3 := o3.below hb
      replace N := N.trans (hb.mono N.size)
      clear hb
      refine hK.out _ _ N (fun hHeld => ?_)
      clear hK K
      try simp only [Act.put, sA, sB, sC]
      refine wpAnyH_ready (rs := [10]) (by kernel_rfl) (by simp) (AllReadyH.cons (gt rfl) (fun K hK => ?_) AllReadyH.nil)
      go_simp
      refine (implOf X _ (HB.out.2.2).1 (HB.out.2.2).2).mono ?_
      rintro e5 ww58 ⟨u5, rfl, hI, hb⟩
      obtain ⟨a5, c5, xs5, rfl, o5, n5, t5⟩ := hI
      have l5 := small_len o5.lim n5 t5 (HB.out.2.2).1 (HB.out.2.2).2
      replace kP := kP.below hb
      replace o1 := o1.below hb
      replace o2 := o2.below hb
      replace o3 := o3.below hb
      replace N := N.trans (hb.mono N.size)
      clear hb
      refine hK.out _ _ N (fun hHeld => ?_)
      clear hK K
      try simp only [Act.put, sA, sB, sC]
      refine wpAnyH_ready (rs := [11]) (by kernel_rfl) (by simp) (AllReadyH.cons (gt rfl) (fun K hK => ?_) AllReadyH.nil)
      go_simp
      refine (negatedC (decide (X < 0)) a5 c5 xs5.length _ (by omega)).mono ?_
      rintro e6 ww59 ⟨rfl, hb⟩
      replace kP := kP.below hb
      replace o1 := o1.below hb
      replace o2 := o2.below hb
      replace o3 := o3.below hb
      replace o5 := o5.below hb
      replace N := N.trans (hb.mono N.size)
      clear hb
      refine hK.out _ _ N (fun hHeld => ?_)
      clear hK K
      try simp only [Act.put, sA, sB, sC]
      refine wpAnyH_ready (rs := [12]) (by kernel_rfl) (by simp) (AllReadyH.cons (gt rfl) (fun K hK => ?_) AllReadyH.nil)
      go_simp
      have kS := Box8.new ww59 N.size (.bool (decide (L < 0))) (.slice a1 xs1.length c1) (.bool false) (.slice a2 xs2.length c2) (.bool (!decide (F < 0) && decide (0 < xs3.length))) (.slice a3 xs3.length c3) (.bool (!decide (X < 0) && decide (0 < xs5.length))) (.slice a5 xs5.length c5) 94
      have hb := below1 ww59 (.cells #[.bool (decide (L < 0)), .slice a1 xs1.length c1, .bool false, .slice a2 xs2.length c2, .bool (!decide (F < 0) && decide (0 < xs3.length)), .slice a3 xs3.length c3, .bool (!decide (X < 0) && decide (0 < xs5.length)), .slice a5 xs5.length c5] 94)
      have ne_kS_kP := Nat.ne_of_gt kP.lt
      have ne_kP_kS := ne_kS_kP.symm
      replace kP := kP.below hb
      replace o1 := o1.below hb
      replace o2 := o2.below hb
      replace o3 := o3.below hb
      replace o5 := o5.below hb
      replace N := N.trans (hb.mono N.size)
      clear hb
      generalize ww59.alloc (.cells #[.bool (decide (L < 0)), .slice a1 xs1.length c1, .bool false, .slice a2 xs2.length c2, .bool (!decide (F < 0) && decide (0 < xs3.length)), .slice a3 xs3.length c3, .bool (!decide (X < 0) && decide (0 < xs5.length)), .slice a5 xs5.length c5] 94) = ww60 at *
      refine hK.out _ _ N (fun hHeld => ?_)
      clear hK K
      try simp only [Act.put, sA, sB, sC]
      refine wpAnyH_ready (rs := [13]) (by kernel_rfl) (by simp) (AllReadyH.cons (gt rfl) (fun K hK => ?_) AllReadyH.nil)
      go_simp
      refine (sumC _ 4 2 _ _ _ _ _ (Parts.four kS o1.toSees o2.toSees o3.toSees o5.toSees n1 n2 n3 n5 l1 l2 l3 l5) (by decide)).mono ?_
      rintro e7 ww61 ⟨u7, rfl, hI, hb⟩
      rw [psum_four, t1, t2, neg_back t3, neg_back t5, sg_back, show sg false (mg 1) = 1 from rfl, hzz.out] at hI
      obtain ⟨a9, c9, zs, rfl, oz, nz, vz⟩ := hI
      have HS : Hid (Nrm zs ∧ val zs = z) := ⟨nz, by rw [vz]; unfold mg; rw [if_neg (by have := HZ.out; omega)]⟩
      have zd : decide (z < 0) = false := decide_eq_false (by have := HZ.out; omega)
      rw [zd]
      have bs := N.size
      clear nz vz
      have r_kP_oz := row_ne_low oz kP.lt
      have r_kS_oz := row_ne_low oz kS.lt
      replace kP := kP.below hb
      replace kS := kS.below hb
      replace o1 := o1.below hb
      replace o2 := o2.below hb
      replace o3 := o3.below hb
      replace o5 := o5.below hb
      replace N := N.trans (hb.mono N.size)
      clear hb
      clear o1 o2 o3 o5
      refine hK.out _ _ N (fun hHeld => ?_)
      clear hK K
      try simp only [Act.put, sA, sB, sC]
      refine wpAnyH_ready (rs := [15]) (by kernel_rfl) (by simp) (AllReadyH.cons (gt rfl) (fun K hK => ?_) AllReadyH.nil)
      have z0 := kP.c0
      have z1 := kP.c1
      have zf := kP.fr
      go_simp
      clear z0 z1 zf
      replace N := Box2.chain N kP (.bool false) (.slice a9 zs.length c9)
      replace kS := kS.old ne_kS_kP (.bool false) (.slice a9 zs.length c9)
      replace oz := oz.put2 r_kP_oz (.bool false) (.slice a9 zs.length c9)
      replace kP := kP.put (.bool false) (.slice a9 zs.length c9)
      refine hK.out _ _ N (fun hHeld => ?_)
      clear hK K
      try simp only [Act.put, sA, sB, sC]
      refine wpAnyH_done (by kernel_rfl) ?_ _
      go_wp2
      go_meet
      case rel => exact ⟨_, a9, c9, zs, rfl, kP, oz.base_le bs, HS, N⟩
  rename World => W
  obtain ⟨p, a9, c9, zs, rfl, KP, oz, HS, hb⟩ := hcut
  obtain ⟨nz, vz⟩ := HS.out
  have hzb := HZ.out
  have mz : mg z = z := by unfold mg; rw [if_neg (by omega)]
  have zd : decide (z < 0) = false := decide_eq_false (by omega)
  have lz : zs.length ≤ 24 := Nat.le_trans (small_len oz.lim nz (vz.trans mz.symm) (by omega) hzb.2) (by omega)
  have TK : Hid (tk false zs = z) := by
    have := (tk_val (n := z) oz.lim nz lz (vz.trans mz.symm)).2
    rw [zd] at this
    exact this
  obtain ⟨e1, e2⟩ := sm_in (z := z) (by omega) hzb.2
  have CZ : Hid (∃ k, cmpZ z 0 = k ∧ ¬k < 0) := ⟨_, rfl, by unfold cmpZ; rw [if_neg (by omega)]; split <;> omega⟩
  obtain ⟨k, ck, k0⟩ := CZ.out
  replace B := B.trans (hb.mono B.size)
  obtain ⟨x0, x1, xf, _⟩ := id KP
  clear hb v0 v1 v2 v3 vf V HS nz vz hzb mz zd lz CZ
  go_wp2_with fail
  refine (implSign false a9 c9 zs _ oz.toSees).mono ?_
  rintro e wq ⟨rfl, hb⟩
  rw [TK.out, ck]
  replace oz := oz.below hb
  replace KP := KP.below hb
  replace B := B.trans (hb.mono B.size)
  clear hb x0 x1 xf
  obtain ⟨x0, x1, xf, _⟩ := id KP
  go_wp2_with fail
  refine (implSmall false a9 c9 zs _ oz.toSees).mono ?_
  rintro e wr ⟨rfl, hb⟩
  rw [TK.out, e1, e2]
  replace B := B.trans (hb.mono B.size)
  clear hb x0 x1 xf KP oz
  go_wp2
  go_ret
  exact ⟨rfl, B⟩
end Go.Proofs.YtonbmeepfgejmaaGreatDoor
