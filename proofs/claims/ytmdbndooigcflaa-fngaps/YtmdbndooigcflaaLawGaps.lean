/- The law on gaps: FnGaps. -/
import Derived.Test.YtmdbndooigcflaaDrawG
import Derived.Test.YtmdbndooigcflaaGapsW
import Derived.Test.YtmdbndooigcflaaGapN
import Derived.Test.YtmdbndooigcflaaFracM
import Derived.Test.YtmdbndooigcflaaGapI
import Derived.Test.YtmdbndooigcflaaPtM
namespace Go.Proofs.Ytmdbndooigcflaa
open Go.RowKit

theorem cmpZ_le {a b : Int} (h : a ≤ b) : cmpZ a b ≤ 0 := by unfold cmpZ; split <;> (try split) <;> omega
theorem cmpZ_eq {a b : Int} (h : a = b) : cmpZ a b = 0 := by unfold cmpZ; rw [if_neg (by omega), if_pos h]
theorem cmpZ_gt {a b : Int} (h : b < a) : cmpZ a b = 1 := by unfold cmpZ; rw [if_neg (by omega), if_neg (by omega)]
/-- A gap's parts: their limbs are few. -/
theorem gap_limbs {n d : Int} {zs ts : List Int} (l1 : Lim zs) (n1 : Nrm zs) (v1 : val zs = mg n) (l2 : Lim ts) (n2 : Nrm ts) (v2 : val ts = mg d) (hb : mg n ≤ 640000000000000000000000000000 ∧ mg d ≤ 640000000000000000000000000000) :
    (Nrm zs ∧ zs.length ≤ 24 ∧ val zs = mg n) ∧ (Nrm ts ∧ ts.length ≤ 24 ∧ val ts = mg d) := by
  have e4 : (4294967296 : Int) ^ 4 = 340282366920938463463374607431768211456 := by decide
  exact ⟨⟨n1, Nat.le_trans (len_le l1 n1 (k := 4) (by rw [v1, e4]; omega)) (by decide), v1⟩, ⟨n2, Nat.le_trans (len_le l2 n2 (k := 4) (by rw [v2, e4]; omega)) (by decide), v2⟩⟩
theorem gap_bounds (x1 y1 x2 y2 x3 y3 : Int) : mg (gN (tX x3 y3 - tX x2 y2) (tY x3 y3 - tY x2 y2) (tX x1 y1 - tX x2 y2) (tY x1 y1 - tY x2 y2)) ≤ 640000000000000000000000000000 ∧ mg (gD (tX x3 y3 - tX x2 y2) (tY x3 y3 - tY x2 y2) (tX x1 y1 - tX x2 y2) (tY x1 y1 - tY x2 y2)) ≤ 640000000000000000000000000000 := by
  have c := fun (a b c d : Int) => (tX_crd a b).dif (tX_crd c d)
  have d := fun (a b c d : Int) => (tY_crd a b).dif (tY_crd c d)
  have ex : tX x1 y1 - tX x2 y2 - (tX x3 y3 - tX x2 y2) = tX x1 y1 - tX x3 y3 := by omega
  have ey : tY x1 y1 - tY x2 y2 - (tY x3 y3 - tY x2 y2) = tY x1 y1 - tY x3 y3 := by omega
  exact g_bounds (c x3 y3 x2 y2) (d x3 y3 x2 y2) (c x1 y1 x2 y2) (d x1 y1 x2 y2) (by rw [ex]; exact c x1 y1 x3 y3) (by rw [ey]; exact d x1 y1 x3 y3)

set_option maxRecDepth 20000 in
set_option maxHeartbeats 32000000 in
theorem lawGaps (a : Option Addr) (n cap : Nat) (w : World) (hB : Byt w a n) :
    Calls Try.prog 4 #[.slice a n cap] w fun e w' => e = .returned (.bool true) ∧ Below w.heap.size w w' := by
  by_cases hs : n ≤ 1048576
  · have HM : Hid (n ≤ 1048576) := hs
    have hd : decide (1048576 < (n : Int)) = false := decide_eq_false (by omega)
    clear hs
    go_enter Try.func4, Try.ntmps4
    go_wp2_with fail
    refine (big_any a n cap _).mono ?_
    rintro e w0 ⟨rfl, rfl⟩
    rw [hd]
    clear hd
    go_wp2_with fail
    refine (drawGap_any a n cap _ hB HM.out).mono ?_
    rintro e w1 ⟨x1, y1, x2, y2, x3, y3, rfl, B⟩
    clear hB
    go_wp2_with fail
    obtain ⟨k0, k1, k2, k3, k4, k5⟩ := ptbox3 w1 x1 y1 x2 y2 x3 y3 30
    have hb := ptbelow3 w1 x1 y1 x2 y2 x3 y3 30
    replace B := B.trans (hb.mono B.size)
    clear hb
    generalize (((w1.alloc (.cells #[.int .i64 x1, .int .i64 y1] 30)).alloc (.cells #[.int .i64 x2, .int .i64 y2] 30)).alloc (.cells #[.int .i64 x3, .int .i64 y3] 30)) = W1 at *
    obtain ⟨gn, Hn⟩ : ∃ z, Hid (gN (tX x3 y3 - tX x2 y2) (tY x3 y3 - tY x2 y2) (tX x1 y1 - tX x2 y2) (tY x1 y1 - tY x2 y2) = z) := ⟨_, rfl⟩
    obtain ⟨gd, Hd⟩ : ∃ z, Hid (gD (tX x3 y3 - tX x2 y2) (tY x3 y3 - tY x2 y2) (tX x1 y1 - tX x2 y2) (tY x1 y1 - tY x2 y2) = z) := ⟨_, rfl⟩
    obtain ⟨an, Han⟩ : ∃ z, Hid (gN (tX x2 y2 - tX x2 y2) (tY x2 y2 - tY x2 y2) (tX x1 y1 - tX x2 y2) (tY x1 y1 - tY x2 y2) = z) := ⟨_, rfl⟩
    obtain ⟨ad, Had⟩ : ∃ z, Hid (gD (tX x2 y2 - tX x2 y2) (tY x2 y2 - tY x2 y2) (tX x1 y1 - tX x2 y2) (tY x1 y1 - tY x2 y2) = z) := ⟨_, rfl⟩
    obtain ⟨bn, Hbn⟩ : ∃ z, Hid (gN (tX x3 y3 - tX x3 y3) (tY x3 y3 - tY x3 y3) (tX x1 y1 - tX x3 y3) (tY x1 y1 - tY x3 y3) = z) := ⟨_, rfl⟩
    obtain ⟨bd, Hbd⟩ : ∃ z, Hid (gD (tX x3 y3 - tX x3 y3) (tY x3 y3 - tY x3 y3) (tX x1 y1 - tX x3 y3) (tY x1 y1 - tY x3 y3) = z) := ⟨_, rfl⟩
    obtain ⟨on, Hon⟩ : ∃ z, Hid (gN (tX x2 y2 - tX x3 y3) (tY x2 y2 - tY x3 y3) (tX x1 y1 - tX x3 y3) (tY x1 y1 - tY x3 y3) = z) := ⟨_, rfl⟩
    obtain ⟨od, Hod⟩ : ∃ z, Hid (gD (tX x2 y2 - tX x3 y3) (tY x2 y2 - tY x3 y3) (tX x1 y1 - tX x3 y3) (tY x1 y1 - tY x3 y3) = z) := ⟨_, rfl⟩
    have bG : Hid ((mg gn ≤ 640000000000000000000000000000 ∧ mg gd ≤ 640000000000000000000000000000) ∧ (mg an ≤ 640000000000000000000000000000 ∧ mg ad ≤ 640000000000000000000000000000) ∧ (mg bn ≤ 640000000000000000000000000000 ∧ mg bd ≤ 640000000000000000000000000000) ∧ (mg on ≤ 640000000000000000000000000000 ∧ mg od ≤ 640000000000000000000000000000)) := by
      rw [← Hn.out, ← Hd.out, ← Han.out, ← Had.out, ← Hbn.out, ← Hbd.out, ← Hon.out, ← Hod.out]
      exact ⟨gap_bounds x1 y1 x2 y2 x3 y3, gap_bounds x1 y1 x2 y2 x2 y2, gap_bounds x1 y1 x3 y3 x3 y3, gap_bounds x1 y1 x3 y3 x2 y2⟩
    have pG : Hid ((0 ≤ gn ∧ 0 < gd) ∧ (0 ≤ an ∧ 0 < ad) ∧ (0 ≤ bn ∧ 0 < bd) ∧ (0 ≤ on ∧ 0 < od)) := by
      rw [← Hn.out, ← Hd.out, ← Han.out, ← Had.out, ← Hbn.out, ← Hbd.out, ← Hon.out, ← Hod.out]
      exact ⟨g_pos _ _ _ _, g_pos _ _ _ _, g_pos _ _ _ _, g_pos _ _ _ _⟩
    have tX0 : Hid (tX x2 y2 - tX x2 y2 = 0 ∧ tY x2 y2 - tY x2 y2 = 0 ∧ tX x3 y3 - tX x3 y3 = 0 ∧ tY x3 y3 - tY x3 y3 = 0) := ⟨by omega, by omega, by omega, by omega⟩
    have L5 : Hid (cmpZ (gn * ad) (an * gd) ≤ 0) := by
      refine cmpZ_le ?_
      have q := (g_ends (tX x3 y3 - tX x2 y2) (tY x3 y3 - tY x2 y2) (tX x1 y1 - tX x2 y2) (tY x1 y1 - tY x2 y2)).1
      obtain ⟨s1, s2⟩ := g_same (vx := tX x1 y1 - tX x2 y2) (vy := tY x1 y1 - tY x2 y2) (And.intro tX0.out.1 tX0.out.2.1)
      rw [← Han.out, ← Had.out, s1, s2, ← Hn.out, ← Hd.out]
      omega
    have L7 : Hid (cmpZ (gn * bd) (bn * gd) ≤ 0) := by
      refine cmpZ_le ?_
      have q := (g_ends (tX x3 y3 - tX x2 y2) (tY x3 y3 - tY x2 y2) (tX x1 y1 - tX x2 y2) (tY x1 y1 - tY x2 y2)).2
      obtain ⟨s1, s2⟩ := g_same (vx := tX x1 y1 - tX x3 y3) (vy := tY x1 y1 - tY x3 y3) (And.intro tX0.out.2.2.1 tX0.out.2.2.2)
      have ex : tX x1 y1 - tX x2 y2 - (tX x3 y3 - tX x2 y2) = tX x1 y1 - tX x3 y3 := by omega
      have ey : tY x1 y1 - tY x2 y2 - (tY x3 y3 - tY x2 y2) = tY x1 y1 - tY x3 y3 := by omega
      rw [ex, ey] at q
      rw [← Hbn.out, ← Hbd.out, s1, s2, ← Hn.out, ← Hd.out]
      omega
    have L9 : Hid (cmpZ (gn * od) (on * gd) = 0) := by
      refine cmpZ_eq ?_
      obtain ⟨s1, s2⟩ := g_other (tX x3 y3 - tX x2 y2) (tY x3 y3 - tY x2 y2) (tX x1 y1 - tX x2 y2) (tY x1 y1 - tY x2 y2)
      have ex : tX x1 y1 - tX x2 y2 - (tX x3 y3 - tX x2 y2) = tX x1 y1 - tX x3 y3 := by omega
      have ey : tY x1 y1 - tY x2 y2 - (tY x3 y3 - tY x2 y2) = tY x1 y1 - tY x3 y3 := by omega
      have fx : -(tX x3 y3 - tX x2 y2) = tX x2 y2 - tX x3 y3 := by omega
      have fy : -(tY x3 y3 - tY x2 y2) = tY x2 y2 - tY x3 y3 := by omega
      rw [ex, ey, fx, fy, Hon.out, Hn.out] at s1
      rw [ex, ey, fx, fy, Hod.out, Hd.out] at s2
      rw [s1, s2]
    have ON1 : Hid (gn = 0 ↔ onB (tX x2 y2) (tY x2 y2) (tX x3 y3) (tY x3 y3) (tX x1 y1) (tY x1 y1) = true) := by
      rw [← Hn.out]
      exact g_on _ _ _ _ _ _
    clear tX0
    refine (implGap x1 y1 x2 y2 x3 y3 _).mono ?_
    rintro e w2 ⟨u, rfl, hI, hb⟩
    rw [Hn.out, Hd.out] at hI
    obtain ⟨ga, gc, zs, ga', gc', ts, rfl, oz, ot, nz, nt, vz, vt, _⟩ := hI
    obtain ⟨kz, kt⟩ := gap_limbs oz.lim nz vz ot.lim nt vt bG.out.1
    obtain ⟨f1, F1⟩ : ∃ f, Hid (decide (gn < 0) = f) := ⟨_, rfl⟩
    obtain ⟨f2, F2⟩ : ∃ f, Hid (decide (gd < 0) = f) := ⟨_, rfl⟩
    rw [F1.out, F2.out]
    have KG : Hid ((Nrm zs ∧ zs.length ≤ 24 ∧ val zs = mg gn) ∧ (Nrm ts ∧ ts.length ≤ 24 ∧ val ts = mg gd)) := ⟨kz, kt⟩
    clear kz kt nz nt vz vt
    replace k0 := bat hb k0
    replace k1 := bat hb k1
    replace k2 := bat hb k2
    replace k3 := bat hb k3
    replace k4 := bat hb k4
    replace k5 := bat hb k5
    replace B := B.trans (hb.mono B.size)
    clear hb
    have l0 := World.block_lt_of_cell? _ _ k0
    have l2 := World.block_lt_of_cell? _ _ k2
    have l4 := World.block_lt_of_cell? _ _ k4
    go_wp2_with fail
    clear l0 l2 l4
    obtain ⟨g0, g1, g2, g3⟩ := fvar_new w2 f1 f2 ga ga' zs.length ts.length gc gc' 28
    have hb := below1 w2 (.cells #[.bool f1, .slice ga zs.length gc, .bool f2, .slice ga' ts.length gc'] 28)
    replace k0 := bat hb k0
    replace k1 := bat hb k1
    replace k2 := bat hb k2
    replace k3 := bat hb k3
    replace k4 := bat hb k4
    replace k5 := bat hb k5
    replace oz := oz.below hb
    replace ot := ot.below hb
    replace B := B.trans (hb.mono B.size)
    clear hb
    generalize w2.alloc (.cells #[.bool f1, .slice ga zs.length gc, .bool f2, .slice ga' ts.length gc'] 28) = W2 at *
    refine (lawWhole 0 _ (by decide) (by decide)).mono ?_
    rintro e w3 ⟨u, rfl, hI, hb⟩
    obtain ⟨na, nc, z0, na', nc', t0, rfl, oz0, ot0, nz0, nt0, vz0, vt0, _⟩ := hI
    have KZ : Hid ((Nrm z0 ∧ z0.length ≤ 24 ∧ val z0 = mg 0) ∧ (Nrm t0 ∧ t0.length ≤ 24 ∧ val t0 = mg 1)) := gap_limbs oz0.lim nz0 vz0 ot0.lim nt0 vt0 (by decide)
    obtain ⟨f3, F3⟩ : ∃ f, Hid (decide ((0 : Int) < 0) = f) := ⟨_, rfl⟩
    obtain ⟨f4, F4⟩ : ∃ f, Hid (decide ((1 : Int) < 0) = f) := ⟨_, rfl⟩
    rw [F3.out, F4.out]
    clear nz0 nt0 vz0 vt0
    replace k0 := bat hb k0
    replace k1 := bat hb k1
    replace k2 := bat hb k2
    replace k3 := bat hb k3
    replace k4 := bat hb k4
    replace k5 := bat hb k5
    replace g0 := bat hb g0
    replace g1 := bat hb g1
    replace g2 := bat hb g2
    replace g3 := bat hb g3
    replace oz := oz.below hb
    replace ot := ot.below hb
    replace B := B.trans (hb.mono B.size)
    clear hb
    have l0 := World.block_lt_of_cell? _ _ k0
    have l2 := World.block_lt_of_cell? _ _ k2
    have l4 := World.block_lt_of_cell? _ _ k4
    have l6 := World.block_lt_of_cell? _ _ g0
    go_wp2_with fail
    clear l0 l2 l4 l6
    obtain ⟨h0, h1, h2, h3⟩ := fvar_new w3 f3 f4 na na' z0.length t0.length nc nc' 28
    have hb := below1 w3 (.cells #[.bool f3, .slice na z0.length nc, .bool f4, .slice na' t0.length nc'] 28)
    replace k0 := bat hb k0
    replace k1 := bat hb k1
    replace k2 := bat hb k2
    replace k3 := bat hb k3
    replace k4 := bat hb k4
    replace k5 := bat hb k5
    replace g0 := bat hb g0
    replace g1 := bat hb g1
    replace g2 := bat hb g2
    replace g3 := bat hb g3
    replace oz := oz.below hb
    replace ot := ot.below hb
    replace oz0 := oz0.below hb
    replace ot0 := ot0.below hb
    replace B := B.trans (hb.mono B.size)
    clear hb
    generalize w3.alloc (.cells #[.bool f3, .slice na z0.length nc, .bool f4, .slice na' t0.length nc'] 28) = W3 at *
    obtain ⟨c5, C5⟩ : ∃ z, Hid (cmpZ (gn * ad) (an * gd) = z) := ⟨_, rfl⟩
    obtain ⟨c7, C7⟩ : ∃ z, Hid (cmpZ (gn * bd) (bn * gd) = z) := ⟨_, rfl⟩
    have l5 : c5 ≤ 0 := by rw [← C5.out]; exact L5.out
    have l7 : c7 ≤ 0 := by rw [← C7.out]; exact L7.out
    by_cases hz : gn = 0
    · as_aux_lemma =>
        have C1 : Hid (cmpZ (gn * 1) (0 * gd) = 0) := cmpZ_eq (by omega)
        have C2 : Hid (onB (tX x2 y2) (tY x2 y2) (tX x3 y3) (tY x3 y3) (tX x1 y1) (tY x1 y1) = true) := ON1.out.1 hz
        clear hz ON1
        refine wp_region_held_drew (S := Below W3.heap.size W3) (by kernel_rfl) ((Below.refl _ _).drew) (fun hHeld => ?_)
        have N : Below W3.heap.size W3 W3.drew := hHeld
        revert hHeld N
        generalize W3.drew = ww0
        intro hHeld N
        refine takeQ (i := 0) (gt rfl) (by kernel_rfl) (fun _ _ _ h => h) (by rfl) (by intro wq hSw; have q0 := bat hSw k0; have q1 := bat hSw k1; have q2 := bat hSw k2; have q3 := bat hSw k3; have q4 := bat hSw k4; have q5 := bat hSw k5; have q6 := bat hSw g0; have q7 := bat hSw g1; have q8 := bat hSw g2; have q9 := bat hSw g3; have q10 := bat hSw h0; have q11 := bat hSw h1; have q12 := bat hSw h2; have q13 := bat hSw h3; go_simp <;> with_reducible rfl) (by assumption) ?_
        try simp only [Act.put, sA, sB, sC]
        refine takeQ (i := 1) (gt rfl) (by kernel_rfl) (fun _ _ _ h => h) (by rfl) (by intro wq hSw; have q0 := bat hSw k0; have q1 := bat hSw k1; have q2 := bat hSw k2; have q3 := bat hSw k3; have q4 := bat hSw k4; have q5 := bat hSw k5; have q6 := bat hSw g0; have q7 := bat hSw g1; have q8 := bat hSw g2; have q9 := bat hSw g3; have q10 := bat hSw h0; have q11 := bat hSw h1; have q12 := bat hSw h2; have q13 := bat hSw h3; go_simp <;> with_reducible rfl) (by assumption) ?_
        try simp only [Act.put, sA, sB, sC]
        refine takeQ (i := 4) (gt rfl) (by kernel_rfl) (fun _ _ _ h => h) (by rfl) (by intro wq hSw; have q0 := bat hSw k0; have q1 := bat hSw k1; have q2 := bat hSw k2; have q3 := bat hSw k3; have q4 := bat hSw k4; have q5 := bat hSw k5; have q6 := bat hSw g0; have q7 := bat hSw g1; have q8 := bat hSw g2; have q9 := bat hSw g3; have q10 := bat hSw h0; have q11 := bat hSw h1; have q12 := bat hSw h2; have q13 := bat hSw h3; go_simp <;> with_reducible rfl) (by assumption) ?_
        try simp only [Act.put, sA, sB, sC]
        refine takeQ (i := 5) (gt rfl) (by kernel_rfl) (fun _ _ _ h => h) (by rfl) (by intro wq hSw; have q0 := bat hSw k0; have q1 := bat hSw k1; have q2 := bat hSw k2; have q3 := bat hSw k3; have q4 := bat hSw k4; have q5 := bat hSw k5; have q6 := bat hSw g0; have q7 := bat hSw g1; have q8 := bat hSw g2; have q9 := bat hSw g3; have q10 := bat hSw h0; have q11 := bat hSw h1; have q12 := bat hSw h2; have q13 := bat hSw h3; go_simp <;> with_reducible rfl) (by assumption) ?_
        try simp only [Act.put, sA, sB, sC]
        refine takeQ (i := 6) (gt rfl) (by kernel_rfl) (fun _ _ _ h => h) (by rfl) (by intro wq hSw; have q0 := bat hSw k0; have q1 := bat hSw k1; have q2 := bat hSw k2; have q3 := bat hSw k3; have q4 := bat hSw k4; have q5 := bat hSw k5; have q6 := bat hSw g0; have q7 := bat hSw g1; have q8 := bat hSw g2; have q9 := bat hSw g3; have q10 := bat hSw h0; have q11 := bat hSw h1; have q12 := bat hSw h2; have q13 := bat hSw h3; go_simp <;> with_reducible rfl) (by assumption) ?_
        try simp only [Act.put, sA, sB, sC]
        refine wpAnyH_ready (rs := [2]) (by kernel_rfl) (by simp) (AllReadyH.cons (gt rfl) (fun K hK => ?_) AllReadyH.nil)
        go_simp
        have hcmp := cmpFrac_is gn gd 0 1 ga ga' na na' gc gc' nc nc' zs ts z0 t0 _ (oz.toSees.below N) (ot.toSees.below N) (oz0.toSees.below N) (ot0.toSees.below N) KG.out.1 KG.out.2 KZ.out.1 KZ.out.2 pG.out.1.2 (by decide)
        rw [F1.out, F2.out, F3.out, F4.out] at hcmp
        refine hcmp.mono ?_
        clear hcmp
        rintro e1 ww1 ⟨rfl, hb⟩
        rw [C1.out]
        replace N := N.trans (hb.mono N.size)
        clear hb
        refine hK.out _ _ N (fun hHeld => ?_)
        clear hK K
        try simp only [Act.put, sA, sB, sC]
        refine takeQ (i := 3) (gt rfl) (by kernel_rfl) (fun _ _ _ h => h) (by rfl) (by intro wq _; go_simp <;> with_reducible rfl) (by assumption) ?_
        try simp only [Act.put, sA, sB, sC]
        refine wpAnyH_ready (rs := [7]) (by kernel_rfl) (by simp) (AllReadyH.cons (gt rfl) (fun K hK => ?_) AllReadyH.nil)
        go_simp
        refine (implOnSeg x2 y2 x3 y3 x1 y1 _).mono ?_
        rintro e1 ww2 ⟨rfl, hb⟩
        rw [C2.out]
        replace N := N.trans (hb.mono N.size)
        clear hb
        refine hK.out _ _ N (fun hHeld => ?_)
        clear hK K
        try simp only [Act.put, sA, sB, sC]
        refine takeQ (i := 8) (gt rfl) (by kernel_rfl) (fun _ _ _ h => h) (by rfl) (by intro wq _; go_simp <;> with_reducible rfl) (by assumption) ?_
        try simp only [Act.put, sA, sB, sC]
        refine takeQ (i := 9) (gt rfl) (by kernel_rfl) (fun _ _ _ h => h) (by rfl) (by intro wq _; go_simp <;> with_reducible rfl) (by assumption) ?_
        try simp only [Act.put, sA, sB, sC]
        refine takeQ (i := 10) (gt rfl) (by kernel_rfl) (fun _ _ _ h => h) (by rfl) (by intro wq hSw; have q0 := bat hSw k0; have q1 := bat hSw k1; have q2 := bat hSw k2; have q3 := bat hSw k3; have q4 := bat hSw k4; have q5 := bat hSw k5; have q6 := bat hSw g0; have q7 := bat hSw g1; have q8 := bat hSw g2; have q9 := bat hSw g3; have q10 := bat hSw h0; have q11 := bat hSw h1; have q12 := bat hSw h2; have q13 := bat hSw h3; go_simp <;> with_reducible rfl) (by assumption) ?_
        try simp only [Act.put, sA, sB, sC]
        refine takeQ (i := 11) (gt rfl) (by kernel_rfl) (fun _ _ _ h => h) (by rfl) (by intro wq hSw; have q0 := bat hSw k0; have q1 := bat hSw k1; have q2 := bat hSw k2; have q3 := bat hSw k3; have q4 := bat hSw k4; have q5 := bat hSw k5; have q6 := bat hSw g0; have q7 := bat hSw g1; have q8 := bat hSw g2; have q9 := bat hSw g3; have q10 := bat hSw h0; have q11 := bat hSw h1; have q12 := bat hSw h2; have q13 := bat hSw h3; go_simp <;> with_reducible rfl) (by assumption) ?_
        try simp only [Act.put, sA, sB, sC]
        refine wpAnyH_ready (rs := [12]) (by kernel_rfl) (by simp) (AllReadyH.cons (gt rfl) (fun K hK => ?_) AllReadyH.nil)
        go_simp
        have hcmp := cmpFrac_is gn gd 0 1 ga ga' na na' gc gc' nc nc' zs ts z0 t0 _ (oz.toSees.below N) (ot.toSees.below N) (oz0.toSees.below N) (ot0.toSees.below N) KG.out.1 KG.out.2 KZ.out.1 KZ.out.2 pG.out.1.2 (by decide)
        rw [F1.out, F2.out, F3.out, F4.out] at hcmp
        refine hcmp.mono ?_
        clear hcmp
        rintro e1 ww3 ⟨rfl, hb⟩
        rw [C1.out]
        replace N := N.trans (hb.mono N.size)
        clear hb
        refine hK.out _ _ N (fun hHeld => ?_)
        clear hK K
        try simp only [Act.put, sA, sB, sC]
        refine takeQ (i := 13) (gt rfl) (by kernel_rfl) (fun _ _ _ h => h) (by rfl) (by intro wq _; go_simp <;> with_reducible rfl) (by assumption) ?_
        try simp only [Act.put, sA, sB, sC]
        refine takeQ (i := 14) (gt rfl) (by kernel_rfl) (fun _ _ _ h => h) (by rfl) (by intro wq _; go_simp <;> with_reducible rfl) (by assumption) ?_
        try simp only [Act.put, sA, sB, sC]
        refine takeQ (i := 15) (gt rfl) (by kernel_rfl) (fun _ _ _ h => h) (by rfl) (by intro wq _; go_simp <;> with_reducible rfl) (by assumption) ?_
        try simp only [Act.put, sA, sB, sC]
        refine takeQ (i := 16) (gt rfl) (by kernel_rfl) (fun _ _ _ h => h) (by rfl) (by intro wq hSw; have q0 := bat hSw k0; have q1 := bat hSw k1; have q2 := bat hSw k2; have q3 := bat hSw k3; have q4 := bat hSw k4; have q5 := bat hSw k5; have q6 := bat hSw g0; have q7 := bat hSw g1; have q8 := bat hSw g2; have q9 := bat hSw g3; have q10 := bat hSw h0; have q11 := bat hSw h1; have q12 := bat hSw h2; have q13 := bat hSw h3; go_simp <;> with_reducible rfl) (by assumption) ?_
        try simp only [Act.put, sA, sB, sC]
        refine takeQ (i := 17) (gt rfl) (by kernel_rfl) (fun _ _ _ h => h) (by rfl) (by intro wq hSw; have q0 := bat hSw k0; have q1 := bat hSw k1; have q2 := bat hSw k2; have q3 := bat hSw k3; have q4 := bat hSw k4; have q5 := bat hSw k5; have q6 := bat hSw g0; have q7 := bat hSw g1; have q8 := bat hSw g2; have q9 := bat hSw g3; have q10 := bat hSw h0; have q11 := bat hSw h1; have q12 := bat hSw h2; have q13 := bat hSw h3; go_simp <;> with_reducible rfl) (by assumption) ?_
        try simp only [Act.put, sA, sB, sC]
        refine takeQ (i := 18) (gt rfl) (by kernel_rfl) (fun _ _ _ h => h) (by rfl) (by intro wq hSw; have q0 := bat hSw k0; have q1 := bat hSw k1; have q2 := bat hSw k2; have q3 := bat hSw k3; have q4 := bat hSw k4; have q5 := bat hSw k5; have q6 := bat hSw g0; have q7 := bat hSw g1; have q8 := bat hSw g2; have q9 := bat hSw g3; have q10 := bat hSw h0; have q11 := bat hSw h1; have q12 := bat hSw h2; have q13 := bat hSw h3; go_simp <;> with_reducible rfl) (by assumption) ?_
        try simp only [Act.put, sA, sB, sC]
        refine takeQ (i := 19) (gt rfl) (by kernel_rfl) (fun _ _ _ h => h) (by rfl) (by intro wq hSw; have q0 := bat hSw k0; have q1 := bat hSw k1; have q2 := bat hSw k2; have q3 := bat hSw k3; have q4 := bat hSw k4; have q5 := bat hSw k5; have q6 := bat hSw g0; have q7 := bat hSw g1; have q8 := bat hSw g2; have q9 := bat hSw g3; have q10 := bat hSw h0; have q11 := bat hSw h1; have q12 := bat hSw h2; have q13 := bat hSw h3; go_simp <;> with_reducible rfl) (by assumption) ?_
        try simp only [Act.put, sA, sB, sC]
        refine wpAnyH_ready (rs := [20]) (by kernel_rfl) (by simp) (AllReadyH.cons (gt rfl) (fun K hK => ?_) AllReadyH.nil)
        go_simp
        refine (implGap x1 y1 x2 y2 x2 y2 _).mono ?_
        rintro e1 ww4 ⟨u, rfl, hI, hb⟩
        rw [Han.out, Had.out] at hI
        obtain ⟨qaa, qac, qaz, qaa', qac', qat, rfl, qao, qao', qan, qan', qav, qav', _⟩ := hI
        have qaK := gap_limbs qao.lim qan qav qao'.lim qan' qav' bG.out.2.1
        replace N := N.trans (hb.mono N.size)
        clear hb
        refine hK.out _ _ N (fun hHeld => ?_)
        clear hK K
        try simp only [Act.put, sA, sB, sC]
        refine wpAnyH_ready (rs := [21]) (by kernel_rfl) (by simp) (AllReadyH.cons (gt rfl) (fun K hK => ?_) AllReadyH.nil)
        go_simp
        have hcmp := cmpFrac_is gn gd an ad ga ga' qaa qaa' gc gc' qac qac' zs ts qaz qat _ (oz.toSees.below N) (ot.toSees.below N) qao.toSees qao'.toSees KG.out.1 KG.out.2 qaK.1 qaK.2 pG.out.1.2 pG.out.2.1.2
        rw [F1.out, F2.out] at hcmp
        refine hcmp.mono ?_
        clear hcmp
        rintro e1 ww5 ⟨rfl, hb⟩
        rw [C5.out]
        replace qao := qao.below hb
        replace qao' := qao'.below hb
        replace N := N.trans (hb.mono N.size)
        clear hb
        clear qao qao'
        refine hK.out _ _ N (fun hHeld => ?_)
        clear hK K
        try simp only [Act.put, sA, sB, sC]
        refine takeQ (i := 22) (gt rfl) (by kernel_rfl) (fun _ _ _ h => h) (by rfl) (by intro wq _; go_simp <;> with_reducible rfl) (by assumption) ?_
        try simp only [Act.put, sA, sB, sC]
        refine takeQ (i := 23) (gt rfl) (by kernel_rfl) (fun _ _ _ h => h) (by rfl) (by intro wq _; go_simp <;> with_reducible rfl) (by assumption) ?_
        try simp only [Act.put, sA, sB, sC]
        refine takeQ (i := 24) (gt rfl) (by kernel_rfl) (fun _ _ _ h => h) (by rfl) (by intro wq _; go_simp <;> with_reducible rfl) (by assumption) ?_
        try simp only [Act.put, sA, sB, sC]
        refine takeQ (i := 25) (gt rfl) (by kernel_rfl) (fun _ _ _ h => h) (by rfl) (by intro wq hSw; have q0 := bat hSw k0; have q1 := bat hSw k1; have q2 := bat hSw k2; have q3 := bat hSw k3; have q4 := bat hSw k4; have q5 := bat hSw k5; have q6 := bat hSw g0; have q7 := bat hSw g1; have q8 := bat hSw g2; have q9 := bat hSw g3; have q10 := bat hSw h0; have q11 := bat hSw h1; have q12 := bat hSw h2; have q13 := bat hSw h3; go_simp <;> with_reducible rfl) (by assumption) ?_
        try simp only [Act.put, sA, sB, sC]
        refine takeQ (i := 26) (gt rfl) (by kernel_rfl) (fun _ _ _ h => h) (by rfl) (by intro wq hSw; have q0 := bat hSw k0; have q1 := bat hSw k1; have q2 := bat hSw k2; have q3 := bat hSw k3; have q4 := bat hSw k4; have q5 := bat hSw k5; have q6 := bat hSw g0; have q7 := bat hSw g1; have q8 := bat hSw g2; have q9 := bat hSw g3; have q10 := bat hSw h0; have q11 := bat hSw h1; have q12 := bat hSw h2; have q13 := bat hSw h3; go_simp <;> with_reducible rfl) (by assumption) ?_
        try simp only [Act.put, sA, sB, sC]
        refine takeQ (i := 27) (gt rfl) (by kernel_rfl) (fun _ _ _ h => h) (by rfl) (by intro wq hSw; have q0 := bat hSw k0; have q1 := bat hSw k1; have q2 := bat hSw k2; have q3 := bat hSw k3; have q4 := bat hSw k4; have q5 := bat hSw k5; have q6 := bat hSw g0; have q7 := bat hSw g1; have q8 := bat hSw g2; have q9 := bat hSw g3; have q10 := bat hSw h0; have q11 := bat hSw h1; have q12 := bat hSw h2; have q13 := bat hSw h3; go_simp <;> with_reducible rfl) (by assumption) ?_
        try simp only [Act.put, sA, sB, sC]
        refine takeQ (i := 28) (gt rfl) (by kernel_rfl) (fun _ _ _ h => h) (by rfl) (by intro wq hSw; have q0 := bat hSw k0; have q1 := bat hSw k1; have q2 := bat hSw k2; have q3 := bat hSw k3; have q4 := bat hSw k4; have q5 := bat hSw k5; have q6 := bat hSw g0; have q7 := bat hSw g1; have q8 := bat hSw g2; have q9 := bat hSw g3; have q10 := bat hSw h0; have q11 := bat hSw h1; have q12 := bat hSw h2; have q13 := bat hSw h3; go_simp <;> with_reducible rfl) (by assumption) ?_
        try simp only [Act.put, sA, sB, sC]
        refine wpAnyH_ready (rs := [29]) (by kernel_rfl) (by simp) (AllReadyH.cons (gt rfl) (fun K hK => ?_) AllReadyH.nil)
        go_simp
        refine (implGap x1 y1 x3 y3 x3 y3 _).mono ?_
        rintro e1 ww6 ⟨u, rfl, hI, hb⟩
        rw [Hbn.out, Hbd.out] at hI
        obtain ⟨qba, qbc, qbz, qba', qbc', qbt, rfl, qbo, qbo', qbn, qbn', qbv, qbv', _⟩ := hI
        have qbK := gap_limbs qbo.lim qbn qbv qbo'.lim qbn' qbv' bG.out.2.2.1
        replace N := N.trans (hb.mono N.size)
        clear hb
        refine hK.out _ _ N (fun hHeld => ?_)
        clear hK K
        try simp only [Act.put, sA, sB, sC]
        refine wpAnyH_ready (rs := [30]) (by kernel_rfl) (by simp) (AllReadyH.cons (gt rfl) (fun K hK => ?_) AllReadyH.nil)
        go_simp
        have hcmp := cmpFrac_is gn gd bn bd ga ga' qba qba' gc gc' qbc qbc' zs ts qbz qbt _ (oz.toSees.below N) (ot.toSees.below N) qbo.toSees qbo'.toSees KG.out.1 KG.out.2 qbK.1 qbK.2 pG.out.1.2 pG.out.2.2.1.2
        rw [F1.out, F2.out] at hcmp
        refine hcmp.mono ?_
        clear hcmp
        rintro e1 ww7 ⟨rfl, hb⟩
        rw [C7.out]
        replace qbo := qbo.below hb
        replace qbo' := qbo'.below hb
        replace N := N.trans (hb.mono N.size)
        clear hb
        clear qbo qbo'
        refine hK.out _ _ N (fun hHeld => ?_)
        clear hK K
        try simp only [Act.put, sA, sB, sC]
        refine takeQ (i := 31) (gt rfl) (by kernel_rfl) (fun _ _ _ h => h) (by rfl) (by intro wq _; go_simp <;> with_reducible rfl) (by assumption) ?_
        try simp only [Act.put, sA, sB, sC]
        refine takeQ (i := 32) (gt rfl) (by kernel_rfl) (fun _ _ _ h => h) (by rfl) (by intro wq _; go_simp <;> with_reducible rfl) (by assumption) ?_
        try simp only [Act.put, sA, sB, sC]
        refine takeQ (i := 33) (gt rfl) (by kernel_rfl) (fun _ _ _ h => h) (by rfl) (by intro wq _; go_simp <;> with_reducible rfl) (by assumption) ?_
        try simp only [Act.put, sA, sB, sC]
        refine takeQ (i := 34) (gt rfl) (by kernel_rfl) (fun _ _ _ h => h) (by rfl) (by intro wq hSw; have q0 := bat hSw k0; have q1 := bat hSw k1; have q2 := bat hSw k2; have q3 := bat hSw k3; have q4 := bat hSw k4; have q5 := bat hSw k5; have q6 := bat hSw g0; have q7 := bat hSw g1; have q8 := bat hSw g2; have q9 := bat hSw g3; have q10 := bat hSw h0; have q11 := bat hSw h1; have q12 := bat hSw h2; have q13 := bat hSw h3; go_simp <;> with_reducible rfl) (by assumption) ?_
        try simp only [Act.put, sA, sB, sC]
        refine takeQ (i := 35) (gt rfl) (by kernel_rfl) (fun _ _ _ h => h) (by rfl) (by intro wq hSw; have q0 := bat hSw k0; have q1 := bat hSw k1; have q2 := bat hSw k2; have q3 := bat hSw k3; have q4 := bat hSw k4; have q5 := bat hSw k5; have q6 := bat hSw g0; have q7 := bat hSw g1; have q8 := bat hSw g2; have q9 := bat hSw g3; have q10 := bat hSw h0; have q11 := bat hSw h1; have q12 := bat hSw h2; have q13 := bat hSw h3; go_simp <;> with_reducible rfl) (by assumption) ?_
        try simp only [Act.put, sA, sB, sC]
        refine takeQ (i := 36) (gt rfl) (by kernel_rfl) (fun _ _ _ h => h) (by rfl) (by intro wq hSw; have q0 := bat hSw k0; have q1 := bat hSw k1; have q2 := bat hSw k2; have q3 := bat hSw k3; have q4 := bat hSw k4; have q5 := bat hSw k5; have q6 := bat hSw g0; have q7 := bat hSw g1; have q8 := bat hSw g2; have q9 := bat hSw g3; have q10 := bat hSw h0; have q11 := bat hSw h1; have q12 := bat hSw h2; have q13 := bat hSw h3; go_simp <;> with_reducible rfl) (by assumption) ?_
        try simp only [Act.put, sA, sB, sC]
        refine takeQ (i := 37) (gt rfl) (by kernel_rfl) (fun _ _ _ h => h) (by rfl) (by intro wq hSw; have q0 := bat hSw k0; have q1 := bat hSw k1; have q2 := bat hSw k2; have q3 := bat hSw k3; have q4 := bat hSw k4; have q5 := bat hSw k5; have q6 := bat hSw g0; have q7 := bat hSw g1; have q8 := bat hSw g2; have q9 := bat hSw g3; have q10 := bat hSw h0; have q11 := bat hSw h1; have q12 := bat hSw h2; have q13 := bat hSw h3; go_simp <;> with_reducible rfl) (by assumption) ?_
        try simp only [Act.put, sA, sB, sC]
        refine wpAnyH_ready (rs := [38]) (by kernel_rfl) (by simp) (AllReadyH.cons (gt rfl) (fun K hK => ?_) AllReadyH.nil)
        go_simp
        refine (implGap x1 y1 x3 y3 x2 y2 _).mono ?_
        rintro e1 ww8 ⟨u, rfl, hI, hb⟩
        rw [Hon.out, Hod.out] at hI
        obtain ⟨qoa, qoc, qoz, qoa', qoc', qot, rfl, qoo, qoo', qon, qon', qov, qov', _⟩ := hI
        have qoK := gap_limbs qoo.lim qon qov qoo'.lim qon' qov' bG.out.2.2.2
        replace N := N.trans (hb.mono N.size)
        clear hb
        refine hK.out _ _ N (fun hHeld => ?_)
        clear hK K
        try simp only [Act.put, sA, sB, sC]
        refine wpAnyH_ready (rs := [39]) (by kernel_rfl) (by simp) (AllReadyH.cons (gt rfl) (fun K hK => ?_) AllReadyH.nil)
        go_simp
        have hcmp := cmpFrac_is gn gd on od ga ga' qoa qoa' gc gc' qoc qoc' zs ts qoz qot _ (oz.toSees.below N) (ot.toSees.below N) qoo.toSees qoo'.toSees KG.out.1 KG.out.2 qoK.1 qoK.2 pG.out.1.2 pG.out.2.2.2.2
        rw [F1.out, F2.out] at hcmp
        refine hcmp.mono ?_
        clear hcmp
        rintro e1 ww9 ⟨rfl, hb⟩
        rw [L9.out]
        replace qoo := qoo.below hb
        replace qoo' := qoo'.below hb
        replace N := N.trans (hb.mono N.size)
        clear hb
        clear qoo qoo'
        refine hK.out _ _ N (fun hHeld => ?_)
        clear hK K
        try simp only [Act.put, sA, sB, sC]
        refine takeQ (i := 40) (gt rfl) (by kernel_rfl) (fun _ _ _ h => h) (by rfl) (by intro wq _; go_simp <;> with_reducible rfl) (by assumption) ?_
        try simp only [Act.put, sA, sB, sC]
        refine takeQ (i := 41) (gt rfl) (by kernel_rfl) (fun _ _ _ h => h) (by rfl) (by intro wq _; go_simp <;> with_reducible rfl) (by assumption) ?_
        try simp only [Act.put, sA, sB, sC]
        refine takeQ (i := 42) (gt rfl) (by kernel_rfl) (fun _ _ _ h => h) (by rfl) (by intro wq _; go_simp <;> with_reducible rfl) (by assumption) ?_
        try simp only [Act.put, sA, sB, sC]
        refine wpAnyH_done (by kernel_rfl) ?_ _
        go_wp2
        go_ret
        exact ⟨rfl, B.trans (N.mono B.size)⟩
    · as_aux_lemma =>
        have C1 : Hid (cmpZ (gn * 1) (0 * gd) = 1) := cmpZ_gt (by have := pG.out.1.1; omega)
        have C2 : Hid (onB (tX x2 y2) (tY x2 y2) (tX x3 y3) (tY x3 y3) (tX x1 y1) (tY x1 y1) = false) := by
          show _ = _
          cases hq : onB (tX x2 y2) (tY x2 y2) (tX x3 y3) (tY x3 y3) (tX x1 y1) (tY x1 y1)
          · rfl
          · exact absurd (ON1.out.2 hq) hz
        clear hz ON1
        refine wp_region_held_drew (S := Below W3.heap.size W3) (by kernel_rfl) ((Below.refl _ _).drew) (fun hHeld => ?_)
        have N : Below W3.heap.size W3 W3.drew := hHeld
        revert hHeld N
        generalize W3.drew = ww0
        intro hHeld N
        refine takeQ (i := 0) (gt rfl) (by kernel_rfl) (fun _ _ _ h => h) (by rfl) (by intro wq hSw; have q0 := bat hSw k0; have q1 := bat hSw k1; have q2 := bat hSw k2; have q3 := bat hSw k3; have q4 := bat hSw k4; have q5 := bat hSw k5; have q6 := bat hSw g0; have q7 := bat hSw g1; have q8 := bat hSw g2; have q9 := bat hSw g3; have q10 := bat hSw h0; have q11 := bat hSw h1; have q12 := bat hSw h2; have q13 := bat hSw h3; go_simp <;> with_reducible rfl) (by assumption) ?_
        try simp only [Act.put, sA, sB, sC]
        refine takeQ (i := 1) (gt rfl) (by kernel_rfl) (fun _ _ _ h => h) (by rfl) (by intro wq hSw; have q0 := bat hSw k0; have q1 := bat hSw k1; have q2 := bat hSw k2; have q3 := bat hSw k3; have q4 := bat hSw k4; have q5 := bat hSw k5; have q6 := bat hSw g0; have q7 := bat hSw g1; have q8 := bat hSw g2; have q9 := bat hSw g3; have q10 := bat hSw h0; have q11 := bat hSw h1; have q12 := bat hSw h2; have q13 := bat hSw h3; go_simp <;> with_reducible rfl) (by assumption) ?_
        try simp only [Act.put, sA, sB, sC]
        refine takeQ (i := 4) (gt rfl) (by kernel_rfl) (fun _ _ _ h => h) (by rfl) (by intro wq hSw; have q0 := bat hSw k0; have q1 := bat hSw k1; have q2 := bat hSw k2; have q3 := bat hSw k3; have q4 := bat hSw k4; have q5 := bat hSw k5; have q6 := bat hSw g0; have q7 := bat hSw g1; have q8 := bat hSw g2; have q9 := bat hSw g3; have q10 := bat hSw h0; have q11 := bat hSw h1; have q12 := bat hSw h2; have q13 := bat hSw h3; go_simp <;> with_reducible rfl) (by assumption) ?_
        try simp only [Act.put, sA, sB, sC]
        refine takeQ (i := 5) (gt rfl) (by kernel_rfl) (fun _ _ _ h => h) (by rfl) (by intro wq hSw; have q0 := bat hSw k0; have q1 := bat hSw k1; have q2 := bat hSw k2; have q3 := bat hSw k3; have q4 := bat hSw k4; have q5 := bat hSw k5; have q6 := bat hSw g0; have q7 := bat hSw g1; have q8 := bat hSw g2; have q9 := bat hSw g3; have q10 := bat hSw h0; have q11 := bat hSw h1; have q12 := bat hSw h2; have q13 := bat hSw h3; go_simp <;> with_reducible rfl) (by assumption) ?_
        try simp only [Act.put, sA, sB, sC]
        refine takeQ (i := 6) (gt rfl) (by kernel_rfl) (fun _ _ _ h => h) (by rfl) (by intro wq hSw; have q0 := bat hSw k0; have q1 := bat hSw k1; have q2 := bat hSw k2; have q3 := bat hSw k3; have q4 := bat hSw k4; have q5 := bat hSw k5; have q6 := bat hSw g0; have q7 := bat hSw g1; have q8 := bat hSw g2; have q9 := bat hSw g3; have q10 := bat hSw h0; have q11 := bat hSw h1; have q12 := bat hSw h2; have q13 := bat hSw h3; go_simp <;> with_reducible rfl) (by assumption) ?_
        try simp only [Act.put, sA, sB, sC]
        refine wpAnyH_ready (rs := [2]) (by kernel_rfl) (by simp) (AllReadyH.cons (gt rfl) (fun K hK => ?_) AllReadyH.nil)
        go_simp
        have hcmp := cmpFrac_is gn gd 0 1 ga ga' na na' gc gc' nc nc' zs ts z0 t0 _ (oz.toSees.below N) (ot.toSees.below N) (oz0.toSees.below N) (ot0.toSees.below N) KG.out.1 KG.out.2 KZ.out.1 KZ.out.2 pG.out.1.2 (by decide)
        rw [F1.out, F2.out, F3.out, F4.out] at hcmp
        refine hcmp.mono ?_
        clear hcmp
        rintro e1 ww1 ⟨rfl, hb⟩
        rw [C1.out]
        replace N := N.trans (hb.mono N.size)
        clear hb
        refine hK.out _ _ N (fun hHeld => ?_)
        clear hK K
        try simp only [Act.put, sA, sB, sC]
        refine takeQ (i := 3) (gt rfl) (by kernel_rfl) (fun _ _ _ h => h) (by rfl) (by intro wq _; go_simp <;> with_reducible rfl) (by assumption) ?_
        try simp only [Act.put, sA, sB, sC]
        refine wpAnyH_ready (rs := [7]) (by kernel_rfl) (by simp) (AllReadyH.cons (gt rfl) (fun K hK => ?_) AllReadyH.nil)
        go_simp
        refine (implOnSeg x2 y2 x3 y3 x1 y1 _).mono ?_
        rintro e1 ww2 ⟨rfl, hb⟩
        rw [C2.out]
        replace N := N.trans (hb.mono N.size)
        clear hb
        refine hK.out _ _ N (fun hHeld => ?_)
        clear hK K
        try simp only [Act.put, sA, sB, sC]
        refine takeQ (i := 8) (gt rfl) (by kernel_rfl) (fun _ _ _ h => h) (by rfl) (by intro wq _; go_simp <;> with_reducible rfl) (by assumption) ?_
        try simp only [Act.put, sA, sB, sC]
        refine takeQ (i := 9) (gt rfl) (by kernel_rfl) (fun _ _ _ h => h) (by rfl) (by intro wq _; go_simp <;> with_reducible rfl) (by assumption) ?_
        try simp only [Act.put, sA, sB, sC]
        refine takeQ (i := 10) (gt rfl) (by kernel_rfl) (fun _ _ _ h => h) (by rfl) (by intro wq hSw; have q0 := bat hSw k0; have q1 := bat hSw k1; have q2 := bat hSw k2; have q3 := bat hSw k3; have q4 := bat hSw k4; have q5 := bat hSw k5; have q6 := bat hSw g0; have q7 := bat hSw g1; have q8 := bat hSw g2; have q9 := bat hSw g3; have q10 := bat hSw h0; have q11 := bat hSw h1; have q12 := bat hSw h2; have q13 := bat hSw h3; go_simp <;> with_reducible rfl) (by assumption) ?_
        try simp only [Act.put, sA, sB, sC]
        refine takeQ (i := 11) (gt rfl) (by kernel_rfl) (fun _ _ _ h => h) (by rfl) (by intro wq hSw; have q0 := bat hSw k0; have q1 := bat hSw k1; have q2 := bat hSw k2; have q3 := bat hSw k3; have q4 := bat hSw k4; have q5 := bat hSw k5; have q6 := bat hSw g0; have q7 := bat hSw g1; have q8 := bat hSw g2; have q9 := bat hSw g3; have q10 := bat hSw h0; have q11 := bat hSw h1; have q12 := bat hSw h2; have q13 := bat hSw h3; go_simp <;> with_reducible rfl) (by assumption) ?_
        try simp only [Act.put, sA, sB, sC]
        refine wpAnyH_ready (rs := [12]) (by kernel_rfl) (by simp) (AllReadyH.cons (gt rfl) (fun K hK => ?_) AllReadyH.nil)
        go_simp
        have hcmp := cmpFrac_is gn gd 0 1 ga ga' na na' gc gc' nc nc' zs ts z0 t0 _ (oz.toSees.below N) (ot.toSees.below N) (oz0.toSees.below N) (ot0.toSees.below N) KG.out.1 KG.out.2 KZ.out.1 KZ.out.2 pG.out.1.2 (by decide)
        rw [F1.out, F2.out, F3.out, F4.out] at hcmp
        refine hcmp.mono ?_
        clear hcmp
        rintro e1 ww3 ⟨rfl, hb⟩
        rw [C1.out]
        replace N := N.trans (hb.mono N.size)
        clear hb
        refine hK.out _ _ N (fun hHeld => ?_)
        clear hK K
        try simp only [Act.put, sA, sB, sC]
        refine takeQ (i := 13) (gt rfl) (by kernel_rfl) (fun _ _ _ h => h) (by rfl) (by intro wq _; go_simp <;> with_reducible rfl) (by assumption) ?_
        try simp only [Act.put, sA, sB, sC]
        refine takeQ (i := 14) (gt rfl) (by kernel_rfl) (fun _ _ _ h => h) (by rfl) (by intro wq _; go_simp <;> with_reducible rfl) (by assumption) ?_
        try simp only [Act.put, sA, sB, sC]
        refine takeQ (i := 15) (gt rfl) (by kernel_rfl) (fun _ _ _ h => h) (by rfl) (by intro wq _; go_simp <;> with_reducible rfl) (by assumption) ?_
        try simp only [Act.put, sA, sB, sC]
        refine takeQ (i := 16) (gt rfl) (by kernel_rfl) (fun _ _ _ h => h) (by rfl) (by intro wq hSw; have q0 := bat hSw k0; have q1 := bat hSw k1; have q2 := bat hSw k2; have q3 := bat hSw k3; have q4 := bat hSw k4; have q5 := bat hSw k5; have q6 := bat hSw g0; have q7 := bat hSw g1; have q8 := bat hSw g2; have q9 := bat hSw g3; have q10 := bat hSw h0; have q11 := bat hSw h1; have q12 := bat hSw h2; have q13 := bat hSw h3; go_simp <;> with_reducible rfl) (by assumption) ?_
        try simp only [Act.put, sA, sB, sC]
        refine takeQ (i := 17) (gt rfl) (by kernel_rfl) (fun _ _ _ h => h) (by rfl) (by intro wq hSw; have q0 := bat hSw k0; have q1 := bat hSw k1; have q2 := bat hSw k2; have q3 := bat hSw k3; have q4 := bat hSw k4; have q5 := bat hSw k5; have q6 := bat hSw g0; have q7 := bat hSw g1; have q8 := bat hSw g2; have q9 := bat hSw g3; have q10 := bat hSw h0; have q11 := bat hSw h1; have q12 := bat hSw h2; have q13 := bat hSw h3; go_simp <;> with_reducible rfl) (by assumption) ?_
        try simp only [Act.put, sA, sB, sC]
        refine takeQ (i := 18) (gt rfl) (by kernel_rfl) (fun _ _ _ h => h) (by rfl) (by intro wq hSw; have q0 := bat hSw k0; have q1 := bat hSw k1; have q2 := bat hSw k2; have q3 := bat hSw k3; have q4 := bat hSw k4; have q5 := bat hSw k5; have q6 := bat hSw g0; have q7 := bat hSw g1; have q8 := bat hSw g2; have q9 := bat hSw g3; have q10 := bat hSw h0; have q11 := bat hSw h1; have q12 := bat hSw h2; have q13 := bat hSw h3; go_simp <;> with_reducible rfl) (by assumption) ?_
        try simp only [Act.put, sA, sB, sC]
        refine takeQ (i := 19) (gt rfl) (by kernel_rfl) (fun _ _ _ h => h) (by rfl) (by intro wq hSw; have q0 := bat hSw k0; have q1 := bat hSw k1; have q2 := bat hSw k2; have q3 := bat hSw k3; have q4 := bat hSw k4; have q5 := bat hSw k5; have q6 := bat hSw g0; have q7 := bat hSw g1; have q8 := bat hSw g2; have q9 := bat hSw g3; have q10 := bat hSw h0; have q11 := bat hSw h1; have q12 := bat hSw h2; have q13 := bat hSw h3; go_simp <;> with_reducible rfl) (by assumption) ?_
        try simp only [Act.put, sA, sB, sC]
        refine wpAnyH_ready (rs := [20]) (by kernel_rfl) (by simp) (AllReadyH.cons (gt rfl) (fun K hK => ?_) AllReadyH.nil)
        go_simp
        refine (implGap x1 y1 x2 y2 x2 y2 _).mono ?_
        rintro e1 ww4 ⟨u, rfl, hI, hb⟩
        rw [Han.out, Had.out] at hI
        obtain ⟨qaa, qac, qaz, qaa', qac', qat, rfl, qao, qao', qan, qan', qav, qav', _⟩ := hI
        have qaK := gap_limbs qao.lim qan qav qao'.lim qan' qav' bG.out.2.1
        replace N := N.trans (hb.mono N.size)
        clear hb
        refine hK.out _ _ N (fun hHeld => ?_)
        clear hK K
        try simp only [Act.put, sA, sB, sC]
        refine wpAnyH_ready (rs := [21]) (by kernel_rfl) (by simp) (AllReadyH.cons (gt rfl) (fun K hK => ?_) AllReadyH.nil)
        go_simp
        have hcmp := cmpFrac_is gn gd an ad ga ga' qaa qaa' gc gc' qac qac' zs ts qaz qat _ (oz.toSees.below N) (ot.toSees.below N) qao.toSees qao'.toSees KG.out.1 KG.out.2 qaK.1 qaK.2 pG.out.1.2 pG.out.2.1.2
        rw [F1.out, F2.out] at hcmp
        refine hcmp.mono ?_
        clear hcmp
        rintro e1 ww5 ⟨rfl, hb⟩
        rw [C5.out]
        replace qao := qao.below hb
        replace qao' := qao'.below hb
        replace N := N.trans (hb.mono N.size)
        clear hb
        clear qao qao'
        refine hK.out _ _ N (fun hHeld => ?_)
        clear hK K
        try simp only [Act.put, sA, sB, sC]
        refine takeQ (i := 22) (gt rfl) (by kernel_rfl) (fun _ _ _ h => h) (by rfl) (by intro wq _; go_simp <;> with_reducible rfl) (by assumption) ?_
        try simp only [Act.put, sA, sB, sC]
        refine takeQ (i := 23) (gt rfl) (by kernel_rfl) (fun _ _ _ h => h) (by rfl) (by intro wq _; go_simp <;> with_reducible rfl) (by assumption) ?_
        try simp only [Act.put, sA, sB, sC]
        refine takeQ (i := 24) (gt rfl) (by kernel_rfl) (fun _ _ _ h => h) (by rfl) (by intro wq _; go_simp <;> with_reducible rfl) (by assumption) ?_
        try simp only [Act.put, sA, sB, sC]
        refine takeQ (i := 25) (gt rfl) (by kernel_rfl) (fun _ _ _ h => h) (by rfl) (by intro wq hSw; have q0 := bat hSw k0; have q1 := bat hSw k1; have q2 := bat hSw k2; have q3 := bat hSw k3; have q4 := bat hSw k4; have q5 := bat hSw k5; have q6 := bat hSw g0; have q7 := bat hSw g1; have q8 := bat hSw g2; have q9 := bat hSw g3; have q10 := bat hSw h0; have q11 := bat hSw h1; have q12 := bat hSw h2; have q13 := bat hSw h3; go_simp <;> with_reducible rfl) (by assumption) ?_
        try simp only [Act.put, sA, sB, sC]
        refine takeQ (i := 26) (gt rfl) (by kernel_rfl) (fun _ _ _ h => h) (by rfl) (by intro wq hSw; have q0 := bat hSw k0; have q1 := bat hSw k1; have q2 := bat hSw k2; have q3 := bat hSw k3; have q4 := bat hSw k4; have q5 := bat hSw k5; have q6 := bat hSw g0; have q7 := bat hSw g1; have q8 := bat hSw g2; have q9 := bat hSw g3; have q10 := bat hSw h0; have q11 := bat hSw h1; have q12 := bat hSw h2; have q13 := bat hSw h3; go_simp <;> with_reducible rfl) (by assumption) ?_
        try simp only [Act.put, sA, sB, sC]
        refine takeQ (i := 27) (gt rfl) (by kernel_rfl) (fun _ _ _ h => h) (by rfl) (by intro wq hSw; have q0 := bat hSw k0; have q1 := bat hSw k1; have q2 := bat hSw k2; have q3 := bat hSw k3; have q4 := bat hSw k4; have q5 := bat hSw k5; have q6 := bat hSw g0; have q7 := bat hSw g1; have q8 := bat hSw g2; have q9 := bat hSw g3; have q10 := bat hSw h0; have q11 := bat hSw h1; have q12 := bat hSw h2; have q13 := bat hSw h3; go_simp <;> with_reducible rfl) (by assumption) ?_
        try simp only [Act.put, sA, sB, sC]
        refine takeQ (i := 28) (gt rfl) (by kernel_rfl) (fun _ _ _ h => h) (by rfl) (by intro wq hSw; have q0 := bat hSw k0; have q1 := bat hSw k1; have q2 := bat hSw k2; have q3 := bat hSw k3; have q4 := bat hSw k4; have q5 := bat hSw k5; have q6 := bat hSw g0; have q7 := bat hSw g1; have q8 := bat hSw g2; have q9 := bat hSw g3; have q10 := bat hSw h0; have q11 := bat hSw h1; have q12 := bat hSw h2; have q13 := bat hSw h3; go_simp <;> with_reducible rfl) (by assumption) ?_
        try simp only [Act.put, sA, sB, sC]
        refine wpAnyH_ready (rs := [29]) (by kernel_rfl) (by simp) (AllReadyH.cons (gt rfl) (fun K hK => ?_) AllReadyH.nil)
        go_simp
        refine (implGap x1 y1 x3 y3 x3 y3 _).mono ?_
        rintro e1 ww6 ⟨u, rfl, hI, hb⟩
        rw [Hbn.out, Hbd.out] at hI
        obtain ⟨qba, qbc, qbz, qba', qbc', qbt, rfl, qbo, qbo', qbn, qbn', qbv, qbv', _⟩ := hI
        have qbK := gap_limbs qbo.lim qbn qbv qbo'.lim qbn' qbv' bG.out.2.2.1
        replace N := N.trans (hb.mono N.size)
        clear hb
        refine hK.out _ _ N (fun hHeld => ?_)
        clear hK K
        try simp only [Act.put, sA, sB, sC]
        refine wpAnyH_ready (rs := [30]) (by kernel_rfl) (by simp) (AllReadyH.cons (gt rfl) (fun K hK => ?_) AllReadyH.nil)
        go_simp
        have hcmp := cmpFrac_is gn gd bn bd ga ga' qba qba' gc gc' qbc qbc' zs ts qbz qbt _ (oz.toSees.below N) (ot.toSees.below N) qbo.toSees qbo'.toSees KG.out.1 KG.out.2 qbK.1 qbK.2 pG.out.1.2 pG.out.2.2.1.2
        rw [F1.out, F2.out] at hcmp
        refine hcmp.mono ?_
        clear hcmp
        rintro e1 ww7 ⟨rfl, hb⟩
        rw [C7.out]
        replace qbo := qbo.below hb
        replace qbo' := qbo'.below hb
        replace N := N.trans (hb.mono N.size)
        clear hb
        clear qbo qbo'
        refine hK.out _ _ N (fun hHeld => ?_)
        clear hK K
        try simp only [Act.put, sA, sB, sC]
        refine takeQ (i := 31) (gt rfl) (by kernel_rfl) (fun _ _ _ h => h) (by rfl) (by intro wq _; go_simp <;> with_reducible rfl) (by assumption) ?_
        try simp only [Act.put, sA, sB, sC]
        refine takeQ (i := 32) (gt rfl) (by kernel_rfl) (fun _ _ _ h => h) (by rfl) (by intro wq _; go_simp <;> with_reducible rfl) (by assumption) ?_
        try simp only [Act.put, sA, sB, sC]
        refine takeQ (i := 33) (gt rfl) (by kernel_rfl) (fun _ _ _ h => h) (by rfl) (by intro wq _; go_simp <;> with_reducible rfl) (by assumption) ?_
        try simp only [Act.put, sA, sB, sC]
        refine takeQ (i := 34) (gt rfl) (by kernel_rfl) (fun _ _ _ h => h) (by rfl) (by intro wq hSw; have q0 := bat hSw k0; have q1 := bat hSw k1; have q2 := bat hSw k2; have q3 := bat hSw k3; have q4 := bat hSw k4; have q5 := bat hSw k5; have q6 := bat hSw g0; have q7 := bat hSw g1; have q8 := bat hSw g2; have q9 := bat hSw g3; have q10 := bat hSw h0; have q11 := bat hSw h1; have q12 := bat hSw h2; have q13 := bat hSw h3; go_simp <;> with_reducible rfl) (by assumption) ?_
        try simp only [Act.put, sA, sB, sC]
        refine takeQ (i := 35) (gt rfl) (by kernel_rfl) (fun _ _ _ h => h) (by rfl) (by intro wq hSw; have q0 := bat hSw k0; have q1 := bat hSw k1; have q2 := bat hSw k2; have q3 := bat hSw k3; have q4 := bat hSw k4; have q5 := bat hSw k5; have q6 := bat hSw g0; have q7 := bat hSw g1; have q8 := bat hSw g2; have q9 := bat hSw g3; have q10 := bat hSw h0; have q11 := bat hSw h1; have q12 := bat hSw h2; have q13 := bat hSw h3; go_simp <;> with_reducible rfl) (by assumption) ?_
        try simp only [Act.put, sA, sB, sC]
        refine takeQ (i := 36) (gt rfl) (by kernel_rfl) (fun _ _ _ h => h) (by rfl) (by intro wq hSw; have q0 := bat hSw k0; have q1 := bat hSw k1; have q2 := bat hSw k2; have q3 := bat hSw k3; have q4 := bat hSw k4; have q5 := bat hSw k5; have q6 := bat hSw g0; have q7 := bat hSw g1; have q8 := bat hSw g2; have q9 := bat hSw g3; have q10 := bat hSw h0; have q11 := bat hSw h1; have q12 := bat hSw h2; have q13 := bat hSw h3; go_simp <;> with_reducible rfl) (by assumption) ?_
        try simp only [Act.put, sA, sB, sC]
        refine takeQ (i := 37) (gt rfl) (by kernel_rfl) (fun _ _ _ h => h) (by rfl) (by intro wq hSw; have q0 := bat hSw k0; have q1 := bat hSw k1; have q2 := bat hSw k2; have q3 := bat hSw k3; have q4 := bat hSw k4; have q5 := bat hSw k5; have q6 := bat hSw g0; have q7 := bat hSw g1; have q8 := bat hSw g2; have q9 := bat hSw g3; have q10 := bat hSw h0; have q11 := bat hSw h1; have q12 := bat hSw h2; have q13 := bat hSw h3; go_simp <;> with_reducible rfl) (by assumption) ?_
        try simp only [Act.put, sA, sB, sC]
        refine wpAnyH_ready (rs := [38]) (by kernel_rfl) (by simp) (AllReadyH.cons (gt rfl) (fun K hK => ?_) AllReadyH.nil)
        go_simp
        refine (implGap x1 y1 x3 y3 x2 y2 _).mono ?_
        rintro e1 ww8 ⟨u, rfl, hI, hb⟩
        rw [Hon.out, Hod.out] at hI
        obtain ⟨qoa, qoc, qoz, qoa', qoc', qot, rfl, qoo, qoo', qon, qon', qov, qov', _⟩ := hI
        have qoK := gap_limbs qoo.lim qon qov qoo'.lim qon' qov' bG.out.2.2.2
        replace N := N.trans (hb.mono N.size)
        clear hb
        refine hK.out _ _ N (fun hHeld => ?_)
        clear hK K
        try simp only [Act.put, sA, sB, sC]
        refine wpAnyH_ready (rs := [39]) (by kernel_rfl) (by simp) (AllReadyH.cons (gt rfl) (fun K hK => ?_) AllReadyH.nil)
        go_simp
        have hcmp := cmpFrac_is gn gd on od ga ga' qoa qoa' gc gc' qoc qoc' zs ts qoz qot _ (oz.toSees.below N) (ot.toSees.below N) qoo.toSees qoo'.toSees KG.out.1 KG.out.2 qoK.1 qoK.2 pG.out.1.2 pG.out.2.2.2.2
        rw [F1.out, F2.out] at hcmp
        refine hcmp.mono ?_
        clear hcmp
        rintro e1 ww9 ⟨rfl, hb⟩
        rw [L9.out]
        replace qoo := qoo.below hb
        replace qoo' := qoo'.below hb
        replace N := N.trans (hb.mono N.size)
        clear hb
        clear qoo qoo'
        refine hK.out _ _ N (fun hHeld => ?_)
        clear hK K
        try simp only [Act.put, sA, sB, sC]
        refine takeQ (i := 40) (gt rfl) (by kernel_rfl) (fun _ _ _ h => h) (by rfl) (by intro wq _; go_simp <;> with_reducible rfl) (by assumption) ?_
        try simp only [Act.put, sA, sB, sC]
        refine takeQ (i := 41) (gt rfl) (by kernel_rfl) (fun _ _ _ h => h) (by rfl) (by intro wq _; go_simp <;> with_reducible rfl) (by assumption) ?_
        try simp only [Act.put, sA, sB, sC]
        refine takeQ (i := 42) (gt rfl) (by kernel_rfl) (fun _ _ _ h => h) (by rfl) (by intro wq _; go_simp <;> with_reducible rfl) (by assumption) ?_
        try simp only [Act.put, sA, sB, sC]
        refine wpAnyH_done (by kernel_rfl) ?_ _
        go_wp2
        go_ret
        exact ⟨rfl, B.trans (N.mono B.size)⟩
  · have hd : decide (1048576 < (n : Int)) = true := decide_eq_true (by omega)
    go_enter Try.func4, Try.ntmps4
    go_wp2_with fail
    refine (big_any a n cap _).mono ?_
    rintro e w0 ⟨rfl, rfl⟩
    rw [hd]
    go_wp2
    go_ret
    exact ⟨rfl, Below.refl _ _⟩
end Go.Proofs.Ytmdbndooigcflaa
