/- Four points that are drawn. -/
import Derived.Test.YtmdbndooigcflaaCurP
import Derived.Test.YtmdbndooigcflaaHeld
import Derived.Test.YtmdbndooigcflaaPtW
import Derived.Test.YtmdbndooigcflaaKeep2
import Derived.Deep.DeepCutAuto
namespace Go.Proofs.Ytmdbndooigcflaa
open Go.RowKit

theorem zboxes (w : World) : Box2 w.heap.size ((((w.alloc (.cells #[.int .i64 0, .int .i64 0] 30)).alloc (.cells #[.int .i64 0, .int .i64 0] 30)).alloc (.cells #[.int .i64 0, .int .i64 0] 30)).alloc (.cells #[.int .i64 0, .int .i64 0] 30)) (w.heap.size) (.int .i64 0) (.int .i64 0) ∧ Box2 w.heap.size ((((w.alloc (.cells #[.int .i64 0, .int .i64 0] 30)).alloc (.cells #[.int .i64 0, .int .i64 0] 30)).alloc (.cells #[.int .i64 0, .int .i64 0] 30)).alloc (.cells #[.int .i64 0, .int .i64 0] 30)) (w.heap.size + 1) (.int .i64 0) (.int .i64 0) ∧ Box2 w.heap.size ((((w.alloc (.cells #[.int .i64 0, .int .i64 0] 30)).alloc (.cells #[.int .i64 0, .int .i64 0] 30)).alloc (.cells #[.int .i64 0, .int .i64 0] 30)).alloc (.cells #[.int .i64 0, .int .i64 0] 30)) (w.heap.size + 1 + 1) (.int .i64 0) (.int .i64 0) ∧ Box2 w.heap.size ((((w.alloc (.cells #[.int .i64 0, .int .i64 0] 30)).alloc (.cells #[.int .i64 0, .int .i64 0] 30)).alloc (.cells #[.int .i64 0, .int .i64 0] 30)).alloc (.cells #[.int .i64 0, .int .i64 0] 30)) (w.heap.size + 1 + 1 + 1) (.int .i64 0) (.int .i64 0) := by
  refine ⟨?_, ?_, ?_, ?_⟩
  · exact (((Box2.new w (Nat.le_refl _) (.int .i64 0) (.int .i64 0) 30).below (below1 _ _)).below (below1 _ _)).below (below1 _ _)
  · have this : Box2 w.heap.size ((((w.alloc (.cells #[.int .i64 0, .int .i64 0] 30)).alloc (.cells #[.int .i64 0, .int .i64 0] 30)).alloc (.cells #[.int .i64 0, .int .i64 0] 30)).alloc (.cells #[.int .i64 0, .int .i64 0] 30)) (w.alloc (.cells #[.int .i64 0, .int .i64 0] 30)).heap.size (.int .i64 0) (.int .i64 0) := ((Box2.new (w.alloc (.cells #[.int .i64 0, .int .i64 0] 30)) (lo := w.heap.size) (by simp) (.int .i64 0) (.int .i64 0) 30).below (below1 _ _)).below (below1 _ _)
    rwa [World.size_alloc] at this
  · have this : Box2 w.heap.size ((((w.alloc (.cells #[.int .i64 0, .int .i64 0] 30)).alloc (.cells #[.int .i64 0, .int .i64 0] 30)).alloc (.cells #[.int .i64 0, .int .i64 0] 30)).alloc (.cells #[.int .i64 0, .int .i64 0] 30)) ((w.alloc (.cells #[.int .i64 0, .int .i64 0] 30)).alloc (.cells #[.int .i64 0, .int .i64 0] 30)).heap.size (.int .i64 0) (.int .i64 0) := (Box2.new ((w.alloc (.cells #[.int .i64 0, .int .i64 0] 30)).alloc (.cells #[.int .i64 0, .int .i64 0] 30)) (lo := w.heap.size) (by simp; omega) (.int .i64 0) (.int .i64 0) 30).below (below1 _ _)
    rwa [World.size_alloc, World.size_alloc] at this
  · have this := Box2.new (((w.alloc (.cells #[.int .i64 0, .int .i64 0] 30)).alloc (.cells #[.int .i64 0, .int .i64 0] 30)).alloc (.cells #[.int .i64 0, .int .i64 0] 30)) (lo := w.heap.size) (by simp; omega) (.int .i64 0) (.int .i64 0) 30
    rwa [World.size_alloc, World.size_alloc, World.size_alloc] at this
theorem Cur.put2 {w : World} {p n cap q : Nat} {a : Option Addr} (h : Cur w p a n cap) (hq : q ≠ p) (hb : ∀ b off, a = some ⟨b, off, none⟩ → 0 < n → b ≠ q) (u0 u1 : Value) : Cur ((w.setCell ⟨q, 0, none⟩ u0).setCell ⟨q, 1, none⟩ u1) p a n cap := (h.put hq hb 0 u0).put hq hb 1 u1
theorem grown_of_below {w w' : World} {row : Option Nat} (h : Below w.heap.size w w') : w.grownBy w' row := by
  obtain ⟨h1, h2, h3, h4, h5⟩ := h
  exact ⟨h1, h2, h3, h4, fun i hi _ => h5 i hi⟩
theorem grown_put2 {w w1 : World} {row : Option Nat} (h : w.grownBy w1 row) {q : Nat} (hq : w.heap.size ≤ q) (u0 u1 : Value) : w.grownBy ((w1.setCell ⟨q, 0, none⟩ u0).setCell ⟨q, 1, none⟩ u1) row := grown_new (grown_new h hq 0 u0) hq 1 u1

set_option maxRecDepth 20000 in
set_option maxHeartbeats 8000000 in
theorem l3Four_any (p : Nat) (a : Option Addr) (n cap : Nat) (w : World) (h : Cur w p a n cap) :
    Calls Try.prog 25 #[.pointer (some ⟨p, 0, none⟩)] w fun e w' => ∃ x1 y1 x2 y2 x3 y3 x4 y4 : Int, e = .returned (.tuple #[.agg #[.int .i64 x1, .int .i64 y1], .agg #[.int .i64 x2, .int .i64 y2], .agg #[.int .i64 x3, .int .i64 y3], .agg #[.int .i64 x4, .int .i64 y4]]) ∧ Cur w' p a n cap ∧ w.grownBy w' (some p) := by
  have hp : p < w.heap.size := h.lt
  have HA : Hid (∀ q, w.heap.size ≤ q → ∀ b off, a = some ⟨b, off, none⟩ → 0 < n → b ≠ q) := by
    intro q hq b off ea hn
    obtain ⟨b', off', ea', y, _, _, hc⟩ := h.byt 0 hn
    have hl : b' < w.heap.size := World.block_lt_of_cell? _ _ hc
    rw [ea] at ea'
    simp only [Option.some.injEq, Addr.mk.injEq] at ea'
    omega
  obtain ⟨r1, r2, r3, r4⟩ := zboxes w
  have hc := h.below (below4 w (.cells #[.int .i64 0, .int .i64 0] 30) (.cells #[.int .i64 0, .int .i64 0] 30) (.cells #[.int .i64 0, .int .i64 0] 30) (.cells #[.int .i64 0, .int .i64 0] 30))
  have G := grown_alloc (grown_alloc (grown_alloc (grown_alloc (grownBy_refl w (some p)) (.cells #[.int .i64 0, .int .i64 0] 30)) (.cells #[.int .i64 0, .int .i64 0] 30)) (.cells #[.int .i64 0, .int .i64 0] 30)) (.cells #[.int .i64 0, .int .i64 0] 30)
  have n1 : w.heap.size ≠ p := by omega
  have n2 : w.heap.size + 1 ≠ p := by omega
  have n3 : w.heap.size + 1 + 1 ≠ p := by omega
  have n4 : w.heap.size + 1 + 1 + 1 ≠ p := by omega
  clear h
  go_enter Try.func25, Try.ntmps25
  go_wp2_with fail
  generalize (((w.alloc (.cells #[.int .i64 0, .int .i64 0] 30)).alloc (.cells #[.int .i64 0, .int .i64 0] 30)).alloc (.cells #[.int .i64 0, .int .i64 0] 30)).alloc (.cells #[.int .i64 0, .int .i64 0] 30) = W0 at *
  refine (l3Draw_any p a n cap _ hc).mono ?_
  rintro e w1 ⟨x1, y1, rfl, hc1, g⟩
  replace r1 := r1.grown g n1
  replace r2 := r2.grown g n2
  replace r3 := r3.grown g n3
  replace r4 := r4.grown g n4
  replace G := grownBy_trans G g
  clear g hc
  have t0 := r1.lt
  have t1 := r2.lt
  have t2 := r3.lt
  have t3 := r4.lt
  go_wp2_with fail
  have kA := Box2.new w1 (lo := w.heap.size) G.size (.int .i64 x1) (.int .i64 y1) 30
  have hb := below1 w1 (.cells #[.int .i64 x1, .int .i64 y1] 30)
  have nA : w1.heap.size ≠ p := by have := G.size; omega
  have loA := G.size
  have ne_kA_r1 := Nat.ne_of_gt r1.lt
  have ne_r1_kA := Ne.symm ne_kA_r1
  replace r1 := r1.below hb
  have ne_kA_r2 := Nat.ne_of_gt r2.lt
  have ne_r2_kA := Ne.symm ne_kA_r2
  replace r2 := r2.below hb
  have ne_kA_r3 := Nat.ne_of_gt r3.lt
  have ne_r3_kA := Ne.symm ne_kA_r3
  replace r3 := r3.below hb
  have ne_kA_r4 := Nat.ne_of_gt r4.lt
  have ne_r4_kA := Ne.symm ne_kA_r4
  replace r4 := r4.below hb
  replace hc1 := hc1.below hb
  replace G := grown_alloc G (.cells #[.int .i64 x1, .int .i64 y1] 30)
  clear hb t0 t1 t2 t3
  generalize w1.alloc (.cells #[.int .i64 x1, .int .i64 y1] 30) = W1 at *
  refine (l3Draw_any p a n cap _ hc1).mono ?_
  rintro e w2 ⟨x2, y2, rfl, hc2, g⟩
  replace r1 := r1.grown g n1
  replace r2 := r2.grown g n2
  replace r3 := r3.grown g n3
  replace r4 := r4.grown g n4
  replace kA := kA.grown g nA
  replace G := grownBy_trans G g
  clear g hc1
  have t0 := r1.lt
  have t1 := r2.lt
  have t2 := r3.lt
  have t3 := r4.lt
  have t4 := kA.lt
  go_wp2_with fail
  have kB := Box2.new w2 (lo := w.heap.size) G.size (.int .i64 x2) (.int .i64 y2) 30
  have hb := below1 w2 (.cells #[.int .i64 x2, .int .i64 y2] 30)
  have nB : w2.heap.size ≠ p := by have := G.size; omega
  have loB := G.size
  have ne_kB_r1 := Nat.ne_of_gt r1.lt
  have ne_r1_kB := Ne.symm ne_kB_r1
  replace r1 := r1.below hb
  have ne_kB_r2 := Nat.ne_of_gt r2.lt
  have ne_r2_kB := Ne.symm ne_kB_r2
  replace r2 := r2.below hb
  have ne_kB_r3 := Nat.ne_of_gt r3.lt
  have ne_r3_kB := Ne.symm ne_kB_r3
  replace r3 := r3.below hb
  have ne_kB_r4 := Nat.ne_of_gt r4.lt
  have ne_r4_kB := Ne.symm ne_kB_r4
  replace r4 := r4.below hb
  have ne_kB_kA := Nat.ne_of_gt kA.lt
  have ne_kA_kB := Ne.symm ne_kB_kA
  replace kA := kA.below hb
  replace hc2 := hc2.below hb
  replace G := grown_alloc G (.cells #[.int .i64 x2, .int .i64 y2] 30)
  clear hb t0 t1 t2 t3 t4
  generalize w2.alloc (.cells #[.int .i64 x2, .int .i64 y2] 30) = W2 at *
  refine (l3Draw_any p a n cap _ hc2).mono ?_
  rintro e w3 ⟨x3, y3, rfl, hc3, g⟩
  replace r1 := r1.grown g n1
  replace r2 := r2.grown g n2
  replace r3 := r3.grown g n3
  replace r4 := r4.grown g n4
  replace kA := kA.grown g nA
  replace kB := kB.grown g nB
  replace G := grownBy_trans G g
  clear g hc2
  have t0 := r1.lt
  have t1 := r2.lt
  have t2 := r3.lt
  have t3 := r4.lt
  have t4 := kA.lt
  have t5 := kB.lt
  go_wp2_with fail
  have kC := Box2.new w3 (lo := w.heap.size) G.size (.int .i64 x3) (.int .i64 y3) 30
  have hb := below1 w3 (.cells #[.int .i64 x3, .int .i64 y3] 30)
  have nC : w3.heap.size ≠ p := by have := G.size; omega
  have loC := G.size
  have ne_kC_r1 := Nat.ne_of_gt r1.lt
  have ne_r1_kC := Ne.symm ne_kC_r1
  replace r1 := r1.below hb
  have ne_kC_r2 := Nat.ne_of_gt r2.lt
  have ne_r2_kC := Ne.symm ne_kC_r2
  replace r2 := r2.below hb
  have ne_kC_r3 := Nat.ne_of_gt r3.lt
  have ne_r3_kC := Ne.symm ne_kC_r3
  replace r3 := r3.below hb
  have ne_kC_r4 := Nat.ne_of_gt r4.lt
  have ne_r4_kC := Ne.symm ne_kC_r4
  replace r4 := r4.below hb
  have ne_kC_kA := Nat.ne_of_gt kA.lt
  have ne_kA_kC := Ne.symm ne_kC_kA
  replace kA := kA.below hb
  have ne_kC_kB := Nat.ne_of_gt kB.lt
  have ne_kB_kC := Ne.symm ne_kC_kB
  replace kB := kB.below hb
  replace hc3 := hc3.below hb
  replace G := grown_alloc G (.cells #[.int .i64 x3, .int .i64 y3] 30)
  clear hb t0 t1 t2 t3 t4 t5
  generalize w3.alloc (.cells #[.int .i64 x3, .int .i64 y3] 30) = W3 at *
  refine (l3Draw_any p a n cap _ hc3).mono ?_
  rintro e w4 ⟨x4, y4, rfl, hc4, g⟩
  replace r1 := r1.grown g n1
  replace r2 := r2.grown g n2
  replace r3 := r3.grown g n3
  replace r4 := r4.grown g n4
  replace kA := kA.grown g nA
  replace kB := kB.grown g nB
  replace kC := kC.grown g nC
  replace G := grownBy_trans G g
  clear g hc3
  have t0 := r1.lt
  have t1 := r2.lt
  have t2 := r3.lt
  have t3 := r4.lt
  have t4 := kA.lt
  have t5 := kB.lt
  have t6 := kC.lt
  go_wp2_with fail
  have kD := Box2.new w4 (lo := w.heap.size) G.size (.int .i64 x4) (.int .i64 y4) 30
  have hb := below1 w4 (.cells #[.int .i64 x4, .int .i64 y4] 30)
  have nD : w4.heap.size ≠ p := by have := G.size; omega
  have loD := G.size
  have ne_kD_r1 := Nat.ne_of_gt r1.lt
  have ne_r1_kD := Ne.symm ne_kD_r1
  replace r1 := r1.below hb
  have ne_kD_r2 := Nat.ne_of_gt r2.lt
  have ne_r2_kD := Ne.symm ne_kD_r2
  replace r2 := r2.below hb
  have ne_kD_r3 := Nat.ne_of_gt r3.lt
  have ne_r3_kD := Ne.symm ne_kD_r3
  replace r3 := r3.below hb
  have ne_kD_r4 := Nat.ne_of_gt r4.lt
  have ne_r4_kD := Ne.symm ne_kD_r4
  replace r4 := r4.below hb
  have ne_kD_kA := Nat.ne_of_gt kA.lt
  have ne_kA_kD := Ne.symm ne_kD_kA
  replace kA := kA.below hb
  have ne_kD_kB := Nat.ne_of_gt kB.lt
  have ne_kB_kD := Ne.symm ne_kD_kB
  replace kB := kB.below hb
  have ne_kD_kC := Nat.ne_of_gt kC.lt
  have ne_kC_kD := Ne.symm ne_kD_kC
  replace kC := kC.below hb
  replace hc4 := hc4.below hb
  replace G := grown_alloc G (.cells #[.int .i64 x4, .int .i64 y4] 30)
  clear hb t0 t1 t2 t3 t4 t5 t6
  generalize w4.alloc (.cells #[.int .i64 x4, .int .i64 y4] 30) = W4 at *
  refine (l1Below_any p a n cap 8 _ hc4).mono ?_
  rintro e w5 ⟨v, rfl, v0, v1, hc5, g⟩
  replace r1 := r1.grown g n1
  replace r2 := r2.grown g n2
  replace r3 := r3.grown g n3
  replace r4 := r4.grown g n4
  replace kA := kA.grown g nA
  replace kB := kB.grown g nB
  replace kC := kC.grown g nC
  replace kD := kD.grown g nD
  replace G := grownBy_trans G g
  clear g hc4 v1
  have ne_r1_r2 : w.heap.size ≠ w.heap.size + 1 := by omega
  have ne_r1_r3 : w.heap.size ≠ w.heap.size + 1 + 1 := by omega
  have ne_r1_r4 : w.heap.size ≠ w.heap.size + 1 + 1 + 1 := by omega
  have ne_r2_r1 : w.heap.size + 1 ≠ w.heap.size := by omega
  have ne_r2_r3 : w.heap.size + 1 ≠ w.heap.size + 1 + 1 := by omega
  have ne_r2_r4 : w.heap.size + 1 ≠ w.heap.size + 1 + 1 + 1 := by omega
  have ne_r3_r1 : w.heap.size + 1 + 1 ≠ w.heap.size := by omega
  have ne_r3_r2 : w.heap.size + 1 + 1 ≠ w.heap.size + 1 := by omega
  have ne_r3_r4 : w.heap.size + 1 + 1 ≠ w.heap.size + 1 + 1 + 1 := by omega
  have ne_r4_r1 : w.heap.size + 1 + 1 + 1 ≠ w.heap.size := by omega
  have ne_r4_r2 : w.heap.size + 1 + 1 + 1 ≠ w.heap.size + 1 := by omega
  have ne_r4_r3 : w.heap.size + 1 + 1 + 1 ≠ w.heap.size + 1 + 1 := by omega
  by_cases e0 : v = 0
  · subst e0
    have z0 := kA.c0
    have z1 := kA.c1
    have z2 := kC.c0
    have z3 := kC.c1
    have zf := kC.fr
    go_wp2_with fail
    clear z0 z1 z2 z3 zf
    replace r1 := r1.old ne_r1_kC (.int .i64 x1) (.int .i64 y1)
    replace r2 := r2.old ne_r2_kC (.int .i64 x1) (.int .i64 y1)
    replace r3 := r3.old ne_r3_kC (.int .i64 x1) (.int .i64 y1)
    replace r4 := r4.old ne_r4_kC (.int .i64 x1) (.int .i64 y1)
    replace kA := kA.old ne_kA_kC (.int .i64 x1) (.int .i64 y1)
    replace kB := kB.old ne_kB_kC (.int .i64 x1) (.int .i64 y1)
    replace kD := kD.old ne_kD_kC (.int .i64 x1) (.int .i64 y1)
    replace kC := kC.put (.int .i64 x1) (.int .i64 y1)
    replace hc5 := hc5.put2 nC (HA.out _ loC) (.int .i64 x1) (.int .i64 y1)
    replace G := grown_put2 G (show w.heap.size ≤ w3.heap.size from loC) (.int .i64 x1) (.int .i64 y1)
    generalize (w5.setCell ⟨w3.heap.size, 0, none⟩ (.int .i64 x1)).setCell ⟨w3.heap.size, 1, none⟩ (.int .i64 y1) = w6 at *
    refine wp_region_held_drew (S := fun w' => w'.cell? ⟨w1.heap.size, 0, none⟩ = some (.int .i64 (x1)) ∧ w'.cell? ⟨w1.heap.size, 1, none⟩ = some (.int .i64 (y1)) ∧ w'.cell? ⟨w2.heap.size, 0, none⟩ = some (.int .i64 (x2)) ∧ w'.cell? ⟨w2.heap.size, 1, none⟩ = some (.int .i64 (y2)) ∧ w'.cell? ⟨w3.heap.size, 0, none⟩ = some (.int .i64 (x1)) ∧ w'.cell? ⟨w3.heap.size, 1, none⟩ = some (.int .i64 (y1)) ∧ w'.cell? ⟨w4.heap.size, 0, none⟩ = some (.int .i64 (x4)) ∧ w'.cell? ⟨w4.heap.size, 1, none⟩ = some (.int .i64 (y4))) (by kernel_rfl) ⟨kA.c0, kA.c1, kB.c0, kB.c1, kC.c0, kC.c1, kD.c0, kD.c1⟩ (fun hHeld => ?_)
    have dr : Below w6.heap.size w6 w6.drew := (Below.refl _ _).drew
    replace r1 := r1.below dr
    replace r2 := r2.below dr
    replace r3 := r3.below dr
    replace r4 := r4.below dr
    replace kA := kA.below dr
    replace kB := kB.below dr
    replace kC := kC.below dr
    replace kD := kD.below dr
    replace hc5 := hc5.below dr
    replace G := grownBy_drew G
    clear dr
    generalize w6.drew = V1_0 at *
    refine takeQ (i := 0) (gt rfl) (by kernel_rfl) (fun _ _ _ h => h) (by rfl) (by intro wq hSw; obtain ⟨q0, q1, q2, q3, q4, q5, q6, q7⟩ := hSw; go_simp <;> with_reducible rfl) (by assumption) ?_
    try simp only [Act.put, sA, sB, sC]
    refine takeQ (i := 1) (gt rfl) (by kernel_rfl) (fun _ _ _ h => h) (by rfl) (by intro wq hSw; obtain ⟨q0, q1, q2, q3, q4, q5, q6, q7⟩ := hSw; go_simp <;> with_reducible rfl) (by assumption) ?_
    try simp only [Act.put, sA, sB, sC]
    refine takeQ (i := 2) (gt rfl) (by kernel_rfl) (fun _ _ _ h => h) (by rfl) (by intro wq hSw; obtain ⟨q0, q1, q2, q3, q4, q5, q6, q7⟩ := hSw; go_simp <;> with_reducible rfl) (by assumption) ?_
    try simp only [Act.put, sA, sB, sC]
    refine takeQ (i := 3) (gt rfl) (by kernel_rfl) (fun _ _ _ h => h) (by rfl) (by intro wq hSw; obtain ⟨q0, q1, q2, q3, q4, q5, q6, q7⟩ := hSw; go_simp <;> with_reducible rfl) (by assumption) ?_
    try simp only [Act.put, sA, sB, sC]
    refine wpAnyH_ready (rs := [4]) (by kernel_rfl) (by simp) (AllReadyH.cons (gt rfl) (fun K hK => ?_) AllReadyH.nil)
    have z0 := r1.c0
    have z1 := r1.c1
    have zf := r1.fr
    go_simp
    clear z0 z1 zf
    replace r2 := r2.old ne_r2_r1 (.int .i64 (x1)) (.int .i64 (y1))
    replace r3 := r3.old ne_r3_r1 (.int .i64 (x1)) (.int .i64 (y1))
    replace r4 := r4.old ne_r4_r1 (.int .i64 (x1)) (.int .i64 (y1))
    replace kA := kA.old ne_kA_r1 (.int .i64 (x1)) (.int .i64 (y1))
    replace kB := kB.old ne_kB_r1 (.int .i64 (x1)) (.int .i64 (y1))
    replace kC := kC.old ne_kC_r1 (.int .i64 (x1)) (.int .i64 (y1))
    replace kD := kD.old ne_kD_r1 (.int .i64 (x1)) (.int .i64 (y1))
    replace r1 := r1.put (.int .i64 (x1)) (.int .i64 (y1))
    replace hc5 := hc5.put2 n1 (HA.out _ (by omega)) (.int .i64 (x1)) (.int .i64 (y1))
    replace G := grown_put2 G (show w.heap.size ≤ w.heap.size from (by omega)) (.int .i64 (x1)) (.int .i64 (y1))
    generalize (V1_0.setCell ⟨w.heap.size, 0, none⟩ (.int .i64 (x1))).setCell ⟨w.heap.size, 1, none⟩ (.int .i64 (y1)) = V1_1 at *
    refine hK.out _ _ ⟨kA.c0, kA.c1, kB.c0, kB.c1, kC.c0, kC.c1, kD.c0, kD.c1⟩ (fun hHeld => ?_)
    clear hK K
    try simp only [Act.put, sA, sB, sC]
    refine wpAnyH_ready (rs := [5]) (by kernel_rfl) (by simp) (AllReadyH.cons (gt rfl) (fun K hK => ?_) AllReadyH.nil)
    have z0 := r2.c0
    have z1 := r2.c1
    have zf := r2.fr
    go_simp
    clear z0 z1 zf
    replace r1 := r1.old ne_r1_r2 (.int .i64 (x2)) (.int .i64 (y2))
    replace r3 := r3.old ne_r3_r2 (.int .i64 (x2)) (.int .i64 (y2))
    replace r4 := r4.old ne_r4_r2 (.int .i64 (x2)) (.int .i64 (y2))
    replace kA := kA.old ne_kA_r2 (.int .i64 (x2)) (.int .i64 (y2))
    replace kB := kB.old ne_kB_r2 (.int .i64 (x2)) (.int .i64 (y2))
    replace kC := kC.old ne_kC_r2 (.int .i64 (x2)) (.int .i64 (y2))
    replace kD := kD.old ne_kD_r2 (.int .i64 (x2)) (.int .i64 (y2))
    replace r2 := r2.put (.int .i64 (x2)) (.int .i64 (y2))
    replace hc5 := hc5.put2 n2 (HA.out _ (by omega)) (.int .i64 (x2)) (.int .i64 (y2))
    replace G := grown_put2 G (show w.heap.size ≤ w.heap.size + 1 from (by omega)) (.int .i64 (x2)) (.int .i64 (y2))
    generalize (V1_1.setCell ⟨w.heap.size + 1, 0, none⟩ (.int .i64 (x2))).setCell ⟨w.heap.size + 1, 1, none⟩ (.int .i64 (y2)) = V1_2 at *
    refine hK.out _ _ ⟨kA.c0, kA.c1, kB.c0, kB.c1, kC.c0, kC.c1, kD.c0, kD.c1⟩ (fun hHeld => ?_)
    clear hK K
    try simp only [Act.put, sA, sB, sC]
    refine wpAnyH_ready (rs := [6]) (by kernel_rfl) (by simp) (AllReadyH.cons (gt rfl) (fun K hK => ?_) AllReadyH.nil)
    have z0 := r3.c0
    have z1 := r3.c1
    have zf := r3.fr
    go_simp
    clear z0 z1 zf
    replace r1 := r1.old ne_r1_r3 (.int .i64 (x1)) (.int .i64 (y1))
    replace r2 := r2.old ne_r2_r3 (.int .i64 (x1)) (.int .i64 (y1))
    replace r4 := r4.old ne_r4_r3 (.int .i64 (x1)) (.int .i64 (y1))
    replace kA := kA.old ne_kA_r3 (.int .i64 (x1)) (.int .i64 (y1))
    replace kB := kB.old ne_kB_r3 (.int .i64 (x1)) (.int .i64 (y1))
    replace kC := kC.old ne_kC_r3 (.int .i64 (x1)) (.int .i64 (y1))
    replace kD := kD.old ne_kD_r3 (.int .i64 (x1)) (.int .i64 (y1))
    replace r3 := r3.put (.int .i64 (x1)) (.int .i64 (y1))
    replace hc5 := hc5.put2 n3 (HA.out _ (by omega)) (.int .i64 (x1)) (.int .i64 (y1))
    replace G := grown_put2 G (show w.heap.size ≤ w.heap.size + 1 + 1 from (by omega)) (.int .i64 (x1)) (.int .i64 (y1))
    generalize (V1_2.setCell ⟨w.heap.size + 1 + 1, 0, none⟩ (.int .i64 (x1))).setCell ⟨w.heap.size + 1 + 1, 1, none⟩ (.int .i64 (y1)) = V1_3 at *
    refine hK.out _ _ ⟨kA.c0, kA.c1, kB.c0, kB.c1, kC.c0, kC.c1, kD.c0, kD.c1⟩ (fun hHeld => ?_)
    clear hK K
    try simp only [Act.put, sA, sB, sC]
    refine wpAnyH_ready (rs := [7]) (by kernel_rfl) (by simp) (AllReadyH.cons (gt rfl) (fun K hK => ?_) AllReadyH.nil)
    have z0 := r4.c0
    have z1 := r4.c1
    have zf := r4.fr
    go_simp
    clear z0 z1 zf
    replace r1 := r1.old ne_r1_r4 (.int .i64 (x4)) (.int .i64 (y4))
    replace r2 := r2.old ne_r2_r4 (.int .i64 (x4)) (.int .i64 (y4))
    replace r3 := r3.old ne_r3_r4 (.int .i64 (x4)) (.int .i64 (y4))
    replace kA := kA.old ne_kA_r4 (.int .i64 (x4)) (.int .i64 (y4))
    replace kB := kB.old ne_kB_r4 (.int .i64 (x4)) (.int .i64 (y4))
    replace kC := kC.old ne_kC_r4 (.int .i64 (x4)) (.int .i64 (y4))
    replace kD := kD.old ne_kD_r4 (.int .i64 (x4)) (.int .i64 (y4))
    replace r4 := r4.put (.int .i64 (x4)) (.int .i64 (y4))
    replace hc5 := hc5.put2 n4 (HA.out _ (by omega)) (.int .i64 (x4)) (.int .i64 (y4))
    replace G := grown_put2 G (show w.heap.size ≤ w.heap.size + 1 + 1 + 1 from (by omega)) (.int .i64 (x4)) (.int .i64 (y4))
    generalize (V1_3.setCell ⟨w.heap.size + 1 + 1 + 1, 0, none⟩ (.int .i64 (x4))).setCell ⟨w.heap.size + 1 + 1 + 1, 1, none⟩ (.int .i64 (y4)) = V1_4 at *
    refine hK.out _ _ ⟨kA.c0, kA.c1, kB.c0, kB.c1, kC.c0, kC.c1, kD.c0, kD.c1⟩ (fun hHeld => ?_)
    clear hK K
    try simp only [Act.put, sA, sB, sC]
    refine wpAnyH_done (by kernel_rfl) ?_ _
    go_wp2
    exact bodyPost_ret (v := .tuple #[.agg #[.int .i64 (x1), .int .i64 (y1)], .agg #[.int .i64 (x2), .int .i64 (y2)], .agg #[.int .i64 (x1), .int .i64 (y1)], .agg #[.int .i64 (x4), .int .i64 (y4)]]) (by simp [results, Try.results25, go_sem, r1.c0, r1.c1, r2.c0, r2.c1, r3.c0, r3.c1, r4.c0, r4.c1]) rfl ⟨_, _, _, _, _, _, _, _, rfl, hc5, G⟩
  by_cases e1 : v = 1
  · subst e1
    have z0 := kA.c0
    have z1 := kA.c1
    have z2 := kB.c0
    have z3 := kB.c1
    have zf := kB.fr
    go_wp2_with fail
    clear z0 z1 z2 z3 zf
    replace r1 := r1.old ne_r1_kB (.int .i64 x1) (.int .i64 y1)
    replace r2 := r2.old ne_r2_kB (.int .i64 x1) (.int .i64 y1)
    replace r3 := r3.old ne_r3_kB (.int .i64 x1) (.int .i64 y1)
    replace r4 := r4.old ne_r4_kB (.int .i64 x1) (.int .i64 y1)
    replace kA := kA.old ne_kA_kB (.int .i64 x1) (.int .i64 y1)
    replace kC := kC.old ne_kC_kB (.int .i64 x1) (.int .i64 y1)
    replace kD := kD.old ne_kD_kB (.int .i64 x1) (.int .i64 y1)
    replace kB := kB.put (.int .i64 x1) (.int .i64 y1)
    replace hc5 := hc5.put2 nB (HA.out _ loB) (.int .i64 x1) (.int .i64 y1)
    replace G := grown_put2 G (show w.heap.size ≤ w2.heap.size from loB) (.int .i64 x1) (.int .i64 y1)
    generalize (w5.setCell ⟨w2.heap.size, 0, none⟩ (.int .i64 x1)).setCell ⟨w2.heap.size, 1, none⟩ (.int .i64 y1) = w6 at *
    refine wp_region_held_drew (S := fun w' => w'.cell? ⟨w1.heap.size, 0, none⟩ = some (.int .i64 (x1)) ∧ w'.cell? ⟨w1.heap.size, 1, none⟩ = some (.int .i64 (y1)) ∧ w'.cell? ⟨w2.heap.size, 0, none⟩ = some (.int .i64 (x1)) ∧ w'.cell? ⟨w2.heap.size, 1, none⟩ = some (.int .i64 (y1)) ∧ w'.cell? ⟨w3.heap.size, 0, none⟩ = some (.int .i64 (x3)) ∧ w'.cell? ⟨w3.heap.size, 1, none⟩ = some (.int .i64 (y3)) ∧ w'.cell? ⟨w4.heap.size, 0, none⟩ = some (.int .i64 (x4)) ∧ w'.cell? ⟨w4.heap.size, 1, none⟩ = some (.int .i64 (y4))) (by kernel_rfl) ⟨kA.c0, kA.c1, kB.c0, kB.c1, kC.c0, kC.c1, kD.c0, kD.c1⟩ (fun hHeld => ?_)
    have dr : Below w6.heap.size w6 w6.drew := (Below.refl _ _).drew
    replace r1 := r1.below dr
    replace r2 := r2.below dr
    replace r3 := r3.below dr
    replace r4 := r4.below dr
    replace kA := kA.below dr
    replace kB := kB.below dr
    replace kC := kC.below dr
    replace kD := kD.below dr
    replace hc5 := hc5.below dr
    replace G := grownBy_drew G
    clear dr
    generalize w6.drew = V2_0 at *
    refine takeQ (i := 0) (gt rfl) (by kernel_rfl) (fun _ _ _ h => h) (by rfl) (by intro wq hSw; obtain ⟨q0, q1, q2, q3, q4, q5, q6, q7⟩ := hSw; go_simp <;> with_reducible rfl) (by assumption) ?_
    try simp only [Act.put, sA, sB, sC]
    refine takeQ (i := 1) (gt rfl) (by kernel_rfl) (fun _ _ _ h => h) (by rfl) (by intro wq hSw; obtain ⟨q0, q1, q2, q3, q4, q5, q6, q7⟩ := hSw; go_simp <;> with_reducible rfl) (by assumption) ?_
    try simp only [Act.put, sA, sB, sC]
    refine takeQ (i := 2) (gt rfl) (by kernel_rfl) (fun _ _ _ h => h) (by rfl) (by intro wq hSw; obtain ⟨q0, q1, q2, q3, q4, q5, q6, q7⟩ := hSw; go_simp <;> with_reducible rfl) (by assumption) ?_
    try simp only [Act.put, sA, sB, sC]
    refine takeQ (i := 3) (gt rfl) (by kernel_rfl) (fun _ _ _ h => h) (by rfl) (by intro wq hSw; obtain ⟨q0, q1, q2, q3, q4, q5, q6, q7⟩ := hSw; go_simp <;> with_reducible rfl) (by assumption) ?_
    try simp only [Act.put, sA, sB, sC]
    refine wpAnyH_ready (rs := [4]) (by kernel_rfl) (by simp) (AllReadyH.cons (gt rfl) (fun K hK => ?_) AllReadyH.nil)
    have z0 := r1.c0
    have z1 := r1.c1
    have zf := r1.fr
    go_simp
    clear z0 z1 zf
    replace r2 := r2.old ne_r2_r1 (.int .i64 (x1)) (.int .i64 (y1))
    replace r3 := r3.old ne_r3_r1 (.int .i64 (x1)) (.int .i64 (y1))
    replace r4 := r4.old ne_r4_r1 (.int .i64 (x1)) (.int .i64 (y1))
    replace kA := kA.old ne_kA_r1 (.int .i64 (x1)) (.int .i64 (y1))
    replace kB := kB.old ne_kB_r1 (.int .i64 (x1)) (.int .i64 (y1))
    replace kC := kC.old ne_kC_r1 (.int .i64 (x1)) (.int .i64 (y1))
    replace kD := kD.old ne_kD_r1 (.int .i64 (x1)) (.int .i64 (y1))
    replace r1 := r1.put (.int .i64 (x1)) (.int .i64 (y1))
    replace hc5 := hc5.put2 n1 (HA.out _ (by omega)) (.int .i64 (x1)) (.int .i64 (y1))
    replace G := grown_put2 G (show w.heap.size ≤ w.heap.size from (by omega)) (.int .i64 (x1)) (.int .i64 (y1))
    generalize (V2_0.setCell ⟨w.heap.size, 0, none⟩ (.int .i64 (x1))).setCell ⟨w.heap.size, 1, none⟩ (.int .i64 (y1)) = V2_1 at *
    refine hK.out _ _ ⟨kA.c0, kA.c1, kB.c0, kB.c1, kC.c0, kC.c1, kD.c0, kD.c1⟩ (fun hHeld => ?_)
    clear hK K
    try simp only [Act.put, sA, sB, sC]
    refine wpAnyH_ready (rs := [5]) (by kernel_rfl) (by simp) (AllReadyH.cons (gt rfl) (fun K hK => ?_) AllReadyH.nil)
    have z0 := r2.c0
    have z1 := r2.c1
    have zf := r2.fr
    go_simp
    clear z0 z1 zf
    replace r1 := r1.old ne_r1_r2 (.int .i64 (x1)) (.int .i64 (y1))
    replace r3 := r3.old ne_r3_r2 (.int .i64 (x1)) (.int .i64 (y1))
    replace r4 := r4.old ne_r4_r2 (.int .i64 (x1)) (.int .i64 (y1))
    replace kA := kA.old ne_kA_r2 (.int .i64 (x1)) (.int .i64 (y1))
    replace kB := kB.old ne_kB_r2 (.int .i64 (x1)) (.int .i64 (y1))
    replace kC := kC.old ne_kC_r2 (.int .i64 (x1)) (.int .i64 (y1))
    replace kD := kD.old ne_kD_r2 (.int .i64 (x1)) (.int .i64 (y1))
    replace r2 := r2.put (.int .i64 (x1)) (.int .i64 (y1))
    replace hc5 := hc5.put2 n2 (HA.out _ (by omega)) (.int .i64 (x1)) (.int .i64 (y1))
    replace G := grown_put2 G (show w.heap.size ≤ w.heap.size + 1 from (by omega)) (.int .i64 (x1)) (.int .i64 (y1))
    generalize (V2_1.setCell ⟨w.heap.size + 1, 0, none⟩ (.int .i64 (x1))).setCell ⟨w.heap.size + 1, 1, none⟩ (.int .i64 (y1)) = V2_2 at *
    refine hK.out _ _ ⟨kA.c0, kA.c1, kB.c0, kB.c1, kC.c0, kC.c1, kD.c0, kD.c1⟩ (fun hHeld => ?_)
    clear hK K
    try simp only [Act.put, sA, sB, sC]
    refine wpAnyH_ready (rs := [6]) (by kernel_rfl) (by simp) (AllReadyH.cons (gt rfl) (fun K hK => ?_) AllReadyH.nil)
    have z0 := r3.c0
    have z1 := r3.c1
    have zf := r3.fr
    go_simp
    clear z0 z1 zf
    replace r1 := r1.old ne_r1_r3 (.int .i64 (x3)) (.int .i64 (y3))
    replace r2 := r2.old ne_r2_r3 (.int .i64 (x3)) (.int .i64 (y3))
    replace r4 := r4.old ne_r4_r3 (.int .i64 (x3)) (.int .i64 (y3))
    replace kA := kA.old ne_kA_r3 (.int .i64 (x3)) (.int .i64 (y3))
    replace kB := kB.old ne_kB_r3 (.int .i64 (x3)) (.int .i64 (y3))
    replace kC := kC.old ne_kC_r3 (.int .i64 (x3)) (.int .i64 (y3))
    replace kD := kD.old ne_kD_r3 (.int .i64 (x3)) (.int .i64 (y3))
    replace r3 := r3.put (.int .i64 (x3)) (.int .i64 (y3))
    replace hc5 := hc5.put2 n3 (HA.out _ (by omega)) (.int .i64 (x3)) (.int .i64 (y3))
    replace G := grown_put2 G (show w.heap.size ≤ w.heap.size + 1 + 1 from (by omega)) (.int .i64 (x3)) (.int .i64 (y3))
    generalize (V2_2.setCell ⟨w.heap.size + 1 + 1, 0, none⟩ (.int .i64 (x3))).setCell ⟨w.heap.size + 1 + 1, 1, none⟩ (.int .i64 (y3)) = V2_3 at *
    refine hK.out _ _ ⟨kA.c0, kA.c1, kB.c0, kB.c1, kC.c0, kC.c1, kD.c0, kD.c1⟩ (fun hHeld => ?_)
    clear hK K
    try simp only [Act.put, sA, sB, sC]
    refine wpAnyH_ready (rs := [7]) (by kernel_rfl) (by simp) (AllReadyH.cons (gt rfl) (fun K hK => ?_) AllReadyH.nil)
    have z0 := r4.c0
    have z1 := r4.c1
    have zf := r4.fr
    go_simp
    clear z0 z1 zf
    replace r1 := r1.old ne_r1_r4 (.int .i64 (x4)) (.int .i64 (y4))
    replace r2 := r2.old ne_r2_r4 (.int .i64 (x4)) (.int .i64 (y4))
    replace r3 := r3.old ne_r3_r4 (.int .i64 (x4)) (.int .i64 (y4))
    replace kA := kA.old ne_kA_r4 (.int .i64 (x4)) (.int .i64 (y4))
    replace kB := kB.old ne_kB_r4 (.int .i64 (x4)) (.int .i64 (y4))
    replace kC := kC.old ne_kC_r4 (.int .i64 (x4)) (.int .i64 (y4))
    replace kD := kD.old ne_kD_r4 (.int .i64 (x4)) (.int .i64 (y4))
    replace r4 := r4.put (.int .i64 (x4)) (.int .i64 (y4))
    replace hc5 := hc5.put2 n4 (HA.out _ (by omega)) (.int .i64 (x4)) (.int .i64 (y4))
    replace G := grown_put2 G (show w.heap.size ≤ w.heap.size + 1 + 1 + 1 from (by omega)) (.int .i64 (x4)) (.int .i64 (y4))
    generalize (V2_3.setCell ⟨w.heap.size + 1 + 1 + 1, 0, none⟩ (.int .i64 (x4))).setCell ⟨w.heap.size + 1 + 1 + 1, 1, none⟩ (.int .i64 (y4)) = V2_4 at *
    refine hK.out _ _ ⟨kA.c0, kA.c1, kB.c0, kB.c1, kC.c0, kC.c1, kD.c0, kD.c1⟩ (fun hHeld => ?_)
    clear hK K
    try simp only [Act.put, sA, sB, sC]
    refine wpAnyH_done (by kernel_rfl) ?_ _
    go_wp2
    exact bodyPost_ret (v := .tuple #[.agg #[.int .i64 (x1), .int .i64 (y1)], .agg #[.int .i64 (x1), .int .i64 (y1)], .agg #[.int .i64 (x3), .int .i64 (y3)], .agg #[.int .i64 (x4), .int .i64 (y4)]]) (by simp [results, Try.results25, go_sem, r1.c0, r1.c1, r2.c0, r2.c1, r3.c0, r3.c1, r4.c0, r4.c1]) rfl ⟨_, _, _, _, _, _, _, _, rfl, hc5, G⟩
  by_cases e2 : v = 2
  · subst e2
    go_wp2_with fail
    have a0 := kA.c0
    have a1 := kA.c1
    have b0 := kB.c0
    have b1 := kB.c1
    skip
    have FA : ∀ (u v : Int) (w : World), Sem.run Try.prog (Instr.field 30 (.agg #[.int .i64 u, .int .i64 v]) 0) w = .ok (.int .i64 u) w := fun u v w => by kernel_rfl
    have FB : ∀ (u v : Int) (w : World), Sem.run Try.prog (Instr.field 30 (.agg #[.int .i64 u, .int .i64 v]) 1) w = .ok (.int .i64 v) w := fun u v w => by kernel_rfl
    refine wp_region_held_drew (S := Keeps (w3.heap.size) w5) (by kernel_rfl) (Keeps.of (Below.refl _ _).drew) (fun hHeld => ?_)
    have N : Below w5.heap.size w5 w5.drew := (Below.refl _ _).drew
    replace kC := kC.below N
    revert hHeld N kC
    generalize w5.drew = ww0
    intro hHeld N kC
    refine takeQ (i := 0) (gt rfl) (by kernel_rfl) (fun _ _ _ h => h) (by rfl) (by intro wq hSw; have q0 := hSw.at a0 (by omega); have q1 := hSw.at a1 (by omega); have q2 := hSw.at b0 (by omega); have q3 := hSw.at b1 (by omega); go_simp <;> with_reducible rfl) (by assumption) ?_
    try simp only [Act.put, sA, sB, sC]
    refine takeQ (i := 4) (gt rfl) (by kernel_rfl) (fun _ _ _ h => h) (by rfl) (by intro wq hSw; have q0 := hSw.at a0 (by omega); have q1 := hSw.at a1 (by omega); have q2 := hSw.at b0 (by omega); have q3 := hSw.at b1 (by omega); go_simp <;> with_reducible rfl) (by assumption) ?_
    try simp only [Act.put, sA, sB, sC]
    refine takeQ (i := 9) (gt rfl) (by kernel_rfl) (fun _ _ _ h => h) (by rfl) (by intro wq hSw; have q0 := hSw.at a0 (by omega); have q1 := hSw.at a1 (by omega); have q2 := hSw.at b0 (by omega); have q3 := hSw.at b1 (by omega); go_simp <;> with_reducible rfl) (by assumption) ?_
    try simp only [Act.put, sA, sB, sC]
    refine takeQ (i := 13) (gt rfl) (by kernel_rfl) (fun _ _ _ h => h) (by rfl) (by intro wq hSw; have q0 := hSw.at a0 (by omega); have q1 := hSw.at a1 (by omega); have q2 := hSw.at b0 (by omega); have q3 := hSw.at b1 (by omega); go_simp <;> with_reducible rfl) (by assumption) ?_
    try simp only [Act.put, sA, sB, sC]
    refine wpAnyH_ready (rs := [1]) (by kernel_rfl) (by simp) (AllReadyH.cons (gt rfl) (fun K hK => ?_) AllReadyH.nil)
    go_simp
    refine (specTakenPt x1 y1 _).mono ?_
    rintro e1 ww1 ⟨rfl, hb⟩
    replace kC := kC.below hb
    replace N := N.trans (hb.mono N.size)
    clear hb
    refine hK.out _ _ (Keeps.of N) (fun hHeld => ?_)
    clear hK K
    try simp only [Act.put, sA, sB, sC]
    refine takeQ (i := 2) (gt rfl) (by kernel_rfl) (fun _ _ _ h => h) (by rfl) (by intro wq _; go_simp <;> with_reducible rfl) (by assumption) ?_
    try simp only [Act.put, sA, sB, sC]
    refine takeQ (i := 3) (gt rfl) (by kernel_rfl) (fun _ _ _ h => h) (by rfl) (by intro wq _; go_simp <;> with_reducible rfl) (by assumption) ?_
    try simp only [Act.put, sA, sB, sC]
    refine wpAnyH_ready (rs := [5]) (by kernel_rfl) (by simp) (AllReadyH.cons (gt rfl) (fun K hK => ?_) AllReadyH.nil)
    go_simp
    refine (specTakenPt x2 y2 _).mono ?_
    rintro e1 ww2 ⟨rfl, hb⟩
    replace kC := kC.below hb
    replace N := N.trans (hb.mono N.size)
    clear hb
    refine hK.out _ _ (Keeps.of N) (fun hHeld => ?_)
    clear hK K
    try simp only [Act.put, sA, sB, sC]
    refine takeQ (i := 6) (gt rfl) (by kernel_rfl) (fun _ _ _ h => h) (by rfl) (by intro wq _; go_simp <;> with_reducible rfl) (by assumption) ?_
    try simp only [Act.put, sA, sB, sC]
    refine takeQ (i := 7) (gt rfl) (by kernel_rfl) (fun _ _ _ h => h) (by rfl) (by intro wq _; go_simp <;> with_reducible rfl) (by assumption) ?_
    try simp only [Act.put, sA, sB, sC]
    refine takeQ (i := 8) (gt rfl) (by kernel_rfl) (fun _ _ _ h => h) (by rfl) (by intro wq _; go_simp <;> with_reducible rfl) (by assumption) ?_
    try simp only [Act.put, sA, sB, sC]
    refine wpAnyH_ready (rs := [10]) (by kernel_rfl) (by simp) (AllReadyH.cons (gt rfl) (fun K hK => ?_) AllReadyH.nil)
    go_simp
    refine (specTakenPt x1 y1 _).mono ?_
    rintro e1 ww3 ⟨rfl, hb⟩
    replace kC := kC.below hb
    replace N := N.trans (hb.mono N.size)
    clear hb
    refine hK.out _ _ (Keeps.of N) (fun hHeld => ?_)
    clear hK K
    try simp only [Act.put, sA, sB, sC]
    refine takeQ (i := 11) (gt rfl) (by kernel_rfl) (fun _ _ _ h => h) (by rfl) (by intro wq _; go_simp <;> with_reducible rfl) (by assumption) ?_
    try simp only [Act.put, sA, sB, sC]
    refine takeQ (i := 12) (gt rfl) (by kernel_rfl) (fun _ _ _ h => h) (by rfl) (by intro wq _; go_simp <;> with_reducible rfl) (by assumption) ?_
    try simp only [Act.put, sA, sB, sC]
    refine wpAnyH_ready (rs := [14]) (by kernel_rfl) (by simp) (AllReadyH.cons (gt rfl) (fun K hK => ?_) AllReadyH.nil)
    go_simp
    refine (specTakenPt x2 y2 _).mono ?_
    rintro e1 ww4 ⟨rfl, hb⟩
    replace kC := kC.below hb
    replace N := N.trans (hb.mono N.size)
    clear hb
    refine hK.out _ _ (Keeps.of N) (fun hHeld => ?_)
    clear hK K
    try simp only [Act.put, sA, sB, sC]
    refine takeQ (i := 15) (gt rfl) (by kernel_rfl) (fun _ _ _ h => h) (by rfl) (by intro wq _; go_simp <;> with_reducible rfl) (by assumption) ?_
    try simp only [Act.put, sA, sB, sC]
    refine takeQ (i := 16) (gt rfl) (by kernel_rfl) (fun _ _ _ h => h) (by rfl) (by intro wq _; go_simp <;> with_reducible rfl) (by assumption) ?_
    try simp only [Act.put, sA, sB, sC]
    refine takeQ (i := 17) (gt rfl) (by kernel_rfl) (fun _ _ _ h => h) (by rfl) (by intro wq _; go_simp <;> with_reducible rfl) (by assumption) ?_
    try simp only [Act.put, sA, sB, sC]
    refine takeQ (i := 18) (gt rfl) (by kernel_rfl) (fun _ _ _ h => h) (by rfl) (by intro wq _; go_simp <;> with_reducible rfl) (by assumption) ?_
    try simp only [Act.put, sA, sB, sC]
    refine wpAnyH_ready (rs := [19]) (by kernel_rfl) (by simp) (AllReadyH.cons (gt rfl) (fun K hK => ?_) AllReadyH.nil)
    have z0 := kC.c0
    have z1 := kC.c1
    have zf := kC.fr
    go_simp
    clear z0 z1 zf
    refine hK.out _ _ ((Keeps.of N).put2 _ _) (fun hHeld => ?_)
    clear hK K
    try simp only [Act.put, sA, sB, sC]
    refine wpAnyH_done (by kernel_rfl) ?_ _
    skip
    replace r1 := r1.below N
    replace r2 := r2.below N
    replace r3 := r3.below N
    replace r4 := r4.below N
    replace kA := kA.below N
    replace kB := kB.below N
    replace kD := kD.below N
    replace hc5 := hc5.below N
    replace G := grownBy_trans G (grown_of_below N)
    obtain ⟨XX, hXX⟩ : ∃ z, Hid (IntKind.i64.wrap (IntKind.i64.wrap ((tX x1 y1).tdiv 2) + IntKind.i64.wrap ((tX x2 y2).tdiv 2)) = z) := ⟨_, rfl⟩
    obtain ⟨YY, hYY⟩ : ∃ z, Hid (IntKind.i64.wrap (IntKind.i64.wrap ((tY x1 y1).tdiv 2) + IntKind.i64.wrap ((tY x2 y2).tdiv 2)) = z) := ⟨_, rfl⟩
    rw [hXX.out, hYY.out]
    clear hXX hYY N a0 a1 b0 b1 FA FB
    replace r1 := r1.old ne_r1_kC (.int .i64 XX) (.int .i64 YY)
    replace r2 := r2.old ne_r2_kC (.int .i64 XX) (.int .i64 YY)
    replace r3 := r3.old ne_r3_kC (.int .i64 XX) (.int .i64 YY)
    replace r4 := r4.old ne_r4_kC (.int .i64 XX) (.int .i64 YY)
    replace kA := kA.old ne_kA_kC (.int .i64 XX) (.int .i64 YY)
    replace kB := kB.old ne_kB_kC (.int .i64 XX) (.int .i64 YY)
    replace kD := kD.old ne_kD_kC (.int .i64 XX) (.int .i64 YY)
    replace kC := kC.put (.int .i64 XX) (.int .i64 YY)
    replace hc5 := hc5.put2 nC (HA.out _ loC) (.int .i64 XX) (.int .i64 YY)
    replace G := grown_put2 G (show w.heap.size ≤ w3.heap.size from loC) (.int .i64 XX) (.int .i64 YY)
    generalize (ww4.setCell ⟨w3.heap.size, 0, none⟩ (.int .i64 XX)).setCell ⟨w3.heap.size, 1, none⟩ (.int .i64 YY) = w6 at *
    go_wp2_with fail
    refine wp_region_held_drew (S := fun w' => w'.cell? ⟨w1.heap.size, 0, none⟩ = some (.int .i64 (x1)) ∧ w'.cell? ⟨w1.heap.size, 1, none⟩ = some (.int .i64 (y1)) ∧ w'.cell? ⟨w2.heap.size, 0, none⟩ = some (.int .i64 (x2)) ∧ w'.cell? ⟨w2.heap.size, 1, none⟩ = some (.int .i64 (y2)) ∧ w'.cell? ⟨w3.heap.size, 0, none⟩ = some (.int .i64 (XX)) ∧ w'.cell? ⟨w3.heap.size, 1, none⟩ = some (.int .i64 (YY)) ∧ w'.cell? ⟨w4.heap.size, 0, none⟩ = some (.int .i64 (x4)) ∧ w'.cell? ⟨w4.heap.size, 1, none⟩ = some (.int .i64 (y4))) (by kernel_rfl) ⟨kA.c0, kA.c1, kB.c0, kB.c1, kC.c0, kC.c1, kD.c0, kD.c1⟩ (fun hHeld => ?_)
    have dr : Below w6.heap.size w6 w6.drew := (Below.refl _ _).drew
    replace r1 := r1.below dr
    replace r2 := r2.below dr
    replace r3 := r3.below dr
    replace r4 := r4.below dr
    replace kA := kA.below dr
    replace kB := kB.below dr
    replace kC := kC.below dr
    replace kD := kD.below dr
    replace hc5 := hc5.below dr
    replace G := grownBy_drew G
    clear dr
    generalize w6.drew = V3_0 at *
    refine takeQ (i := 0) (gt rfl) (by kernel_rfl) (fun _ _ _ h => h) (by rfl) (by intro wq hSw; obtain ⟨q0, q1, q2, q3, q4, q5, q6, q7⟩ := hSw; go_simp <;> with_reducible rfl) (by assumption) ?_
    try simp only [Act.put, sA, sB, sC]
    refine takeQ (i := 1) (gt rfl) (by kernel_rfl) (fun _ _ _ h => h) (by rfl) (by intro wq hSw; obtain ⟨q0, q1, q2, q3, q4, q5, q6, q7⟩ := hSw; go_simp <;> with_reducible rfl) (by assumption) ?_
    try simp only [Act.put, sA, sB, sC]
    refine takeQ (i := 2) (gt rfl) (by kernel_rfl) (fun _ _ _ h => h) (by rfl) (by intro wq hSw; obtain ⟨q0, q1, q2, q3, q4, q5, q6, q7⟩ := hSw; go_simp <;> with_reducible rfl) (by assumption) ?_
    try simp only [Act.put, sA, sB, sC]
    refine takeQ (i := 3) (gt rfl) (by kernel_rfl) (fun _ _ _ h => h) (by rfl) (by intro wq hSw; obtain ⟨q0, q1, q2, q3, q4, q5, q6, q7⟩ := hSw; go_simp <;> with_reducible rfl) (by assumption) ?_
    try simp only [Act.put, sA, sB, sC]
    refine wpAnyH_ready (rs := [4]) (by kernel_rfl) (by simp) (AllReadyH.cons (gt rfl) (fun K hK => ?_) AllReadyH.nil)
    have z0 := r1.c0
    have z1 := r1.c1
    have zf := r1.fr
    go_simp
    clear z0 z1 zf
    replace r2 := r2.old ne_r2_r1 (.int .i64 (x1)) (.int .i64 (y1))
    replace r3 := r3.old ne_r3_r1 (.int .i64 (x1)) (.int .i64 (y1))
    replace r4 := r4.old ne_r4_r1 (.int .i64 (x1)) (.int .i64 (y1))
    replace kA := kA.old ne_kA_r1 (.int .i64 (x1)) (.int .i64 (y1))
    replace kB := kB.old ne_kB_r1 (.int .i64 (x1)) (.int .i64 (y1))
    replace kC := kC.old ne_kC_r1 (.int .i64 (x1)) (.int .i64 (y1))
    replace kD := kD.old ne_kD_r1 (.int .i64 (x1)) (.int .i64 (y1))
    replace r1 := r1.put (.int .i64 (x1)) (.int .i64 (y1))
    replace hc5 := hc5.put2 n1 (HA.out _ (by omega)) (.int .i64 (x1)) (.int .i64 (y1))
    replace G := grown_put2 G (show w.heap.size ≤ w.heap.size from (by omega)) (.int .i64 (x1)) (.int .i64 (y1))
    generalize (V3_0.setCell ⟨w.heap.size, 0, none⟩ (.int .i64 (x1))).setCell ⟨w.heap.size, 1, none⟩ (.int .i64 (y1)) = V3_1 at *
    refine hK.out _ _ ⟨kA.c0, kA.c1, kB.c0, kB.c1, kC.c0, kC.c1, kD.c0, kD.c1⟩ (fun hHeld => ?_)
    clear hK K
    try simp only [Act.put, sA, sB, sC]
    refine wpAnyH_ready (rs := [5]) (by kernel_rfl) (by simp) (AllReadyH.cons (gt rfl) (fun K hK => ?_) AllReadyH.nil)
    have z0 := r2.c0
    have z1 := r2.c1
    have zf := r2.fr
    go_simp
    clear z0 z1 zf
    replace r1 := r1.old ne_r1_r2 (.int .i64 (x2)) (.int .i64 (y2))
    replace r3 := r3.old ne_r3_r2 (.int .i64 (x2)) (.int .i64 (y2))
    replace r4 := r4.old ne_r4_r2 (.int .i64 (x2)) (.int .i64 (y2))
    replace kA := kA.old ne_kA_r2 (.int .i64 (x2)) (.int .i64 (y2))
    replace kB := kB.old ne_kB_r2 (.int .i64 (x2)) (.int .i64 (y2))
    replace kC := kC.old ne_kC_r2 (.int .i64 (x2)) (.int .i64 (y2))
    replace kD := kD.old ne_kD_r2 (.int .i64 (x2)) (.int .i64 (y2))
    replace r2 := r2.put (.int .i64 (x2)) (.int .i64 (y2))
    replace hc5 := hc5.put2 n2 (HA.out _ (by omega)) (.int .i64 (x2)) (.int .i64 (y2))
    replace G := grown_put2 G (show w.heap.size ≤ w.heap.size + 1 from (by omega)) (.int .i64 (x2)) (.int .i64 (y2))
    generalize (V3_1.setCell ⟨w.heap.size + 1, 0, none⟩ (.int .i64 (x2))).setCell ⟨w.heap.size + 1, 1, none⟩ (.int .i64 (y2)) = V3_2 at *
    refine hK.out _ _ ⟨kA.c0, kA.c1, kB.c0, kB.c1, kC.c0, kC.c1, kD.c0, kD.c1⟩ (fun hHeld => ?_)
    clear hK K
    try simp only [Act.put, sA, sB, sC]
    refine wpAnyH_ready (rs := [6]) (by kernel_rfl) (by simp) (AllReadyH.cons (gt rfl) (fun K hK => ?_) AllReadyH.nil)
    have z0 := r3.c0
    have z1 := r3.c1
    have zf := r3.fr
    go_simp
    clear z0 z1 zf
    replace r1 := r1.old ne_r1_r3 (.int .i64 (XX)) (.int .i64 (YY))
    replace r2 := r2.old ne_r2_r3 (.int .i64 (XX)) (.int .i64 (YY))
    replace r4 := r4.old ne_r4_r3 (.int .i64 (XX)) (.int .i64 (YY))
    replace kA := kA.old ne_kA_r3 (.int .i64 (XX)) (.int .i64 (YY))
    replace kB := kB.old ne_kB_r3 (.int .i64 (XX)) (.int .i64 (YY))
    replace kC := kC.old ne_kC_r3 (.int .i64 (XX)) (.int .i64 (YY))
    replace kD := kD.old ne_kD_r3 (.int .i64 (XX)) (.int .i64 (YY))
    replace r3 := r3.put (.int .i64 (XX)) (.int .i64 (YY))
    replace hc5 := hc5.put2 n3 (HA.out _ (by omega)) (.int .i64 (XX)) (.int .i64 (YY))
    replace G := grown_put2 G (show w.heap.size ≤ w.heap.size + 1 + 1 from (by omega)) (.int .i64 (XX)) (.int .i64 (YY))
    generalize (V3_2.setCell ⟨w.heap.size + 1 + 1, 0, none⟩ (.int .i64 (XX))).setCell ⟨w.heap.size + 1 + 1, 1, none⟩ (.int .i64 (YY)) = V3_3 at *
    refine hK.out _ _ ⟨kA.c0, kA.c1, kB.c0, kB.c1, kC.c0, kC.c1, kD.c0, kD.c1⟩ (fun hHeld => ?_)
    clear hK K
    try simp only [Act.put, sA, sB, sC]
    refine wpAnyH_ready (rs := [7]) (by kernel_rfl) (by simp) (AllReadyH.cons (gt rfl) (fun K hK => ?_) AllReadyH.nil)
    have z0 := r4.c0
    have z1 := r4.c1
    have zf := r4.fr
    go_simp
    clear z0 z1 zf
    replace r1 := r1.old ne_r1_r4 (.int .i64 (x4)) (.int .i64 (y4))
    replace r2 := r2.old ne_r2_r4 (.int .i64 (x4)) (.int .i64 (y4))
    replace r3 := r3.old ne_r3_r4 (.int .i64 (x4)) (.int .i64 (y4))
    replace kA := kA.old ne_kA_r4 (.int .i64 (x4)) (.int .i64 (y4))
    replace kB := kB.old ne_kB_r4 (.int .i64 (x4)) (.int .i64 (y4))
    replace kC := kC.old ne_kC_r4 (.int .i64 (x4)) (.int .i64 (y4))
    replace kD := kD.old ne_kD_r4 (.int .i64 (x4)) (.int .i64 (y4))
    replace r4 := r4.put (.int .i64 (x4)) (.int .i64 (y4))
    replace hc5 := hc5.put2 n4 (HA.out _ (by omega)) (.int .i64 (x4)) (.int .i64 (y4))
    replace G := grown_put2 G (show w.heap.size ≤ w.heap.size + 1 + 1 + 1 from (by omega)) (.int .i64 (x4)) (.int .i64 (y4))
    generalize (V3_3.setCell ⟨w.heap.size + 1 + 1 + 1, 0, none⟩ (.int .i64 (x4))).setCell ⟨w.heap.size + 1 + 1 + 1, 1, none⟩ (.int .i64 (y4)) = V3_4 at *
    refine hK.out _ _ ⟨kA.c0, kA.c1, kB.c0, kB.c1, kC.c0, kC.c1, kD.c0, kD.c1⟩ (fun hHeld => ?_)
    clear hK K
    try simp only [Act.put, sA, sB, sC]
    refine wpAnyH_done (by kernel_rfl) ?_ _
    go_wp2
    exact bodyPost_ret (v := .tuple #[.agg #[.int .i64 (x1), .int .i64 (y1)], .agg #[.int .i64 (x2), .int .i64 (y2)], .agg #[.int .i64 (XX), .int .i64 (YY)], .agg #[.int .i64 (x4), .int .i64 (y4)]]) (by simp [results, Try.results25, go_sem, r1.c0, r1.c1, r2.c0, r2.c1, r3.c0, r3.c1, r4.c0, r4.c1]) rfl ⟨_, _, _, _, _, _, _, _, rfl, hc5, G⟩
  have e0' : (v == 0) = false := by simpa using e0
  have e1' : (v == 1) = false := by simpa using e1
  have e2' : (v == 2) = false := by simpa using e2
  go_wp2_with fail
  clear e0' e1' e2'
  refine wp_region_held_drew (S := fun w' => w'.cell? ⟨w1.heap.size, 0, none⟩ = some (.int .i64 (x1)) ∧ w'.cell? ⟨w1.heap.size, 1, none⟩ = some (.int .i64 (y1)) ∧ w'.cell? ⟨w2.heap.size, 0, none⟩ = some (.int .i64 (x2)) ∧ w'.cell? ⟨w2.heap.size, 1, none⟩ = some (.int .i64 (y2)) ∧ w'.cell? ⟨w3.heap.size, 0, none⟩ = some (.int .i64 (x3)) ∧ w'.cell? ⟨w3.heap.size, 1, none⟩ = some (.int .i64 (y3)) ∧ w'.cell? ⟨w4.heap.size, 0, none⟩ = some (.int .i64 (x4)) ∧ w'.cell? ⟨w4.heap.size, 1, none⟩ = some (.int .i64 (y4))) (by kernel_rfl) ⟨kA.c0, kA.c1, kB.c0, kB.c1, kC.c0, kC.c1, kD.c0, kD.c1⟩ (fun hHeld => ?_)
  have dr : Below w5.heap.size w5 w5.drew := (Below.refl _ _).drew
  replace r1 := r1.below dr
  replace r2 := r2.below dr
  replace r3 := r3.below dr
  replace r4 := r4.below dr
  replace kA := kA.below dr
  replace kB := kB.below dr
  replace kC := kC.below dr
  replace kD := kD.below dr
  replace hc5 := hc5.below dr
  replace G := grownBy_drew G
  clear dr
  generalize w5.drew = V4_0 at *
  refine takeQ (i := 0) (gt rfl) (by kernel_rfl) (fun _ _ _ h => h) (by rfl) (by intro wq hSw; obtain ⟨q0, q1, q2, q3, q4, q5, q6, q7⟩ := hSw; go_simp <;> with_reducible rfl) (by assumption) ?_
  try simp only [Act.put, sA, sB, sC]
  refine takeQ (i := 1) (gt rfl) (by kernel_rfl) (fun _ _ _ h => h) (by rfl) (by intro wq hSw; obtain ⟨q0, q1, q2, q3, q4, q5, q6, q7⟩ := hSw; go_simp <;> with_reducible rfl) (by assumption) ?_
  try simp only [Act.put, sA, sB, sC]
  refine takeQ (i := 2) (gt rfl) (by kernel_rfl) (fun _ _ _ h => h) (by rfl) (by intro wq hSw; obtain ⟨q0, q1, q2, q3, q4, q5, q6, q7⟩ := hSw; go_simp <;> with_reducible rfl) (by assumption) ?_
  try simp only [Act.put, sA, sB, sC]
  refine takeQ (i := 3) (gt rfl) (by kernel_rfl) (fun _ _ _ h => h) (by rfl) (by intro wq hSw; obtain ⟨q0, q1, q2, q3, q4, q5, q6, q7⟩ := hSw; go_simp <;> with_reducible rfl) (by assumption) ?_
  try simp only [Act.put, sA, sB, sC]
  refine wpAnyH_ready (rs := [4]) (by kernel_rfl) (by simp) (AllReadyH.cons (gt rfl) (fun K hK => ?_) AllReadyH.nil)
  have z0 := r1.c0
  have z1 := r1.c1
  have zf := r1.fr
  go_simp
  clear z0 z1 zf
  replace r2 := r2.old ne_r2_r1 (.int .i64 (x1)) (.int .i64 (y1))
  replace r3 := r3.old ne_r3_r1 (.int .i64 (x1)) (.int .i64 (y1))
  replace r4 := r4.old ne_r4_r1 (.int .i64 (x1)) (.int .i64 (y1))
  replace kA := kA.old ne_kA_r1 (.int .i64 (x1)) (.int .i64 (y1))
  replace kB := kB.old ne_kB_r1 (.int .i64 (x1)) (.int .i64 (y1))
  replace kC := kC.old ne_kC_r1 (.int .i64 (x1)) (.int .i64 (y1))
  replace kD := kD.old ne_kD_r1 (.int .i64 (x1)) (.int .i64 (y1))
  replace r1 := r1.put (.int .i64 (x1)) (.int .i64 (y1))
  replace hc5 := hc5.put2 n1 (HA.out _ (by omega)) (.int .i64 (x1)) (.int .i64 (y1))
  replace G := grown_put2 G (show w.heap.size ≤ w.heap.size from (by omega)) (.int .i64 (x1)) (.int .i64 (y1))
  generalize (V4_0.setCell ⟨w.heap.size, 0, none⟩ (.int .i64 (x1))).setCell ⟨w.heap.size, 1, none⟩ (.int .i64 (y1)) = V4_1 at *
  refine hK.out _ _ ⟨kA.c0, kA.c1, kB.c0, kB.c1, kC.c0, kC.c1, kD.c0, kD.c1⟩ (fun hHeld => ?_)
  clear hK K
  try simp only [Act.put, sA, sB, sC]
  refine wpAnyH_ready (rs := [5]) (by kernel_rfl) (by simp) (AllReadyH.cons (gt rfl) (fun K hK => ?_) AllReadyH.nil)
  have z0 := r2.c0
  have z1 := r2.c1
  have zf := r2.fr
  go_simp
  clear z0 z1 zf
  replace r1 := r1.old ne_r1_r2 (.int .i64 (x2)) (.int .i64 (y2))
  replace r3 := r3.old ne_r3_r2 (.int .i64 (x2)) (.int .i64 (y2))
  replace r4 := r4.old ne_r4_r2 (.int .i64 (x2)) (.int .i64 (y2))
  replace kA := kA.old ne_kA_r2 (.int .i64 (x2)) (.int .i64 (y2))
  replace kB := kB.old ne_kB_r2 (.int .i64 (x2)) (.int .i64 (y2))
  replace kC := kC.old ne_kC_r2 (.int .i64 (x2)) (.int .i64 (y2))
  replace kD := kD.old ne_kD_r2 (.int .i64 (x2)) (.int .i64 (y2))
  replace r2 := r2.put (.int .i64 (x2)) (.int .i64 (y2))
  replace hc5 := hc5.put2 n2 (HA.out _ (by omega)) (.int .i64 (x2)) (.int .i64 (y2))
  replace G := grown_put2 G (show w.heap.size ≤ w.heap.size + 1 from (by omega)) (.int .i64 (x2)) (.int .i64 (y2))
  generalize (V4_1.setCell ⟨w.heap.size + 1, 0, none⟩ (.int .i64 (x2))).setCell ⟨w.heap.size + 1, 1, none⟩ (.int .i64 (y2)) = V4_2 at *
  refine hK.out _ _ ⟨kA.c0, kA.c1, kB.c0, kB.c1, kC.c0, kC.c1, kD.c0, kD.c1⟩ (fun hHeld => ?_)
  clear hK K
  try simp only [Act.put, sA, sB, sC]
  refine wpAnyH_ready (rs := [6]) (by kernel_rfl) (by simp) (AllReadyH.cons (gt rfl) (fun K hK => ?_) AllReadyH.nil)
  have z0 := r3.c0
  have z1 := r3.c1
  have zf := r3.fr
  go_simp
  clear z0 z1 zf
  replace r1 := r1.old ne_r1_r3 (.int .i64 (x3)) (.int .i64 (y3))
  replace r2 := r2.old ne_r2_r3 (.int .i64 (x3)) (.int .i64 (y3))
  replace r4 := r4.old ne_r4_r3 (.int .i64 (x3)) (.int .i64 (y3))
  replace kA := kA.old ne_kA_r3 (.int .i64 (x3)) (.int .i64 (y3))
  replace kB := kB.old ne_kB_r3 (.int .i64 (x3)) (.int .i64 (y3))
  replace kC := kC.old ne_kC_r3 (.int .i64 (x3)) (.int .i64 (y3))
  replace kD := kD.old ne_kD_r3 (.int .i64 (x3)) (.int .i64 (y3))
  replace r3 := r3.put (.int .i64 (x3)) (.int .i64 (y3))
  replace hc5 := hc5.put2 n3 (HA.out _ (by omega)) (.int .i64 (x3)) (.int .i64 (y3))
  replace G := grown_put2 G (show w.heap.size ≤ w.heap.size + 1 + 1 from (by omega)) (.int .i64 (x3)) (.int .i64 (y3))
  generalize (V4_2.setCell ⟨w.heap.size + 1 + 1, 0, none⟩ (.int .i64 (x3))).setCell ⟨w.heap.size + 1 + 1, 1, none⟩ (.int .i64 (y3)) = V4_3 at *
  refine hK.out _ _ ⟨kA.c0, kA.c1, kB.c0, kB.c1, kC.c0, kC.c1, kD.c0, kD.c1⟩ (fun hHeld => ?_)
  clear hK K
  try simp only [Act.put, sA, sB, sC]
  refine wpAnyH_ready (rs := [7]) (by kernel_rfl) (by simp) (AllReadyH.cons (gt rfl) (fun K hK => ?_) AllReadyH.nil)
  have z0 := r4.c0
  have z1 := r4.c1
  have zf := r4.fr
  go_simp
  clear z0 z1 zf
  replace r1 := r1.old ne_r1_r4 (.int .i64 (x4)) (.int .i64 (y4))
  replace r2 := r2.old ne_r2_r4 (.int .i64 (x4)) (.int .i64 (y4))
  replace r3 := r3.old ne_r3_r4 (.int .i64 (x4)) (.int .i64 (y4))
  replace kA := kA.old ne_kA_r4 (.int .i64 (x4)) (.int .i64 (y4))
  replace kB := kB.old ne_kB_r4 (.int .i64 (x4)) (.int .i64 (y4))
  replace kC := kC.old ne_kC_r4 (.int .i64 (x4)) (.int .i64 (y4))
  replace kD := kD.old ne_kD_r4 (.int .i64 (x4)) (.int .i64 (y4))
  replace r4 := r4.put (.int .i64 (x4)) (.int .i64 (y4))
  replace hc5 := hc5.put2 n4 (HA.out _ (by omega)) (.int .i64 (x4)) (.int .i64 (y4))
  replace G := grown_put2 G (show w.heap.size ≤ w.heap.size + 1 + 1 + 1 from (by omega)) (.int .i64 (x4)) (.int .i64 (y4))
  generalize (V4_3.setCell ⟨w.heap.size + 1 + 1 + 1, 0, none⟩ (.int .i64 (x4))).setCell ⟨w.heap.size + 1 + 1 + 1, 1, none⟩ (.int .i64 (y4)) = V4_4 at *
  refine hK.out _ _ ⟨kA.c0, kA.c1, kB.c0, kB.c1, kC.c0, kC.c1, kD.c0, kD.c1⟩ (fun hHeld => ?_)
  clear hK K
  try simp only [Act.put, sA, sB, sC]
  refine wpAnyH_done (by kernel_rfl) ?_ _
  go_wp2
  exact bodyPost_ret (v := .tuple #[.agg #[.int .i64 (x1), .int .i64 (y1)], .agg #[.int .i64 (x2), .int .i64 (y2)], .agg #[.int .i64 (x3), .int .i64 (y3)], .agg #[.int .i64 (x4), .int .i64 (y4)]]) (by simp [results, Try.results25, go_sem, r1.c0, r1.c1, r2.c0, r2.c1, r3.c0, r3.c1, r4.c0, r4.c1]) rfl ⟨_, _, _, _, _, _, _, _, rfl, hc5, G⟩
end Go.Proofs.Ytmdbndooigcflaa
