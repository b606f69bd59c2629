/- Three points of a code: spec.DrawGap. -/
import Derived.Test.YtmdbndooigcflaaCurF
namespace Go.Proofs.Ytmdbndooigcflaa
open Go.RowKit

theorem yboxes (w : World) : Box2 w.heap.size (((w.alloc (.cells #[.int .i64 0, .int .i64 0] 30)).alloc (.cells #[.int .i64 0, .int .i64 0] 30)).alloc (.cells #[.int .i64 0, .int .i64 0] 30)) (w.heap.size) (.int .i64 0) (.int .i64 0) ∧ Box2 w.heap.size (((w.alloc (.cells #[.int .i64 0, .int .i64 0] 30)).alloc (.cells #[.int .i64 0, .int .i64 0] 30)).alloc (.cells #[.int .i64 0, .int .i64 0] 30)) (w.heap.size + 1) (.int .i64 0) (.int .i64 0) ∧ Box2 w.heap.size (((w.alloc (.cells #[.int .i64 0, .int .i64 0] 30)).alloc (.cells #[.int .i64 0, .int .i64 0] 30)).alloc (.cells #[.int .i64 0, .int .i64 0] 30)) (w.heap.size + 1 + 1) (.int .i64 0) (.int .i64 0) := by
  refine ⟨?_, ?_, ?_⟩
  · exact ((Box2.new w (Nat.le_refl _) (.int .i64 0) (.int .i64 0) 30).below (below1 _ _)).below (below1 _ _)
  · have this : Box2 w.heap.size (((w.alloc (.cells #[.int .i64 0, .int .i64 0] 30)).alloc (.cells #[.int .i64 0, .int .i64 0] 30)).alloc (.cells #[.int .i64 0, .int .i64 0] 30)) (w.alloc (.cells #[.int .i64 0, .int .i64 0] 30)).heap.size (.int .i64 0) (.int .i64 0) := (Box2.new (w.alloc (.cells #[.int .i64 0, .int .i64 0] 30)) (lo := w.heap.size) (by simp) (.int .i64 0) (.int .i64 0) 30).below (below1 _ _)
    rwa [World.size_alloc] at this
  · have this := Box2.new ((w.alloc (.cells #[.int .i64 0, .int .i64 0] 30)).alloc (.cells #[.int .i64 0, .int .i64 0] 30)) (lo := w.heap.size) (by simp; omega) (.int .i64 0) (.int .i64 0) 30
    rwa [World.size_alloc, World.size_alloc] at this
theorem below_grown {b p : Nat} {w w1 w2 : World} (h : Below b w w1) (g : w1.grownBy w2 (some p)) (hp : b ≤ p) (hs : b ≤ w1.heap.size) : Below b w w2 :=
  h.trans ⟨g.os, g.tape, g.output, g.size, fun i hi => g.block i (by omega) (by intro e; simp at e; omega)⟩

set_option maxRecDepth 20000 in
set_option maxHeartbeats 8000000 in
theorem drawGap_any (a : Option Addr) (n cap : Nat) (w : World) (hB : Byt w a n) (hm : n ≤ 1048576) :
    Calls Try.prog 12 #[.slice a n cap] w fun e w' => ∃ x1 y1 x2 y2 x3 y3 : Int, e = .returned (.tuple #[.agg #[.int .i64 x1, .int .i64 y1], .agg #[.int .i64 x2, .int .i64 y2], .agg #[.int .i64 x3, .int .i64 y3]]) ∧ Below w.heap.size w w' := by
  have HM : Hid (n ≤ 1048576) := hm
  obtain ⟨r1, r2, r3⟩ := yboxes w
  have N := below3 w (.cells #[.int .i64 0, .int .i64 0] 30) (.cells #[.int .i64 0, .int .i64 0] 30) (.cells #[.int .i64 0, .int .i64 0] 30)
  have hB' := hB.below N
  have sz : (((w.alloc (.cells #[.int .i64 0, .int .i64 0] 30)).alloc (.cells #[.int .i64 0, .int .i64 0] 30)).alloc (.cells #[.int .i64 0, .int .i64 0] 30)).heap.size = w.heap.size + 1 + 1 + 1 := by simp
  clear hB hm
  go_enter Try.func12, Try.ntmps12
  go_wp2_with fail
  generalize ((w.alloc (.cells #[.int .i64 0, .int .i64 0] 30)).alloc (.cells #[.int .i64 0, .int .i64 0] 30)).alloc (.cells #[.int .i64 0, .int .i64 0] 30) = W0 at *
  refine (l1New_any a n cap _ hB' HM.out).mono ?_
  rintro e w1 ⟨rfl, hc, hb⟩
  replace r1 := r1.below hb
  replace r2 := r2.below hb
  replace r3 := r3.below hb
  replace N := N.trans (hb.mono N.size)
  rw [sz] at hc
  rw [sz]
  clear hb hB' sz
  have nn : w.heap.size ≤ w.heap.size + 1 + 1 + 1 := by omega
  go_wp2_with fail
  refine (l3Four_any (w.heap.size + 1 + 1 + 1) a n cap _ hc).mono ?_
  rintro e w2 ⟨x1, y1, x2, y2, x3, y3, x4, y4, rfl, hc2, g⟩
  replace r1 := r1.grown g (by omega)
  replace r2 := r2.grown g (by omega)
  replace r3 := r3.grown g (by omega)
  replace N := below_grown N g nn N.size
  clear g hc hc2
  have t1 := r1.lt
  have t2 := r2.lt
  have t3 := r3.lt
  go_wp2_with fail
  have kA : Box2 w.heap.size ((((w2.alloc (.cells #[.int .i64 x1, .int .i64 y1] 30)).alloc (.cells #[.int .i64 x2, .int .i64 y2] 30)).alloc (.cells #[.int .i64 x3, .int .i64 y3] 30)).alloc (.cells #[.int .i64 x4, .int .i64 y4] 30)) (w2.heap.size) (.int .i64 x1) (.int .i64 y1) := (((Box2.new w2 N.size (.int .i64 x1) (.int .i64 y1) 30).below (below1 _ _)).below (below1 _ _)).below (below1 _ _)
  have kB : Box2 w.heap.size ((((w2.alloc (.cells #[.int .i64 x1, .int .i64 y1] 30)).alloc (.cells #[.int .i64 x2, .int .i64 y2] 30)).alloc (.cells #[.int .i64 x3, .int .i64 y3] 30)).alloc (.cells #[.int .i64 x4, .int .i64 y4] 30)) (w2.heap.size + 1) (.int .i64 x2) (.int .i64 y2) := by
    have this : Box2 w.heap.size ((((w2.alloc (.cells #[.int .i64 x1, .int .i64 y1] 30)).alloc (.cells #[.int .i64 x2, .int .i64 y2] 30)).alloc (.cells #[.int .i64 x3, .int .i64 y3] 30)).alloc (.cells #[.int .i64 x4, .int .i64 y4] 30)) (w2.alloc (.cells #[.int .i64 x1, .int .i64 y1] 30)).heap.size (.int .i64 x2) (.int .i64 y2) := ((Box2.new (w2.alloc (.cells #[.int .i64 x1, .int .i64 y1] 30)) (lo := w.heap.size) (by have := N.size; simp; omega) (.int .i64 x2) (.int .i64 y2) 30).below (below1 _ _)).below (below1 _ _)
    rwa [World.size_alloc] at this
  have kC : Box2 w.heap.size ((((w2.alloc (.cells #[.int .i64 x1, .int .i64 y1] 30)).alloc (.cells #[.int .i64 x2, .int .i64 y2] 30)).alloc (.cells #[.int .i64 x3, .int .i64 y3] 30)).alloc (.cells #[.int .i64 x4, .int .i64 y4] 30)) (w2.heap.size + 1 + 1) (.int .i64 x3) (.int .i64 y3) := by
    have this : Box2 w.heap.size ((((w2.alloc (.cells #[.int .i64 x1, .int .i64 y1] 30)).alloc (.cells #[.int .i64 x2, .int .i64 y2] 30)).alloc (.cells #[.int .i64 x3, .int .i64 y3] 30)).alloc (.cells #[.int .i64 x4, .int .i64 y4] 30)) ((w2.alloc (.cells #[.int .i64 x1, .int .i64 y1] 30)).alloc (.cells #[.int .i64 x2, .int .i64 y2] 30)).heap.size (.int .i64 x3) (.int .i64 y3) := (Box2.new ((w2.alloc (.cells #[.int .i64 x1, .int .i64 y1] 30)).alloc (.cells #[.int .i64 x2, .int .i64 y2] 30)) (lo := w.heap.size) (by have := N.size; simp; omega) (.int .i64 x3) (.int .i64 y3) 30).below (below1 _ _)
    rwa [World.size_alloc, World.size_alloc] at this
  have hb := below4 w2 (.cells #[.int .i64 x1, .int .i64 y1] 30) (.cells #[.int .i64 x2, .int .i64 y2] 30) (.cells #[.int .i64 x3, .int .i64 y3] 30) (.cells #[.int .i64 x4, .int .i64 y4] 30)
  replace r1 := r1.below hb
  replace r2 := r2.below hb
  replace r3 := r3.below hb
  replace N := N.trans (hb.mono N.size)
  clear hb
  generalize (((w2.alloc (.cells #[.int .i64 x1, .int .i64 y1] 30)).alloc (.cells #[.int .i64 x2, .int .i64 y2] 30)).alloc (.cells #[.int .i64 x3, .int .i64 y3] 30)).alloc (.cells #[.int .i64 x4, .int .i64 y4] 30) = W3 at *
  have ne_r1_r2 : w.heap.size ≠ w.heap.size + 1 := by omega
  have ne_r1_r3 : w.heap.size ≠ w.heap.size + 1 + 1 := by omega
  have ne_r2_r1 : w.heap.size + 1 ≠ w.heap.size := by omega
  have ne_r2_r3 : w.heap.size + 1 ≠ w.heap.size + 1 + 1 := by omega
  have ne_r3_r1 : w.heap.size + 1 + 1 ≠ w.heap.size := by omega
  have ne_r3_r2 : w.heap.size + 1 + 1 ≠ w.heap.size + 1 := by omega
  have ne_kC_r1 : w2.heap.size + 1 + 1 ≠ w.heap.size := by omega
  have ne_kC_r2 : w2.heap.size + 1 + 1 ≠ w.heap.size + 1 := by omega
  have ne_kC_r3 : w2.heap.size + 1 + 1 ≠ w.heap.size + 1 + 1 := by omega
  have ne_kA_r1 : w2.heap.size ≠ w.heap.size := by omega
  have ne_kA_r2 : w2.heap.size ≠ w.heap.size + 1 := by omega
  have ne_kA_r3 : w2.heap.size ≠ w.heap.size + 1 + 1 := by omega
  have ne_kB_r1 : w2.heap.size + 1 ≠ w.heap.size := by omega
  have ne_kB_r2 : w2.heap.size + 1 ≠ w.heap.size + 1 := by omega
  have ne_kB_r3 : w2.heap.size + 1 ≠ w.heap.size + 1 + 1 := by omega
  refine wp_region_held_drew (S := fun w' => w'.cell? ⟨w2.heap.size + 1 + 1, 0, none⟩ = some (.int .i64 x3) ∧ w'.cell? ⟨w2.heap.size + 1 + 1, 1, none⟩ = some (.int .i64 y3) ∧ w'.cell? ⟨w2.heap.size, 0, none⟩ = some (.int .i64 x1) ∧ w'.cell? ⟨w2.heap.size, 1, none⟩ = some (.int .i64 y1) ∧ w'.cell? ⟨w2.heap.size + 1, 0, none⟩ = some (.int .i64 x2) ∧ w'.cell? ⟨w2.heap.size + 1, 1, none⟩ = some (.int .i64 y2)) (by kernel_rfl) ⟨kC.c0, kC.c1, kA.c0, kA.c1, kB.c0, kB.c1⟩ (fun hHeld => ?_)
  have dr : Below W3.heap.size W3 W3.drew := (Below.refl _ _).drew
  replace r1 := r1.below dr
  replace r2 := r2.below dr
  replace r3 := r3.below dr
  replace kC := kC.below dr
  replace kA := kA.below dr
  replace kB := kB.below dr
  replace N := N.drew
  clear dr
  generalize W3.drew = V0 at *
  refine takeQ (i := 0) (gt rfl) (by kernel_rfl) (fun _ _ _ h => h) (by rfl) (by intro wq hSw; obtain ⟨q0, q1, q2, q3, q4, q5⟩ := hSw; go_simp <;> with_reducible rfl) (by assumption) ?_
  try simp only [Act.put, sA, sB, sC]
  refine takeQ (i := 1) (gt rfl) (by kernel_rfl) (fun _ _ _ h => h) (by rfl) (by intro wq hSw; obtain ⟨q0, q1, q2, q3, q4, q5⟩ := hSw; go_simp <;> with_reducible rfl) (by assumption) ?_
  try simp only [Act.put, sA, sB, sC]
  refine takeQ (i := 2) (gt rfl) (by kernel_rfl) (fun _ _ _ h => h) (by rfl) (by intro wq hSw; obtain ⟨q0, q1, q2, q3, q4, q5⟩ := hSw; go_simp <;> with_reducible rfl) (by assumption) ?_
  try simp only [Act.put, sA, sB, sC]
  refine wpAnyH_ready (rs := [3]) (by kernel_rfl) (by simp) (AllReadyH.cons (gt rfl) (fun K hK => ?_) AllReadyH.nil)
  have z0 := r1.c0
  have z1 := r1.c1
  have zf := r1.fr
  go_simp
  clear z0 z1 zf
  replace r2 := r2.old ne_r2_r1 (.int .i64 x3) (.int .i64 y3)
  replace r3 := r3.old ne_r3_r1 (.int .i64 x3) (.int .i64 y3)
  replace kC := kC.old ne_kC_r1 (.int .i64 x3) (.int .i64 y3)
  replace kA := kA.old ne_kA_r1 (.int .i64 x3) (.int .i64 y3)
  replace kB := kB.old ne_kB_r1 (.int .i64 x3) (.int .i64 y3)
  replace N := Box2.chain N r1 (.int .i64 x3) (.int .i64 y3)
  replace r1 := r1.put (.int .i64 x3) (.int .i64 y3)
  generalize (V0.setCell ⟨w.heap.size, 0, none⟩ (.int .i64 x3)).setCell ⟨w.heap.size, 1, none⟩ (.int .i64 y3) = V1 at *
  refine hK.out _ _ ⟨kC.c0, kC.c1, kA.c0, kA.c1, kB.c0, kB.c1⟩ (fun hHeld => ?_)
  clear hK K
  try simp only [Act.put, sA, sB, sC]
  refine wpAnyH_ready (rs := [4]) (by kernel_rfl) (by simp) (AllReadyH.cons (gt rfl) (fun K hK => ?_) AllReadyH.nil)
  have z0 := r2.c0
  have z1 := r2.c1
  have zf := r2.fr
  go_simp
  clear z0 z1 zf
  replace r1 := r1.old ne_r1_r2 (.int .i64 x1) (.int .i64 y1)
  replace r3 := r3.old ne_r3_r2 (.int .i64 x1) (.int .i64 y1)
  replace kC := kC.old ne_kC_r2 (.int .i64 x1) (.int .i64 y1)
  replace kA := kA.old ne_kA_r2 (.int .i64 x1) (.int .i64 y1)
  replace kB := kB.old ne_kB_r2 (.int .i64 x1) (.int .i64 y1)
  replace N := Box2.chain N r2 (.int .i64 x1) (.int .i64 y1)
  replace r2 := r2.put (.int .i64 x1) (.int .i64 y1)
  generalize (V1.setCell ⟨w.heap.size + 1, 0, none⟩ (.int .i64 x1)).setCell ⟨w.heap.size + 1, 1, none⟩ (.int .i64 y1) = V2 at *
  refine hK.out _ _ ⟨kC.c0, kC.c1, kA.c0, kA.c1, kB.c0, kB.c1⟩ (fun hHeld => ?_)
  clear hK K
  try simp only [Act.put, sA, sB, sC]
  refine wpAnyH_ready (rs := [5]) (by kernel_rfl) (by simp) (AllReadyH.cons (gt rfl) (fun K hK => ?_) AllReadyH.nil)
  have z0 := r3.c0
  have z1 := r3.c1
  have zf := r3.fr
  go_simp
  clear z0 z1 zf
  replace r1 := r1.old ne_r1_r3 (.int .i64 x2) (.int .i64 y2)
  replace r2 := r2.old ne_r2_r3 (.int .i64 x2) (.int .i64 y2)
  replace kC := kC.old ne_kC_r3 (.int .i64 x2) (.int .i64 y2)
  replace kA := kA.old ne_kA_r3 (.int .i64 x2) (.int .i64 y2)
  replace kB := kB.old ne_kB_r3 (.int .i64 x2) (.int .i64 y2)
  replace N := Box2.chain N r3 (.int .i64 x2) (.int .i64 y2)
  replace r3 := r3.put (.int .i64 x2) (.int .i64 y2)
  generalize (V2.setCell ⟨w.heap.size + 1 + 1, 0, none⟩ (.int .i64 x2)).setCell ⟨w.heap.size + 1 + 1, 1, none⟩ (.int .i64 y2) = V3 at *
  refine hK.out _ _ ⟨kC.c0, kC.c1, kA.c0, kA.c1, kB.c0, kB.c1⟩ (fun hHeld => ?_)
  clear hK K
  try simp only [Act.put, sA, sB, sC]
  refine wpAnyH_done (by kernel_rfl) ?_ _
  go_wp2
  exact bodyPost_ret (v := .tuple #[.agg #[.int .i64 x3, .int .i64 y3], .agg #[.int .i64 x1, .int .i64 y1], .agg #[.int .i64 x2, .int .i64 y2]]) (by simp [results, Try.results12, go_sem, r1.c0, r1.c1, r2.c0, r2.c1, r3.c0, r3.c1]) rfl ⟨_, _, _, _, _, _, rfl, N⟩
end Go.Proofs.Ytmdbndooigcflaa
