/- WithinBox: of both; the law: at every argument the program's WithinBox is the specification's; it writes into no argument. -/
import Derived.Test.YtgfpmhpjcadhjaaSBox
import Derived.Test.YtgfpmhpjcadhjaaBoxA
import Derived.Test.YtgfpmhpjcadhjaaShapeM
import Derived.Test.YtgfpmhpjcadhjaaHeldQ
namespace Go.Proofs.Ytgfpmhpjcadhjaa
open Go.RowKit

/-- A shape lies in a box. -/
def wthB (k : Int) (rs : List (List (Int × Int))) (b1 b2 b3 b4 : Int) : Bool := goodB k rs && insd (sbA k rs) (sbB k rs) (sbC k rs) (sbD k rs) b1 b2 b3 b4


set_option maxRecDepth 20000 in
set_option maxHeartbeats 4000000 in
theorem specWithin (n : Int) (a : Option Addr) (c : Nat) (rs : List (List (Int × Int))) (b1 b2 b3 b4 : Int) (w : World) (h : SeesS w a c rs) :
    Calls Try.prog 11 #[.agg #[.int .i64 n, .slice a rs.length c], .agg #[.int .i64 b1, .int .i64 b2, .int .i64 b3, .int .i64 b4]] w fun e w' => e = .returned (.bool (wthB n rs b1 b2 b3 b4)) ∧ Below w.heap.size w w' := by
  have B0 := below2 w (.cells #[.int .i64 n, .slice a rs.length c] 33) (.cells #[.int .i64 b1, .int .i64 b2, .int .i64 b3, .int .i64 b4] 29)
  have V1 := (Box2.new w (lo := w.heap.size) (Nat.le_refl _) (.int .i64 n) (.slice a rs.length c) 33).below (below1 _ (.cells #[.int .i64 b1, .int .i64 b2, .int .i64 b3, .int .i64 b4] 29))
  have V2 := Box4.new (w.alloc (.cells #[.int .i64 n, .slice a rs.length c] 33)) (lo := w.heap.size) (by simp) (.int .i64 b1) (.int .i64 b2) (.int .i64 b3) (.int .i64 b4) 29
  rw [World.size_alloc] at V2
  have SW := h.below B0
  obtain ⟨k0, k1, _, _⟩ := id V1
  obtain ⟨k2, k3, k4, k5, _, _⟩ := id V2
  cases hg : goodB n rs
  · have F : Hid (wthB n rs b1 b2 b3 b4 = false) := by
      show _ = _
      unfold wthB
      rw [hg]
      rfl
    go_enter Try.func11, Try.ntmps11
    go_upto_region 1 with fail
    generalize (w.alloc (.cells #[.int .i64 n, .slice a rs.length c] 33)).alloc (.cells #[.int .i64 b1, .int .i64 b2, .int .i64 b3, .int .i64 b4] 29) = W0 at *
    refine wp_region_held_drew (S := Below W0.heap.size W0) (by kernel_rfl) ((Below.refl _ _).drew) (fun hHeld => ?_)
    have N : Below W0.heap.size W0 W0.drew := hHeld
    revert hHeld N
    generalize W0.drew = ww0
    intro hHeld N
    refine takeQ (i := 0) (gt rfl) (by kernel_rfl) (fun _ _ _ h => h) (by rfl) (by intro wq hSw; have q0 := bat hSw k0; have q1 := bat hSw k1; have q2 := bat hSw k2; have q3 := bat hSw k3; have q4 := bat hSw k4; have q5 := bat hSw k5; go_simp <;> with_reducible rfl) (by assumption) ?_
    try simp only [Act.put, sA, sB, sC]
    refine wpAnyH_ready (rs := [1]) (by kernel_rfl) (by simp) (AllReadyH.cons (gt rfl) (fun K hK => ?_) AllReadyH.nil)
    go_simp
    refine (l5Good_any n a c rs _ (SW.below N)).mono ?_
    rintro e1 ww1 ⟨rfl, hb⟩
    rw [hg]
    replace N := N.trans (hb.mono N.size)
    clear hb
    refine hK.out _ _ N (fun hHeld => ?_)
    clear hK K
    try simp only [Act.put, sA, sB, sC]
    refine takeQ (i := 2) (gt rfl) (by kernel_rfl) (fun _ _ _ h => h) (by rfl) (by intro wq _; go_simp <;> with_reducible rfl) (by assumption) ?_
    try simp only [Act.put, sA, sB, sC]
    refine takeN (i := 3) (gt rfl) (by kernel_rfl) (by kernel_rfl) (by kernel_rfl) (by exact fun _ _ _ h => h) (by rfl) (by assumption) ?_
    try simp only [Act.put, sA, sB, sC]
    refine takeN (i := 4) (gt rfl) (by kernel_rfl) (by kernel_rfl) (by kernel_rfl) (by exact fun _ _ _ h => h) (by rfl) (by assumption) ?_
    try simp only [Act.put, sA, sB, sC]
    refine takeN (i := 5) (gt rfl) (by kernel_rfl) (by kernel_rfl) (by kernel_rfl) (by exact fun _ _ _ h => h) (by rfl) (by assumption) ?_
    try simp only [Act.put, sA, sB, sC]
    refine takeN (i := 6) (gt rfl) (by kernel_rfl) (by kernel_rfl) (by kernel_rfl) (by exact fun _ _ _ h => h) (by rfl) (by assumption) ?_
    try simp only [Act.put, sA, sB, sC]
    refine takeQ (i := 7) (gt rfl) (by kernel_rfl) (fun _ _ _ h => h) (by rfl) (by intro wq _; go_simp <;> with_reducible rfl) (by assumption) ?_
    try simp only [Act.put, sA, sB, sC]
    refine takeQ (i := 8) (gt rfl) (by kernel_rfl) (fun _ _ _ h => h) (by rfl) (by intro wq _; go_simp <;> with_reducible rfl) (by assumption) ?_
    try simp only [Act.put, sA, sB, sC]
    refine wpAnyH_done (by kernel_rfl) ?_ _
    go_wp2
    go_ret
    exact ⟨by rw [F.out]; rfl, B0.trans (N.mono B0.size)⟩
  · have F : Hid (wthB n rs b1 b2 b3 b4 = insd (sbA n rs) (sbB n rs) (sbC n rs) (sbD n rs) b1 b2 b3 b4) := by
      show _ = _
      unfold wthB
      rw [hg]
      rfl
    go_enter Try.func11, Try.ntmps11
    go_upto_region 1 with fail
    generalize (w.alloc (.cells #[.int .i64 n, .slice a rs.length c] 33)).alloc (.cells #[.int .i64 b1, .int .i64 b2, .int .i64 b3, .int .i64 b4] 29) = W0 at *
    refine wp_region_held_drew (S := Below W0.heap.size W0) (by kernel_rfl) ((Below.refl _ _).drew) (fun hHeld => ?_)
    have N : Below W0.heap.size W0 W0.drew := hHeld
    revert hHeld N
    generalize W0.drew = ww0
    intro hHeld N
    refine takeQ (i := 0) (gt rfl) (by kernel_rfl) (fun _ _ _ h => h) (by rfl) (by intro wq hSw; have q0 := bat hSw k0; have q1 := bat hSw k1; have q2 := bat hSw k2; have q3 := bat hSw k3; have q4 := bat hSw k4; have q5 := bat hSw k5; go_simp <;> with_reducible rfl) (by assumption) ?_
    try simp only [Act.put, sA, sB, sC]
    refine wpAnyH_ready (rs := [1]) (by kernel_rfl) (by simp) (AllReadyH.cons (gt rfl) (fun K hK => ?_) AllReadyH.nil)
    go_simp
    refine (l5Good_any n a c rs _ (SW.below N)).mono ?_
    rintro e1 ww1 ⟨rfl, hb⟩
    rw [hg]
    replace N := N.trans (hb.mono N.size)
    clear hb
    refine hK.out _ _ N (fun hHeld => ?_)
    clear hK K
    try simp only [Act.put, sA, sB, sC]
    refine takeQ (i := 2) (gt rfl) (by kernel_rfl) (fun _ _ _ h => h) (by rfl) (by intro wq _; go_simp <;> with_reducible rfl) (by assumption) ?_
    try simp only [Act.put, sA, sB, sC]
    refine takeQ (i := 3) (gt rfl) (by kernel_rfl) (fun _ _ _ h => h) (by rfl) (by intro wq hSw; have q0 := bat hSw k0; have q1 := bat hSw k1; have q2 := bat hSw k2; have q3 := bat hSw k3; have q4 := bat hSw k4; have q5 := bat hSw k5; go_simp <;> with_reducible rfl) (by assumption) ?_
    try simp only [Act.put, sA, sB, sC]
    refine takeQ (i := 5) (gt rfl) (by kernel_rfl) (fun _ _ _ h => h) (by rfl) (by intro wq hSw; have q0 := bat hSw k0; have q1 := bat hSw k1; have q2 := bat hSw k2; have q3 := bat hSw k3; have q4 := bat hSw k4; have q5 := bat hSw k5; go_simp <;> with_reducible rfl) (by assumption) ?_
    try simp only [Act.put, sA, sB, sC]
    refine wpAnyH_ready (rs := [4]) (by kernel_rfl) (by simp) (AllReadyH.cons (gt rfl) (fun K hK => ?_) AllReadyH.nil)
    go_simp
    refine (specShapeBox n a c rs _ (SW.below N)).mono ?_
    rintro e2 ww2 ⟨rfl, hb⟩
    replace N := N.trans (hb.mono N.size)
    clear hb
    refine hK.out _ _ N (fun hHeld => ?_)
    clear hK K
    try simp only [Act.put, sA, sB, sC]
    refine wpAnyH_ready (rs := [6]) (by kernel_rfl) (by simp) (AllReadyH.cons (gt rfl) (fun K hK => ?_) AllReadyH.nil)
    go_simp
    refine (specInside _ _ _ _ b1 b2 b3 b4 _).mono ?_
    rintro e3 ww3 ⟨rfl, hb⟩
    replace N := N.trans (hb.mono N.size)
    clear hb
    refine hK.out _ _ N (fun hHeld => ?_)
    clear hK K
    try simp only [Act.put, sA, sB, sC]
    refine takeQ (i := 7) (gt rfl) (by kernel_rfl) (fun _ _ _ h => h) (by rfl) (by intro wq _; go_simp <;> with_reducible rfl) (by assumption) ?_
    try simp only [Act.put, sA, sB, sC]
    refine takeQ (i := 8) (gt rfl) (by kernel_rfl) (fun _ _ _ h => h) (by rfl) (by intro wq _; go_simp <;> with_reducible rfl) (by assumption) ?_
    try simp only [Act.put, sA, sB, sC]
    refine wpAnyH_done (by kernel_rfl) ?_ _
    go_wp2
    go_ret
    exact ⟨by rw [F.out]; rfl, B0.trans (N.mono B0.size)⟩

set_option maxRecDepth 20000 in
set_option maxHeartbeats 4000000 in
theorem implWithin (n : Int) (a : Option Addr) (c : Nat) (rs : List (List (Int × Int))) (b1 b2 b3 b4 : Int) (w : World) (h : SeesS w a c rs) :
    Calls Try.prog 13 #[.agg #[.int .i64 n, .slice a rs.length c], .agg #[.int .i64 b1, .int .i64 b2, .int .i64 b3, .int .i64 b4]] w fun e w' => e = .returned (.bool (wthB n rs b1 b2 b3 b4)) ∧ Below w.heap.size w w' := by
  have B0 := below2 w (.cells #[.int .i64 n, .slice a rs.length c] 33) (.cells #[.int .i64 b1, .int .i64 b2, .int .i64 b3, .int .i64 b4] 29)
  have V1 := (Box2.new w (lo := w.heap.size) (Nat.le_refl _) (.int .i64 n) (.slice a rs.length c) 33).below (below1 _ (.cells #[.int .i64 b1, .int .i64 b2, .int .i64 b3, .int .i64 b4] 29))
  have V2 := Box4.new (w.alloc (.cells #[.int .i64 n, .slice a rs.length c] 33)) (lo := w.heap.size) (by simp) (.int .i64 b1) (.int .i64 b2) (.int .i64 b3) (.int .i64 b4) 29
  rw [World.size_alloc] at V2
  have SW := h.below B0
  obtain ⟨k0, k1, _, _⟩ := id V1
  obtain ⟨k2, k3, k4, k5, _, _⟩ := id V2
  cases hg : goodB n rs
  · have F : Hid (wthB n rs b1 b2 b3 b4 = false) := by
      show _ = _
      unfold wthB
      rw [hg]
      rfl
    go_enter Try.func13, Try.ntmps13
    go_upto_region 1 with fail
    generalize (w.alloc (.cells #[.int .i64 n, .slice a rs.length c] 33)).alloc (.cells #[.int .i64 b1, .int .i64 b2, .int .i64 b3, .int .i64 b4] 29) = W0 at *
    refine wp_region_held_drew (S := Below W0.heap.size W0) (by kernel_rfl) ((Below.refl _ _).drew) (fun hHeld => ?_)
    have N : Below W0.heap.size W0 W0.drew := hHeld
    revert hHeld N
    generalize W0.drew = ww0
    intro hHeld N
    refine takeQ (i := 0) (gt rfl) (by kernel_rfl) (fun _ _ _ h => h) (by rfl) (by intro wq hSw; have q0 := bat hSw k0; have q1 := bat hSw k1; have q2 := bat hSw k2; have q3 := bat hSw k3; have q4 := bat hSw k4; have q5 := bat hSw k5; go_simp <;> with_reducible rfl) (by assumption) ?_
    try simp only [Act.put, sA, sB, sC]
    refine wpAnyH_ready (rs := [1]) (by kernel_rfl) (by simp) (AllReadyH.cons (gt rfl) (fun K hK => ?_) AllReadyH.nil)
    go_simp
    refine (good_any n a c rs _ (SW.below N)).mono ?_
    rintro e1 ww1 ⟨rfl, hb⟩
    rw [hg]
    replace N := N.trans (hb.mono N.size)
    clear hb
    refine hK.out _ _ N (fun hHeld => ?_)
    clear hK K
    try simp only [Act.put, sA, sB, sC]
    refine takeQ (i := 2) (gt rfl) (by kernel_rfl) (fun _ _ _ h => h) (by rfl) (by intro wq _; go_simp <;> with_reducible rfl) (by assumption) ?_
    try simp only [Act.put, sA, sB, sC]
    refine takeN (i := 3) (gt rfl) (by kernel_rfl) (by kernel_rfl) (by kernel_rfl) (by exact fun _ _ _ h => h) (by rfl) (by assumption) ?_
    try simp only [Act.put, sA, sB, sC]
    refine takeN (i := 4) (gt rfl) (by kernel_rfl) (by kernel_rfl) (by kernel_rfl) (by exact fun _ _ _ h => h) (by rfl) (by assumption) ?_
    try simp only [Act.put, sA, sB, sC]
    refine takeN (i := 5) (gt rfl) (by kernel_rfl) (by kernel_rfl) (by kernel_rfl) (by exact fun _ _ _ h => h) (by rfl) (by assumption) ?_
    try simp only [Act.put, sA, sB, sC]
    refine takeN (i := 6) (gt rfl) (by kernel_rfl) (by kernel_rfl) (by kernel_rfl) (by exact fun _ _ _ h => h) (by rfl) (by assumption) ?_
    try simp only [Act.put, sA, sB, sC]
    refine takeQ (i := 7) (gt rfl) (by kernel_rfl) (fun _ _ _ h => h) (by rfl) (by intro wq _; go_simp <;> with_reducible rfl) (by assumption) ?_
    try simp only [Act.put, sA, sB, sC]
    refine takeQ (i := 8) (gt rfl) (by kernel_rfl) (fun _ _ _ h => h) (by rfl) (by intro wq _; go_simp <;> with_reducible rfl) (by assumption) ?_
    try simp only [Act.put, sA, sB, sC]
    refine wpAnyH_done (by kernel_rfl) ?_ _
    go_wp2
    go_ret
    exact ⟨by rw [F.out]; rfl, B0.trans (N.mono B0.size)⟩
  · have F : Hid (wthB n rs b1 b2 b3 b4 = insd (sbA n rs) (sbB n rs) (sbC n rs) (sbD n rs) b1 b2 b3 b4) := by
      show _ = _
      unfold wthB
      rw [hg]
      rfl
    go_enter Try.func13, Try.ntmps13
    go_upto_region 1 with fail
    generalize (w.alloc (.cells #[.int .i64 n, .slice a rs.length c] 33)).alloc (.cells #[.int .i64 b1, .int .i64 b2, .int .i64 b3, .int .i64 b4] 29) = W0 at *
    refine wp_region_held_drew (S := Below W0.heap.size W0) (by kernel_rfl) ((Below.refl _ _).drew) (fun hHeld => ?_)
    have N : Below W0.heap.size W0 W0.drew := hHeld
    revert hHeld N
    generalize W0.drew = ww0
    intro hHeld N
    refine takeQ (i := 0) (gt rfl) (by kernel_rfl) (fun _ _ _ h => h) (by rfl) (by intro wq hSw; have q0 := bat hSw k0; have q1 := bat hSw k1; have q2 := bat hSw k2; have q3 := bat hSw k3; have q4 := bat hSw k4; have q5 := bat hSw k5; go_simp <;> with_reducible rfl) (by assumption) ?_
    try simp only [Act.put, sA, sB, sC]
    refine wpAnyH_ready (rs := [1]) (by kernel_rfl) (by simp) (AllReadyH.cons (gt rfl) (fun K hK => ?_) AllReadyH.nil)
    go_simp
    refine (good_any n a c rs _ (SW.below N)).mono ?_
    rintro e1 ww1 ⟨rfl, hb⟩
    rw [hg]
    replace N := N.trans (hb.mono N.size)
    clear hb
    refine hK.out _ _ N (fun hHeld => ?_)
    clear hK K
    try simp only [Act.put, sA, sB, sC]
    refine takeQ (i := 2) (gt rfl) (by kernel_rfl) (fun _ _ _ h => h) (by rfl) (by intro wq _; go_simp <;> with_reducible rfl) (by assumption) ?_
    try simp only [Act.put, sA, sB, sC]
    refine takeQ (i := 3) (gt rfl) (by kernel_rfl) (fun _ _ _ h => h) (by rfl) (by intro wq hSw; have q0 := bat hSw k0; have q1 := bat hSw k1; have q2 := bat hSw k2; have q3 := bat hSw k3; have q4 := bat hSw k4; have q5 := bat hSw k5; go_simp <;> with_reducible rfl) (by assumption) ?_
    try simp only [Act.put, sA, sB, sC]
    refine takeQ (i := 5) (gt rfl) (by kernel_rfl) (fun _ _ _ h => h) (by rfl) (by intro wq hSw; have q0 := bat hSw k0; have q1 := bat hSw k1; have q2 := bat hSw k2; have q3 := bat hSw k3; have q4 := bat hSw k4; have q5 := bat hSw k5; go_simp <;> with_reducible rfl) (by assumption) ?_
    try simp only [Act.put, sA, sB, sC]
    refine wpAnyH_ready (rs := [4]) (by kernel_rfl) (by simp) (AllReadyH.cons (gt rfl) (fun K hK => ?_) AllReadyH.nil)
    go_simp
    refine (implShapeBox n a c rs _ (SW.below N)).mono ?_
    rintro e2 ww2 ⟨rfl, hb⟩
    replace N := N.trans (hb.mono N.size)
    clear hb
    refine hK.out _ _ N (fun hHeld => ?_)
    clear hK K
    try simp only [Act.put, sA, sB, sC]
    refine wpAnyH_ready (rs := [6]) (by kernel_rfl) (by simp) (AllReadyH.cons (gt rfl) (fun K hK => ?_) AllReadyH.nil)
    go_simp
    refine (implInside _ _ _ _ b1 b2 b3 b4 _).mono ?_
    rintro e3 ww3 ⟨rfl, hb⟩
    replace N := N.trans (hb.mono N.size)
    clear hb
    refine hK.out _ _ N (fun hHeld => ?_)
    clear hK K
    try simp only [Act.put, sA, sB, sC]
    refine takeQ (i := 7) (gt rfl) (by kernel_rfl) (fun _ _ _ h => h) (by rfl) (by intro wq _; go_simp <;> with_reducible rfl) (by assumption) ?_
    try simp only [Act.put, sA, sB, sC]
    refine takeQ (i := 8) (gt rfl) (by kernel_rfl) (fun _ _ _ h => h) (by rfl) (by intro wq _; go_simp <;> with_reducible rfl) (by assumption) ?_
    try simp only [Act.put, sA, sB, sC]
    refine wpAnyH_done (by kernel_rfl) ?_ _
    go_wp2
    go_ret
    exact ⟨by rw [F.out]; rfl, B0.trans (N.mono B0.size)⟩

theorem keepS6 {W W' : World} {p q : Nat} {v0 v1 v2 v3 v4 v5 : Value} (k : W.cell? ⟨p, 0, none⟩ = some v0 ∧ W.cell? ⟨p, 1, none⟩ = some v1 ∧ W.cell? ⟨q, 0, none⟩ = some v2 ∧ W.cell? ⟨q, 1, none⟩ = some v3 ∧ W.cell? ⟨q, 2, none⟩ = some v4 ∧ W.cell? ⟨q, 3, none⟩ = some v5) (hb : Below W.heap.size W W') :
    W'.cell? ⟨p, 0, none⟩ = some v0 ∧ W'.cell? ⟨p, 1, none⟩ = some v1 ∧ W'.cell? ⟨q, 0, none⟩ = some v2 ∧ W'.cell? ⟨q, 1, none⟩ = some v3 ∧ W'.cell? ⟨q, 2, none⟩ = some v4 ∧ W'.cell? ⟨q, 3, none⟩ = some v5 :=
  ⟨bat hb k.1, bat hb k.2.1, bat hb k.2.2.1, bat hb k.2.2.2.1, bat hb k.2.2.2.2.1, bat hb k.2.2.2.2.2⟩
theorem keepS4w {W W' : World} {p q : Nat} {v0 v1 v2 v3 : Value} (k : W.cell? ⟨p, 0, none⟩ = some v0 ∧ W.cell? ⟨p, 1, none⟩ = some v1 ∧ W.cell? ⟨q, 0, none⟩ = some v2 ∧ W.cell? ⟨q, 1, none⟩ = some v3) (hb : Below W.heap.size W W') :
    W'.cell? ⟨p, 0, none⟩ = some v0 ∧ W'.cell? ⟨p, 1, none⟩ = some v1 ∧ W'.cell? ⟨q, 0, none⟩ = some v2 ∧ W'.cell? ⟨q, 1, none⟩ = some v3 :=
  ⟨bat hb k.1, bat hb k.2.1, bat hb k.2.2.1, bat hb k.2.2.2⟩

set_option maxRecDepth 20000 in
set_option maxHeartbeats 4000000 in
theorem lawWithinBox (n : Int) (a : Option Addr) (c : Nat) (rs : List (List (Int × Int))) (b1 b2 b3 b4 : Int) (w : World) (h : SeesS w a c rs) :
    Calls Try.prog 4 #[.agg #[.int .i64 n, .slice a rs.length c], .agg #[.int .i64 b1, .int .i64 b2, .int .i64 b3, .int .i64 b4]] w fun e w' => e = .returned (.bool true) ∧ Below w.heap.size w w' := by
  have B0 := below2 w (.cells #[.int .i64 n, .slice a rs.length c] 24) (.cells #[.int .i64 b1, .int .i64 b2, .int .i64 b3, .int .i64 b4] 40)
  have V1 : Box2 0 ((w.alloc (.cells #[.int .i64 n, .slice a rs.length c] 24)).alloc (.cells #[.int .i64 b1, .int .i64 b2, .int .i64 b3, .int .i64 b4] 40)) w.heap.size (.int .i64 n) (.slice a rs.length c) := (Box2.new w (lo := 0) (by omega) _ _ _).below (below1 _ _)
  have V2 := Box4.new (w.alloc (.cells #[.int .i64 n, .slice a rs.length c] 24)) (lo := 0) (by omega) (.int .i64 b1) (.int .i64 b2) (.int .i64 b3) (.int .i64 b4) 40
  rw [World.size_alloc] at V2
  have S1 := h.below B0
  obtain ⟨z, HZ⟩ : ∃ z, Hid (wthB n rs b1 b2 b3 b4 = z) := ⟨_, rfl⟩
  have hzz : (z != z) = false := by cases z <;> rfl
  clear h
  go_enter Try.func4, Try.ntmps4
  go_wp2_with fail
  generalize (w.alloc (.cells #[.int .i64 n, .slice a rs.length c] 24)).alloc (.cells #[.int .i64 b1, .int .i64 b2, .int .i64 b3, .int .i64 b4] 40) = W0 at *
  refine (szShape_any n a c rs 1048576 _ S1 (by omega)).mono ?_
  rintro e w1 ⟨z1, rfl, hz1, hb⟩
  replace B0 := B0.trans (hb.mono B0.size)
  replace S1 := S1.below hb
  replace V1 := V1.below hb
  replace V2 := V2.below hb
  clear hb
  rcases hz1 with rfl | ⟨z10, hz1⟩
  · go_wp2
    go_ret
    exact ⟨rfl, B0⟩
  · have L1 : Hid (upto rs rs.length ≤ 1048576) := by show _ ≤ _; omega
    clear hz1
    have K0 : w1.cell? ⟨w.heap.size, 0, none⟩ = some (.int .i64 n) ∧ w1.cell? ⟨w.heap.size, 1, none⟩ = some (.slice a rs.length c) ∧ w1.cell? ⟨w.heap.size + 1, 0, none⟩ = some (.int .i64 b1) ∧ w1.cell? ⟨w.heap.size + 1, 1, none⟩ = some (.int .i64 b2) ∧ w1.cell? ⟨w.heap.size + 1, 2, none⟩ = some (.int .i64 b3) ∧ w1.cell? ⟨w.heap.size + 1, 3, none⟩ = some (.int .i64 b4) := ⟨V1.c0, V1.c1, V2.c0, V2.c1, V2.c2, V2.c3⟩
    go_wp2_with fail
    go_region_held3 (fun w' => w'.cell? ⟨w.heap.size, 0, none⟩ = some (.int .i64 n) ∧ w'.cell? ⟨w.heap.size, 1, none⟩ = some (.slice a rs.length c) ∧ w'.cell? ⟨w.heap.size + 1, 0, none⟩ = some (.int .i64 b1) ∧ w'.cell? ⟨w.heap.size + 1, 1, none⟩ = some (.int .i64 b2) ∧ w'.cell? ⟨w.heap.size + 1, 2, none⟩ = some (.int .i64 b3) ∧ w'.cell? ⟨w.heap.size + 1, 3, none⟩ = some (.int .i64 b4))
      (first | exact K0 | exact m1 | exact m2 | exact m3)
      (first
      | (go_at_call 7; refine (toShape_any n a c rs _ (S1.below (Below.refl _ _).drew) L1.out).mono ?_; rintro e x1 ⟨a3, c3, rfl, o3, hb⟩; have N1 := (Below.refl w1.heap.size w1).drew.trans (hb.mono (by simp)); have m1 := keepS6 K0 N1; clear hb)
      | (go_at_call 12; refine (toBox_any _ _ _ _ _).mono ?_; rintro e x2 ⟨rfl, hb⟩; have N2 := N1.trans (hb.mono N1.size); have m2 := keepS6 K0 N2; replace o3 := o3.below hb; clear hb)
      | (go_at_call 11; refine (specWithin n a3 c3 rs b1 b2 b3 b4 _ o3.sees).mono ?_; rintro e x3 ⟨rfl, hb⟩; have N3 := N2.trans (hb.mono N2.size); have m3 := keepS6 K0 N3; rw [HZ.out]; clear hb o3))
    all_goals
      replace B0 := B0.trans (N3.mono B0.size)
      replace S1 := S1.below N3
      replace V1 := V1.below N3
      replace V2 := V2.below N3
      clear N1 N2 N3 m1 m2 m3 K0
      obtain ⟨k0, k1, _, _⟩ := id V1
      go_wp2_with fail
      refine (toShape_any n a c rs _ S1 L1.out).mono ?_
      rintro e x4 ⟨a5, c5, rfl, o5, hb⟩
      have bn := below1 x4 (.cells #[.int .i64 n, .slice a5 rs.length c5] 33)
      replace bn := hb.trans (bn.mono hb.size)
      have V3 := Box2.new x4 (lo := 0) (by omega) (.int .i64 n) (.slice a5 rs.length c5) 33
      replace o5 := o5.below (below1 x4 (.cells #[.int .i64 n, .slice a5 rs.length c5] 33))
      replace B0 := B0.trans (bn.mono B0.size)
      replace S1 := S1.below bn
      replace V1 := V1.below bn
      replace V2 := V2.below bn
      clear hb bn k0 k1
      go_upto_region 7 with fail
      generalize x4.alloc (.cells #[.int .i64 n, .slice a5 rs.length c5] 33) = W5 at *
      generalize x4.heap.size = q5 at *
      have K0 : W5.cell? ⟨q5, 0, none⟩ = some (.int .i64 n) ∧ W5.cell? ⟨q5, 1, none⟩ = some (.slice a5 rs.length c5) ∧ W5.cell? ⟨w.heap.size + 1, 0, none⟩ = some (.int .i64 b1) ∧ W5.cell? ⟨w.heap.size + 1, 1, none⟩ = some (.int .i64 b2) ∧ W5.cell? ⟨w.heap.size + 1, 2, none⟩ = some (.int .i64 b3) ∧ W5.cell? ⟨w.heap.size + 1, 3, none⟩ = some (.int .i64 b4) := ⟨V3.c0, V3.c1, V2.c0, V2.c1, V2.c2, V2.c3⟩
      go_region_held3 (fun w' => w'.cell? ⟨q5, 0, none⟩ = some (.int .i64 n) ∧ w'.cell? ⟨q5, 1, none⟩ = some (.slice a5 rs.length c5) ∧ w'.cell? ⟨w.heap.size + 1, 0, none⟩ = some (.int .i64 b1) ∧ w'.cell? ⟨w.heap.size + 1, 1, none⟩ = some (.int .i64 b2) ∧ w'.cell? ⟨w.heap.size + 1, 2, none⟩ = some (.int .i64 b3) ∧ w'.cell? ⟨w.heap.size + 1, 3, none⟩ = some (.int .i64 b4))
        (first | exact K0 | exact m1 | exact m2)
        (first
        | (go_at_call 12; refine (toBox_any _ _ _ _ _).mono ?_; rintro e x6 ⟨rfl, hb⟩; have N1 := (Below.refl W5.heap.size W5).drew.trans (hb.mono (by simp)); have m1 := keepS6 K0 N1; clear hb)
        | (go_at_call 13; refine (implWithin n a5 c5 rs b1 b2 b3 b4 _ (o5.below N1).sees).mono ?_; rintro e x7 ⟨rfl, hb⟩; have N2 := N1.trans (hb.mono N1.size); have m2 := keepS6 K0 N2; rw [HZ.out]; clear hb))
      all_goals
        replace B0 := B0.trans (N2.mono B0.size)
        replace S1 := S1.below N2
        replace V1 := V1.below N2
        replace V3 := V3.below N2
        replace o5 := o5.below N2
        clear N1 N2 m1 m2 K0 V2
        have K1 : x7.cell? ⟨q5, 0, none⟩ = some (.int .i64 n) ∧ x7.cell? ⟨q5, 1, none⟩ = some (.slice a5 rs.length c5) ∧ x7.cell? ⟨w.heap.size, 0, none⟩ = some (.int .i64 n) ∧ x7.cell? ⟨w.heap.size, 1, none⟩ = some (.slice a rs.length c) := ⟨V3.c0, V3.c1, V1.c0, V1.c1⟩
        go_wp2_with fail
        go_region_held3 (fun w' => w'.cell? ⟨q5, 0, none⟩ = some (.int .i64 n) ∧ w'.cell? ⟨q5, 1, none⟩ = some (.slice a5 rs.length c5) ∧ w'.cell? ⟨w.heap.size, 0, none⟩ = some (.int .i64 n) ∧ w'.cell? ⟨w.heap.size, 1, none⟩ = some (.slice a rs.length c))
          (first | exact K1 | exact m1 | exact m2)
          (first
          | (go_at_call 7; refine (toShape_any n a c rs _ (S1.below (Below.refl _ _).drew) L1.out).mono ?_; rintro e y1 ⟨a8, c8, rfl, o8, hb⟩; have N1 := (Below.refl x7.heap.size x7).drew.trans (hb.mono (by simp)); have m1 := keepS4w K1 N1; clear hb)
          | (go_at_call 10; refine (eqShape_any n a5 a8 c5 c8 rs _ (o5.below N1).sees o8.sees).mono ?_; rintro e y2 ⟨rfl, hb⟩; have N2 := N1.trans (hb.mono N1.size); have m2 := keepS4w K1 N2; clear hb o8))
        all_goals
          go_wp2
          go_ret
          exact ⟨rfl, B0.trans (N2.mono B0.size)⟩
end Go.Proofs.Ytgfpmhpjcadhjaa

