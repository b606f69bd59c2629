/- Whether a shape meets a box: of both (MeetsBox). -/
import Derived.Test.YthafhfdhahbdoaaBxShW
import Derived.Test.YthafhfdhahbdoaaPtM
namespace Go.Proofs.Ythafhfdhahbdoaa
open Go.RowKit

set_option maxRecDepth 20000 in
set_option maxHeartbeats 2000000 in
theorem implMeetsBox (n : Int) (a : Option Addr) (c : Nat) (rs : List (List (Int × Int))) (x y u v : Int) (w : World) (h : SeesS w a c rs) :
    Calls Try.prog 8 #[.agg #[.int .i64 n, .slice a rs.length c], .agg #[.int .i64 x, .int .i64 y, .int .i64 u, .int .i64 v]] w fun e w' => e = .returned (.bool (mbV n rs x y u v)) ∧ Below w.heap.size w w' := by
  have B0 := below2 w (.cells #[.int .i64 n, .slice a rs.length c] 33) (.cells #[.int .i64 x, .int .i64 y, .int .i64 u, .int .i64 v] 37)
  have V1 := (Box2.new w (lo := w.heap.size) (Nat.le_refl _) (.int .i64 n) (.slice a rs.length c) 33).below (below1 _ (.cells #[.int .i64 x, .int .i64 y, .int .i64 u, .int .i64 v] 37))
  have V2 := Box4.new (w.alloc (.cells #[.int .i64 n, .slice a rs.length c] 33)) (lo := w.heap.size) (by simp) (.int .i64 x) (.int .i64 y) (.int .i64 u) (.int .i64 v) 37
  rw [World.size_alloc] at V2
  have S1 := h.below B0
  clear h
  obtain ⟨k0, k1, _, _⟩ := id V1
  obtain ⟨k2, k3, k4, k5, _, _⟩ := id V2
  cases g : boxOk x y u v
  · have HV : Hid (mbV n rs x y u v = false) := mb_off n rs g
    have g2 : Hid (boxOk x y u v = false) := g
    clear g
    go_enter Try.func8, Try.ntmps8
    go_upto_region 1 with fail
    generalize (w.alloc (.cells #[.int .i64 n, .slice a rs.length c] 33)).alloc (.cells #[.int .i64 x, .int .i64 y, .int .i64 u, .int .i64 v] 37) = W0 at *
    refine wp_region_held_drew (S := Below W0.heap.size W0) (by kernel_rfl) ((Below.refl _ _).drew) (fun hHeld => ?_)
    have N : Below W0.heap.size W0 W0.drew := hHeld
    revert hHeld N
    generalize W0.drew = w1w0
    intro hHeld N
    refine takeQ (i := 0) (gt rfl) (by kernel_rfl) (fun _ _ _ h => h) (by rfl) (by intro wq hSw; have q0 := bat hSw k0; have q1 := bat hSw k1; have q2 := bat hSw k2; have q3 := bat hSw k3; have q4 := bat hSw k4; have q5 := bat hSw k5; go_simp <;> with_reducible rfl) (by assumption) ?_
    try simp only [Act.put, sA, sB, sC]
    refine wpAnyH_ready (rs := [1]) (by kernel_rfl) (by simp) (AllReadyH.cons (gt rfl) (fun K hK => ?_) AllReadyH.nil)
    go_simp
    refine (implBoxOk x y u v _).mono ?_
    rintro e w1w1 ⟨rfl, hb⟩
    rw [g2.out]
    replace N := N.trans (hb.mono N.size)
    clear hb
    refine hK.out _ _ N (fun hHeld => ?_)
    clear hK K
    try simp only [Act.put, sA, sB, sC]
    refine takeQ (i := 2) (gt rfl) (by kernel_rfl) (fun _ _ _ h => h) (by rfl) (by intro wq _; go_simp <;> with_reducible rfl) (by assumption) ?_
    try simp only [Act.put, sA, sB, sC]
    refine takeN (i := 3) (gt rfl) (by kernel_rfl) (by kernel_rfl) (by kernel_rfl) (by exact fun _ _ _ h => h) (by rfl) (by assumption) ?_
    try simp only [Act.put, sA, sB, sC]
    refine takeN (i := 4) (gt rfl) (by kernel_rfl) (by kernel_rfl) (by kernel_rfl) (by exact fun _ _ _ h => h) (by rfl) (by assumption) ?_
    try simp only [Act.put, sA, sB, sC]
    refine takeN (i := 5) (gt rfl) (by kernel_rfl) (by kernel_rfl) (by kernel_rfl) (by exact fun _ _ _ h => h) (by rfl) (by assumption) ?_
    try simp only [Act.put, sA, sB, sC]
    refine takeN (i := 6) (gt rfl) (by kernel_rfl) (by kernel_rfl) (by kernel_rfl) (by exact fun _ _ _ h => h) (by rfl) (by assumption) ?_
    try simp only [Act.put, sA, sB, sC]
    refine takeQ (i := 7) (gt rfl) (by kernel_rfl) (fun _ _ _ h => h) (by rfl) (by intro wq _; go_simp <;> with_reducible rfl) (by assumption) ?_
    try simp only [Act.put, sA, sB, sC]
    refine takeQ (i := 8) (gt rfl) (by kernel_rfl) (fun _ _ _ h => h) (by rfl) (by intro wq _; go_simp <;> with_reducible rfl) (by assumption) ?_
    try simp only [Act.put, sA, sB, sC]
    refine wpAnyH_done (by kernel_rfl) ?_ _
    go_wp2
    go_ret
    exact ⟨by rw [HV.out]; first | done | rfl, B0.trans (N.mono B0.size)⟩
  · obtain ⟨z, HZ⟩ : ∃ z, Hid (mbV n rs x y u v = z) := ⟨_, rfl⟩
    have HS : Hid (smV n rs (bxK x y u v) (bxR x y u v) = z) := (mb_same n rs g).trans HZ.out
    have g2 : Hid (boxOk x y u v = true) := g
    clear g
    go_enter Try.func8, Try.ntmps8
    go_upto_region 1 with fail
    generalize (w.alloc (.cells #[.int .i64 n, .slice a rs.length c] 33)).alloc (.cells #[.int .i64 x, .int .i64 y, .int .i64 u, .int .i64 v] 37) = W0 at *
    refine wp_region_held_drew (S := Below W0.heap.size W0) (by kernel_rfl) ((Below.refl _ _).drew) (fun hHeld => ?_)
    have N : Below W0.heap.size W0 W0.drew := hHeld
    revert hHeld N
    generalize W0.drew = w2w0
    intro hHeld N
    refine takeQ (i := 0) (gt rfl) (by kernel_rfl) (fun _ _ _ h => h) (by rfl) (by intro wq hSw; have q0 := bat hSw k0; have q1 := bat hSw k1; have q2 := bat hSw k2; have q3 := bat hSw k3; have q4 := bat hSw k4; have q5 := bat hSw k5; go_simp <;> with_reducible rfl) (by assumption) ?_
    try simp only [Act.put, sA, sB, sC]
    refine wpAnyH_ready (rs := [1]) (by kernel_rfl) (by simp) (AllReadyH.cons (gt rfl) (fun K hK => ?_) AllReadyH.nil)
    go_simp
    refine (implBoxOk x y u v _).mono ?_
    rintro e w2w1 ⟨rfl, hb⟩
    rw [g2.out]
    replace N := N.trans (hb.mono N.size)
    clear hb
    refine hK.out _ _ N (fun hHeld => ?_)
    clear hK K
    try simp only [Act.put, sA, sB, sC]
    refine takeQ (i := 2) (gt rfl) (by kernel_rfl) (fun _ _ _ h => h) (by rfl) (by intro wq _; go_simp <;> with_reducible rfl) (by assumption) ?_
    try simp only [Act.put, sA, sB, sC]
    refine takeQ (i := 3) (gt rfl) (by kernel_rfl) (fun _ _ _ h => h) (by rfl) (by intro wq hSw; have q0 := bat hSw k0; have q1 := bat hSw k1; have q2 := bat hSw k2; have q3 := bat hSw k3; have q4 := bat hSw k4; have q5 := bat hSw k5; go_simp <;> with_reducible rfl) (by assumption) ?_
    try simp only [Act.put, sA, sB, sC]
    refine takeQ (i := 4) (gt rfl) (by kernel_rfl) (fun _ _ _ h => h) (by rfl) (by intro wq hSw; have q0 := bat hSw k0; have q1 := bat hSw k1; have q2 := bat hSw k2; have q3 := bat hSw k3; have q4 := bat hSw k4; have q5 := bat hSw k5; go_simp <;> with_reducible rfl) (by assumption) ?_
    try simp only [Act.put, sA, sB, sC]
    refine wpAnyH_ready (rs := [5]) (by kernel_rfl) (by simp) (AllReadyH.cons (gt rfl) (fun K hK => ?_) AllReadyH.nil)
    go_simp
    refine (boxShape_any x y u v _).mono ?_
    rintro e w2w2 ⟨q, rfl, SP, hb⟩
    replace N := N.trans (hb.mono N.size)
    clear hb
    refine hK.out _ _ N (fun hHeld => ?_)
    clear hK K
    try simp only [Act.put, sA, sB, sC]
    refine wpAnyH_ready (rs := [6]) (by kernel_rfl) (by simp) (AllReadyH.cons (gt rfl) (fun K hK => ?_) AllReadyH.nil)
    go_simp
    refine (implShapesMeet n _ a q c 1 rs (bxR x y u v) _ (S1.below N) SP).mono ?_
    rintro e w2w3 ⟨rfl, hb⟩
    rw [HS.out]
    replace SP := SP.below hb
    replace N := N.trans (hb.mono N.size)
    clear hb
    refine hK.out _ _ N (fun hHeld => ?_)
    clear hK K
    try simp only [Act.put, sA, sB, sC]
    refine takeQ (i := 7) (gt rfl) (by kernel_rfl) (fun _ _ _ h => h) (by rfl) (by intro wq _; go_simp <;> with_reducible rfl) (by assumption) ?_
    try simp only [Act.put, sA, sB, sC]
    refine takeQ (i := 8) (gt rfl) (by kernel_rfl) (fun _ _ _ h => h) (by rfl) (by intro wq _; go_simp <;> with_reducible rfl) (by assumption) ?_
    try simp only [Act.put, sA, sB, sC]
    refine wpAnyH_done (by kernel_rfl) ?_ _
    go_wp2
    go_ret
    exact ⟨by rw [HZ.out]; first | done | rfl, B0.trans (N.mono B0.size)⟩

set_option maxRecDepth 20000 in
set_option maxHeartbeats 2000000 in
theorem specMeetsBox (n : Int) (a : Option Addr) (c : Nat) (rs : List (List (Int × Int))) (x y u v : Int) (w : World) (h : SeesS w a c rs) :
    Calls Try.prog 5 #[.agg #[.int .i64 n, .slice a rs.length c], .agg #[.int .i64 x, .int .i64 y, .int .i64 u, .int .i64 v]] w fun e w' => e = .returned (.bool (mbV n rs x y u v)) ∧ Below w.heap.size w w' := by
  have B0 := below2 w (.cells #[.int .i64 n, .slice a rs.length c] 33) (.cells #[.int .i64 x, .int .i64 y, .int .i64 u, .int .i64 v] 37)
  have V1 := (Box2.new w (lo := w.heap.size) (Nat.le_refl _) (.int .i64 n) (.slice a rs.length c) 33).below (below1 _ (.cells #[.int .i64 x, .int .i64 y, .int .i64 u, .int .i64 v] 37))
  have V2 := Box4.new (w.alloc (.cells #[.int .i64 n, .slice a rs.length c] 33)) (lo := w.heap.size) (by simp) (.int .i64 x) (.int .i64 y) (.int .i64 u) (.int .i64 v) 37
  rw [World.size_alloc] at V2
  have S1 := h.below B0
  clear h
  obtain ⟨k0, k1, _, _⟩ := id V1
  obtain ⟨k2, k3, k4, k5, _, _⟩ := id V2
  have HM : Hid (mbV n rs x y u v = ((goodB n rs && boxOk x y u v) && meetS n rs (bxK x y u v) (bxR x y u v))) := (rfl : mbV n rs x y u v = _)
  cases g0 : goodB n rs
  · have HV : Hid (mbV n rs x y u v = false) := by show _ = _; rw [HM.out, g0]; rfl
    have g1 : Hid (goodB n rs = false) := g0
    clear g0
    go_enter Try.func5, Try.ntmps5
    go_upto_region 1 with fail
    generalize (w.alloc (.cells #[.int .i64 n, .slice a rs.length c] 33)).alloc (.cells #[.int .i64 x, .int .i64 y, .int .i64 u, .int .i64 v] 37) = W0 at *
    refine wp_region_held_drew (S := Below W0.heap.size W0) (by kernel_rfl) ((Below.refl _ _).drew) (fun hHeld => ?_)
    have N : Below W0.heap.size W0 W0.drew := hHeld
    revert hHeld N
    generalize W0.drew = w1w0
    intro hHeld N
    refine takeQ (i := 0) (gt rfl) (by kernel_rfl) (fun _ _ _ h => h) (by rfl) (by intro wq hSw; have q0 := bat hSw k0; have q1 := bat hSw k1; have q2 := bat hSw k2; have q3 := bat hSw k3; have q4 := bat hSw k4; have q5 := bat hSw k5; go_simp <;> with_reducible rfl) (by assumption) ?_
    try simp only [Act.put, sA, sB, sC]
    refine wpAnyH_ready (rs := [1]) (by kernel_rfl) (by simp) (AllReadyH.cons (gt rfl) (fun K hK => ?_) AllReadyH.nil)
    go_simp
    refine (l5Good_any n a c rs _ (S1.below N)).mono ?_
    rintro e w1w1 ⟨rfl, hb⟩
    rw [g1.out]
    replace N := N.trans (hb.mono N.size)
    clear hb
    refine hK.out _ _ N (fun hHeld => ?_)
    clear hK K
    try simp only [Act.put, sA, sB, sC]
    refine takeQ (i := 2) (gt rfl) (by kernel_rfl) (fun _ _ _ h => h) (by rfl) (by intro wq _; go_simp <;> with_reducible rfl) (by assumption) ?_
    try simp only [Act.put, sA, sB, sC]
    refine takeN (i := 3) (gt rfl) (by kernel_rfl) (by kernel_rfl) (by kernel_rfl) (by exact fun _ _ _ h => h) (by rfl) (by assumption) ?_
    try simp only [Act.put, sA, sB, sC]
    refine takeN (i := 4) (gt rfl) (by kernel_rfl) (by kernel_rfl) (by kernel_rfl) (by exact fun _ _ _ h => h) (by rfl) (by assumption) ?_
    try simp only [Act.put, sA, sB, sC]
    refine takeQ (i := 5) (gt rfl) (by kernel_rfl) (fun _ _ _ h => h) (by rfl) (by intro wq _; go_simp <;> with_reducible rfl) (by assumption) ?_
    try simp only [Act.put, sA, sB, sC]
    refine takeQ (i := 6) (gt rfl) (by kernel_rfl) (fun _ _ _ h => h) (by rfl) (by intro wq _; go_simp <;> with_reducible rfl) (by assumption) ?_
    try simp only [Act.put, sA, sB, sC]
    refine takeN (i := 7) (gt rfl) (by kernel_rfl) (by kernel_rfl) (by kernel_rfl) (by exact fun _ _ _ h => h) (by rfl) (by assumption) ?_
    try simp only [Act.put, sA, sB, sC]
    refine takeN (i := 8) (gt rfl) (by kernel_rfl) (by kernel_rfl) (by kernel_rfl) (by exact fun _ _ _ h => h) (by rfl) (by assumption) ?_
    try simp only [Act.put, sA, sB, sC]
    refine takeN (i := 9) (gt rfl) (by kernel_rfl) (by kernel_rfl) (by kernel_rfl) (by exact fun _ _ _ h => h) (by rfl) (by assumption) ?_
    try simp only [Act.put, sA, sB, sC]
    refine takeN (i := 10) (gt rfl) (by kernel_rfl) (by kernel_rfl) (by kernel_rfl) (by exact fun _ _ _ h => h) (by rfl) (by assumption) ?_
    try simp only [Act.put, sA, sB, sC]
    refine takeQ (i := 11) (gt rfl) (by kernel_rfl) (fun _ _ _ h => h) (by rfl) (by intro wq _; go_simp <;> with_reducible rfl) (by assumption) ?_
    try simp only [Act.put, sA, sB, sC]
    refine takeQ (i := 12) (gt rfl) (by kernel_rfl) (fun _ _ _ h => h) (by rfl) (by intro wq _; go_simp <;> with_reducible rfl) (by assumption) ?_
    try simp only [Act.put, sA, sB, sC]
    refine wpAnyH_done (by kernel_rfl) ?_ _
    go_wp2
    go_ret
    exact ⟨by rw [HV.out]; first | done | rfl, B0.trans (N.mono B0.size)⟩
  · have g1 : Hid (goodB n rs = true) := g0
    rw [g0, Bool.true_and] at HM
    clear g0
    cases g : boxOk x y u v
    · have HV : Hid (mbV n rs x y u v = false) := mb_off n rs g
      have g2 : Hid (boxOk x y u v = false) := g
      clear g
      go_enter Try.func5, Try.ntmps5
      go_upto_region 1 with fail
      generalize (w.alloc (.cells #[.int .i64 n, .slice a rs.length c] 33)).alloc (.cells #[.int .i64 x, .int .i64 y, .int .i64 u, .int .i64 v] 37) = W0 at *
      refine wp_region_held_drew (S := Below W0.heap.size W0) (by kernel_rfl) ((Below.refl _ _).drew) (fun hHeld => ?_)
      have N : Below W0.heap.size W0 W0.drew := hHeld
      revert hHeld N
      generalize W0.drew = w2w0
      intro hHeld N
      refine takeQ (i := 0) (gt rfl) (by kernel_rfl) (fun _ _ _ h => h) (by rfl) (by intro wq hSw; have q0 := bat hSw k0; have q1 := bat hSw k1; have q2 := bat hSw k2; have q3 := bat hSw k3; have q4 := bat hSw k4; have q5 := bat hSw k5; go_simp <;> with_reducible rfl) (by assumption) ?_
      try simp only [Act.put, sA, sB, sC]
      refine wpAnyH_ready (rs := [1]) (by kernel_rfl) (by simp) (AllReadyH.cons (gt rfl) (fun K hK => ?_) AllReadyH.nil)
      go_simp
      refine (l5Good_any n a c rs _ (S1.below N)).mono ?_
      rintro e w2w1 ⟨rfl, hb⟩
      rw [g1.out]
      replace N := N.trans (hb.mono N.size)
      clear hb
      refine hK.out _ _ N (fun hHeld => ?_)
      clear hK K
      try simp only [Act.put, sA, sB, sC]
      refine takeQ (i := 2) (gt rfl) (by kernel_rfl) (fun _ _ _ h => h) (by rfl) (by intro wq _; go_simp <;> with_reducible rfl) (by assumption) ?_
      try simp only [Act.put, sA, sB, sC]
      refine takeQ (i := 3) (gt rfl) (by kernel_rfl) (fun _ _ _ h => h) (by rfl) (by intro wq hSw; have q0 := bat hSw k0; have q1 := bat hSw k1; have q2 := bat hSw k2; have q3 := bat hSw k3; have q4 := bat hSw k4; have q5 := bat hSw k5; go_simp <;> with_reducible rfl) (by assumption) ?_
      try simp only [Act.put, sA, sB, sC]
      refine wpAnyH_ready (rs := [4]) (by kernel_rfl) (by simp) (AllReadyH.cons (gt rfl) (fun K hK => ?_) AllReadyH.nil)
      go_simp
      refine (specBoxOk x y u v _).mono ?_
      rintro e w2w2 ⟨rfl, hb⟩
      rw [g2.out]
      replace N := N.trans (hb.mono N.size)
      clear hb
      refine hK.out _ _ N (fun hHeld => ?_)
      clear hK K
      try simp only [Act.put, sA, sB, sC]
      refine takeQ (i := 5) (gt rfl) (by kernel_rfl) (fun _ _ _ h => h) (by rfl) (by intro wq _; go_simp <;> with_reducible rfl) (by assumption) ?_
      try simp only [Act.put, sA, sB, sC]
      refine takeQ (i := 6) (gt rfl) (by kernel_rfl) (fun _ _ _ h => h) (by rfl) (by intro wq _; go_simp <;> with_reducible rfl) (by assumption) ?_
      try simp only [Act.put, sA, sB, sC]
      refine takeN (i := 7) (gt rfl) (by kernel_rfl) (by kernel_rfl) (by kernel_rfl) (by exact fun _ _ _ h => h) (by rfl) (by assumption) ?_
      try simp only [Act.put, sA, sB, sC]
      refine takeN (i := 8) (gt rfl) (by kernel_rfl) (by kernel_rfl) (by kernel_rfl) (by exact fun _ _ _ h => h) (by rfl) (by assumption) ?_
      try simp only [Act.put, sA, sB, sC]
      refine takeN (i := 9) (gt rfl) (by kernel_rfl) (by kernel_rfl) (by kernel_rfl) (by exact fun _ _ _ h => h) (by rfl) (by assumption) ?_
      try simp only [Act.put, sA, sB, sC]
      refine takeN (i := 10) (gt rfl) (by kernel_rfl) (by kernel_rfl) (by kernel_rfl) (by exact fun _ _ _ h => h) (by rfl) (by assumption) ?_
      try simp only [Act.put, sA, sB, sC]
      refine takeQ (i := 11) (gt rfl) (by kernel_rfl) (fun _ _ _ h => h) (by rfl) (by intro wq _; go_simp <;> with_reducible rfl) (by assumption) ?_
      try simp only [Act.put, sA, sB, sC]
      refine takeQ (i := 12) (gt rfl) (by kernel_rfl) (fun _ _ _ h => h) (by rfl) (by intro wq _; go_simp <;> with_reducible rfl) (by assumption) ?_
      try simp only [Act.put, sA, sB, sC]
      refine wpAnyH_done (by kernel_rfl) ?_ _
      go_wp2
      go_ret
      exact ⟨by rw [HV.out]; first | done | rfl, B0.trans (N.mono B0.size)⟩
    · obtain ⟨z, HZ⟩ : ∃ z, Hid (mbV n rs x y u v = z) := ⟨_, rfl⟩
      have HS : Hid (meetS n rs (bxK x y u v) (bxR x y u v) = z) := by
        show _ = _
        rw [← HZ.out, HM.out, g, Bool.true_and]
      have GB : Hid (goodB (bxK x y u v) (bxR x y u v) = true) := good_box g
      have g2 : Hid (boxOk x y u v = true) := g
      clear g
      go_enter Try.func5, Try.ntmps5
      go_upto_region 1 with fail
      generalize (w.alloc (.cells #[.int .i64 n, .slice a rs.length c] 33)).alloc (.cells #[.int .i64 x, .int .i64 y, .int .i64 u, .int .i64 v] 37) = W0 at *
      refine wp_region_held_drew (S := Below W0.heap.size W0) (by kernel_rfl) ((Below.refl _ _).drew) (fun hHeld => ?_)
      have N : Below W0.heap.size W0 W0.drew := hHeld
      revert hHeld N
      generalize W0.drew = w3w0
      intro hHeld N
      refine takeQ (i := 0) (gt rfl) (by kernel_rfl) (fun _ _ _ h => h) (by rfl) (by intro wq hSw; have q0 := bat hSw k0; have q1 := bat hSw k1; have q2 := bat hSw k2; have q3 := bat hSw k3; have q4 := bat hSw k4; have q5 := bat hSw k5; go_simp <;> with_reducible rfl) (by assumption) ?_
      try simp only [Act.put, sA, sB, sC]
      refine wpAnyH_ready (rs := [1]) (by kernel_rfl) (by simp) (AllReadyH.cons (gt rfl) (fun K hK => ?_) AllReadyH.nil)
      go_simp
      refine (l5Good_any n a c rs _ (S1.below N)).mono ?_
      rintro e w3w1 ⟨rfl, hb⟩
      rw [g1.out]
      replace N := N.trans (hb.mono N.size)
      clear hb
      refine hK.out _ _ N (fun hHeld => ?_)
      clear hK K
      try simp only [Act.put, sA, sB, sC]
      refine takeQ (i := 2) (gt rfl) (by kernel_rfl) (fun _ _ _ h => h) (by rfl) (by intro wq _; go_simp <;> with_reducible rfl) (by assumption) ?_
      try simp only [Act.put, sA, sB, sC]
      refine takeQ (i := 3) (gt rfl) (by kernel_rfl) (fun _ _ _ h => h) (by rfl) (by intro wq hSw; have q0 := bat hSw k0; have q1 := bat hSw k1; have q2 := bat hSw k2; have q3 := bat hSw k3; have q4 := bat hSw k4; have q5 := bat hSw k5; go_simp <;> with_reducible rfl) (by assumption) ?_
      try simp only [Act.put, sA, sB, sC]
      refine wpAnyH_ready (rs := [4]) (by kernel_rfl) (by simp) (AllReadyH.cons (gt rfl) (fun K hK => ?_) AllReadyH.nil)
      go_simp
      refine (specBoxOk x y u v _).mono ?_
      rintro e w3w2 ⟨rfl, hb⟩
      rw [g2.out]
      replace N := N.trans (hb.mono N.size)
      clear hb
      refine hK.out _ _ N (fun hHeld => ?_)
      clear hK K
      try simp only [Act.put, sA, sB, sC]
      refine takeQ (i := 5) (gt rfl) (by kernel_rfl) (fun _ _ _ h => h) (by rfl) (by intro wq _; go_simp <;> with_reducible rfl) (by assumption) ?_
      try simp only [Act.put, sA, sB, sC]
      refine takeQ (i := 6) (gt rfl) (by kernel_rfl) (fun _ _ _ h => h) (by rfl) (by intro wq _; go_simp <;> with_reducible rfl) (by assumption) ?_
      try simp only [Act.put, sA, sB, sC]
      refine takeQ (i := 7) (gt rfl) (by kernel_rfl) (fun _ _ _ h => h) (by rfl) (by intro wq hSw; have q0 := bat hSw k0; have q1 := bat hSw k1; have q2 := bat hSw k2; have q3 := bat hSw k3; have q4 := bat hSw k4; have q5 := bat hSw k5; go_simp <;> with_reducible rfl) (by assumption) ?_
      try simp only [Act.put, sA, sB, sC]
      refine takeQ (i := 8) (gt rfl) (by kernel_rfl) (fun _ _ _ h => h) (by rfl) (by intro wq hSw; have q0 := bat hSw k0; have q1 := bat hSw k1; have q2 := bat hSw k2; have q3 := bat hSw k3; have q4 := bat hSw k4; have q5 := bat hSw k5; go_simp <;> with_reducible rfl) (by assumption) ?_
      try simp only [Act.put, sA, sB, sC]
      refine wpAnyH_ready (rs := [9]) (by kernel_rfl) (by simp) (AllReadyH.cons (gt rfl) (fun K hK => ?_) AllReadyH.nil)
      go_simp
      refine (l6Box_any x y u v _).mono ?_
      rintro e w3w3 ⟨q, rfl, SP, hb⟩
      replace N := N.trans (hb.mono N.size)
      clear hb
      refine hK.out _ _ N (fun hHeld => ?_)
      clear hK K
      try simp only [Act.put, sA, sB, sC]
      refine wpAnyH_ready (rs := [10]) (by kernel_rfl) (by simp) (AllReadyH.cons (gt rfl) (fun K hK => ?_) AllReadyH.nil)
      go_simp
      refine (l6Meet_any n _ a q c 1 rs (bxR x y u v) _ (S1.below N) SP g1.out GB.out).mono ?_
      rintro e w3w4 ⟨rfl, hb⟩
      rw [HS.out]
      replace SP := SP.below hb
      replace N := N.trans (hb.mono N.size)
      clear hb
      refine hK.out _ _ N (fun hHeld => ?_)
      clear hK K
      try simp only [Act.put, sA, sB, sC]
      refine takeQ (i := 11) (gt rfl) (by kernel_rfl) (fun _ _ _ h => h) (by rfl) (by intro wq _; go_simp <;> with_reducible rfl) (by assumption) ?_
      try simp only [Act.put, sA, sB, sC]
      refine takeQ (i := 12) (gt rfl) (by kernel_rfl) (fun _ _ _ h => h) (by rfl) (by intro wq _; go_simp <;> with_reducible rfl) (by assumption) ?_
      try simp only [Act.put, sA, sB, sC]
      refine wpAnyH_done (by kernel_rfl) ?_ _
      go_wp2
      go_ret
      exact ⟨by rw [HZ.out]; first | done | rfl, B0.trans (N.mono B0.size)⟩
end Go.Proofs.Ythafhfdhahbdoaa
