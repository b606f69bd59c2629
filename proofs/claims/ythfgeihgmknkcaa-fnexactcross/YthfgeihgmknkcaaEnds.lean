/- The ends that lie on both segments: of the specification. -/
import Derived.Test.YthfgeihgmknkcaaShr
import Derived.Test.YthfgeihgmknkcaaRowPt
import Derived.Test.YthfgeihgmknkcaaHeld
import Derived.BigQuiet
import Derived.Deep.QuietTactic
import Derived.Deep.DeepCutAuto
namespace Go.Proofs.Ythfgeihgmknkcaa
open Go.RowKit

/-- What the loop keeps: the four points, their row, the row of those found. -/
structure EnAt (w wr : World) (x1 y1 x2 y2 x3 y3 x4 y4 : Int) (l : List (Int × Int)) (v : Value) : Prop where
  k : wr.cell? ⟨w.heap.size, 0, none⟩ = some (.int .i64 x1) ∧ wr.cell? ⟨w.heap.size, 1, none⟩ = some (.int .i64 y1) ∧ wr.cell? ⟨w.heap.size + 1, 0, none⟩ = some (.int .i64 x2) ∧ wr.cell? ⟨w.heap.size + 1, 1, none⟩ = some (.int .i64 y2) ∧ wr.cell? ⟨w.heap.size + 1 + 1, 0, none⟩ = some (.int .i64 x3) ∧ wr.cell? ⟨w.heap.size + 1 + 1, 1, none⟩ = some (.int .i64 y3) ∧ wr.cell? ⟨w.heap.size + 1 + 1 + 1, 0, none⟩ = some (.int .i64 x4) ∧ wr.cell? ⟨w.heap.size + 1 + 1 + 1, 1, none⟩ = some (.int .i64 y4) ∧ wr.cell? ⟨w.heap.size + 1 + 1 + 1 + 1, 0, none⟩ = some (.int .i64 x1) ∧ wr.cell? ⟨w.heap.size + 1 + 1 + 1 + 1, 1, none⟩ = some (.int .i64 y1) ∧ wr.cell? ⟨w.heap.size + 1 + 1 + 1 + 1, 2, none⟩ = some (.int .i64 x2) ∧ wr.cell? ⟨w.heap.size + 1 + 1 + 1 + 1, 3, none⟩ = some (.int .i64 y2) ∧ wr.cell? ⟨w.heap.size + 1 + 1 + 1 + 1, 4, none⟩ = some (.int .i64 x3) ∧ wr.cell? ⟨w.heap.size + 1 + 1 + 1 + 1, 5, none⟩ = some (.int .i64 y3) ∧ wr.cell? ⟨w.heap.size + 1 + 1 + 1 + 1, 6, none⟩ = some (.int .i64 x4) ∧ wr.cell? ⟨w.heap.size + 1 + 1 + 1 + 1, 7, none⟩ = some (.int .i64 y4)
  r : RowPt (w.heap.size + 1 + 1 + 1 + 1 + 1) wr v l
  b : Below w.heap.size w wr
theorem EnAt.below {w wr w' : World} {x1 y1 x2 y2 x3 y3 x4 y4 : Int} {l : List (Int × Int)} {v : Value} (h : EnAt w wr x1 y1 x2 y2 x3 y3 x4 y4 l v) (hb : Below wr.heap.size wr w') : EnAt w w' x1 y1 x2 y2 x3 y3 x4 y4 l v :=
  ⟨⟨bat hb h.k.1, bat hb h.k.2.1, bat hb h.k.2.2.1, bat hb h.k.2.2.2.1, bat hb h.k.2.2.2.2.1, bat hb h.k.2.2.2.2.2.1, bat hb h.k.2.2.2.2.2.2.1, bat hb h.k.2.2.2.2.2.2.2.1, bat hb h.k.2.2.2.2.2.2.2.2.1, bat hb h.k.2.2.2.2.2.2.2.2.2.1, bat hb h.k.2.2.2.2.2.2.2.2.2.2.1, bat hb h.k.2.2.2.2.2.2.2.2.2.2.2.1, bat hb h.k.2.2.2.2.2.2.2.2.2.2.2.2.1, bat hb h.k.2.2.2.2.2.2.2.2.2.2.2.2.2.1, bat hb h.k.2.2.2.2.2.2.2.2.2.2.2.2.2.2.1, bat hb h.k.2.2.2.2.2.2.2.2.2.2.2.2.2.2.2⟩, h.r.below hb, h.b.trans (hb.mono h.b.size)⟩
theorem EnAt.start (w : World) (x1 y1 x2 y2 x3 y3 x4 y4 : Int) : EnAt w ((((((w.alloc (.cells #[.int .i64 x1, .int .i64 y1] 31)).alloc (.cells #[.int .i64 x2, .int .i64 y2] 31)).alloc (.cells #[.int .i64 x3, .int .i64 y3] 31)).alloc (.cells #[.int .i64 x4, .int .i64 y4] 31)).alloc (.cells #[.int .i64 x1, .int .i64 y1, .int .i64 x2, .int .i64 y2, .int .i64 x3, .int .i64 y3, .int .i64 x4, .int .i64 y4] 31)).alloc (.cells #[] 31)) x1 y1 x2 y2 x3 y3 x4 y4 [] (.slice (some ⟨w.heap.size + 1 + 1 + 1 + 1 + 1, 0, none⟩) 0 0) := by
  refine ⟨?_, ?_, ?_⟩
  · refine ⟨?_, ?_, ?_, ?_, ?_, ?_, ?_, ?_, ?_, ?_, ?_, ?_, ?_, ?_, ?_, ?_⟩ <;> simp [go_sem]
  · have := RowPt.empty (((((w.alloc (.cells #[.int .i64 x1, .int .i64 y1] 31)).alloc (.cells #[.int .i64 x2, .int .i64 y2] 31)).alloc (.cells #[.int .i64 x3, .int .i64 y3] 31)).alloc (.cells #[.int .i64 x4, .int .i64 y4] 31)).alloc (.cells #[.int .i64 x1, .int .i64 y1, .int .i64 x2, .int .i64 y2, .int .i64 x3, .int .i64 y3, .int .i64 x4, .int .i64 y4] 31)) (base := w.heap.size + 1 + 1 + 1 + 1 + 1) (by simp)
    simpa using this
  · exact ((((((Below.refl _ w).alloc (Nat.le_refl _) _).alloc (by simp) _).alloc (by simp; omega) _).alloc (by simp; omega) _).alloc (by simp; omega) _).alloc (by simp; omega) _
theorem EnAt.as {w wr : World} {x1 y1 x2 y2 x3 y3 x4 y4 : Int} {l l' : List (Int × Int)} {v : Value} (h : EnAt w wr x1 y1 x2 y2 x3 y3 x4 y4 l v) (e : l = l') : EnAt w wr x1 y1 x2 y2 x3 y3 x4 y4 l' v := e ▸ h
theorem EnAt.grew {w wr w' : World} {x1 y1 x2 y2 x3 y3 x4 y4 : Int} {l l' : List (Int × Int)} {v v' : Value} (h : EnAt w wr x1 y1 x2 y2 x3 y3 x4 y4 l v) (g : wr.grownBy w' v.ownBlock) (r' : RowPt (w.heap.size + 1 + 1 + 1 + 1 + 1) w' v' l') : EnAt w w' x1 y1 x2 y2 x3 y3 x4 y4 l' v' := by
  have lo := World.ownsRow.lt h.r
  have c : ∀ b oo u, wr.cell? ⟨b, oo, none⟩ = some u → b < w.heap.size + 1 + 1 + 1 + 1 + 1 → w'.cell? ⟨b, oo, none⟩ = some u := fun b oo u e hb => by
    refine g.cell e ?_
    intro e2
    have := (lo b e2.symm).1
    omega
  obtain ⟨k0, k1, k2, k3, k4, k5, k6, k7, k8, k9, k10, k11, k12, k13, k14, k15⟩ := h.k
  exact ⟨⟨c _ _ _ k0 (by omega), c _ _ _ k1 (by omega), c _ _ _ k2 (by omega), c _ _ _ k3 (by omega), c _ _ _ k4 (by omega), c _ _ _ k5 (by omega), c _ _ _ k6 (by omega), c _ _ _ k7 (by omega), c _ _ _ k8 (by omega), c _ _ _ k9 (by omega), c _ _ _ k10 (by omega), c _ _ _ k11 (by omega), c _ _ _ k12 (by omega), c _ _ _ k13 (by omega), c _ _ _ k14 (by omega), c _ _ _ k15 (by omega)⟩, r', h.b.grown g h.b.size (fun k hk => by have := (lo k hk).1; omega)⟩
theorem shL_len (x1 y1 x2 y2 x3 y3 x4 y4 : Int) (ps : List (Int × Int)) : (shL x1 y1 x2 y2 x3 y3 x4 y4 ps).length ≤ ps.length := by
  have gen : ∀ (ps l : List (Int × Int)), (ps.foldl (fun l p => addP l p (shr x1 y1 x2 y2 x3 y3 x4 y4 p.1 p.2)) l).length ≤ l.length + ps.length := by
    intro ps
    induction ps with
    | nil => intro l; simp
    | cons p r ih =>
      intro l
      have h1 := ih (addP l p (shr x1 y1 x2 y2 x3 y3 x4 y4 p.1 p.2))
      have h2 := addP_len l p (shr x1 y1 x2 y2 x3 y3 x4 y4 p.1 p.2)
      simp only [List.foldl_cons, List.length_cons] at *
      omega
  have := gen ps []
  simpa [shL] using this
theorem con_step {l : List (Int × Int)} {t : Nat} (h : t < l.length) (p : Int × Int) : (l.take (t + 1)).contains p = ((l.take t).contains p || decide (p = l[t]?.getD (0, 0))) := by
  rw [takeS h]
  simp

set_option maxRecDepth 20000 in
set_option maxHeartbeats 32000000 in
theorem l3Ends_any (x1 y1 x2 y2 x3 y3 x4 y4 : Int) (w : World) (c1 : Crd x1) (d1 : Crd y1) (c2 : Crd x2) (d2 : Crd y2) (c3 : Crd x3) (d3 : Crd y3) (c4 : Crd x4) (d4 : Crd y4) :
    Calls Try.prog 30 #[.agg #[.int .i64 x1, .int .i64 y1], .agg #[.int .i64 x2, .int .i64 y2], .agg #[.int .i64 x3, .int .i64 y3], .agg #[.int .i64 x4, .int .i64 y4]] w fun e w' => ∃ v, e = .returned v ∧ RowPt w.heap.size w' v (shL x1 y1 x2 y2 x3 y3 x4 y4 [(x1, y1), (x2, y2), (x3, y3), (x4, y4)]) ∧ Below w.heap.size w w' := by
  obtain ⟨iP, hiP, hp0, hp1, hp2⟩ := info_parts infoPt
  have A0 := EnAt.start w x1 y1 x2 y2 x3 y3 x4 y4
  go_enter Try.func30, Try.ntmps30
  go_wp2_with fail
  generalize ((((((w.alloc (.cells #[.int .i64 x1, .int .i64 y1] 31)).alloc (.cells #[.int .i64 x2, .int .i64 y2] 31)).alloc (.cells #[.int .i64 x3, .int .i64 y3] 31)).alloc (.cells #[.int .i64 x4, .int .i64 y4] 31)).alloc (.cells #[.int .i64 x1, .int .i64 y1, .int .i64 x2, .int .i64 y2, .int .i64 x3, .int .i64 y3, .int .i64 x4, .int .i64 y4] 31)).alloc (.cells #[] 31)) = W0 at *
  go_loopw [10, 11, 12, 13] (fun v i _ _ wr => ∃ j : Nat, j ≤ 4 ∧ i = .int .i64 j ∧ EnAt w wr x1 y1 x2 y2 x3 y3 x4 y4 (shL x1 y1 x2 y2 x3 y3 x4 y4 (List.take j [(x1, y1), (x2, y2), (x3, y3), (x4, y4)])) v) (fun _ i _ _ _ => 4 - (intOf i).toNat)
  case atStart => exact ⟨0, by omega, rfl, A0⟩
  case round =>
    clear A0
    obtain ⟨j, hj, rfl, A⟩ := hrel
    rename World => wr
    have hj5 : j = 0 ∨ j = 1 ∨ j = 2 ∨ j = 3 ∨ j = 4 := by omega
    rcases hj5 with rfl | rfl | rfl | rfl | rfl
    · have LL : Hid ((shL x1 y1 x2 y2 x3 y3 x4 y4 (List.take 0 [(x1, y1), (x2, y2), (x3, y3), (x4, y4)])).length ≤ 0) := by have := shL_len x1 y1 x2 y2 x3 y3 x4 y4 (List.take 0 [(x1, y1), (x2, y2), (x3, y3), (x4, y4)]); show _ ≤ _; simpa using this
      obtain ⟨ll, HLL⟩ : ∃ l, Hid ((shL x1 y1 x2 y2 x3 y3 x4 y4 (List.take 0 [(x1, y1), (x2, y2), (x3, y3), (x4, y4)])) = l) := ⟨_, rfl⟩
      rw [HLL.out] at A LL
      obtain ⟨av, cv, AV, hf, hm⟩ := A.r.shape
      have HC : Hid (ll.length ≤ 0 ∧ ll.length ≤ cv ∧ cv ≤ maxLen) := ⟨LL.out, hf, hm⟩
      clear hf hm LL
      subst AV
      obtain ⟨k0, k1, k2, k3, k4, k5, k6, k7, k8, k9, k10, k11, k12, k13, k14, k15⟩ := id A.k
      go_upto_region 6 with fail
      cases f1 : onB x1 y1 x2 y2 x1 y1
      · have FL : shr x1 y1 x2 y2 x3 y3 x4 y4 x1 y1 = false := by unfold shr; rw [f1]; rfl
        refine wp_region_held_drew (S := Below wr.heap.size wr) (by kernel_rfl) ((Below.refl _ _).drew) (fun hHeld => ?_)
        have N : Below wr.heap.size wr wr.drew := hHeld
        revert hHeld N
        generalize wr.drew = ww0
        intro hHeld N
        refine takeQ (i := 0) (gt rfl) (by kernel_rfl) (fun _ _ _ h => h) (by rfl) (by intro wq hSw; have q0 := bat hSw k0; have q1 := bat hSw k1; have q2 := bat hSw k2; have q3 := bat hSw k3; have q4 := bat hSw k4; have q5 := bat hSw k5; have q6 := bat hSw k6; have q7 := bat hSw k7; have q8 := bat hSw k8; have q9 := bat hSw k9; have q10 := bat hSw k10; have q11 := bat hSw k11; have q12 := bat hSw k12; have q13 := bat hSw k13; have q14 := bat hSw k14; have q15 := bat hSw k15; go_simp <;> with_reducible rfl) (by assumption) ?_
        try simp only [Act.put, sA, sB, sC]
        refine takeQ (i := 1) (gt rfl) (by kernel_rfl) (fun _ _ _ h => h) (by rfl) (by intro wq hSw; have q0 := bat hSw k0; have q1 := bat hSw k1; have q2 := bat hSw k2; have q3 := bat hSw k3; have q4 := bat hSw k4; have q5 := bat hSw k5; have q6 := bat hSw k6; have q7 := bat hSw k7; have q8 := bat hSw k8; have q9 := bat hSw k9; have q10 := bat hSw k10; have q11 := bat hSw k11; have q12 := bat hSw k12; have q13 := bat hSw k13; have q14 := bat hSw k14; have q15 := bat hSw k15; go_simp <;> with_reducible rfl) (by assumption) ?_
        try simp only [Act.put, sA, sB, sC]
        refine takeQ (i := 2) (gt rfl) (by kernel_rfl) (fun _ _ _ h => h) (by rfl) (by intro wq _; go_simp <;> with_reducible rfl) (by assumption) ?_
        try simp only [Act.put, sA, sB, sC]
        refine takeQ (i := 3) (gt rfl) (by kernel_rfl) (fun _ _ _ h => h) (by rfl) (by intro wq _; go_simp <;> with_reducible rfl) (by assumption) ?_
        try simp only [Act.put, sA, sB, sC]
        refine takeQ (i := 4) (gt rfl) (by kernel_rfl) (fun _ _ _ h => h) (by rfl) (by intro wq _; go_simp <;> with_reducible rfl) (by assumption) ?_
        try simp only [Act.put, sA, sB, sC]
        refine takeQ (i := 5) (gt rfl) (by kernel_rfl) (fun _ _ _ h => h) (by rfl) (by intro wq hSw; have q0 := bat hSw k0; have q1 := bat hSw k1; have q2 := bat hSw k2; have q3 := bat hSw k3; have q4 := bat hSw k4; have q5 := bat hSw k5; have q6 := bat hSw k6; have q7 := bat hSw k7; have q8 := bat hSw k8; have q9 := bat hSw k9; have q10 := bat hSw k10; have q11 := bat hSw k11; have q12 := bat hSw k12; have q13 := bat hSw k13; have q14 := bat hSw k14; have q15 := bat hSw k15; go_simp <;> with_reducible rfl) (by assumption) ?_
        try simp only [Act.put, sA, sB, sC]
        refine wpAnyH_ready (rs := [6]) (by kernel_rfl) (by simp) (AllReadyH.cons (gt rfl) (fun K hK => ?_) AllReadyH.nil)
        go_simp
        refine (l3On_any x1 y1 x2 y2 x1 y1 _ c1 d1 c2 d2 c1 d1).mono ?_
        rintro e1 ww1 ⟨rfl, hb⟩
        rw [f1]
        replace N := N.trans (hb.mono N.size)
        clear hb
        refine hK.out _ _ N (fun hHeld => ?_)
        clear hK K
        try simp only [Act.put, sA, sB, sC]
        refine takeQ (i := 7) (gt rfl) (by kernel_rfl) (fun _ _ _ h => h) (by rfl) (by intro wq _; go_simp <;> with_reducible rfl) (by assumption) ?_
        try simp only [Act.put, sA, sB, sC]
        refine takeQ (i := 8) (gt rfl) (by kernel_rfl) (fun _ _ _ h => h) (by rfl) (by intro wq _; go_simp <;> with_reducible rfl) (by assumption) ?_
        try simp only [Act.put, sA, sB, sC]
        refine takeN (i := 9) (gt rfl) (by kernel_rfl) (by kernel_rfl) (by kernel_rfl) (by exact fun _ _ _ h => h) (by rfl) (by assumption) ?_
        try simp only [Act.put, sA, sB, sC]
        refine takeN (i := 10) (gt rfl) (by kernel_rfl) (by kernel_rfl) (by kernel_rfl) (by exact fun _ _ _ h => h) (by rfl) (by assumption) ?_
        try simp only [Act.put, sA, sB, sC]
        refine takeN (i := 11) (gt rfl) (by kernel_rfl) (by kernel_rfl) (by kernel_rfl) (by exact fun _ _ _ h => h) (by rfl) (by assumption) ?_
        try simp only [Act.put, sA, sB, sC]
        refine takeN (i := 12) (gt rfl) (by kernel_rfl) (by kernel_rfl) (by kernel_rfl) (by exact fun _ _ _ h => h) (by rfl) (by assumption) ?_
        try simp only [Act.put, sA, sB, sC]
        refine takeN (i := 13) (gt rfl) (by kernel_rfl) (by kernel_rfl) (by kernel_rfl) (by exact fun _ _ _ h => h) (by rfl) (by assumption) ?_
        try simp only [Act.put, sA, sB, sC]
        refine takeN (i := 14) (gt rfl) (by kernel_rfl) (by kernel_rfl) (by kernel_rfl) (by exact fun _ _ _ h => h) (by rfl) (by assumption) ?_
        try simp only [Act.put, sA, sB, sC]
        refine takeN (i := 15) (gt rfl) (by kernel_rfl) (by kernel_rfl) (by kernel_rfl) (by exact fun _ _ _ h => h) (by rfl) (by assumption) ?_
        try simp only [Act.put, sA, sB, sC]
        refine takeN (i := 16) (gt rfl) (by kernel_rfl) (by kernel_rfl) (by kernel_rfl) (by exact fun _ _ _ h => h) (by rfl) (by assumption) ?_
        try simp only [Act.put, sA, sB, sC]
        refine takeQ (i := 17) (gt rfl) (by kernel_rfl) (fun _ _ _ h => h) (by rfl) (by intro wq _; go_simp <;> with_reducible rfl) (by assumption) ?_
        try simp only [Act.put, sA, sB, sC]
        refine wpAnyH_done (by kernel_rfl) ?_ _
        have A1 := A.below N
        go_wp2
        go_roundw
        case rel => exact ⟨1, by omega, by first | rfl | go_num, by rw [show (shL x1 y1 x2 y2 x3 y3 x4 y4 (List.take 1 [(x1, y1), (x2, y2), (x3, y3), (x4, y4)])) = addP (shL x1 y1 x2 y2 x3 y3 x4 y4 (List.take 0 [(x1, y1), (x2, y2), (x3, y3), (x4, y4)])) (x1, y1) (shr x1 y1 x2 y2 x3 y3 x4 y4 x1 y1) from rfl, FL, HLL.out]; exact A1⟩
        case measure => simp [intOf]
      · cases f2 : onB x3 y3 x4 y4 x1 y1
        · have FL : shr x1 y1 x2 y2 x3 y3 x4 y4 x1 y1 = false := by unfold shr; rw [f1, f2]; rfl
          refine wp_region_held_drew (S := Below wr.heap.size wr) (by kernel_rfl) ((Below.refl _ _).drew) (fun hHeld => ?_)
          have N : Below wr.heap.size wr wr.drew := hHeld
          revert hHeld N
          generalize wr.drew = ww0
          intro hHeld N
          refine takeQ (i := 0) (gt rfl) (by kernel_rfl) (fun _ _ _ h => h) (by rfl) (by intro wq hSw; have q0 := bat hSw k0; have q1 := bat hSw k1; have q2 := bat hSw k2; have q3 := bat hSw k3; have q4 := bat hSw k4; have q5 := bat hSw k5; have q6 := bat hSw k6; have q7 := bat hSw k7; have q8 := bat hSw k8; have q9 := bat hSw k9; have q10 := bat hSw k10; have q11 := bat hSw k11; have q12 := bat hSw k12; have q13 := bat hSw k13; have q14 := bat hSw k14; have q15 := bat hSw k15; go_simp <;> with_reducible rfl) (by assumption) ?_
          try simp only [Act.put, sA, sB, sC]
          refine takeQ (i := 1) (gt rfl) (by kernel_rfl) (fun _ _ _ h => h) (by rfl) (by intro wq hSw; have q0 := bat hSw k0; have q1 := bat hSw k1; have q2 := bat hSw k2; have q3 := bat hSw k3; have q4 := bat hSw k4; have q5 := bat hSw k5; have q6 := bat hSw k6; have q7 := bat hSw k7; have q8 := bat hSw k8; have q9 := bat hSw k9; have q10 := bat hSw k10; have q11 := bat hSw k11; have q12 := bat hSw k12; have q13 := bat hSw k13; have q14 := bat hSw k14; have q15 := bat hSw k15; go_simp <;> with_reducible rfl) (by assumption) ?_
          try simp only [Act.put, sA, sB, sC]
          refine takeQ (i := 2) (gt rfl) (by kernel_rfl) (fun _ _ _ h => h) (by rfl) (by intro wq _; go_simp <;> with_reducible rfl) (by assumption) ?_
          try simp only [Act.put, sA, sB, sC]
          refine takeQ (i := 3) (gt rfl) (by kernel_rfl) (fun _ _ _ h => h) (by rfl) (by intro wq _; go_simp <;> with_reducible rfl) (by assumption) ?_
          try simp only [Act.put, sA, sB, sC]
          refine takeQ (i := 4) (gt rfl) (by kernel_rfl) (fun _ _ _ h => h) (by rfl) (by intro wq _; go_simp <;> with_reducible rfl) (by assumption) ?_
          try simp only [Act.put, sA, sB, sC]
          refine takeQ (i := 5) (gt rfl) (by kernel_rfl) (fun _ _ _ h => h) (by rfl) (by intro wq hSw; have q0 := bat hSw k0; have q1 := bat hSw k1; have q2 := bat hSw k2; have q3 := bat hSw k3; have q4 := bat hSw k4; have q5 := bat hSw k5; have q6 := bat hSw k6; have q7 := bat hSw k7; have q8 := bat hSw k8; have q9 := bat hSw k9; have q10 := bat hSw k10; have q11 := bat hSw k11; have q12 := bat hSw k12; have q13 := bat hSw k13; have q14 := bat hSw k14; have q15 := bat hSw k15; go_simp <;> with_reducible rfl) (by assumption) ?_
          try simp only [Act.put, sA, sB, sC]
          refine wpAnyH_ready (rs := [6]) (by kernel_rfl) (by simp) (AllReadyH.cons (gt rfl) (fun K hK => ?_) AllReadyH.nil)
          go_simp
          refine (l3On_any x1 y1 x2 y2 x1 y1 _ c1 d1 c2 d2 c1 d1).mono ?_
          rintro e1 ww1 ⟨rfl, hb⟩
          rw [f1]
          replace N := N.trans (hb.mono N.size)
          clear hb
          refine hK.out _ _ N (fun hHeld => ?_)
          clear hK K
          try simp only [Act.put, sA, sB, sC]
          refine takeQ (i := 7) (gt rfl) (by kernel_rfl) (fun _ _ _ h => h) (by rfl) (by intro wq _; go_simp <;> with_reducible rfl) (by assumption) ?_
          try simp only [Act.put, sA, sB, sC]
          refine takeQ (i := 8) (gt rfl) (by kernel_rfl) (fun _ _ _ h => h) (by rfl) (by intro wq _; go_simp <;> with_reducible rfl) (by assumption) ?_
          try simp only [Act.put, sA, sB, sC]
          refine takeQ (i := 9) (gt rfl) (by kernel_rfl) (fun _ _ _ h => h) (by rfl) (by intro wq hSw; have q0 := bat hSw k0; have q1 := bat hSw k1; have q2 := bat hSw k2; have q3 := bat hSw k3; have q4 := bat hSw k4; have q5 := bat hSw k5; have q6 := bat hSw k6; have q7 := bat hSw k7; have q8 := bat hSw k8; have q9 := bat hSw k9; have q10 := bat hSw k10; have q11 := bat hSw k11; have q12 := bat hSw k12; have q13 := bat hSw k13; have q14 := bat hSw k14; have q15 := bat hSw k15; go_simp <;> with_reducible rfl) (by assumption) ?_
          try simp only [Act.put, sA, sB, sC]
          refine takeQ (i := 10) (gt rfl) (by kernel_rfl) (fun _ _ _ h => h) (by rfl) (by intro wq hSw; have q0 := bat hSw k0; have q1 := bat hSw k1; have q2 := bat hSw k2; have q3 := bat hSw k3; have q4 := bat hSw k4; have q5 := bat hSw k5; have q6 := bat hSw k6; have q7 := bat hSw k7; have q8 := bat hSw k8; have q9 := bat hSw k9; have q10 := bat hSw k10; have q11 := bat hSw k11; have q12 := bat hSw k12; have q13 := bat hSw k13; have q14 := bat hSw k14; have q15 := bat hSw k15; go_simp <;> with_reducible rfl) (by assumption) ?_
          try simp only [Act.put, sA, sB, sC]
          refine takeQ (i := 11) (gt rfl) (by kernel_rfl) (fun _ _ _ h => h) (by rfl) (by intro wq _; go_simp <;> with_reducible rfl) (by assumption) ?_
          try simp only [Act.put, sA, sB, sC]
          refine takeQ (i := 12) (gt rfl) (by kernel_rfl) (fun _ _ _ h => h) (by rfl) (by intro wq _; go_simp <;> with_reducible rfl) (by assumption) ?_
          try simp only [Act.put, sA, sB, sC]
          refine takeQ (i := 13) (gt rfl) (by kernel_rfl) (fun _ _ _ h => h) (by rfl) (by intro wq _; go_simp <;> with_reducible rfl) (by assumption) ?_
          try simp only [Act.put, sA, sB, sC]
          refine takeQ (i := 14) (gt rfl) (by kernel_rfl) (fun _ _ _ h => h) (by rfl) (by intro wq hSw; have q0 := bat hSw k0; have q1 := bat hSw k1; have q2 := bat hSw k2; have q3 := bat hSw k3; have q4 := bat hSw k4; have q5 := bat hSw k5; have q6 := bat hSw k6; have q7 := bat hSw k7; have q8 := bat hSw k8; have q9 := bat hSw k9; have q10 := bat hSw k10; have q11 := bat hSw k11; have q12 := bat hSw k12; have q13 := bat hSw k13; have q14 := bat hSw k14; have q15 := bat hSw k15; go_simp <;> with_reducible rfl) (by assumption) ?_
          try simp only [Act.put, sA, sB, sC]
          refine wpAnyH_ready (rs := [15]) (by kernel_rfl) (by simp) (AllReadyH.cons (gt rfl) (fun K hK => ?_) AllReadyH.nil)
          go_simp
          refine (l3On_any x3 y3 x4 y4 x1 y1 _ c3 d3 c4 d4 c1 d1).mono ?_
          rintro e1 ww2 ⟨rfl, hb⟩
          rw [f2]
          replace N := N.trans (hb.mono N.size)
          clear hb
          refine hK.out _ _ N (fun hHeld => ?_)
          clear hK K
          try simp only [Act.put, sA, sB, sC]
          refine takeQ (i := 16) (gt rfl) (by kernel_rfl) (fun _ _ _ h => h) (by rfl) (by intro wq _; go_simp <;> with_reducible rfl) (by assumption) ?_
          try simp only [Act.put, sA, sB, sC]
          refine takeQ (i := 17) (gt rfl) (by kernel_rfl) (fun _ _ _ h => h) (by rfl) (by intro wq _; go_simp <;> with_reducible rfl) (by assumption) ?_
          try simp only [Act.put, sA, sB, sC]
          refine wpAnyH_done (by kernel_rfl) ?_ _
          have A1 := A.below N
          go_wp2
          go_roundw
          case rel => exact ⟨1, by omega, by first | rfl | go_num, by rw [show (shL x1 y1 x2 y2 x3 y3 x4 y4 (List.take 1 [(x1, y1), (x2, y2), (x3, y3), (x4, y4)])) = addP (shL x1 y1 x2 y2 x3 y3 x4 y4 (List.take 0 [(x1, y1), (x2, y2), (x3, y3), (x4, y4)])) (x1, y1) (shr x1 y1 x2 y2 x3 y3 x4 y4 x1 y1) from rfl, FL, HLL.out]; exact A1⟩
          case measure => simp [intOf]
        · have FL : shr x1 y1 x2 y2 x3 y3 x4 y4 x1 y1 = true := by unfold shr; rw [f1, f2]; rfl
          refine wp_region_held_drew (S := Below wr.heap.size wr) (by kernel_rfl) ((Below.refl _ _).drew) (fun hHeld => ?_)
          have N : Below wr.heap.size wr wr.drew := hHeld
          revert hHeld N
          generalize wr.drew = ww0
          intro hHeld N
          refine takeQ (i := 0) (gt rfl) (by kernel_rfl) (fun _ _ _ h => h) (by rfl) (by intro wq hSw; have q0 := bat hSw k0; have q1 := bat hSw k1; have q2 := bat hSw k2; have q3 := bat hSw k3; have q4 := bat hSw k4; have q5 := bat hSw k5; have q6 := bat hSw k6; have q7 := bat hSw k7; have q8 := bat hSw k8; have q9 := bat hSw k9; have q10 := bat hSw k10; have q11 := bat hSw k11; have q12 := bat hSw k12; have q13 := bat hSw k13; have q14 := bat hSw k14; have q15 := bat hSw k15; go_simp <;> with_reducible rfl) (by assumption) ?_
          try simp only [Act.put, sA, sB, sC]
          refine takeQ (i := 1) (gt rfl) (by kernel_rfl) (fun _ _ _ h => h) (by rfl) (by intro wq hSw; have q0 := bat hSw k0; have q1 := bat hSw k1; have q2 := bat hSw k2; have q3 := bat hSw k3; have q4 := bat hSw k4; have q5 := bat hSw k5; have q6 := bat hSw k6; have q7 := bat hSw k7; have q8 := bat hSw k8; have q9 := bat hSw k9; have q10 := bat hSw k10; have q11 := bat hSw k11; have q12 := bat hSw k12; have q13 := bat hSw k13; have q14 := bat hSw k14; have q15 := bat hSw k15; go_simp <;> with_reducible rfl) (by assumption) ?_
          try simp only [Act.put, sA, sB, sC]
          refine takeQ (i := 2) (gt rfl) (by kernel_rfl) (fun _ _ _ h => h) (by rfl) (by intro wq _; go_simp <;> with_reducible rfl) (by assumption) ?_
          try simp only [Act.put, sA, sB, sC]
          refine takeQ (i := 3) (gt rfl) (by kernel_rfl) (fun _ _ _ h => h) (by rfl) (by intro wq _; go_simp <;> with_reducible rfl) (by assumption) ?_
          try simp only [Act.put, sA, sB, sC]
          refine takeQ (i := 4) (gt rfl) (by kernel_rfl) (fun _ _ _ h => h) (by rfl) (by intro wq _; go_simp <;> with_reducible rfl) (by assumption) ?_
          try simp only [Act.put, sA, sB, sC]
          refine takeQ (i := 5) (gt rfl) (by kernel_rfl) (fun _ _ _ h => h) (by rfl) (by intro wq hSw; have q0 := bat hSw k0; have q1 := bat hSw k1; have q2 := bat hSw k2; have q3 := bat hSw k3; have q4 := bat hSw k4; have q5 := bat hSw k5; have q6 := bat hSw k6; have q7 := bat hSw k7; have q8 := bat hSw k8; have q9 := bat hSw k9; have q10 := bat hSw k10; have q11 := bat hSw k11; have q12 := bat hSw k12; have q13 := bat hSw k13; have q14 := bat hSw k14; have q15 := bat hSw k15; go_simp <;> with_reducible rfl) (by assumption) ?_
          try simp only [Act.put, sA, sB, sC]
          refine wpAnyH_ready (rs := [6]) (by kernel_rfl) (by simp) (AllReadyH.cons (gt rfl) (fun K hK => ?_) AllReadyH.nil)
          go_simp
          refine (l3On_any x1 y1 x2 y2 x1 y1 _ c1 d1 c2 d2 c1 d1).mono ?_
          rintro e1 ww1 ⟨rfl, hb⟩
          rw [f1]
          replace N := N.trans (hb.mono N.size)
          clear hb
          refine hK.out _ _ N (fun hHeld => ?_)
          clear hK K
          try simp only [Act.put, sA, sB, sC]
          refine takeQ (i := 7) (gt rfl) (by kernel_rfl) (fun _ _ _ h => h) (by rfl) (by intro wq _; go_simp <;> with_reducible rfl) (by assumption) ?_
          try simp only [Act.put, sA, sB, sC]
          refine takeQ (i := 8) (gt rfl) (by kernel_rfl) (fun _ _ _ h => h) (by rfl) (by intro wq _; go_simp <;> with_reducible rfl) (by assumption) ?_
          try simp only [Act.put, sA, sB, sC]
          refine takeQ (i := 9) (gt rfl) (by kernel_rfl) (fun _ _ _ h => h) (by rfl) (by intro wq hSw; have q0 := bat hSw k0; have q1 := bat hSw k1; have q2 := bat hSw k2; have q3 := bat hSw k3; have q4 := bat hSw k4; have q5 := bat hSw k5; have q6 := bat hSw k6; have q7 := bat hSw k7; have q8 := bat hSw k8; have q9 := bat hSw k9; have q10 := bat hSw k10; have q11 := bat hSw k11; have q12 := bat hSw k12; have q13 := bat hSw k13; have q14 := bat hSw k14; have q15 := bat hSw k15; go_simp <;> with_reducible rfl) (by assumption) ?_
          try simp only [Act.put, sA, sB, sC]
          refine takeQ (i := 10) (gt rfl) (by kernel_rfl) (fun _ _ _ h => h) (by rfl) (by intro wq hSw; have q0 := bat hSw k0; have q1 := bat hSw k1; have q2 := bat hSw k2; have q3 := bat hSw k3; have q4 := bat hSw k4; have q5 := bat hSw k5; have q6 := bat hSw k6; have q7 := bat hSw k7; have q8 := bat hSw k8; have q9 := bat hSw k9; have q10 := bat hSw k10; have q11 := bat hSw k11; have q12 := bat hSw k12; have q13 := bat hSw k13; have q14 := bat hSw k14; have q15 := bat hSw k15; go_simp <;> with_reducible rfl) (by assumption) ?_
          try simp only [Act.put, sA, sB, sC]
          refine takeQ (i := 11) (gt rfl) (by kernel_rfl) (fun _ _ _ h => h) (by rfl) (by intro wq _; go_simp <;> with_reducible rfl) (by assumption) ?_
          try simp only [Act.put, sA, sB, sC]
          refine takeQ (i := 12) (gt rfl) (by kernel_rfl) (fun _ _ _ h => h) (by rfl) (by intro wq _; go_simp <;> with_reducible rfl) (by assumption) ?_
          try simp only [Act.put, sA, sB, sC]
          refine takeQ (i := 13) (gt rfl) (by kernel_rfl) (fun _ _ _ h => h) (by rfl) (by intro wq _; go_simp <;> with_reducible rfl) (by assumption) ?_
          try simp only [Act.put, sA, sB, sC]
          refine takeQ (i := 14) (gt rfl) (by kernel_rfl) (fun _ _ _ h => h) (by rfl) (by intro wq hSw; have q0 := bat hSw k0; have q1 := bat hSw k1; have q2 := bat hSw k2; have q3 := bat hSw k3; have q4 := bat hSw k4; have q5 := bat hSw k5; have q6 := bat hSw k6; have q7 := bat hSw k7; have q8 := bat hSw k8; have q9 := bat hSw k9; have q10 := bat hSw k10; have q11 := bat hSw k11; have q12 := bat hSw k12; have q13 := bat hSw k13; have q14 := bat hSw k14; have q15 := bat hSw k15; go_simp <;> with_reducible rfl) (by assumption) ?_
          try simp only [Act.put, sA, sB, sC]
          refine wpAnyH_ready (rs := [15]) (by kernel_rfl) (by simp) (AllReadyH.cons (gt rfl) (fun K hK => ?_) AllReadyH.nil)
          go_simp
          refine (l3On_any x3 y3 x4 y4 x1 y1 _ c3 d3 c4 d4 c1 d1).mono ?_
          rintro e1 ww2 ⟨rfl, hb⟩
          rw [f2]
          replace N := N.trans (hb.mono N.size)
          clear hb
          refine hK.out _ _ N (fun hHeld => ?_)
          clear hK K
          try simp only [Act.put, sA, sB, sC]
          refine takeQ (i := 16) (gt rfl) (by kernel_rfl) (fun _ _ _ h => h) (by rfl) (by intro wq _; go_simp <;> with_reducible rfl) (by assumption) ?_
          try simp only [Act.put, sA, sB, sC]
          refine takeQ (i := 17) (gt rfl) (by kernel_rfl) (fun _ _ _ h => h) (by rfl) (by intro wq _; go_simp <;> with_reducible rfl) (by assumption) ?_
          try simp only [Act.put, sA, sB, sC]
          refine wpAnyH_done (by kernel_rfl) ?_ _
          have A1 := A.below N
          clear A k0 k1 k2 k3 k4 k5 k6 k7 k8 k9 k10 k11 k12 k13 k14 k15
          clear hHeld N
          go_wp2_with fail
          go_loopw [12, 13] (fun m kk wi => ∃ t : Nat, t ≤ ll.length ∧ kk = .int .i64 t ∧ m = .bool ((ll.take t).contains (x1, y1)) ∧ EnAt w wi x1 y1 x2 y2 x3 y3 x4 y4 ll (.slice av ll.length cv)) (fun _ kk _ => ll.length - (intOf kk).toNat)
          case atStart => exact ⟨0, Nat.zero_le _, rfl, by simp, A1⟩
          case round =>
            obtain ⟨t, ht, rfl, rfl, A2⟩ := hrel
            rename World => wi
            clear A1
            obtain ⟨k0, k1, k2, k3, k4, k5, k6, k7, k8, k9, k10, k11, k12, k13, k14, k15⟩ := id A2.k
            have hcm := HC.out
            by_cases htl : t < ll.length
            · obtain ⟨b0, o0, hav, hcells⟩ := A2.r.seesP.cells (by intro e; rw [e] at htl; simp at htl)
              subst hav
              obtain ⟨z0, z1⟩ := hcells t htl
              clear hcells
              have CS := con_step htl (x1, y1)
              have hlt : (t : Int) < (ll.length : Int) := by omega
              have A3 := fun nq => A2.below (below_drewN (Below.refl wi.heap.size wi) nq)
              cases hc : (ll.take t).contains (x1, y1)
              · rw [hc, Bool.false_or] at CS
                generalize ll[t]?.getD (0, 0) = pq at *
                obtain ⟨u, v⟩ := pq
                dsimp only at z0 z1
                by_cases hxu : u = x1
                · subst hxu
                  by_cases hyv : v = y1
                  · subst hyv
                    have CS2 : (ll.take (t + 1)).contains (u, v) = true := by rw [CS]; simp
                    go_wp2_with fail
                    go_quiet (fail)
                    go_wp2
                    go_roundw
                    case rel => exact ⟨t + 1, by omega, by go_num, by rw [CS2], A3 _⟩
                    case measure => simp [intOf]; omega
                  · have hyb : (v == y1) = false := by rw [beq_eq_false_iff_ne]; exact hyv
                    have CS2 : (ll.take (t + 1)).contains (u, y1) = false := by rw [CS]; simp [Ne.symm hyv]
                    clear CS
                    go_wp2_with fail
                    go_quiet (fail)
                    go_wp2
                    go_roundw
                    case rel => exact ⟨t + 1, by omega, by go_num, by rw [CS2], A3 _⟩
                    case measure => simp [intOf]; omega
                · have hxb : (u == x1) = false := by rw [beq_eq_false_iff_ne]; exact hxu
                  have CS2 : (ll.take (t + 1)).contains (x1, y1) = false := by rw [CS]; simp [Ne.symm hxu]
                  clear CS
                  go_wp2_with fail
                  go_quiet (fail)
                  go_wp2
                  go_roundw
                  case rel => exact ⟨t + 1, by omega, by go_num, by rw [CS2], A3 _⟩
                  case measure => simp [intOf]; omega
              · rw [hc, Bool.true_or] at CS
                go_wp2_with fail
                go_quiet (fail)
                go_wp2
                go_roundw
                case rel => exact ⟨t + 1, by omega, by go_num, by rw [CS], A3 _⟩
                case measure => simp [intOf]; omega
            · obtain rfl : t = ll.length := by omega
              rw [List.take_length]
              cases hc : ll.contains (x1, y1)
              · have AD : addP ll (x1, y1) true = ll ++ [(x1, y1)] := by unfold addP; rw [hc]; rfl
                have sz := A2.b.size
                have A4 := A2.below (below1 wi (.cells #[.int .i64 x1, .int .i64 y1] 31))
                have hb5 : w.heap.size + 1 + 1 + 1 + 1 + 1 ≤ (wi.alloc (.cells #[.int .i64 x1, .int .i64 y1] 31)).heap.size := by
                  have h8 : w.heap.size + 1 + 1 + 1 + 1 < wi.heap.size := World.block_lt_of_cell? _ _ k8
                  simp
                  omega
                have hmx : ll.length + 1 ≤ maxLen := by have := HC.out; unfold maxLen; omega
                have hby : (ll.length + 1) * 16 ≤ 140737488355328 := by have := HC.out; omega
                go_wp2_with (at_builtin; refine wpList_append_own _ rfl (.tmp 62) (.tmp 67) 60 rfl (w.heap.size + 1 + 1 + 1 + 1 + 1) 31 iP (.agg #[.int .i64 0, .int .i64 0]) 2 16 Try.underlying60 hiP hp0 hp1 hp2 rfl (by decide) (.slice av ll.length cv) ll.length (ptC ll) rfl A4.r ⟨wi.heap.size, 0, none⟩ 1 _ (ptC [(x1, y1)]) rfl rfl (pt_new _ _ _ _) (ptC_ones _) hmx hby hb5 ?_)
                intro v5 w5 hown hgrow _
                have A5 := A4.grew hgrow (RowPt.snoc hown)
                obtain ⟨a9, c9, E9, _⟩ := A5.r.shape
                subst E9
                go_wp2
                go_roundw
                case rel => exact ⟨1, by omega, by first | rfl | go_num, by rw [show (shL x1 y1 x2 y2 x3 y3 x4 y4 (List.take 1 [(x1, y1), (x2, y2), (x3, y3), (x4, y4)])) = addP (shL x1 y1 x2 y2 x3 y3 x4 y4 (List.take 0 [(x1, y1), (x2, y2), (x3, y3), (x4, y4)])) (x1, y1) (shr x1 y1 x2 y2 x3 y3 x4 y4 x1 y1) from rfl, FL, HLL.out]; exact A5.as AD.symm⟩
                case measure => simp [intOf]
              · have AD : addP ll (x1, y1) true = ll := by unfold addP; rw [hc]; rfl
                go_wp2
                go_roundw
                case rel => exact ⟨1, by omega, by first | rfl | go_num, by rw [show (shL x1 y1 x2 y2 x3 y3 x4 y4 (List.take 1 [(x1, y1), (x2, y2), (x3, y3), (x4, y4)])) = addP (shL x1 y1 x2 y2 x3 y3 x4 y4 (List.take 0 [(x1, y1), (x2, y2), (x3, y3), (x4, y4)])) (x1, y1) (shr x1 y1 x2 y2 x3 y3 x4 y4 x1 y1) from rfl, FL, HLL.out]; exact A2.as AD.symm⟩
                case measure => simp [intOf]
    · have LL : Hid ((shL x1 y1 x2 y2 x3 y3 x4 y4 (List.take 1 [(x1, y1), (x2, y2), (x3, y3), (x4, y4)])).length ≤ 1) := by have := shL_len x1 y1 x2 y2 x3 y3 x4 y4 (List.take 1 [(x1, y1), (x2, y2), (x3, y3), (x4, y4)]); show _ ≤ _; simpa using this
      obtain ⟨ll, HLL⟩ : ∃ l, Hid ((shL x1 y1 x2 y2 x3 y3 x4 y4 (List.take 1 [(x1, y1), (x2, y2), (x3, y3), (x4, y4)])) = l) := ⟨_, rfl⟩
      rw [HLL.out] at A LL
      obtain ⟨av, cv, AV, hf, hm⟩ := A.r.shape
      have HC : Hid (ll.length ≤ 1 ∧ ll.length ≤ cv ∧ cv ≤ maxLen) := ⟨LL.out, hf, hm⟩
      clear hf hm LL
      subst AV
      obtain ⟨k0, k1, k2, k3, k4, k5, k6, k7, k8, k9, k10, k11, k12, k13, k14, k15⟩ := id A.k
      go_upto_region 6 with fail
      cases f1 : onB x1 y1 x2 y2 x2 y2
      · have FL : shr x1 y1 x2 y2 x3 y3 x4 y4 x2 y2 = false := by unfold shr; rw [f1]; rfl
        refine wp_region_held_drew (S := Below wr.heap.size wr) (by kernel_rfl) ((Below.refl _ _).drew) (fun hHeld => ?_)
        have N : Below wr.heap.size wr wr.drew := hHeld
        revert hHeld N
        generalize wr.drew = ww0
        intro hHeld N
        refine takeQ (i := 0) (gt rfl) (by kernel_rfl) (fun _ _ _ h => h) (by rfl) (by intro wq hSw; have q0 := bat hSw k0; have q1 := bat hSw k1; have q2 := bat hSw k2; have q3 := bat hSw k3; have q4 := bat hSw k4; have q5 := bat hSw k5; have q6 := bat hSw k6; have q7 := bat hSw k7; have q8 := bat hSw k8; have q9 := bat hSw k9; have q10 := bat hSw k10; have q11 := bat hSw k11; have q12 := bat hSw k12; have q13 := bat hSw k13; have q14 := bat hSw k14; have q15 := bat hSw k15; go_simp <;> with_reducible rfl) (by assumption) ?_
        try simp only [Act.put, sA, sB, sC]
        refine takeQ (i := 1) (gt rfl) (by kernel_rfl) (fun _ _ _ h => h) (by rfl) (by intro wq hSw; have q0 := bat hSw k0; have q1 := bat hSw k1; have q2 := bat hSw k2; have q3 := bat hSw k3; have q4 := bat hSw k4; have q5 := bat hSw k5; have q6 := bat hSw k6; have q7 := bat hSw k7; have q8 := bat hSw k8; have q9 := bat hSw k9; have q10 := bat hSw k10; have q11 := bat hSw k11; have q12 := bat hSw k12; have q13 := bat hSw k13; have q14 := bat hSw k14; have q15 := bat hSw k15; go_simp <;> with_reducible rfl) (by assumption) ?_
        try simp only [Act.put, sA, sB, sC]
        refine takeQ (i := 2) (gt rfl) (by kernel_rfl) (fun _ _ _ h => h) (by rfl) (by intro wq _; go_simp <;> with_reducible rfl) (by assumption) ?_
        try simp only [Act.put, sA, sB, sC]
        refine takeQ (i := 3) (gt rfl) (by kernel_rfl) (fun _ _ _ h => h) (by rfl) (by intro wq _; go_simp <;> with_reducible rfl) (by assumption) ?_
        try simp only [Act.put, sA, sB, sC]
        refine takeQ (i := 4) (gt rfl) (by kernel_rfl) (fun _ _ _ h => h) (by rfl) (by intro wq _; go_simp <;> with_reducible rfl) (by assumption) ?_
        try simp only [Act.put, sA, sB, sC]
        refine takeQ (i := 5) (gt rfl) (by kernel_rfl) (fun _ _ _ h => h) (by rfl) (by intro wq hSw; have q0 := bat hSw k0; have q1 := bat hSw k1; have q2 := bat hSw k2; have q3 := bat hSw k3; have q4 := bat hSw k4; have q5 := bat hSw k5; have q6 := bat hSw k6; have q7 := bat hSw k7; have q8 := bat hSw k8; have q9 := bat hSw k9; have q10 := bat hSw k10; have q11 := bat hSw k11; have q12 := bat hSw k12; have q13 := bat hSw k13; have q14 := bat hSw k14; have q15 := bat hSw k15; go_simp <;> with_reducible rfl) (by assumption) ?_
        try simp only [Act.put, sA, sB, sC]
        refine wpAnyH_ready (rs := [6]) (by kernel_rfl) (by simp) (AllReadyH.cons (gt rfl) (fun K hK => ?_) AllReadyH.nil)
        go_simp
        refine (l3On_any x1 y1 x2 y2 x2 y2 _ c1 d1 c2 d2 c2 d2).mono ?_
        rintro e1 ww1 ⟨rfl, hb⟩
        rw [f1]
        replace N := N.trans (hb.mono N.size)
        clear hb
        refine hK.out _ _ N (fun hHeld => ?_)
        clear hK K
        try simp only [Act.put, sA, sB, sC]
        refine takeQ (i := 7) (gt rfl) (by kernel_rfl) (fun _ _ _ h => h) (by rfl) (by intro wq _; go_simp <;> with_reducible rfl) (by assumption) ?_
        try simp only [Act.put, sA, sB, sC]
        refine takeQ (i := 8) (gt rfl) (by kernel_rfl) (fun _ _ _ h => h) (by rfl) (by intro wq _; go_simp <;> with_reducible rfl) (by assumption) ?_
        try simp only [Act.put, sA, sB, sC]
        refine takeN (i := 9) (gt rfl) (by kernel_rfl) (by kernel_rfl) (by kernel_rfl) (by exact fun _ _ _ h => h) (by rfl) (by assumption) ?_
        try simp only [Act.put, sA, sB, sC]
        refine takeN (i := 10) (gt rfl) (by kernel_rfl) (by kernel_rfl) (by kernel_rfl) (by exact fun _ _ _ h => h) (by rfl) (by assumption) ?_
        try simp only [Act.put, sA, sB, sC]
        refine takeN (i := 11) (gt rfl) (by kernel_rfl) (by kernel_rfl) (by kernel_rfl) (by exact fun _ _ _ h => h) (by rfl) (by assumption) ?_
        try simp only [Act.put, sA, sB, sC]
        refine takeN (i := 12) (gt rfl) (by kernel_rfl) (by kernel_rfl) (by kernel_rfl) (by exact fun _ _ _ h => h) (by rfl) (by assumption) ?_
        try simp only [Act.put, sA, sB, sC]
        refine takeN (i := 13) (gt rfl) (by kernel_rfl) (by kernel_rfl) (by kernel_rfl) (by exact fun _ _ _ h => h) (by rfl) (by assumption) ?_
        try simp only [Act.put, sA, sB, sC]
        refine takeN (i := 14) (gt rfl) (by kernel_rfl) (by kernel_rfl) (by kernel_rfl) (by exact fun _ _ _ h => h) (by rfl) (by assumption) ?_
        try simp only [Act.put, sA, sB, sC]
        refine takeN (i := 15) (gt rfl) (by kernel_rfl) (by kernel_rfl) (by kernel_rfl) (by exact fun _ _ _ h => h) (by rfl) (by assumption) ?_
        try simp only [Act.put, sA, sB, sC]
        refine takeN (i := 16) (gt rfl) (by kernel_rfl) (by kernel_rfl) (by kernel_rfl) (by exact fun _ _ _ h => h) (by rfl) (by assumption) ?_
        try simp only [Act.put, sA, sB, sC]
        refine takeQ (i := 17) (gt rfl) (by kernel_rfl) (fun _ _ _ h => h) (by rfl) (by intro wq _; go_simp <;> with_reducible rfl) (by assumption) ?_
        try simp only [Act.put, sA, sB, sC]
        refine wpAnyH_done (by kernel_rfl) ?_ _
        have A1 := A.below N
        go_wp2
        go_roundw
        case rel => exact ⟨2, by omega, by first | rfl | go_num, by rw [show (shL x1 y1 x2 y2 x3 y3 x4 y4 (List.take 2 [(x1, y1), (x2, y2), (x3, y3), (x4, y4)])) = addP (shL x1 y1 x2 y2 x3 y3 x4 y4 (List.take 1 [(x1, y1), (x2, y2), (x3, y3), (x4, y4)])) (x2, y2) (shr x1 y1 x2 y2 x3 y3 x4 y4 x2 y2) from rfl, FL, HLL.out]; exact A1⟩
        case measure => simp [intOf]
      · cases f2 : onB x3 y3 x4 y4 x2 y2
        · have FL : shr x1 y1 x2 y2 x3 y3 x4 y4 x2 y2 = false := by unfold shr; rw [f1, f2]; rfl
          refine wp_region_held_drew (S := Below wr.heap.size wr) (by kernel_rfl) ((Below.refl _ _).drew) (fun hHeld => ?_)
          have N : Below wr.heap.size wr wr.drew := hHeld
          revert hHeld N
          generalize wr.drew = ww0
          intro hHeld N
          refine takeQ (i := 0) (gt rfl) (by kernel_rfl) (fun _ _ _ h => h) (by rfl) (by intro wq hSw; have q0 := bat hSw k0; have q1 := bat hSw k1; have q2 := bat hSw k2; have q3 := bat hSw k3; have q4 := bat hSw k4; have q5 := bat hSw k5; have q6 := bat hSw k6; have q7 := bat hSw k7; have q8 := bat hSw k8; have q9 := bat hSw k9; have q10 := bat hSw k10; have q11 := bat hSw k11; have q12 := bat hSw k12; have q13 := bat hSw k13; have q14 := bat hSw k14; have q15 := bat hSw k15; go_simp <;> with_reducible rfl) (by assumption) ?_
          try simp only [Act.put, sA, sB, sC]
          refine takeQ (i := 1) (gt rfl) (by kernel_rfl) (fun _ _ _ h => h) (by rfl) (by intro wq hSw; have q0 := bat hSw k0; have q1 := bat hSw k1; have q2 := bat hSw k2; have q3 := bat hSw k3; have q4 := bat hSw k4; have q5 := bat hSw k5; have q6 := bat hSw k6; have q7 := bat hSw k7; have q8 := bat hSw k8; have q9 := bat hSw k9; have q10 := bat hSw k10; have q11 := bat hSw k11; have q12 := bat hSw k12; have q13 := bat hSw k13; have q14 := bat hSw k14; have q15 := bat hSw k15; go_simp <;> with_reducible rfl) (by assumption) ?_
          try simp only [Act.put, sA, sB, sC]
          refine takeQ (i := 2) (gt rfl) (by kernel_rfl) (fun _ _ _ h => h) (by rfl) (by intro wq _; go_simp <;> with_reducible rfl) (by assumption) ?_
          try simp only [Act.put, sA, sB, sC]
          refine takeQ (i := 3) (gt rfl) (by kernel_rfl) (fun _ _ _ h => h) (by rfl) (by intro wq _; go_simp <;> with_reducible rfl) (by assumption) ?_
          try simp only [Act.put, sA, sB, sC]
          refine takeQ (i := 4) (gt rfl) (by kernel_rfl) (fun _ _ _ h => h) (by rfl) (by intro wq _; go_simp <;> with_reducible rfl) (by assumption) ?_
          try simp only [Act.put, sA, sB, sC]
          refine takeQ (i := 5) (gt rfl) (by kernel_rfl) (fun _ _ _ h => h) (by rfl) (by intro wq hSw; have q0 := bat hSw k0; have q1 := bat hSw k1; have q2 := bat hSw k2; have q3 := bat hSw k3; have q4 := bat hSw k4; have q5 := bat hSw k5; have q6 := bat hSw k6; have q7 := bat hSw k7; have q8 := bat hSw k8; have q9 := bat hSw k9; have q10 := bat hSw k10; have q11 := bat hSw k11; have q12 := bat hSw k12; have q13 := bat hSw k13; have q14 := bat hSw k14; have q15 := bat hSw k15; go_simp <;> with_reducible rfl) (by assumption) ?_
          try simp only [Act.put, sA, sB, sC]
          refine wpAnyH_ready (rs := [6]) (by kernel_rfl) (by simp) (AllReadyH.cons (gt rfl) (fun K hK => ?_) AllReadyH.nil)
          go_simp
          refine (l3On_any x1 y1 x2 y2 x2 y2 _ c1 d1 c2 d2 c2 d2).mono ?_
          rintro e1 ww1 ⟨rfl, hb⟩
          rw [f1]
          replace N := N.trans (hb.mono N.size)
          clear hb
          refine hK.out _ _ N (fun hHeld => ?_)
          clear hK K
          try simp only [Act.put, sA, sB, sC]
          refine takeQ (i := 7) (gt rfl) (by kernel_rfl) (fun _ _ _ h => h) (by rfl) (by intro wq _; go_simp <;> with_reducible rfl) (by assumption) ?_
          try simp only [Act.put, sA, sB, sC]
          refine takeQ (i := 8) (gt rfl) (by kernel_rfl) (fun _ _ _ h => h) (by rfl) (by intro wq _; go_simp <;> with_reducible rfl) (by assumption) ?_
          try simp only [Act.put, sA, sB, sC]
          refine takeQ (i := 9) (gt rfl) (by kernel_rfl) (fun _ _ _ h => h) (by rfl) (by intro wq hSw; have q0 := bat hSw k0; have q1 := bat hSw k1; have q2 := bat hSw k2; have q3 := bat hSw k3; have q4 := bat hSw k4; have q5 := bat hSw k5; have q6 := bat hSw k6; have q7 := bat hSw k7; have q8 := bat hSw k8; have q9 := bat hSw k9; have q10 := bat hSw k10; have q11 := bat hSw k11; have q12 := bat hSw k12; have q13 := bat hSw k13; have q14 := bat hSw k14; have q15 := bat hSw k15; go_simp <;> with_reducible rfl) (by assumption) ?_
          try simp only [Act.put, sA, sB, sC]
          refine takeQ (i := 10) (gt rfl) (by kernel_rfl) (fun _ _ _ h => h) (by rfl) (by intro wq hSw; have q0 := bat hSw k0; have q1 := bat hSw k1; have q2 := bat hSw k2; have q3 := bat hSw k3; have q4 := bat hSw k4; have q5 := bat hSw k5; have q6 := bat hSw k6; have q7 := bat hSw k7; have q8 := bat hSw k8; have q9 := bat hSw k9; have q10 := bat hSw k10; have q11 := bat hSw k11; have q12 := bat hSw k12; have q13 := bat hSw k13; have q14 := bat hSw k14; have q15 := bat hSw k15; go_simp <;> with_reducible rfl) (by assumption) ?_
          try simp only [Act.put, sA, sB, sC]
          refine takeQ (i := 11) (gt rfl) (by kernel_rfl) (fun _ _ _ h => h) (by rfl) (by intro wq _; go_simp <;> with_reducible rfl) (by assumption) ?_
          try simp only [Act.put, sA, sB, sC]
          refine takeQ (i := 12) (gt rfl) (by kernel_rfl) (fun _ _ _ h => h) (by rfl) (by intro wq _; go_simp <;> with_reducible rfl) (by assumption) ?_
          try simp only [Act.put, sA, sB, sC]
          refine takeQ (i := 13) (gt rfl) (by kernel_rfl) (fun _ _ _ h => h) (by rfl) (by intro wq _; go_simp <;> with_reducible rfl) (by assumption) ?_
          try simp only [Act.put, sA, sB, sC]
          refine takeQ (i := 14) (gt rfl) (by kernel_rfl) (fun _ _ _ h => h) (by rfl) (by intro wq hSw; have q0 := bat hSw k0; have q1 := bat hSw k1; have q2 := bat hSw k2; have q3 := bat hSw k3; have q4 := bat hSw k4; have q5 := bat hSw k5; have q6 := bat hSw k6; have q7 := bat hSw k7; have q8 := bat hSw k8; have q9 := bat hSw k9; have q10 := bat hSw k10; have q11 := bat hSw k11; have q12 := bat hSw k12; have q13 := bat hSw k13; have q14 := bat hSw k14; have q15 := bat hSw k15; go_simp <;> with_reducible rfl) (by assumption) ?_
          try simp only [Act.put, sA, sB, sC]
          refine wpAnyH_ready (rs := [15]) (by kernel_rfl) (by simp) (AllReadyH.cons (gt rfl) (fun K hK => ?_) AllReadyH.nil)
          go_simp
          refine (l3On_any x3 y3 x4 y4 x2 y2 _ c3 d3 c4 d4 c2 d2).mono ?_
          rintro e1 ww2 ⟨rfl, hb⟩
          rw [f2]
          replace N := N.trans (hb.mono N.size)
          clear hb
          refine hK.out _ _ N (fun hHeld => ?_)
          clear hK K
          try simp only [Act.put, sA, sB, sC]
          refine takeQ (i := 16) (gt rfl) (by kernel_rfl) (fun _ _ _ h => h) (by rfl) (by intro wq _; go_simp <;> with_reducible rfl) (by assumption) ?_
          try simp only [Act.put, sA, sB, sC]
          refine takeQ (i := 17) (gt rfl) (by kernel_rfl) (fun _ _ _ h => h) (by rfl) (by intro wq _; go_simp <;> with_reducible rfl) (by assumption) ?_
          try simp only [Act.put, sA, sB, sC]
          refine wpAnyH_done (by kernel_rfl) ?_ _
          have A1 := A.below N
          go_wp2
          go_roundw
          case rel => exact ⟨2, by omega, by first | rfl | go_num, by rw [show (shL x1 y1 x2 y2 x3 y3 x4 y4 (List.take 2 [(x1, y1), (x2, y2), (x3, y3), (x4, y4)])) = addP (shL x1 y1 x2 y2 x3 y3 x4 y4 (List.take 1 [(x1, y1), (x2, y2), (x3, y3), (x4, y4)])) (x2, y2) (shr x1 y1 x2 y2 x3 y3 x4 y4 x2 y2) from rfl, FL, HLL.out]; exact A1⟩
          case measure => simp [intOf]
        · have FL : shr x1 y1 x2 y2 x3 y3 x4 y4 x2 y2 = true := by unfold shr; rw [f1, f2]; rfl
          refine wp_region_held_drew (S := Below wr.heap.size wr) (by kernel_rfl) ((Below.refl _ _).drew) (fun hHeld => ?_)
          have N : Below wr.heap.size wr wr.drew := hHeld
          revert hHeld N
          generalize wr.drew = ww0
          intro hHeld N
          refine takeQ (i := 0) (gt rfl) (by kernel_rfl) (fun _ _ _ h => h) (by rfl) (by intro wq hSw; have q0 := bat hSw k0; have q1 := bat hSw k1; have q2 := bat hSw k2; have q3 := bat hSw k3; have q4 := bat hSw k4; have q5 := bat hSw k5; have q6 := bat hSw k6; have q7 := bat hSw k7; have q8 := bat hSw k8; have q9 := bat hSw k9; have q10 := bat hSw k10; have q11 := bat hSw k11; have q12 := bat hSw k12; have q13 := bat hSw k13; have q14 := bat hSw k14; have q15 := bat hSw k15; go_simp <;> with_reducible rfl) (by assumption) ?_
          try simp only [Act.put, sA, sB, sC]
          refine takeQ (i := 1) (gt rfl) (by kernel_rfl) (fun _ _ _ h => h) (by rfl) (by intro wq hSw; have q0 := bat hSw k0; have q1 := bat hSw k1; have q2 := bat hSw k2; have q3 := bat hSw k3; have q4 := bat hSw k4; have q5 := bat hSw k5; have q6 := bat hSw k6; have q7 := bat hSw k7; have q8 := bat hSw k8; have q9 := bat hSw k9; have q10 := bat hSw k10; have q11 := bat hSw k11; have q12 := bat hSw k12; have q13 := bat hSw k13; have q14 := bat hSw k14; have q15 := bat hSw k15; go_simp <;> with_reducible rfl) (by assumption) ?_
          try simp only [Act.put, sA, sB, sC]
          refine takeQ (i := 2) (gt rfl) (by kernel_rfl) (fun _ _ _ h => h) (by rfl) (by intro wq _; go_simp <;> with_reducible rfl) (by assumption) ?_
          try simp only [Act.put, sA, sB, sC]
          refine takeQ (i := 3) (gt rfl) (by kernel_rfl) (fun _ _ _ h => h) (by rfl) (by intro wq _; go_simp <;> with_reducible rfl) (by assumption) ?_
          try simp only [Act.put, sA, sB, sC]
          refine takeQ (i := 4) (gt rfl) (by kernel_rfl) (fun _ _ _ h => h) (by rfl) (by intro wq _; go_simp <;> with_reducible rfl) (by assumption) ?_
          try simp only [Act.put, sA, sB, sC]
          refine takeQ (i := 5) (gt rfl) (by kernel_rfl) (fun _ _ _ h => h) (by rfl) (by intro wq hSw; have q0 := bat hSw k0; have q1 := bat hSw k1; have q2 := bat hSw k2; have q3 := bat hSw k3; have q4 := bat hSw k4; have q5 := bat hSw k5; have q6 := bat hSw k6; have q7 := bat hSw k7; have q8 := bat hSw k8; have q9 := bat hSw k9; have q10 := bat hSw k10; have q11 := bat hSw k11; have q12 := bat hSw k12; have q13 := bat hSw k13; have q14 := bat hSw k14; have q15 := bat hSw k15; go_simp <;> with_reducible rfl) (by assumption) ?_
          try simp only [Act.put, sA, sB, sC]
          refine wpAnyH_ready (rs := [6]) (by kernel_rfl) (by simp) (AllReadyH.cons (gt rfl) (fun K hK => ?_) AllReadyH.nil)
          go_simp
          refine (l3On_any x1 y1 x2 y2 x2 y2 _ c1 d1 c2 d2 c2 d2).mono ?_
          rintro e1 ww1 ⟨rfl, hb⟩
          rw [f1]
          replace N := N.trans (hb.mono N.size)
          clear hb
          refine hK.out _ _ N (fun hHeld => ?_)
          clear hK K
          try simp only [Act.put, sA, sB, sC]
          refine takeQ (i := 7) (gt rfl) (by kernel_rfl) (fun _ _ _ h => h) (by rfl) (by intro wq _; go_simp <;> with_reducible rfl) (by assumption) ?_
          try simp only [Act.put, sA, sB, sC]
          refine takeQ (i := 8) (gt rfl) (by kernel_rfl) (fun _ _ _ h => h) (by rfl) (by intro wq _; go_simp <;> with_reducible rfl) (by assumption) ?_
          try simp only [Act.put, sA, sB, sC]
          refine takeQ (i := 9) (gt rfl) (by kernel_rfl) (fun _ _ _ h => h) (by rfl) (by intro wq hSw; have q0 := bat hSw k0; have q1 := bat hSw k1; have q2 := bat hSw k2; have q3 := bat hSw k3; have q4 := bat hSw k4; have q5 := bat hSw k5; have q6 := bat hSw k6; have q7 := bat hSw k7; have q8 := bat hSw k8; have q9 := bat hSw k9; have q10 := bat hSw k10; have q11 := bat hSw k11; have q12 := bat hSw k12; have q13 := bat hSw k13; have q14 := bat hSw k14; have q15 := bat hSw k15; go_simp <;> with_reducible rfl) (by assumption) ?_
          try simp only [Act.put, sA, sB, sC]
          refine takeQ (i := 10) (gt rfl) (by kernel_rfl) (fun _ _ _ h => h) (by rfl) (by intro wq hSw; have q0 := bat hSw k0; have q1 := bat hSw k1; have q2 := bat hSw k2; have q3 := bat hSw k3; have q4 := bat hSw k4; have q5 := bat hSw k5; have q6 := bat hSw k6; have q7 := bat hSw k7; have q8 := bat hSw k8; have q9 := bat hSw k9; have q10 := bat hSw k10; have q11 := bat hSw k11; have q12 := bat hSw k12; have q13 := bat hSw k13; have q14 := bat hSw k14; have q15 := bat hSw k15; go_simp <;> with_reducible rfl) (by assumption) ?_
          try simp only [Act.put, sA, sB, sC]
          refine takeQ (i := 11) (gt rfl) (by kernel_rfl) (fun _ _ _ h => h) (by rfl) (by intro wq _; go_simp <;> with_reducible rfl) (by assumption) ?_
          try simp only [Act.put, sA, sB, sC]
          refine takeQ (i := 12) (gt rfl) (by kernel_rfl) (fun _ _ _ h => h) (by rfl) (by intro wq _; go_simp <;> with_reducible rfl) (by assumption) ?_
          try simp only [Act.put, sA, sB, sC]
          refine takeQ (i := 13) (gt rfl) (by kernel_rfl) (fun _ _ _ h => h) (by rfl) (by intro wq _; go_simp <;> with_reducible rfl) (by assumption) ?_
          try simp only [Act.put, sA, sB, sC]
          refine takeQ (i := 14) (gt rfl) (by kernel_rfl) (fun _ _ _ h => h) (by rfl) (by intro wq hSw; have q0 := bat hSw k0; have q1 := bat hSw k1; have q2 := bat hSw k2; have q3 := bat hSw k3; have q4 := bat hSw k4; have q5 := bat hSw k5; have q6 := bat hSw k6; have q7 := bat hSw k7; have q8 := bat hSw k8; have q9 := bat hSw k9; have q10 := bat hSw k10; have q11 := bat hSw k11; have q12 := bat hSw k12; have q13 := bat hSw k13; have q14 := bat hSw k14; have q15 := bat hSw k15; go_simp <;> with_reducible rfl) (by assumption) ?_
          try simp only [Act.put, sA, sB, sC]
          refine wpAnyH_ready (rs := [15]) (by kernel_rfl) (by simp) (AllReadyH.cons (gt rfl) (fun K hK => ?_) AllReadyH.nil)
          go_simp
          refine (l3On_any x3 y3 x4 y4 x2 y2 _ c3 d3 c4 d4 c2 d2).mono ?_
          rintro e1 ww2 ⟨rfl, hb⟩
          rw [f2]
          replace N := N.trans (hb.mono N.size)
          clear hb
          refine hK.out _ _ N (fun hHeld => ?_)
          clear hK K
          try simp only [Act.put, sA, sB, sC]
          refine takeQ (i := 16) (gt rfl) (by kernel_rfl) (fun _ _ _ h => h) (by rfl) (by intro wq _; go_simp <;> with_reducible rfl) (by assumption) ?_
          try simp only [Act.put, sA, sB, sC]
          refine takeQ (i := 17) (gt rfl) (by kernel_rfl) (fun _ _ _ h => h) (by rfl) (by intro wq _; go_simp <;> with_reducible rfl) (by assumption) ?_
          try simp only [Act.put, sA, sB, sC]
          refine wpAnyH_done (by kernel_rfl) ?_ _
          have A1 := A.below N
          clear A k0 k1 k2 k3 k4 k5 k6 k7 k8 k9 k10 k11 k12 k13 k14 k15
          clear hHeld N
          go_wp2_with fail
          go_loopw [12, 13] (fun m kk wi => ∃ t : Nat, t ≤ ll.length ∧ kk = .int .i64 t ∧ m = .bool ((ll.take t).contains (x2, y2)) ∧ EnAt w wi x1 y1 x2 y2 x3 y3 x4 y4 ll (.slice av ll.length cv)) (fun _ kk _ => ll.length - (intOf kk).toNat)
          case atStart => exact ⟨0, Nat.zero_le _, rfl, by simp, A1⟩
          case round =>
            obtain ⟨t, ht, rfl, rfl, A2⟩ := hrel
            rename World => wi
            clear A1
            obtain ⟨k0, k1, k2, k3, k4, k5, k6, k7, k8, k9, k10, k11, k12, k13, k14, k15⟩ := id A2.k
            have hcm := HC.out
            by_cases htl : t < ll.length
            · obtain ⟨b0, o0, hav, hcells⟩ := A2.r.seesP.cells (by intro e; rw [e] at htl; simp at htl)
              subst hav
              obtain ⟨z0, z1⟩ := hcells t htl
              clear hcells
              have CS := con_step htl (x2, y2)
              have hlt : (t : Int) < (ll.length : Int) := by omega
              have A3 := fun nq => A2.below (below_drewN (Below.refl wi.heap.size wi) nq)
              cases hc : (ll.take t).contains (x2, y2)
              · rw [hc, Bool.false_or] at CS
                generalize ll[t]?.getD (0, 0) = pq at *
                obtain ⟨u, v⟩ := pq
                dsimp only at z0 z1
                by_cases hxu : u = x2
                · subst hxu
                  by_cases hyv : v = y2
                  · subst hyv
                    have CS2 : (ll.take (t + 1)).contains (u, v) = true := by rw [CS]; simp
                    go_wp2_with fail
                    go_quiet (fail)
                    go_wp2
                    go_roundw
                    case rel => exact ⟨t + 1, by omega, by go_num, by rw [CS2], A3 _⟩
                    case measure => simp [intOf]; omega
                  · have hyb : (v == y2) = false := by rw [beq_eq_false_iff_ne]; exact hyv
                    have CS2 : (ll.take (t + 1)).contains (u, y2) = false := by rw [CS]; simp [Ne.symm hyv]
                    clear CS
                    go_wp2_with fail
                    go_quiet (fail)
                    go_wp2
                    go_roundw
                    case rel => exact ⟨t + 1, by omega, by go_num, by rw [CS2], A3 _⟩
                    case measure => simp [intOf]; omega
                · have hxb : (u == x2) = false := by rw [beq_eq_false_iff_ne]; exact hxu
                  have CS2 : (ll.take (t + 1)).contains (x2, y2) = false := by rw [CS]; simp [Ne.symm hxu]
                  clear CS
                  go_wp2_with fail
                  go_quiet (fail)
                  go_wp2
                  go_roundw
                  case rel => exact ⟨t + 1, by omega, by go_num, by rw [CS2], A3 _⟩
                  case measure => simp [intOf]; omega
              · rw [hc, Bool.true_or] at CS
                go_wp2_with fail
                go_quiet (fail)
                go_wp2
                go_roundw
                case rel => exact ⟨t + 1, by omega, by go_num, by rw [CS], A3 _⟩
                case measure => simp [intOf]; omega
            · obtain rfl : t = ll.length := by omega
              rw [List.take_length]
              cases hc : ll.contains (x2, y2)
              · have AD : addP ll (x2, y2) true = ll ++ [(x2, y2)] := by unfold addP; rw [hc]; rfl
                have sz := A2.b.size
                have A4 := A2.below (below1 wi (.cells #[.int .i64 x2, .int .i64 y2] 31))
                have hb5 : w.heap.size + 1 + 1 + 1 + 1 + 1 ≤ (wi.alloc (.cells #[.int .i64 x2, .int .i64 y2] 31)).heap.size := by
                  have h8 : w.heap.size + 1 + 1 + 1 + 1 < wi.heap.size := World.block_lt_of_cell? _ _ k8
                  simp
                  omega
                have hmx : ll.length + 1 ≤ maxLen := by have := HC.out; unfold maxLen; omega
                have hby : (ll.length + 1) * 16 ≤ 140737488355328 := by have := HC.out; omega
                go_wp2_with (at_builtin; refine wpList_append_own _ rfl (.tmp 62) (.tmp 67) 60 rfl (w.heap.size + 1 + 1 + 1 + 1 + 1) 31 iP (.agg #[.int .i64 0, .int .i64 0]) 2 16 Try.underlying60 hiP hp0 hp1 hp2 rfl (by decide) (.slice av ll.length cv) ll.length (ptC ll) rfl A4.r ⟨wi.heap.size, 0, none⟩ 1 _ (ptC [(x2, y2)]) rfl rfl (pt_new _ _ _ _) (ptC_ones _) hmx hby hb5 ?_)
                intro v5 w5 hown hgrow _
                have A5 := A4.grew hgrow (RowPt.snoc hown)
                obtain ⟨a9, c9, E9, _⟩ := A5.r.shape
                subst E9
                go_wp2
                go_roundw
                case rel => exact ⟨2, by omega, by first | rfl | go_num, by rw [show (shL x1 y1 x2 y2 x3 y3 x4 y4 (List.take 2 [(x1, y1), (x2, y2), (x3, y3), (x4, y4)])) = addP (shL x1 y1 x2 y2 x3 y3 x4 y4 (List.take 1 [(x1, y1), (x2, y2), (x3, y3), (x4, y4)])) (x2, y2) (shr x1 y1 x2 y2 x3 y3 x4 y4 x2 y2) from rfl, FL, HLL.out]; exact A5.as AD.symm⟩
                case measure => simp [intOf]
              · have AD : addP ll (x2, y2) true = ll := by unfold addP; rw [hc]; rfl
                go_wp2
                go_roundw
                case rel => exact ⟨2, by omega, by first | rfl | go_num, by rw [show (shL x1 y1 x2 y2 x3 y3 x4 y4 (List.take 2 [(x1, y1), (x2, y2), (x3, y3), (x4, y4)])) = addP (shL x1 y1 x2 y2 x3 y3 x4 y4 (List.take 1 [(x1, y1), (x2, y2), (x3, y3), (x4, y4)])) (x2, y2) (shr x1 y1 x2 y2 x3 y3 x4 y4 x2 y2) from rfl, FL, HLL.out]; exact A2.as AD.symm⟩
                case measure => simp [intOf]
    · have LL : Hid ((shL x1 y1 x2 y2 x3 y3 x4 y4 (List.take 2 [(x1, y1), (x2, y2), (x3, y3), (x4, y4)])).length ≤ 2) := by have := shL_len x1 y1 x2 y2 x3 y3 x4 y4 (List.take 2 [(x1, y1), (x2, y2), (x3, y3), (x4, y4)]); show _ ≤ _; simpa using this
      obtain ⟨ll, HLL⟩ : ∃ l, Hid ((shL x1 y1 x2 y2 x3 y3 x4 y4 (List.take 2 [(x1, y1), (x2, y2), (x3, y3), (x4, y4)])) = l) := ⟨_, rfl⟩
      rw [HLL.out] at A LL
      obtain ⟨av, cv, AV, hf, hm⟩ := A.r.shape
      have HC : Hid (ll.length ≤ 2 ∧ ll.length ≤ cv ∧ cv ≤ maxLen) := ⟨LL.out, hf, hm⟩
      clear hf hm LL
      subst AV
      obtain ⟨k0, k1, k2, k3, k4, k5, k6, k7, k8, k9, k10, k11, k12, k13, k14, k15⟩ := id A.k
      go_upto_region 6 with fail
      cases f1 : onB x1 y1 x2 y2 x3 y3
      · have FL : shr x1 y1 x2 y2 x3 y3 x4 y4 x3 y3 = false := by unfold shr; rw [f1]; rfl
        refine wp_region_held_drew (S := Below wr.heap.size wr) (by kernel_rfl) ((Below.refl _ _).drew) (fun hHeld => ?_)
        have N : Below wr.heap.size wr wr.drew := hHeld
        revert hHeld N
        generalize wr.drew = ww0
        intro hHeld N
        refine takeQ (i := 0) (gt rfl) (by kernel_rfl) (fun _ _ _ h => h) (by rfl) (by intro wq hSw; have q0 := bat hSw k0; have q1 := bat hSw k1; have q2 := bat hSw k2; have q3 := bat hSw k3; have q4 := bat hSw k4; have q5 := bat hSw k5; have q6 := bat hSw k6; have q7 := bat hSw k7; have q8 := bat hSw k8; have q9 := bat hSw k9; have q10 := bat hSw k10; have q11 := bat hSw k11; have q12 := bat hSw k12; have q13 := bat hSw k13; have q14 := bat hSw k14; have q15 := bat hSw k15; go_simp <;> with_reducible rfl) (by assumption) ?_
        try simp only [Act.put, sA, sB, sC]
        refine takeQ (i := 1) (gt rfl) (by kernel_rfl) (fun _ _ _ h => h) (by rfl) (by intro wq hSw; have q0 := bat hSw k0; have q1 := bat hSw k1; have q2 := bat hSw k2; have q3 := bat hSw k3; have q4 := bat hSw k4; have q5 := bat hSw k5; have q6 := bat hSw k6; have q7 := bat hSw k7; have q8 := bat hSw k8; have q9 := bat hSw k9; have q10 := bat hSw k10; have q11 := bat hSw k11; have q12 := bat hSw k12; have q13 := bat hSw k13; have q14 := bat hSw k14; have q15 := bat hSw k15; go_simp <;> with_reducible rfl) (by assumption) ?_
        try simp only [Act.put, sA, sB, sC]
        refine takeQ (i := 2) (gt rfl) (by kernel_rfl) (fun _ _ _ h => h) (by rfl) (by intro wq _; go_simp <;> with_reducible rfl) (by assumption) ?_
        try simp only [Act.put, sA, sB, sC]
        refine takeQ (i := 3) (gt rfl) (by kernel_rfl) (fun _ _ _ h => h) (by rfl) (by intro wq _; go_simp <;> with_reducible rfl) (by assumption) ?_
        try simp only [Act.put, sA, sB, sC]
        refine takeQ (i := 4) (gt rfl) (by kernel_rfl) (fun _ _ _ h => h) (by rfl) (by intro wq _; go_simp <;> with_reducible rfl) (by assumption) ?_
        try simp only [Act.put, sA, sB, sC]
        refine takeQ (i := 5) (gt rfl) (by kernel_rfl) (fun _ _ _ h => h) (by rfl) (by intro wq hSw; have q0 := bat hSw k0; have q1 := bat hSw k1; have q2 := bat hSw k2; have q3 := bat hSw k3; have q4 := bat hSw k4; have q5 := bat hSw k5; have q6 := bat hSw k6; have q7 := bat hSw k7; have q8 := bat hSw k8; have q9 := bat hSw k9; have q10 := bat hSw k10; have q11 := bat hSw k11; have q12 := bat hSw k12; have q13 := bat hSw k13; have q14 := bat hSw k14; have q15 := bat hSw k15; go_simp <;> with_reducible rfl) (by assumption) ?_
        try simp only [Act.put, sA, sB, sC]
        refine wpAnyH_ready (rs := [6]) (by kernel_rfl) (by simp) (AllReadyH.cons (gt rfl) (fun K hK => ?_) AllReadyH.nil)
        go_simp
        refine (l3On_any x1 y1 x2 y2 x3 y3 _ c1 d1 c2 d2 c3 d3).mono ?_
        rintro e1 ww1 ⟨rfl, hb⟩
        rw [f1]
        replace N := N.trans (hb.mono N.size)
        clear hb
        refine hK.out _ _ N (fun hHeld => ?_)
        clear hK K
        try simp only [Act.put, sA, sB, sC]
        refine takeQ (i := 7) (gt rfl) (by kernel_rfl) (fun _ _ _ h => h) (by rfl) (by intro wq _; go_simp <;> with_reducible rfl) (by assumption) ?_
        try simp only [Act.put, sA, sB, sC]
        refine takeQ (i := 8) (gt rfl) (by kernel_rfl) (fun _ _ _ h => h) (by rfl) (by intro wq _; go_simp <;> with_reducible rfl) (by assumption) ?_
        try simp only [Act.put, sA, sB, sC]
        refine takeN (i := 9) (gt rfl) (by kernel_rfl) (by kernel_rfl) (by kernel_rfl) (by exact fun _ _ _ h => h) (by rfl) (by assumption) ?_
        try simp only [Act.put, sA, sB, sC]
        refine takeN (i := 10) (gt rfl) (by kernel_rfl) (by kernel_rfl) (by kernel_rfl) (by exact fun _ _ _ h => h) (by rfl) (by assumption) ?_
        try simp only [Act.put, sA, sB, sC]
        refine takeN (i := 11) (gt rfl) (by kernel_rfl) (by kernel_rfl) (by kernel_rfl) (by exact fun _ _ _ h => h) (by rfl) (by assumption) ?_
        try simp only [Act.put, sA, sB, sC]
        refine takeN (i := 12) (gt rfl) (by kernel_rfl) (by kernel_rfl) (by kernel_rfl) (by exact fun _ _ _ h => h) (by rfl) (by assumption) ?_
        try simp only [Act.put, sA, sB, sC]
        refine takeN (i := 13) (gt rfl) (by kernel_rfl) (by kernel_rfl) (by kernel_rfl) (by exact fun _ _ _ h => h) (by rfl) (by assumption) ?_
        try simp only [Act.put, sA, sB, sC]
        refine takeN (i := 14) (gt rfl) (by kernel_rfl) (by kernel_rfl) (by kernel_rfl) (by exact fun _ _ _ h => h) (by rfl) (by assumption) ?_
        try simp only [Act.put, sA, sB, sC]
        refine takeN (i := 15) (gt rfl) (by kernel_rfl) (by kernel_rfl) (by kernel_rfl) (by exact fun _ _ _ h => h) (by rfl) (by assumption) ?_
        try simp only [Act.put, sA, sB, sC]
        refine takeN (i := 16) (gt rfl) (by kernel_rfl) (by kernel_rfl) (by kernel_rfl) (by exact fun _ _ _ h => h) (by rfl) (by assumption) ?_
        try simp only [Act.put, sA, sB, sC]
        refine takeQ (i := 17) (gt rfl) (by kernel_rfl) (fun _ _ _ h => h) (by rfl) (by intro wq _; go_simp <;> with_reducible rfl) (by assumption) ?_
        try simp only [Act.put, sA, sB, sC]
        refine wpAnyH_done (by kernel_rfl) ?_ _
        have A1 := A.below N
        go_wp2
        go_roundw
        case rel => exact ⟨3, by omega, by first | rfl | go_num, by rw [show (shL x1 y1 x2 y2 x3 y3 x4 y4 (List.take 3 [(x1, y1), (x2, y2), (x3, y3), (x4, y4)])) = addP (shL x1 y1 x2 y2 x3 y3 x4 y4 (List.take 2 [(x1, y1), (x2, y2), (x3, y3), (x4, y4)])) (x3, y3) (shr x1 y1 x2 y2 x3 y3 x4 y4 x3 y3) from rfl, FL, HLL.out]; exact A1⟩
        case measure => simp [intOf]
      · cases f2 : onB x3 y3 x4 y4 x3 y3
        · have FL : shr x1 y1 x2 y2 x3 y3 x4 y4 x3 y3 = false := by unfold shr; rw [f1, f2]; rfl
          refine wp_region_held_drew (S := Below wr.heap.size wr) (by kernel_rfl) ((Below.refl _ _).drew) (fun hHeld => ?_)
          have N : Below wr.heap.size wr wr.drew := hHeld
          revert hHeld N
          generalize wr.drew = ww0
          intro hHeld N
          refine takeQ (i := 0) (gt rfl) (by kernel_rfl) (fun _ _ _ h => h) (by rfl) (by intro wq hSw; have q0 := bat hSw k0; have q1 := bat hSw k1; have q2 := bat hSw k2; have q3 := bat hSw k3; have q4 := bat hSw k4; have q5 := bat hSw k5; have q6 := bat hSw k6; have q7 := bat hSw k7; have q8 := bat hSw k8; have q9 := bat hSw k9; have q10 := bat hSw k10; have q11 := bat hSw k11; have q12 := bat hSw k12; have q13 := bat hSw k13; have q14 := bat hSw k14; have q15 := bat hSw k15; go_simp <;> with_reducible rfl) (by assumption) ?_
          try simp only [Act.put, sA, sB, sC]
          refine takeQ (i := 1) (gt rfl) (by kernel_rfl) (fun _ _ _ h => h) (by rfl) (by intro wq hSw; have q0 := bat hSw k0; have q1 := bat hSw k1; have q2 := bat hSw k2; have q3 := bat hSw k3; have q4 := bat hSw k4; have q5 := bat hSw k5; have q6 := bat hSw k6; have q7 := bat hSw k7; have q8 := bat hSw k8; have q9 := bat hSw k9; have q10 := bat hSw k10; have q11 := bat hSw k11; have q12 := bat hSw k12; have q13 := bat hSw k13; have q14 := bat hSw k14; have q15 := bat hSw k15; go_simp <;> with_reducible rfl) (by assumption) ?_
          try simp only [Act.put, sA, sB, sC]
          refine takeQ (i := 2) (gt rfl) (by kernel_rfl) (fun _ _ _ h => h) (by rfl) (by intro wq _; go_simp <;> with_reducible rfl) (by assumption) ?_
          try simp only [Act.put, sA, sB, sC]
          refine takeQ (i := 3) (gt rfl) (by kernel_rfl) (fun _ _ _ h => h) (by rfl) (by intro wq _; go_simp <;> with_reducible rfl) (by assumption) ?_
          try simp only [Act.put, sA, sB, sC]
          refine takeQ (i := 4) (gt rfl) (by kernel_rfl) (fun _ _ _ h => h) (by rfl) (by intro wq _; go_simp <;> with_reducible rfl) (by assumption) ?_
          try simp only [Act.put, sA, sB, sC]
          refine takeQ (i := 5) (gt rfl) (by kernel_rfl) (fun _ _ _ h => h) (by rfl) (by intro wq hSw; have q0 := bat hSw k0; have q1 := bat hSw k1; have q2 := bat hSw k2; have q3 := bat hSw k3; have q4 := bat hSw k4; have q5 := bat hSw k5; have q6 := bat hSw k6; have q7 := bat hSw k7; have q8 := bat hSw k8; have q9 := bat hSw k9; have q10 := bat hSw k10; have q11 := bat hSw k11; have q12 := bat hSw k12; have q13 := bat hSw k13; have q14 := bat hSw k14; have q15 := bat hSw k15; go_simp <;> with_reducible rfl) (by assumption) ?_
          try simp only [Act.put, sA, sB, sC]
          refine wpAnyH_ready (rs := [6]) (by kernel_rfl) (by simp) (AllReadyH.cons (gt rfl) (fun K hK => ?_) AllReadyH.nil)
          go_simp
          refine (l3On_any x1 y1 x2 y2 x3 y3 _ c1 d1 c2 d2 c3 d3).mono ?_
          rintro e1 ww1 ⟨rfl, hb⟩
          rw [f1]
          replace N := N.trans (hb.mono N.size)
          clear hb
          refine hK.out _ _ N (fun hHeld => ?_)
          clear hK K
          try simp only [Act.put, sA, sB, sC]
          refine takeQ (i := 7) (gt rfl) (by kernel_rfl) (fun _ _ _ h => h) (by rfl) (by intro wq _; go_simp <;> with_reducible rfl) (by assumption) ?_
          try simp only [Act.put, sA, sB, sC]
          refine takeQ (i := 8) (gt rfl) (by kernel_rfl) (fun _ _ _ h => h) (by rfl) (by intro wq _; go_simp <;> with_reducible rfl) (by assumption) ?_
          try simp only [Act.put, sA, sB, sC]
          refine takeQ (i := 9) (gt rfl) (by kernel_rfl) (fun _ _ _ h => h) (by rfl) (by intro wq hSw; have q0 := bat hSw k0; have q1 := bat hSw k1; have q2 := bat hSw k2; have q3 := bat hSw k3; have q4 := bat hSw k4; have q5 := bat hSw k5; have q6 := bat hSw k6; have q7 := bat hSw k7; have q8 := bat hSw k8; have q9 := bat hSw k9; have q10 := bat hSw k10; have q11 := bat hSw k11; have q12 := bat hSw k12; have q13 := bat hSw k13; have q14 := bat hSw k14; have q15 := bat hSw k15; go_simp <;> with_reducible rfl) (by assumption) ?_
          try simp only [Act.put, sA, sB, sC]
          refine takeQ (i := 10) (gt rfl) (by kernel_rfl) (fun _ _ _ h => h) (by rfl) (by intro wq hSw; have q0 := bat hSw k0; have q1 := bat hSw k1; have q2 := bat hSw k2; have q3 := bat hSw k3; have q4 := bat hSw k4; have q5 := bat hSw k5; have q6 := bat hSw k6; have q7 := bat hSw k7; have q8 := bat hSw k8; have q9 := bat hSw k9; have q10 := bat hSw k10; have q11 := bat hSw k11; have q12 := bat hSw k12; have q13 := bat hSw k13; have q14 := bat hSw k14; have q15 := bat hSw k15; go_simp <;> with_reducible rfl) (by assumption) ?_
          try simp only [Act.put, sA, sB, sC]
          refine takeQ (i := 11) (gt rfl) (by kernel_rfl) (fun _ _ _ h => h) (by rfl) (by intro wq _; go_simp <;> with_reducible rfl) (by assumption) ?_
          try simp only [Act.put, sA, sB, sC]
          refine takeQ (i := 12) (gt rfl) (by kernel_rfl) (fun _ _ _ h => h) (by rfl) (by intro wq _; go_simp <;> with_reducible rfl) (by assumption) ?_
          try simp only [Act.put, sA, sB, sC]
          refine takeQ (i := 13) (gt rfl) (by kernel_rfl) (fun _ _ _ h => h) (by rfl) (by intro wq _; go_simp <;> with_reducible rfl) (by assumption) ?_
          try simp only [Act.put, sA, sB, sC]
          refine takeQ (i := 14) (gt rfl) (by kernel_rfl) (fun _ _ _ h => h) (by rfl) (by intro wq hSw; have q0 := bat hSw k0; have q1 := bat hSw k1; have q2 := bat hSw k2; have q3 := bat hSw k3; have q4 := bat hSw k4; have q5 := bat hSw k5; have q6 := bat hSw k6; have q7 := bat hSw k7; have q8 := bat hSw k8; have q9 := bat hSw k9; have q10 := bat hSw k10; have q11 := bat hSw k11; have q12 := bat hSw k12; have q13 := bat hSw k13; have q14 := bat hSw k14; have q15 := bat hSw k15; go_simp <;> with_reducible rfl) (by assumption) ?_
          try simp only [Act.put, sA, sB, sC]
          refine wpAnyH_ready (rs := [15]) (by kernel_rfl) (by simp) (AllReadyH.cons (gt rfl) (fun K hK => ?_) AllReadyH.nil)
          go_simp
          refine (l3On_any x3 y3 x4 y4 x3 y3 _ c3 d3 c4 d4 c3 d3).mono ?_
          rintro e1 ww2 ⟨rfl, hb⟩
          rw [f2]
          replace N := N.trans (hb.mono N.size)
          clear hb
          refine hK.out _ _ N (fun hHeld => ?_)
          clear hK K
          try simp only [Act.put, sA, sB, sC]
          refine takeQ (i := 16) (gt rfl) (by kernel_rfl) (fun _ _ _ h => h) (by rfl) (by intro wq _; go_simp <;> with_reducible rfl) (by assumption) ?_
          try simp only [Act.put, sA, sB, sC]
          refine takeQ (i := 17) (gt rfl) (by kernel_rfl) (fun _ _ _ h => h) (by rfl) (by intro wq _; go_simp <;> with_reducible rfl) (by assumption) ?_
          try simp only [Act.put, sA, sB, sC]
          refine wpAnyH_done (by kernel_rfl) ?_ _
          have A1 := A.below N
          go_wp2
          go_roundw
          case rel => exact ⟨3, by omega, by first | rfl | go_num, by rw [show (shL x1 y1 x2 y2 x3 y3 x4 y4 (List.take 3 [(x1, y1), (x2, y2), (x3, y3), (x4, y4)])) = addP (shL x1 y1 x2 y2 x3 y3 x4 y4 (List.take 2 [(x1, y1), (x2, y2), (x3, y3), (x4, y4)])) (x3, y3) (shr x1 y1 x2 y2 x3 y3 x4 y4 x3 y3) from rfl, FL, HLL.out]; exact A1⟩
          case measure => simp [intOf]
        · have FL : shr x1 y1 x2 y2 x3 y3 x4 y4 x3 y3 = true := by unfold shr; rw [f1, f2]; rfl
          refine wp_region_held_drew (S := Below wr.heap.size wr) (by kernel_rfl) ((Below.refl _ _).drew) (fun hHeld => ?_)
          have N : Below wr.heap.size wr wr.drew := hHeld
          revert hHeld N
          generalize wr.drew = ww0
          intro hHeld N
          refine takeQ (i := 0) (gt rfl) (by kernel_rfl) (fun _ _ _ h => h) (by rfl) (by intro wq hSw; have q0 := bat hSw k0; have q1 := bat hSw k1; have q2 := bat hSw k2; have q3 := bat hSw k3; have q4 := bat hSw k4; have q5 := bat hSw k5; have q6 := bat hSw k6; have q7 := bat hSw k7; have q8 := bat hSw k8; have q9 := bat hSw k9; have q10 := bat hSw k10; have q11 := bat hSw k11; have q12 := bat hSw k12; have q13 := bat hSw k13; have q14 := bat hSw k14; have q15 := bat hSw k15; go_simp <;> with_reducible rfl) (by assumption) ?_
          try simp only [Act.put, sA, sB, sC]
          refine takeQ (i := 1) (gt rfl) (by kernel_rfl) (fun _ _ _ h => h) (by rfl) (by intro wq hSw; have q0 := bat hSw k0; have q1 := bat hSw k1; have q2 := bat hSw k2; have q3 := bat hSw k3; have q4 := bat hSw k4; have q5 := bat hSw k5; have q6 := bat hSw k6; have q7 := bat hSw k7; have q8 := bat hSw k8; have q9 := bat hSw k9; have q10 := bat hSw k10; have q11 := bat hSw k11; have q12 := bat hSw k12; have q13 := bat hSw k13; have q14 := bat hSw k14; have q15 := bat hSw k15; go_simp <;> with_reducible rfl) (by assumption) ?_
          try simp only [Act.put, sA, sB, sC]
          refine takeQ (i := 2) (gt rfl) (by kernel_rfl) (fun _ _ _ h => h) (by rfl) (by intro wq _; go_simp <;> with_reducible rfl) (by assumption) ?_
          try simp only [Act.put, sA, sB, sC]
          refine takeQ (i := 3) (gt rfl) (by kernel_rfl) (fun _ _ _ h => h) (by rfl) (by intro wq _; go_simp <;> with_reducible rfl) (by assumption) ?_
          try simp only [Act.put, sA, sB, sC]
          refine takeQ (i := 4) (gt rfl) (by kernel_rfl) (fun _ _ _ h => h) (by rfl) (by intro wq _; go_simp <;> with_reducible rfl) (by assumption) ?_
          try simp only [Act.put, sA, sB, sC]
          refine takeQ (i := 5) (gt rfl) (by kernel_rfl) (fun _ _ _ h => h) (by rfl) (by intro wq hSw; have q0 := bat hSw k0; have q1 := bat hSw k1; have q2 := bat hSw k2; have q3 := bat hSw k3; have q4 := bat hSw k4; have q5 := bat hSw k5; have q6 := bat hSw k6; have q7 := bat hSw k7; have q8 := bat hSw k8; have q9 := bat hSw k9; have q10 := bat hSw k10; have q11 := bat hSw k11; have q12 := bat hSw k12; have q13 := bat hSw k13; have q14 := bat hSw k14; have q15 := bat hSw k15; go_simp <;> with_reducible rfl) (by assumption) ?_
          try simp only [Act.put, sA, sB, sC]
          refine wpAnyH_ready (rs := [6]) (by kernel_rfl) (by simp) (AllReadyH.cons (gt rfl) (fun K hK => ?_) AllReadyH.nil)
          go_simp
          refine (l3On_any x1 y1 x2 y2 x3 y3 _ c1 d1 c2 d2 c3 d3).mono ?_
          rintro e1 ww1 ⟨rfl, hb⟩
          rw [f1]
          replace N := N.trans (hb.mono N.size)
          clear hb
          refine hK.out _ _ N (fun hHeld => ?_)
          clear hK K
          try simp only [Act.put, sA, sB, sC]
          refine takeQ (i := 7) (gt rfl) (by kernel_rfl) (fun _ _ _ h => h) (by rfl) (by intro wq _; go_simp <;> with_reducible rfl) (by assumption) ?_
          try simp only [Act.put, sA, sB, sC]
          refine takeQ (i := 8) (gt rfl) (by kernel_rfl) (fun _ _ _ h => h) (by rfl) (by intro wq _; go_simp <;> with_reducible rfl) (by assumption) ?_
          try simp only [Act.put, sA, sB, sC]
          refine takeQ (i := 9) (gt rfl) (by kernel_rfl) (fun _ _ _ h => h) (by rfl) (by intro wq hSw; have q0 := bat hSw k0; have q1 := bat hSw k1; have q2 := bat hSw k2; have q3 := bat hSw k3; have q4 := bat hSw k4; have q5 := bat hSw k5; have q6 := bat hSw k6; have q7 := bat hSw k7; have q8 := bat hSw k8; have q9 := bat hSw k9; have q10 := bat hSw k10; have q11 := bat hSw k11; have q12 := bat hSw k12; have q13 := bat hSw k13; have q14 := bat hSw k14; have q15 := bat hSw k15; go_simp <;> with_reducible rfl) (by assumption) ?_
          try simp only [Act.put, sA, sB, sC]
          refine takeQ (i := 10) (gt rfl) (by kernel_rfl) (fun _ _ _ h => h) (by rfl) (by intro wq hSw; have q0 := bat hSw k0; have q1 := bat hSw k1; have q2 := bat hSw k2; have q3 := bat hSw k3; have q4 := bat hSw k4; have q5 := bat hSw k5; have q6 := bat hSw k6; have q7 := bat hSw k7; have q8 := bat hSw k8; have q9 := bat hSw k9; have q10 := bat hSw k10; have q11 := bat hSw k11; have q12 := bat hSw k12; have q13 := bat hSw k13; have q14 := bat hSw k14; have q15 := bat hSw k15; go_simp <;> with_reducible rfl) (by assumption) ?_
          try simp only [Act.put, sA, sB, sC]
          refine takeQ (i := 11) (gt rfl) (by kernel_rfl) (fun _ _ _ h => h) (by rfl) (by intro wq _; go_simp <;> with_reducible rfl) (by assumption) ?_
          try simp only [Act.put, sA, sB, sC]
          refine takeQ (i := 12) (gt rfl) (by kernel_rfl) (fun _ _ _ h => h) (by rfl) (by intro wq _; go_simp <;> with_reducible rfl) (by assumption) ?_
          try simp only [Act.put, sA, sB, sC]
          refine takeQ (i := 13) (gt rfl) (by kernel_rfl) (fun _ _ _ h => h) (by rfl) (by intro wq _; go_simp <;> with_reducible rfl) (by assumption) ?_
          try simp only [Act.put, sA, sB, sC]
          refine takeQ (i := 14) (gt rfl) (by kernel_rfl) (fun _ _ _ h => h) (by rfl) (by intro wq hSw; have q0 := bat hSw k0; have q1 := bat hSw k1; have q2 := bat hSw k2; have q3 := bat hSw k3; have q4 := bat hSw k4; have q5 := bat hSw k5; have q6 := bat hSw k6; have q7 := bat hSw k7; have q8 := bat hSw k8; have q9 := bat hSw k9; have q10 := bat hSw k10; have q11 := bat hSw k11; have q12 := bat hSw k12; have q13 := bat hSw k13; have q14 := bat hSw k14; have q15 := bat hSw k15; go_simp <;> with_reducible rfl) (by assumption) ?_
          try simp only [Act.put, sA, sB, sC]
          refine wpAnyH_ready (rs := [15]) (by kernel_rfl) (by simp) (AllReadyH.cons (gt rfl) (fun K hK => ?_) AllReadyH.nil)
          go_simp
          refine (l3On_any x3 y3 x4 y4 x3 y3 _ c3 d3 c4 d4 c3 d3).mono ?_
          rintro e1 ww2 ⟨rfl, hb⟩
          rw [f2]
          replace N := N.trans (hb.mono N.size)
          clear hb
          refine hK.out _ _ N (fun hHeld => ?_)
          clear hK K
          try simp only [Act.put, sA, sB, sC]
          refine takeQ (i := 16) (gt rfl) (by kernel_rfl) (fun _ _ _ h => h) (by rfl) (by intro wq _; go_simp <;> with_reducible rfl) (by assumption) ?_
          try simp only [Act.put, sA, sB, sC]
          refine takeQ (i := 17) (gt rfl) (by kernel_rfl) (fun _ _ _ h => h) (by rfl) (by intro wq _; go_simp <;> with_reducible rfl) (by assumption) ?_
          try simp only [Act.put, sA, sB, sC]
          refine wpAnyH_done (by kernel_rfl) ?_ _
          have A1 := A.below N
          clear A k0 k1 k2 k3 k4 k5 k6 k7 k8 k9 k10 k11 k12 k13 k14 k15
          clear hHeld N
          go_wp2_with fail
          go_loopw [12, 13] (fun m kk wi => ∃ t : Nat, t ≤ ll.length ∧ kk = .int .i64 t ∧ m = .bool ((ll.take t).contains (x3, y3)) ∧ EnAt w wi x1 y1 x2 y2 x3 y3 x4 y4 ll (.slice av ll.length cv)) (fun _ kk _ => ll.length - (intOf kk).toNat)
          case atStart => exact ⟨0, Nat.zero_le _, rfl, by simp, A1⟩
          case round =>
            obtain ⟨t, ht, rfl, rfl, A2⟩ := hrel
            rename World => wi
            clear A1
            obtain ⟨k0, k1, k2, k3, k4, k5, k6, k7, k8, k9, k10, k11, k12, k13, k14, k15⟩ := id A2.k
            have hcm := HC.out
            by_cases htl : t < ll.length
            · obtain ⟨b0, o0, hav, hcells⟩ := A2.r.seesP.cells (by intro e; rw [e] at htl; simp at htl)
              subst hav
              obtain ⟨z0, z1⟩ := hcells t htl
              clear hcells
              have CS := con_step htl (x3, y3)
              have hlt : (t : Int) < (ll.length : Int) := by omega
              have A3 := fun nq => A2.below (below_drewN (Below.refl wi.heap.size wi) nq)
              cases hc : (ll.take t).contains (x3, y3)
              · rw [hc, Bool.false_or] at CS
                generalize ll[t]?.getD (0, 0) = pq at *
                obtain ⟨u, v⟩ := pq
                dsimp only at z0 z1
                by_cases hxu : u = x3
                · subst hxu
                  by_cases hyv : v = y3
                  · subst hyv
                    have CS2 : (ll.take (t + 1)).contains (u, v) = true := by rw [CS]; simp
                    go_wp2_with fail
                    go_quiet (fail)
                    go_wp2
                    go_roundw
                    case rel => exact ⟨t + 1, by omega, by go_num, by rw [CS2], A3 _⟩
                    case measure => simp [intOf]; omega
                  · have hyb : (v == y3) = false := by rw [beq_eq_false_iff_ne]; exact hyv
                    have CS2 : (ll.take (t + 1)).contains (u, y3) = false := by rw [CS]; simp [Ne.symm hyv]
                    clear CS
                    go_wp2_with fail
                    go_quiet (fail)
                    go_wp2
                    go_roundw
                    case rel => exact ⟨t + 1, by omega, by go_num, by rw [CS2], A3 _⟩
                    case measure => simp [intOf]; omega
                · have hxb : (u == x3) = false := by rw [beq_eq_false_iff_ne]; exact hxu
                  have CS2 : (ll.take (t + 1)).contains (x3, y3) = false := by rw [CS]; simp [Ne.symm hxu]
                  clear CS
                  go_wp2_with fail
                  go_quiet (fail)
                  go_wp2
                  go_roundw
                  case rel => exact ⟨t + 1, by omega, by go_num, by rw [CS2], A3 _⟩
                  case measure => simp [intOf]; omega
              · rw [hc, Bool.true_or] at CS
                go_wp2_with fail
                go_quiet (fail)
                go_wp2
                go_roundw
                case rel => exact ⟨t + 1, by omega, by go_num, by rw [CS], A3 _⟩
                case measure => simp [intOf]; omega
            · obtain rfl : t = ll.length := by omega
              rw [List.take_length]
              cases hc : ll.contains (x3, y3)
              · have AD : addP ll (x3, y3) true = ll ++ [(x3, y3)] := by unfold addP; rw [hc]; rfl
                have sz := A2.b.size
                have A4 := A2.below (below1 wi (.cells #[.int .i64 x3, .int .i64 y3] 31))
                have hb5 : w.heap.size + 1 + 1 + 1 + 1 + 1 ≤ (wi.alloc (.cells #[.int .i64 x3, .int .i64 y3] 31)).heap.size := by
                  have h8 : w.heap.size + 1 + 1 + 1 + 1 < wi.heap.size := World.block_lt_of_cell? _ _ k8
                  simp
                  omega
                have hmx : ll.length + 1 ≤ maxLen := by have := HC.out; unfold maxLen; omega
                have hby : (ll.length + 1) * 16 ≤ 140737488355328 := by have := HC.out; omega
                go_wp2_with (at_builtin; refine wpList_append_own _ rfl (.tmp 62) (.tmp 67) 60 rfl (w.heap.size + 1 + 1 + 1 + 1 + 1) 31 iP (.agg #[.int .i64 0, .int .i64 0]) 2 16 Try.underlying60 hiP hp0 hp1 hp2 rfl (by decide) (.slice av ll.length cv) ll.length (ptC ll) rfl A4.r ⟨wi.heap.size, 0, none⟩ 1 _ (ptC [(x3, y3)]) rfl rfl (pt_new _ _ _ _) (ptC_ones _) hmx hby hb5 ?_)
                intro v5 w5 hown hgrow _
                have A5 := A4.grew hgrow (RowPt.snoc hown)
                obtain ⟨a9, c9, E9, _⟩ := A5.r.shape
                subst E9
                go_wp2
                go_roundw
                case rel => exact ⟨3, by omega, by first | rfl | go_num, by rw [show (shL x1 y1 x2 y2 x3 y3 x4 y4 (List.take 3 [(x1, y1), (x2, y2), (x3, y3), (x4, y4)])) = addP (shL x1 y1 x2 y2 x3 y3 x4 y4 (List.take 2 [(x1, y1), (x2, y2), (x3, y3), (x4, y4)])) (x3, y3) (shr x1 y1 x2 y2 x3 y3 x4 y4 x3 y3) from rfl, FL, HLL.out]; exact A5.as AD.symm⟩
                case measure => simp [intOf]
              · have AD : addP ll (x3, y3) true = ll := by unfold addP; rw [hc]; rfl
                go_wp2
                go_roundw
                case rel => exact ⟨3, by omega, by first | rfl | go_num, by rw [show (shL x1 y1 x2 y2 x3 y3 x4 y4 (List.take 3 [(x1, y1), (x2, y2), (x3, y3), (x4, y4)])) = addP (shL x1 y1 x2 y2 x3 y3 x4 y4 (List.take 2 [(x1, y1), (x2, y2), (x3, y3), (x4, y4)])) (x3, y3) (shr x1 y1 x2 y2 x3 y3 x4 y4 x3 y3) from rfl, FL, HLL.out]; exact A2.as AD.symm⟩
                case measure => simp [intOf]
    · have LL : Hid ((shL x1 y1 x2 y2 x3 y3 x4 y4 (List.take 3 [(x1, y1), (x2, y2), (x3, y3), (x4, y4)])).length ≤ 3) := by have := shL_len x1 y1 x2 y2 x3 y3 x4 y4 (List.take 3 [(x1, y1), (x2, y2), (x3, y3), (x4, y4)]); show _ ≤ _; simpa using this
      obtain ⟨ll, HLL⟩ : ∃ l, Hid ((shL x1 y1 x2 y2 x3 y3 x4 y4 (List.take 3 [(x1, y1), (x2, y2), (x3, y3), (x4, y4)])) = l) := ⟨_, rfl⟩
      rw [HLL.out] at A LL
      obtain ⟨av, cv, AV, hf, hm⟩ := A.r.shape
      have HC : Hid (ll.length ≤ 3 ∧ ll.length ≤ cv ∧ cv ≤ maxLen) := ⟨LL.out, hf, hm⟩
      clear hf hm LL
      subst AV
      obtain ⟨k0, k1, k2, k3, k4, k5, k6, k7, k8, k9, k10, k11, k12, k13, k14, k15⟩ := id A.k
      go_upto_region 6 with fail
      cases f1 : onB x1 y1 x2 y2 x4 y4
      · have FL : shr x1 y1 x2 y2 x3 y3 x4 y4 x4 y4 = false := by unfold shr; rw [f1]; rfl
        refine wp_region_held_drew (S := Below wr.heap.size wr) (by kernel_rfl) ((Below.refl _ _).drew) (fun hHeld => ?_)
        have N : Below wr.heap.size wr wr.drew := hHeld
        revert hHeld N
        generalize wr.drew = ww0
        intro hHeld N
        refine takeQ (i := 0) (gt rfl) (by kernel_rfl) (fun _ _ _ h => h) (by rfl) (by intro wq hSw; have q0 := bat hSw k0; have q1 := bat hSw k1; have q2 := bat hSw k2; have q3 := bat hSw k3; have q4 := bat hSw k4; have q5 := bat hSw k5; have q6 := bat hSw k6; have q7 := bat hSw k7; have q8 := bat hSw k8; have q9 := bat hSw k9; have q10 := bat hSw k10; have q11 := bat hSw k11; have q12 := bat hSw k12; have q13 := bat hSw k13; have q14 := bat hSw k14; have q15 := bat hSw k15; go_simp <;> with_reducible rfl) (by assumption) ?_
        try simp only [Act.put, sA, sB, sC]
        refine takeQ (i := 1) (gt rfl) (by kernel_rfl) (fun _ _ _ h => h) (by rfl) (by intro wq hSw; have q0 := bat hSw k0; have q1 := bat hSw k1; have q2 := bat hSw k2; have q3 := bat hSw k3; have q4 := bat hSw k4; have q5 := bat hSw k5; have q6 := bat hSw k6; have q7 := bat hSw k7; have q8 := bat hSw k8; have q9 := bat hSw k9; have q10 := bat hSw k10; have q11 := bat hSw k11; have q12 := bat hSw k12; have q13 := bat hSw k13; have q14 := bat hSw k14; have q15 := bat hSw k15; go_simp <;> with_reducible rfl) (by assumption) ?_
        try simp only [Act.put, sA, sB, sC]
        refine takeQ (i := 2) (gt rfl) (by kernel_rfl) (fun _ _ _ h => h) (by rfl) (by intro wq _; go_simp <;> with_reducible rfl) (by assumption) ?_
        try simp only [Act.put, sA, sB, sC]
        refine takeQ (i := 3) (gt rfl) (by kernel_rfl) (fun _ _ _ h => h) (by rfl) (by intro wq _; go_simp <;> with_reducible rfl) (by assumption) ?_
        try simp only [Act.put, sA, sB, sC]
        refine takeQ (i := 4) (gt rfl) (by kernel_rfl) (fun _ _ _ h => h) (by rfl) (by intro wq _; go_simp <;> with_reducible rfl) (by assumption) ?_
        try simp only [Act.put, sA, sB, sC]
        refine takeQ (i := 5) (gt rfl) (by kernel_rfl) (fun _ _ _ h => h) (by rfl) (by intro wq hSw; have q0 := bat hSw k0; have q1 := bat hSw k1; have q2 := bat hSw k2; have q3 := bat hSw k3; have q4 := bat hSw k4; have q5 := bat hSw k5; have q6 := bat hSw k6; have q7 := bat hSw k7; have q8 := bat hSw k8; have q9 := bat hSw k9; have q10 := bat hSw k10; have q11 := bat hSw k11; have q12 := bat hSw k12; have q13 := bat hSw k13; have q14 := bat hSw k14; have q15 := bat hSw k15; go_simp <;> with_reducible rfl) (by assumption) ?_
        try simp only [Act.put, sA, sB, sC]
        refine wpAnyH_ready (rs := [6]) (by kernel_rfl) (by simp) (AllReadyH.cons (gt rfl) (fun K hK => ?_) AllReadyH.nil)
        go_simp
        refine (l3On_any x1 y1 x2 y2 x4 y4 _ c1 d1 c2 d2 c4 d4).mono ?_
        rintro e1 ww1 ⟨rfl, hb⟩
        rw [f1]
        replace N := N.trans (hb.mono N.size)
        clear hb
        refine hK.out _ _ N (fun hHeld => ?_)
        clear hK K
        try simp only [Act.put, sA, sB, sC]
        refine takeQ (i := 7) (gt rfl) (by kernel_rfl) (fun _ _ _ h => h) (by rfl) (by intro wq _; go_simp <;> with_reducible rfl) (by assumption) ?_
        try simp only [Act.put, sA, sB, sC]
        refine takeQ (i := 8) (gt rfl) (by kernel_rfl) (fun _ _ _ h => h) (by rfl) (by intro wq _; go_simp <;> with_reducible rfl) (by assumption) ?_
        try simp only [Act.put, sA, sB, sC]
        refine takeN (i := 9) (gt rfl) (by kernel_rfl) (by kernel_rfl) (by kernel_rfl) (by exact fun _ _ _ h => h) (by rfl) (by assumption) ?_
        try simp only [Act.put, sA, sB, sC]
        refine takeN (i := 10) (gt rfl) (by kernel_rfl) (by kernel_rfl) (by kernel_rfl) (by exact fun _ _ _ h => h) (by rfl) (by assumption) ?_
        try simp only [Act.put, sA, sB, sC]
        refine takeN (i := 11) (gt rfl) (by kernel_rfl) (by kernel_rfl) (by kernel_rfl) (by exact fun _ _ _ h => h) (by rfl) (by assumption) ?_
        try simp only [Act.put, sA, sB, sC]
        refine takeN (i := 12) (gt rfl) (by kernel_rfl) (by kernel_rfl) (by kernel_rfl) (by exact fun _ _ _ h => h) (by rfl) (by assumption) ?_
        try simp only [Act.put, sA, sB, sC]
        refine takeN (i := 13) (gt rfl) (by kernel_rfl) (by kernel_rfl) (by kernel_rfl) (by exact fun _ _ _ h => h) (by rfl) (by assumption) ?_
        try simp only [Act.put, sA, sB, sC]
        refine takeN (i := 14) (gt rfl) (by kernel_rfl) (by kernel_rfl) (by kernel_rfl) (by exact fun _ _ _ h => h) (by rfl) (by assumption) ?_
        try simp only [Act.put, sA, sB, sC]
        refine takeN (i := 15) (gt rfl) (by kernel_rfl) (by kernel_rfl) (by kernel_rfl) (by exact fun _ _ _ h => h) (by rfl) (by assumption) ?_
        try simp only [Act.put, sA, sB, sC]
        refine takeN (i := 16) (gt rfl) (by kernel_rfl) (by kernel_rfl) (by kernel_rfl) (by exact fun _ _ _ h => h) (by rfl) (by assumption) ?_
        try simp only [Act.put, sA, sB, sC]
        refine takeQ (i := 17) (gt rfl) (by kernel_rfl) (fun _ _ _ h => h) (by rfl) (by intro wq _; go_simp <;> with_reducible rfl) (by assumption) ?_
        try simp only [Act.put, sA, sB, sC]
        refine wpAnyH_done (by kernel_rfl) ?_ _
        have A1 := A.below N
        go_wp2
        go_roundw
        case rel => exact ⟨4, by omega, by first | rfl | go_num, by rw [show (shL x1 y1 x2 y2 x3 y3 x4 y4 (List.take 4 [(x1, y1), (x2, y2), (x3, y3), (x4, y4)])) = addP (shL x1 y1 x2 y2 x3 y3 x4 y4 (List.take 3 [(x1, y1), (x2, y2), (x3, y3), (x4, y4)])) (x4, y4) (shr x1 y1 x2 y2 x3 y3 x4 y4 x4 y4) from rfl, FL, HLL.out]; exact A1⟩
        case measure => simp [intOf]
      · cases f2 : onB x3 y3 x4 y4 x4 y4
        · have FL : shr x1 y1 x2 y2 x3 y3 x4 y4 x4 y4 = false := by unfold shr; rw [f1, f2]; rfl
          refine wp_region_held_drew (S := Below wr.heap.size wr) (by kernel_rfl) ((Below.refl _ _).drew) (fun hHeld => ?_)
          have N : Below wr.heap.size wr wr.drew := hHeld
          revert hHeld N
          generalize wr.drew = ww0
          intro hHeld N
          refine takeQ (i := 0) (gt rfl) (by kernel_rfl) (fun _ _ _ h => h) (by rfl) (by intro wq hSw; have q0 := bat hSw k0; have q1 := bat hSw k1; have q2 := bat hSw k2; have q3 := bat hSw k3; have q4 := bat hSw k4; have q5 := bat hSw k5; have q6 := bat hSw k6; have q7 := bat hSw k7; have q8 := bat hSw k8; have q9 := bat hSw k9; have q10 := bat hSw k10; have q11 := bat hSw k11; have q12 := bat hSw k12; have q13 := bat hSw k13; have q14 := bat hSw k14; have q15 := bat hSw k15; go_simp <;> with_reducible rfl) (by assumption) ?_
          try simp only [Act.put, sA, sB, sC]
          refine takeQ (i := 1) (gt rfl) (by kernel_rfl) (fun _ _ _ h => h) (by rfl) (by intro wq hSw; have q0 := bat hSw k0; have q1 := bat hSw k1; have q2 := bat hSw k2; have q3 := bat hSw k3; have q4 := bat hSw k4; have q5 := bat hSw k5; have q6 := bat hSw k6; have q7 := bat hSw k7; have q8 := bat hSw k8; have q9 := bat hSw k9; have q10 := bat hSw k10; have q11 := bat hSw k11; have q12 := bat hSw k12; have q13 := bat hSw k13; have q14 := bat hSw k14; have q15 := bat hSw k15; go_simp <;> with_reducible rfl) (by assumption) ?_
          try simp only [Act.put, sA, sB, sC]
          refine takeQ (i := 2) (gt rfl) (by kernel_rfl) (fun _ _ _ h => h) (by rfl) (by intro wq _; go_simp <;> with_reducible rfl) (by assumption) ?_
          try simp only [Act.put, sA, sB, sC]
          refine takeQ (i := 3) (gt rfl) (by kernel_rfl) (fun _ _ _ h => h) (by rfl) (by intro wq _; go_simp <;> with_reducible rfl) (by assumption) ?_
          try simp only [Act.put, sA, sB, sC]
          refine takeQ (i := 4) (gt rfl) (by kernel_rfl) (fun _ _ _ h => h) (by rfl) (by intro wq _; go_simp <;> with_reducible rfl) (by assumption) ?_
          try simp only [Act.put, sA, sB, sC]
          refine takeQ (i := 5) (gt rfl) (by kernel_rfl) (fun _ _ _ h => h) (by rfl) (by intro wq hSw; have q0 := bat hSw k0; have q1 := bat hSw k1; have q2 := bat hSw k2; have q3 := bat hSw k3; have q4 := bat hSw k4; have q5 := bat hSw k5; have q6 := bat hSw k6; have q7 := bat hSw k7; have q8 := bat hSw k8; have q9 := bat hSw k9; have q10 := bat hSw k10; have q11 := bat hSw k11; have q12 := bat hSw k12; have q13 := bat hSw k13; have q14 := bat hSw k14; have q15 := bat hSw k15; go_simp <;> with_reducible rfl) (by assumption) ?_
          try simp only [Act.put, sA, sB, sC]
          refine wpAnyH_ready (rs := [6]) (by kernel_rfl) (by simp) (AllReadyH.cons (gt rfl) (fun K hK => ?_) AllReadyH.nil)
          go_simp
          refine (l3On_any x1 y1 x2 y2 x4 y4 _ c1 d1 c2 d2 c4 d4).mono ?_
          rintro e1 ww1 ⟨rfl, hb⟩
          rw [f1]
          replace N := N.trans (hb.mono N.size)
          clear hb
          refine hK.out _ _ N (fun hHeld => ?_)
          clear hK K
          try simp only [Act.put, sA, sB, sC]
          refine takeQ (i := 7) (gt rfl) (by kernel_rfl) (fun _ _ _ h => h) (by rfl) (by intro wq _; go_simp <;> with_reducible rfl) (by assumption) ?_
          try simp only [Act.put, sA, sB, sC]
          refine takeQ (i := 8) (gt rfl) (by kernel_rfl) (fun _ _ _ h => h) (by rfl) (by intro wq _; go_simp <;> with_reducible rfl) (by assumption) ?_
          try simp only [Act.put, sA, sB, sC]
          refine takeQ (i := 9) (gt rfl) (by kernel_rfl) (fun _ _ _ h => h) (by rfl) (by intro wq hSw; have q0 := bat hSw k0; have q1 := bat hSw k1; have q2 := bat hSw k2; have q3 := bat hSw k3; have q4 := bat hSw k4; have q5 := bat hSw k5; have q6 := bat hSw k6; have q7 := bat hSw k7; have q8 := bat hSw k8; have q9 := bat hSw k9; have q10 := bat hSw k10; have q11 := bat hSw k11; have q12 := bat hSw k12; have q13 := bat hSw k13; have q14 := bat hSw k14; have q15 := bat hSw k15; go_simp <;> with_reducible rfl) (by assumption) ?_
          try simp only [Act.put, sA, sB, sC]
          refine takeQ (i := 10) (gt rfl) (by kernel_rfl) (fun _ _ _ h => h) (by rfl) (by intro wq hSw; have q0 := bat hSw k0; have q1 := bat hSw k1; have q2 := bat hSw k2; have q3 := bat hSw k3; have q4 := bat hSw k4; have q5 := bat hSw k5; have q6 := bat hSw k6; have q7 := bat hSw k7; have q8 := bat hSw k8; have q9 := bat hSw k9; have q10 := bat hSw k10; have q11 := bat hSw k11; have q12 := bat hSw k12; have q13 := bat hSw k13; have q14 := bat hSw k14; have q15 := bat hSw k15; go_simp <;> with_reducible rfl) (by assumption) ?_
          try simp only [Act.put, sA, sB, sC]
          refine takeQ (i := 11) (gt rfl) (by kernel_rfl) (fun _ _ _ h => h) (by rfl) (by intro wq _; go_simp <;> with_reducible rfl) (by assumption) ?_
          try simp only [Act.put, sA, sB, sC]
          refine takeQ (i := 12) (gt rfl) (by kernel_rfl) (fun _ _ _ h => h) (by rfl) (by intro wq _; go_simp <;> with_reducible rfl) (by assumption) ?_
          try simp only [Act.put, sA, sB, sC]
          refine takeQ (i := 13) (gt rfl) (by kernel_rfl) (fun _ _ _ h => h) (by rfl) (by intro wq _; go_simp <;> with_reducible rfl) (by assumption) ?_
          try simp only [Act.put, sA, sB, sC]
          refine takeQ (i := 14) (gt rfl) (by kernel_rfl) (fun _ _ _ h => h) (by rfl) (by intro wq hSw; have q0 := bat hSw k0; have q1 := bat hSw k1; have q2 := bat hSw k2; have q3 := bat hSw k3; have q4 := bat hSw k4; have q5 := bat hSw k5; have q6 := bat hSw k6; have q7 := bat hSw k7; have q8 := bat hSw k8; have q9 := bat hSw k9; have q10 := bat hSw k10; have q11 := bat hSw k11; have q12 := bat hSw k12; have q13 := bat hSw k13; have q14 := bat hSw k14; have q15 := bat hSw k15; go_simp <;> with_reducible rfl) (by assumption) ?_
          try simp only [Act.put, sA, sB, sC]
          refine wpAnyH_ready (rs := [15]) (by kernel_rfl) (by simp) (AllReadyH.cons (gt rfl) (fun K hK => ?_) AllReadyH.nil)
          go_simp
          refine (l3On_any x3 y3 x4 y4 x4 y4 _ c3 d3 c4 d4 c4 d4).mono ?_
          rintro e1 ww2 ⟨rfl, hb⟩
          rw [f2]
          replace N := N.trans (hb.mono N.size)
          clear hb
          refine hK.out _ _ N (fun hHeld => ?_)
          clear hK K
          try simp only [Act.put, sA, sB, sC]
          refine takeQ (i := 16) (gt rfl) (by kernel_rfl) (fun _ _ _ h => h) (by rfl) (by intro wq _; go_simp <;> with_reducible rfl) (by assumption) ?_
          try simp only [Act.put, sA, sB, sC]
          refine takeQ (i := 17) (gt rfl) (by kernel_rfl) (fun _ _ _ h => h) (by rfl) (by intro wq _; go_simp <;> with_reducible rfl) (by assumption) ?_
          try simp only [Act.put, sA, sB, sC]
          refine wpAnyH_done (by kernel_rfl) ?_ _
          have A1 := A.below N
          go_wp2
          go_roundw
          case rel => exact ⟨4, by omega, by first | rfl | go_num, by rw [show (shL x1 y1 x2 y2 x3 y3 x4 y4 (List.take 4 [(x1, y1), (x2, y2), (x3, y3), (x4, y4)])) = addP (shL x1 y1 x2 y2 x3 y3 x4 y4 (List.take 3 [(x1, y1), (x2, y2), (x3, y3), (x4, y4)])) (x4, y4) (shr x1 y1 x2 y2 x3 y3 x4 y4 x4 y4) from rfl, FL, HLL.out]; exact A1⟩
          case measure => simp [intOf]
        · have FL : shr x1 y1 x2 y2 x3 y3 x4 y4 x4 y4 = true := by unfold shr; rw [f1, f2]; rfl
          refine wp_region_held_drew (S := Below wr.heap.size wr) (by kernel_rfl) ((Below.refl _ _).drew) (fun hHeld => ?_)
          have N : Below wr.heap.size wr wr.drew := hHeld
          revert hHeld N
          generalize wr.drew = ww0
          intro hHeld N
          refine takeQ (i := 0) (gt rfl) (by kernel_rfl) (fun _ _ _ h => h) (by rfl) (by intro wq hSw; have q0 := bat hSw k0; have q1 := bat hSw k1; have q2 := bat hSw k2; have q3 := bat hSw k3; have q4 := bat hSw k4; have q5 := bat hSw k5; have q6 := bat hSw k6; have q7 := bat hSw k7; have q8 := bat hSw k8; have q9 := bat hSw k9; have q10 := bat hSw k10; have q11 := bat hSw k11; have q12 := bat hSw k12; have q13 := bat hSw k13; have q14 := bat hSw k14; have q15 := bat hSw k15; go_simp <;> with_reducible rfl) (by assumption) ?_
          try simp only [Act.put, sA, sB, sC]
          refine takeQ (i := 1) (gt rfl) (by kernel_rfl) (fun _ _ _ h => h) (by rfl) (by intro wq hSw; have q0 := bat hSw k0; have q1 := bat hSw k1; have q2 := bat hSw k2; have q3 := bat hSw k3; have q4 := bat hSw k4; have q5 := bat hSw k5; have q6 := bat hSw k6; have q7 := bat hSw k7; have q8 := bat hSw k8; have q9 := bat hSw k9; have q10 := bat hSw k10; have q11 := bat hSw k11; have q12 := bat hSw k12; have q13 := bat hSw k13; have q14 := bat hSw k14; have q15 := bat hSw k15; go_simp <;> with_reducible rfl) (by assumption) ?_
          try simp only [Act.put, sA, sB, sC]
          refine takeQ (i := 2) (gt rfl) (by kernel_rfl) (fun _ _ _ h => h) (by rfl) (by intro wq _; go_simp <;> with_reducible rfl) (by assumption) ?_
          try simp only [Act.put, sA, sB, sC]
          refine takeQ (i := 3) (gt rfl) (by kernel_rfl) (fun _ _ _ h => h) (by rfl) (by intro wq _; go_simp <;> with_reducible rfl) (by assumption) ?_
          try simp only [Act.put, sA, sB, sC]
          refine takeQ (i := 4) (gt rfl) (by kernel_rfl) (fun _ _ _ h => h) (by rfl) (by intro wq _; go_simp <;> with_reducible rfl) (by assumption) ?_
          try simp only [Act.put, sA, sB, sC]
          refine takeQ (i := 5) (gt rfl) (by kernel_rfl) (fun _ _ _ h => h) (by rfl) (by intro wq hSw; have q0 := bat hSw k0; have q1 := bat hSw k1; have q2 := bat hSw k2; have q3 := bat hSw k3; have q4 := bat hSw k4; have q5 := bat hSw k5; have q6 := bat hSw k6; have q7 := bat hSw k7; have q8 := bat hSw k8; have q9 := bat hSw k9; have q10 := bat hSw k10; have q11 := bat hSw k11; have q12 := bat hSw k12; have q13 := bat hSw k13; have q14 := bat hSw k14; have q15 := bat hSw k15; go_simp <;> with_reducible rfl) (by assumption) ?_
          try simp only [Act.put, sA, sB, sC]
          refine wpAnyH_ready (rs := [6]) (by kernel_rfl) (by simp) (AllReadyH.cons (gt rfl) (fun K hK => ?_) AllReadyH.nil)
          go_simp
          refine (l3On_any x1 y1 x2 y2 x4 y4 _ c1 d1 c2 d2 c4 d4).mono ?_
          rintro e1 ww1 ⟨rfl, hb⟩
          rw [f1]
          replace N := N.trans (hb.mono N.size)
          clear hb
          refine hK.out _ _ N (fun hHeld => ?_)
          clear hK K
          try simp only [Act.put, sA, sB, sC]
          refine takeQ (i := 7) (gt rfl) (by kernel_rfl) (fun _ _ _ h => h) (by rfl) (by intro wq _; go_simp <;> with_reducible rfl) (by assumption) ?_
          try simp only [Act.put, sA, sB, sC]
          refine takeQ (i := 8) (gt rfl) (by kernel_rfl) (fun _ _ _ h => h) (by rfl) (by intro wq _; go_simp <;> with_reducible rfl) (by assumption) ?_
          try simp only [Act.put, sA, sB, sC]
          refine takeQ (i := 9) (gt rfl) (by kernel_rfl) (fun _ _ _ h => h) (by rfl) (by intro wq hSw; have q0 := bat hSw k0; have q1 := bat hSw k1; have q2 := bat hSw k2; have q3 := bat hSw k3; have q4 := bat hSw k4; have q5 := bat hSw k5; have q6 := bat hSw k6; have q7 := bat hSw k7; have q8 := bat hSw k8; have q9 := bat hSw k9; have q10 := bat hSw k10; have q11 := bat hSw k11; have q12 := bat hSw k12; have q13 := bat hSw k13; have q14 := bat hSw k14; have q15 := bat hSw k15; go_simp <;> with_reducible rfl) (by assumption) ?_
          try simp only [Act.put, sA, sB, sC]
          refine takeQ (i := 10) (gt rfl) (by kernel_rfl) (fun _ _ _ h => h) (by rfl) (by intro wq hSw; have q0 := bat hSw k0; have q1 := bat hSw k1; have q2 := bat hSw k2; have q3 := bat hSw k3; have q4 := bat hSw k4; have q5 := bat hSw k5; have q6 := bat hSw k6; have q7 := bat hSw k7; have q8 := bat hSw k8; have q9 := bat hSw k9; have q10 := bat hSw k10; have q11 := bat hSw k11; have q12 := bat hSw k12; have q13 := bat hSw k13; have q14 := bat hSw k14; have q15 := bat hSw k15; go_simp <;> with_reducible rfl) (by assumption) ?_
          try simp only [Act.put, sA, sB, sC]
          refine takeQ (i := 11) (gt rfl) (by kernel_rfl) (fun _ _ _ h => h) (by rfl) (by intro wq _; go_simp <;> with_reducible rfl) (by assumption) ?_
          try simp only [Act.put, sA, sB, sC]
          refine takeQ (i := 12) (gt rfl) (by kernel_rfl) (fun _ _ _ h => h) (by rfl) (by intro wq _; go_simp <;> with_reducible rfl) (by assumption) ?_
          try simp only [Act.put, sA, sB, sC]
          refine takeQ (i := 13) (gt rfl) (by kernel_rfl) (fun _ _ _ h => h) (by rfl) (by intro wq _; go_simp <;> with_reducible rfl) (by assumption) ?_
          try simp only [Act.put, sA, sB, sC]
          refine takeQ (i := 14) (gt rfl) (by kernel_rfl) (fun _ _ _ h => h) (by rfl) (by intro wq hSw; have q0 := bat hSw k0; have q1 := bat hSw k1; have q2 := bat hSw k2; have q3 := bat hSw k3; have q4 := bat hSw k4; have q5 := bat hSw k5; have q6 := bat hSw k6; have q7 := bat hSw k7; have q8 := bat hSw k8; have q9 := bat hSw k9; have q10 := bat hSw k10; have q11 := bat hSw k11; have q12 := bat hSw k12; have q13 := bat hSw k13; have q14 := bat hSw k14; have q15 := bat hSw k15; go_simp <;> with_reducible rfl) (by assumption) ?_
          try simp only [Act.put, sA, sB, sC]
          refine wpAnyH_ready (rs := [15]) (by kernel_rfl) (by simp) (AllReadyH.cons (gt rfl) (fun K hK => ?_) AllReadyH.nil)
          go_simp
          refine (l3On_any x3 y3 x4 y4 x4 y4 _ c3 d3 c4 d4 c4 d4).mono ?_
          rintro e1 ww2 ⟨rfl, hb⟩
          rw [f2]
          replace N := N.trans (hb.mono N.size)
          clear hb
          refine hK.out _ _ N (fun hHeld => ?_)
          clear hK K
          try simp only [Act.put, sA, sB, sC]
          refine takeQ (i := 16) (gt rfl) (by kernel_rfl) (fun _ _ _ h => h) (by rfl) (by intro wq _; go_simp <;> with_reducible rfl) (by assumption) ?_
          try simp only [Act.put, sA, sB, sC]
          refine takeQ (i := 17) (gt rfl) (by kernel_rfl) (fun _ _ _ h => h) (by rfl) (by intro wq _; go_simp <;> with_reducible rfl) (by assumption) ?_
          try simp only [Act.put, sA, sB, sC]
          refine wpAnyH_done (by kernel_rfl) ?_ _
          have A1 := A.below N
          clear A k0 k1 k2 k3 k4 k5 k6 k7 k8 k9 k10 k11 k12 k13 k14 k15
          clear hHeld N
          go_wp2_with fail
          go_loopw [12, 13] (fun m kk wi => ∃ t : Nat, t ≤ ll.length ∧ kk = .int .i64 t ∧ m = .bool ((ll.take t).contains (x4, y4)) ∧ EnAt w wi x1 y1 x2 y2 x3 y3 x4 y4 ll (.slice av ll.length cv)) (fun _ kk _ => ll.length - (intOf kk).toNat)
          case atStart => exact ⟨0, Nat.zero_le _, rfl, by simp, A1⟩
          case round =>
            obtain ⟨t, ht, rfl, rfl, A2⟩ := hrel
            rename World => wi
            clear A1
            obtain ⟨k0, k1, k2, k3, k4, k5, k6, k7, k8, k9, k10, k11, k12, k13, k14, k15⟩ := id A2.k
            have hcm := HC.out
            by_cases htl : t < ll.length
            · obtain ⟨b0, o0, hav, hcells⟩ := A2.r.seesP.cells (by intro e; rw [e] at htl; simp at htl)
              subst hav
              obtain ⟨z0, z1⟩ := hcells t htl
              clear hcells
              have CS := con_step htl (x4, y4)
              have hlt : (t : Int) < (ll.length : Int) := by omega
              have A3 := fun nq => A2.below (below_drewN (Below.refl wi.heap.size wi) nq)
              cases hc : (ll.take t).contains (x4, y4)
              · rw [hc, Bool.false_or] at CS
                generalize ll[t]?.getD (0, 0) = pq at *
                obtain ⟨u, v⟩ := pq
                dsimp only at z0 z1
                by_cases hxu : u = x4
                · subst hxu
                  by_cases hyv : v = y4
                  · subst hyv
                    have CS2 : (ll.take (t + 1)).contains (u, v) = true := by rw [CS]; simp
                    go_wp2_with fail
                    go_quiet (fail)
                    go_wp2
                    go_roundw
                    case rel => exact ⟨t + 1, by omega, by go_num, by rw [CS2], A3 _⟩
                    case measure => simp [intOf]; omega
                  · have hyb : (v == y4) = false := by rw [beq_eq_false_iff_ne]; exact hyv
                    have CS2 : (ll.take (t + 1)).contains (u, y4) = false := by rw [CS]; simp [Ne.symm hyv]
                    clear CS
                    go_wp2_with fail
                    go_quiet (fail)
                    go_wp2
                    go_roundw
                    case rel => exact ⟨t + 1, by omega, by go_num, by rw [CS2], A3 _⟩
                    case measure => simp [intOf]; omega
                · have hxb : (u == x4) = false := by rw [beq_eq_false_iff_ne]; exact hxu
                  have CS2 : (ll.take (t + 1)).contains (x4, y4) = false := by rw [CS]; simp [Ne.symm hxu]
                  clear CS
                  go_wp2_with fail
                  go_quiet (fail)
                  go_wp2
                  go_roundw
                  case rel => exact ⟨t + 1, by omega, by go_num, by rw [CS2], A3 _⟩
                  case measure => simp [intOf]; omega
              · rw [hc, Bool.true_or] at CS
                go_wp2_with fail
                go_quiet (fail)
                go_wp2
                go_roundw
                case rel => exact ⟨t + 1, by omega, by go_num, by rw [CS], A3 _⟩
                case measure => simp [intOf]; omega
            · obtain rfl : t = ll.length := by omega
              rw [List.take_length]
              cases hc : ll.contains (x4, y4)
              · have AD : addP ll (x4, y4) true = ll ++ [(x4, y4)] := by unfold addP; rw [hc]; rfl
                have sz := A2.b.size
                have A4 := A2.below (below1 wi (.cells #[.int .i64 x4, .int .i64 y4] 31))
                have hb5 : w.heap.size + 1 + 1 + 1 + 1 + 1 ≤ (wi.alloc (.cells #[.int .i64 x4, .int .i64 y4] 31)).heap.size := by
                  have h8 : w.heap.size + 1 + 1 + 1 + 1 < wi.heap.size := World.block_lt_of_cell? _ _ k8
                  simp
                  omega
                have hmx : ll.length + 1 ≤ maxLen := by have := HC.out; unfold maxLen; omega
                have hby : (ll.length + 1) * 16 ≤ 140737488355328 := by have := HC.out; omega
                go_wp2_with (at_builtin; refine wpList_append_own _ rfl (.tmp 62) (.tmp 67) 60 rfl (w.heap.size + 1 + 1 + 1 + 1 + 1) 31 iP (.agg #[.int .i64 0, .int .i64 0]) 2 16 Try.underlying60 hiP hp0 hp1 hp2 rfl (by decide) (.slice av ll.length cv) ll.length (ptC ll) rfl A4.r ⟨wi.heap.size, 0, none⟩ 1 _ (ptC [(x4, y4)]) rfl rfl (pt_new _ _ _ _) (ptC_ones _) hmx hby hb5 ?_)
                intro v5 w5 hown hgrow _
                have A5 := A4.grew hgrow (RowPt.snoc hown)
                obtain ⟨a9, c9, E9, _⟩ := A5.r.shape
                subst E9
                go_wp2
                go_roundw
                case rel => exact ⟨4, by omega, by first | rfl | go_num, by rw [show (shL x1 y1 x2 y2 x3 y3 x4 y4 (List.take 4 [(x1, y1), (x2, y2), (x3, y3), (x4, y4)])) = addP (shL x1 y1 x2 y2 x3 y3 x4 y4 (List.take 3 [(x1, y1), (x2, y2), (x3, y3), (x4, y4)])) (x4, y4) (shr x1 y1 x2 y2 x3 y3 x4 y4 x4 y4) from rfl, FL, HLL.out]; exact A5.as AD.symm⟩
                case measure => simp [intOf]
              · have AD : addP ll (x4, y4) true = ll := by unfold addP; rw [hc]; rfl
                go_wp2
                go_roundw
                case rel => exact ⟨4, by omega, by first | rfl | go_num, by rw [show (shL x1 y1 x2 y2 x3 y3 x4 y4 (List.take 4 [(x1, y1), (x2, y2), (x3, y3), (x4, y4)])) = addP (shL x1 y1 x2 y2 x3 y3 x4 y4 (List.take 3 [(x1, y1), (x2, y2), (x3, y3), (x4, y4)])) (x4, y4) (shr x1 y1 x2 y2 x3 y3 x4 y4 x4 y4) from rfl, FL, HLL.out]; exact A2.as AD.symm⟩
                case measure => simp [intOf]
    · have A5 : EnAt w wr x1 y1 x2 y2 x3 y3 x4 y4 (shL x1 y1 x2 y2 x3 y3 x4 y4 [(x1, y1), (x2, y2), (x3, y3), (x4, y4)]) _ := A
      clear A
      obtain ⟨av, cv, AV, _⟩ := A5.r.shape
      subst AV
      go_wp2
      go_ret
      exact ⟨_, rfl, ⟨A5.r.1, by rcases A5.r.2 with h | ⟨q, cap, cur, h1, h2, h3⟩; exact .inl h; exact .inr ⟨q, cap, cur, h1, by omega, h3⟩⟩, A5.b⟩
end Go.Proofs.Ythfgeihgmknkcaa
