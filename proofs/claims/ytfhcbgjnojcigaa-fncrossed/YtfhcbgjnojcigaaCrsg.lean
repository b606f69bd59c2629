/- The point at which two segments cross: of the program. -/
import Derived.Test.YtfhcbgjnojcigaaPartW
import Derived.Test.YtfhcbgjnojcigaaPtG
import Derived.Test.YtfhcbgjnojcigaaPtM
import Derived.Test.YtfhcbgjnojcigaaTwoFr
import Derived.Test.YtfhcbgjnojcigaaHeldQ
import Derived.Test.YtfhcbgjnojcigaaPtW
import Derived.Deep.RegionHeld3
import Derived.Deep.DeepCutAuto
namespace Go.Proofs.Ytfhcbgjnojcigaa
open Go.RowKit

theorem allW_bound {x1 y1 x2 y2 x3 y3 x4 y4 : Int} (c1 : Crd x1) (d1 : Crd y1) (c2 : Crd x2) (d2 : Crd y2) (c3 : Crd x3) (d3 : Crd y3) (c4 : Crd x4) (d4 : Crd y4) : -1000000000000000 ≤ (allW x1 y1 x2 y2 x3 y3 x4 y4) ∧ (allW x1 y1 x2 y2 x3 y3 x4 y4) ≤ 1000000000000000 := by
  have p := (c2.dif c1).mul (d4.dif d3)
  have q := (d2.dif d1).mul (c4.dif c3)
  unfold allW
  omega
theorem partW_bound {x1 y1 x3 y3 x4 y4 : Int} (c1 : Crd x1) (d1 : Crd y1) (c3 : Crd x3) (d3 : Crd y3) (c4 : Crd x4) (d4 : Crd y4) : -1000000000000000 ≤ (partW x1 y1 x3 y3 x4 y4) ∧ (partW x1 y1 x3 y3 x4 y4) ≤ 1000000000000000 := by
  have p := (c3.dif c1).mul (d4.dif d3)
  have q := (d3.dif d1).mul (c4.dif c3)
  unfold partW
  omega
theorem cput4 {w : World} {b b' i : Nat} {u0 u1 u2 u3 : Value} (h : b' ≠ b) : ((((w.setCell ⟨b, 0, none⟩ u0).setCell ⟨b, 1, none⟩ u1).setCell ⟨b, 2, none⟩ u2).setCell ⟨b, 3, none⟩ u3).cell? ⟨b', i, none⟩ = w.cell? ⟨b', i, none⟩ :=
  (cell_other (.inl h.symm) u3).trans ((cell_other (.inl h.symm) u2).trans ((cell_other (.inl h.symm) u1).trans (cell_other (.inl h.symm) u0)))

set_option maxRecDepth 20000 in
set_option maxHeartbeats 32000000 in
theorem crossing_any (x1 y1 x2 y2 x3 y3 x4 y4 : Int) (w : World) (c1 : Crd x1) (d1 : Crd y1) (c2 : Crd x2) (d2 : Crd y2) (c3 : Crd x3) (d3 : Crd y3) (c4 : Crd x4) (d4 : Crd y4) (hA : (allW x1 y1 x2 y2 x3 y3 x4 y4) ≠ 0) :
    Calls Try.prog 18 #[.agg #[.int .i64 x1, .int .i64 y1], .agg #[.int .i64 x2, .int .i64 y2], .agg #[.int .i64 x3, .int .i64 y3], .agg #[.int .i64 x4, .int .i64 y4]] w fun e w' => ∃ v1 v2, e = .returned (.tuple #[v1, v2]) ∧ TwoFr w.heap.size w' v1 v2 (cN (x1 * (allW x1 y1 x2 y2 x3 y3 x4 y4) + (x2 - x1) * (partW x1 y1 x3 y3 x4 y4)) (allW x1 y1 x2 y2 x3 y3 x4 y4)) (cD (x1 * (allW x1 y1 x2 y2 x3 y3 x4 y4) + (x2 - x1) * (partW x1 y1 x3 y3 x4 y4)) (allW x1 y1 x2 y2 x3 y3 x4 y4)) (cN (y1 * (allW x1 y1 x2 y2 x3 y3 x4 y4) + (y2 - y1) * (partW x1 y1 x3 y3 x4 y4)) (allW x1 y1 x2 y2 x3 y3 x4 y4)) (cD (y1 * (allW x1 y1 x2 y2 x3 y3 x4 y4) + (y2 - y1) * (partW x1 y1 x3 y3 x4 y4)) (allW x1 y1 x2 y2 x3 y3 x4 y4)) ∧ Below w.heap.size w w' := by
  have bA := allW_bound c1 d1 c2 d2 c3 d3 c4 d4
  have bP := partW_bound c1 d1 c3 d3 c4 d4
  have HB : Hid ((-1000000000000000 ≤ (allW x1 y1 x2 y2 x3 y3 x4 y4) ∧ (allW x1 y1 x2 y2 x3 y3 x4 y4) ≤ 1000000000000000) ∧ (-1000000000000000 ≤ (partW x1 y1 x3 y3 x4 y4) ∧ (partW x1 y1 x3 y3 x4 y4) ≤ 1000000000000000) ∧ (allW x1 y1 x2 y2 x3 y3 x4 y4) ≠ 0) := ⟨bA, bP, hA⟩
  clear bA bP hA
  have R1 : Box4 w.heap.size ((((((w.alloc (.cells #[.int .i64 x1, .int .i64 y1] 25)).alloc (.cells #[.int .i64 x2, .int .i64 y2] 25)).alloc (.cells #[.int .i64 x3, .int .i64 y3] 25)).alloc (.cells #[.int .i64 x4, .int .i64 y4] 25)).alloc (.cells #[.bool false, .slice none 0 0, .bool false, .slice none 0 0] 32)).alloc (.cells #[.bool false, .slice none 0 0, .bool false, .slice none 0 0] 32)) (w.heap.size + 1 + 1 + 1 + 1) (.bool false) (.slice none 0 0) (.bool false) (.slice none 0 0) := by refine ⟨?_, ?_, ?_, ?_, ?_, by omega⟩ <;> simp [go_sem]
  have R2 : Box4 w.heap.size ((((((w.alloc (.cells #[.int .i64 x1, .int .i64 y1] 25)).alloc (.cells #[.int .i64 x2, .int .i64 y2] 25)).alloc (.cells #[.int .i64 x3, .int .i64 y3] 25)).alloc (.cells #[.int .i64 x4, .int .i64 y4] 25)).alloc (.cells #[.bool false, .slice none 0 0, .bool false, .slice none 0 0] 32)).alloc (.cells #[.bool false, .slice none 0 0, .bool false, .slice none 0 0] 32)) (w.heap.size + 1 + 1 + 1 + 1 + 1) (.bool false) (.slice none 0 0) (.bool false) (.slice none 0 0) := by refine ⟨?_, ?_, ?_, ?_, ?_, by omega⟩ <;> simp [go_sem]
  have B : Below w.heap.size w ((((((w.alloc (.cells #[.int .i64 x1, .int .i64 y1] 25)).alloc (.cells #[.int .i64 x2, .int .i64 y2] 25)).alloc (.cells #[.int .i64 x3, .int .i64 y3] 25)).alloc (.cells #[.int .i64 x4, .int .i64 y4] 25)).alloc (.cells #[.bool false, .slice none 0 0, .bool false, .slice none 0 0] 32)).alloc (.cells #[.bool false, .slice none 0 0, .bool false, .slice none 0 0] 32)) := (ptbelow4 w x1 y1 x2 y2 x3 y3 x4 y4 25).trans ((below2 _ _ _).mono (ptbelow4 w x1 y1 x2 y2 x3 y3 x4 y4 25).size)
  have HW : ((((((w.alloc (.cells #[.int .i64 x1, .int .i64 y1] 25)).alloc (.cells #[.int .i64 x2, .int .i64 y2] 25)).alloc (.cells #[.int .i64 x3, .int .i64 y3] 25)).alloc (.cells #[.int .i64 x4, .int .i64 y4] 25)).alloc (.cells #[.bool false, .slice none 0 0, .bool false, .slice none 0 0] 32)).alloc (.cells #[.bool false, .slice none 0 0, .bool false, .slice none 0 0] 32)).heap.size = w.heap.size + 1 + 1 + 1 + 1 + 1 + 1 := by simp
  have K : ((((((w.alloc (.cells #[.int .i64 x1, .int .i64 y1] 25)).alloc (.cells #[.int .i64 x2, .int .i64 y2] 25)).alloc (.cells #[.int .i64 x3, .int .i64 y3] 25)).alloc (.cells #[.int .i64 x4, .int .i64 y4] 25)).alloc (.cells #[.bool false, .slice none 0 0, .bool false, .slice none 0 0] 32)).alloc (.cells #[.bool false, .slice none 0 0, .bool false, .slice none 0 0] 32)).cell? ⟨w.heap.size, 0, none⟩ = some (.int .i64 x1) ∧ ((((((w.alloc (.cells #[.int .i64 x1, .int .i64 y1] 25)).alloc (.cells #[.int .i64 x2, .int .i64 y2] 25)).alloc (.cells #[.int .i64 x3, .int .i64 y3] 25)).alloc (.cells #[.int .i64 x4, .int .i64 y4] 25)).alloc (.cells #[.bool false, .slice none 0 0, .bool false, .slice none 0 0] 32)).alloc (.cells #[.bool false, .slice none 0 0, .bool false, .slice none 0 0] 32)).cell? ⟨w.heap.size, 1, none⟩ = some (.int .i64 y1) ∧ ((((((w.alloc (.cells #[.int .i64 x1, .int .i64 y1] 25)).alloc (.cells #[.int .i64 x2, .int .i64 y2] 25)).alloc (.cells #[.int .i64 x3, .int .i64 y3] 25)).alloc (.cells #[.int .i64 x4, .int .i64 y4] 25)).alloc (.cells #[.bool false, .slice none 0 0, .bool false, .slice none 0 0] 32)).alloc (.cells #[.bool false, .slice none 0 0, .bool false, .slice none 0 0] 32)).cell? ⟨w.heap.size + 1, 0, none⟩ = some (.int .i64 x2) ∧ ((((((w.alloc (.cells #[.int .i64 x1, .int .i64 y1] 25)).alloc (.cells #[.int .i64 x2, .int .i64 y2] 25)).alloc (.cells #[.int .i64 x3, .int .i64 y3] 25)).alloc (.cells #[.int .i64 x4, .int .i64 y4] 25)).alloc (.cells #[.bool false, .slice none 0 0, .bool false, .slice none 0 0] 32)).alloc (.cells #[.bool false, .slice none 0 0, .bool false, .slice none 0 0] 32)).cell? ⟨w.heap.size + 1, 1, none⟩ = some (.int .i64 y2) ∧ ((((((w.alloc (.cells #[.int .i64 x1, .int .i64 y1] 25)).alloc (.cells #[.int .i64 x2, .int .i64 y2] 25)).alloc (.cells #[.int .i64 x3, .int .i64 y3] 25)).alloc (.cells #[.int .i64 x4, .int .i64 y4] 25)).alloc (.cells #[.bool false, .slice none 0 0, .bool false, .slice none 0 0] 32)).alloc (.cells #[.bool false, .slice none 0 0, .bool false, .slice none 0 0] 32)).cell? ⟨w.heap.size + 1 + 1, 0, none⟩ = some (.int .i64 x3) ∧ ((((((w.alloc (.cells #[.int .i64 x1, .int .i64 y1] 25)).alloc (.cells #[.int .i64 x2, .int .i64 y2] 25)).alloc (.cells #[.int .i64 x3, .int .i64 y3] 25)).alloc (.cells #[.int .i64 x4, .int .i64 y4] 25)).alloc (.cells #[.bool false, .slice none 0 0, .bool false, .slice none 0 0] 32)).alloc (.cells #[.bool false, .slice none 0 0, .bool false, .slice none 0 0] 32)).cell? ⟨w.heap.size + 1 + 1, 1, none⟩ = some (.int .i64 y3) ∧ ((((((w.alloc (.cells #[.int .i64 x1, .int .i64 y1] 25)).alloc (.cells #[.int .i64 x2, .int .i64 y2] 25)).alloc (.cells #[.int .i64 x3, .int .i64 y3] 25)).alloc (.cells #[.int .i64 x4, .int .i64 y4] 25)).alloc (.cells #[.bool false, .slice none 0 0, .bool false, .slice none 0 0] 32)).alloc (.cells #[.bool false, .slice none 0 0, .bool false, .slice none 0 0] 32)).cell? ⟨w.heap.size + 1 + 1 + 1, 0, none⟩ = some (.int .i64 x4) ∧ ((((((w.alloc (.cells #[.int .i64 x1, .int .i64 y1] 25)).alloc (.cells #[.int .i64 x2, .int .i64 y2] 25)).alloc (.cells #[.int .i64 x3, .int .i64 y3] 25)).alloc (.cells #[.int .i64 x4, .int .i64 y4] 25)).alloc (.cells #[.bool false, .slice none 0 0, .bool false, .slice none 0 0] 32)).alloc (.cells #[.bool false, .slice none 0 0, .bool false, .slice none 0 0] 32)).cell? ⟨w.heap.size + 1 + 1 + 1, 1, none⟩ = some (.int .i64 y4) := by refine ⟨?_, ?_, ?_, ?_, ?_, ?_, ?_, ?_⟩ <;> simp [go_sem]
  go_enter Try.func18, Try.ntmps18
  go_upto_region 1 with fail
  generalize ((((((w.alloc (.cells #[.int .i64 x1, .int .i64 y1] 25)).alloc (.cells #[.int .i64 x2, .int .i64 y2] 25)).alloc (.cells #[.int .i64 x3, .int .i64 y3] 25)).alloc (.cells #[.int .i64 x4, .int .i64 y4] 25)).alloc (.cells #[.bool false, .slice none 0 0, .bool false, .slice none 0 0] 32)).alloc (.cells #[.bool false, .slice none 0 0, .bool false, .slice none 0 0] 32)) = W0 at *
  obtain ⟨k0, k1, k2, k3, k4, k5, k6, k7⟩ := K
  go_cut [10, 11] (fun s10 s11 W => ∃ p q, s10 = .pointer (some ⟨p, 0, none⟩) ∧ s11 = .pointer (some ⟨q, 0, none⟩) ∧ Box2 W0.heap.size W p (.int .i64 (x2 - x1)) (.int .i64 (y2 - y1)) ∧ Box2 W0.heap.size W q (.int .i64 (x4 - x3)) (.int .i64 (y4 - y3)) ∧ Below W0.heap.size W0 W)
  case first =>
    refine wp_region_held_drew (S := Below W0.heap.size W0) (by kernel_rfl) ((Below.refl _ _).drew) (fun hHeld => ?_)
    have N : Below W0.heap.size W0 W0.drew := hHeld
    revert hHeld N
    generalize W0.drew = ww0
    intro hHeld N
    refine takeQ (i := 0) (gt rfl) (by kernel_rfl) (fun _ _ _ h => h) (by rfl) (by intro wq hSw; have q0 := bat hSw k0; have q1 := bat hSw k1; have q2 := bat hSw k2; have q3 := bat hSw k3; have q4 := bat hSw k4; have q5 := bat hSw k5; have q6 := bat hSw k6; have q7 := bat hSw k7; go_simp <;> with_reducible rfl) (by assumption) ?_
    try simp only [Act.put, sA, sB, sC]
    refine takeQ (i := 1) (gt rfl) (by kernel_rfl) (fun _ _ _ h => h) (by rfl) (by intro wq hSw; have q0 := bat hSw k0; have q1 := bat hSw k1; have q2 := bat hSw k2; have q3 := bat hSw k3; have q4 := bat hSw k4; have q5 := bat hSw k5; have q6 := bat hSw k6; have q7 := bat hSw k7; go_simp <;> with_reducible rfl) (by assumption) ?_
    try simp only [Act.put, sA, sB, sC]
    refine takeQ (i := 3) (gt rfl) (by kernel_rfl) (fun _ _ _ h => h) (by rfl) (by intro wq hSw; have q0 := bat hSw k0; have q1 := bat hSw k1; have q2 := bat hSw k2; have q3 := bat hSw k3; have q4 := bat hSw k4; have q5 := bat hSw k5; have q6 := bat hSw k6; have q7 := bat hSw k7; go_simp <;> with_reducible rfl) (by assumption) ?_
    try simp only [Act.put, sA, sB, sC]
    refine takeQ (i := 4) (gt rfl) (by kernel_rfl) (fun _ _ _ h => h) (by rfl) (by intro wq hSw; have q0 := bat hSw k0; have q1 := bat hSw k1; have q2 := bat hSw k2; have q3 := bat hSw k3; have q4 := bat hSw k4; have q5 := bat hSw k5; have q6 := bat hSw k6; have q7 := bat hSw k7; go_simp <;> with_reducible rfl) (by assumption) ?_
    try simp only [Act.put, sA, sB, sC]
    refine wpAnyH_ready (rs := [2, 6, 7]) (by kernel_rfl) (by simp) (AllReadyH.cons (gt rfl) (fun K hK => ?_) (AllReadyH.cons (gt rfl) (fun K hK => ?_) (AllReadyH.cons (gt rfl) (fun K hK => ?_) AllReadyH.nil)))
    · as_aux_lemma =>
        go_simp
        refine (way_any x1 y1 x2 y2 _ c1 d1 c2 d2).mono ?_
        rintro e1 ww1 ⟨rfl, hb⟩
        replace N := N.trans (hb.mono N.size)
        clear hb
        refine hK.out _ _ N (fun hHeld => ?_)
        clear hK K
        try simp only [Act.put, sA, sB, sC]
        refine wpAnyH_ready (rs := [5, 6, 7]) (by kernel_rfl) (by simp) (AllReadyH.cons (gt rfl) (fun K hK => ?_) (AllReadyH.cons (gt rfl) (fun K hK => ?_) (AllReadyH.cons (gt rfl) (fun K hK => ?_) AllReadyH.nil)))
        · as_aux_lemma =>
            go_simp
            refine (way_any x3 y3 x4 y4 _ c3 d3 c4 d4).mono ?_
            rintro e1 ww2 ⟨rfl, hb⟩
            replace N := N.trans (hb.mono N.size)
            clear hb
            refine hK.out _ _ N (fun hHeld => ?_)
            clear hK K
            try simp only [Act.put, sA, sB, sC]
            refine wpAnyH_ready (rs := [6, 7]) (by kernel_rfl) (by simp) (AllReadyH.cons (gt rfl) (fun K hK => ?_) (AllReadyH.cons (gt rfl) (fun K hK => ?_) AllReadyH.nil))
            · skip
              go_simp
              have kP := Box2.new ww2 N.size (.int .i64 0) (.int .i64 0) 25
              have hb := below1 ww2 (.cells #[.int .i64 0, .int .i64 0] 25)
              replace N := N.trans (hb.mono N.size)
              clear hb
              generalize ww2.alloc (.cells #[.int .i64 0, .int .i64 0] 25) = ww3 at *
              refine hK.out _ _ N (fun hHeld => ?_)
              clear hK K
              try simp only [Act.put, sA, sB, sC]
              refine wpAnyH_ready (rs := [7]) (by kernel_rfl) (by simp) (AllReadyH.cons (gt rfl) (fun K hK => ?_) AllReadyH.nil)
              go_simp
              have kQ := Box2.new ww3 N.size (.int .i64 0) (.int .i64 0) 25
              have hb := below1 ww3 (.cells #[.int .i64 0, .int .i64 0] 25)
              have ne_kQ_kP := Nat.ne_of_gt kP.lt
              have ne_kP_kQ := ne_kQ_kP.symm
              replace kP := kP.below hb
              replace N := N.trans (hb.mono N.size)
              clear hb
              generalize ww3.alloc (.cells #[.int .i64 0, .int .i64 0] 25) = ww4 at *
              refine hK.out _ _ N (fun hHeld => ?_)
              clear hK K
              try simp only [Act.put, sA, sB, sC]
              refine wpAnyH_ready (rs := [8]) (by kernel_rfl) (by simp) (AllReadyH.cons (gt rfl) (fun K hK => ?_) AllReadyH.nil)
              have z0 := kP.c0
              have z1 := kP.c1
              have zf := kP.fr
              go_simp
              clear z0 z1 zf
              replace N := Box2.chain N kP (.int .i64 (x2 - x1)) (.int .i64 (y2 - y1))
              replace kQ := kQ.old ne_kQ_kP (.int .i64 (x2 - x1)) (.int .i64 (y2 - y1))
              replace kP := kP.put (.int .i64 (x2 - x1)) (.int .i64 (y2 - y1))
              refine hK.out _ _ N (fun hHeld => ?_)
              clear hK K
              try simp only [Act.put, sA, sB, sC]
              refine wpAnyH_ready (rs := [9]) (by kernel_rfl) (by simp) (AllReadyH.cons (gt rfl) (fun K hK => ?_) AllReadyH.nil)
              have z0 := kQ.c0
              have z1 := kQ.c1
              have zf := kQ.fr
              go_simp
              clear z0 z1 zf
              replace N := Box2.chain N kQ (.int .i64 (x4 - x3)) (.int .i64 (y4 - y3))
              replace kP := kP.old ne_kP_kQ (.int .i64 (x4 - x3)) (.int .i64 (y4 - y3))
              replace kQ := kQ.put (.int .i64 (x4 - x3)) (.int .i64 (y4 - y3))
              refine hK.out _ _ N (fun hHeld => ?_)
              clear hK K
              try simp only [Act.put, sA, sB, sC]
              refine wpAnyH_done (by kernel_rfl) ?_ _
              go_wp2
              go_meet
              case rel => exact ⟨_, _, rfl, rfl, kP, kQ, N⟩
            · skip
              go_simp
              have kQ := Box2.new ww2 N.size (.int .i64 0) (.int .i64 0) 25
              have hb := below1 ww2 (.cells #[.int .i64 0, .int .i64 0] 25)
              replace N := N.trans (hb.mono N.size)
              clear hb
              generalize ww2.alloc (.cells #[.int .i64 0, .int .i64 0] 25) = ww7 at *
              refine hK.out _ _ N (fun hHeld => ?_)
              clear hK K
              try simp only [Act.put, sA, sB, sC]
              refine wpAnyH_ready (rs := [6]) (by kernel_rfl) (by simp) (AllReadyH.cons (gt rfl) (fun K hK => ?_) AllReadyH.nil)
              go_simp
              have kP := Box2.new ww7 N.size (.int .i64 0) (.int .i64 0) 25
              have hb := below1 ww7 (.cells #[.int .i64 0, .int .i64 0] 25)
              have ne_kP_kQ := Nat.ne_of_gt kQ.lt
              have ne_kQ_kP := ne_kP_kQ.symm
              replace kQ := kQ.below hb
              replace N := N.trans (hb.mono N.size)
              clear hb
              generalize ww7.alloc (.cells #[.int .i64 0, .int .i64 0] 25) = ww8 at *
              refine hK.out _ _ N (fun hHeld => ?_)
              clear hK K
              try simp only [Act.put, sA, sB, sC]
              refine wpAnyH_ready (rs := [8]) (by kernel_rfl) (by simp) (AllReadyH.cons (gt rfl) (fun K hK => ?_) AllReadyH.nil)
              have z0 := kP.c0
              have z1 := kP.c1
              have zf := kP.fr
              go_simp
              clear z0 z1 zf
              replace N := Box2.chain N kP (.int .i64 (x2 - x1)) (.int .i64 (y2 - y1))
              replace kQ := kQ.old ne_kQ_kP (.int .i64 (x2 - x1)) (.int .i64 (y2 - y1))
              replace kP := kP.put (.int .i64 (x2 - x1)) (.int .i64 (y2 - y1))
              refine hK.out _ _ N (fun hHeld => ?_)
              clear hK K
              try simp only [Act.put, sA, sB, sC]
              refine wpAnyH_ready (rs := [9]) (by kernel_rfl) (by simp) (AllReadyH.cons (gt rfl) (fun K hK => ?_) AllReadyH.nil)
              have z0 := kQ.c0
              have z1 := kQ.c1
              have zf := kQ.fr
              go_simp
              clear z0 z1 zf
              replace N := Box2.chain N kQ (.int .i64 (x4 - x3)) (.int .i64 (y4 - y3))
              replace kP := kP.old ne_kP_kQ (.int .i64 (x4 - x3)) (.int .i64 (y4 - y3))
              replace kQ := kQ.put (.int .i64 (x4 - x3)) (.int .i64 (y4 - y3))
              refine hK.out _ _ N (fun hHeld => ?_)
              clear hK K
              try simp only [Act.put, sA, sB, sC]
              refine wpAnyH_done (by kernel_rfl) ?_ _
              go_wp2
              go_meet
              case rel => exact ⟨_, _, rfl, rfl, kP, kQ, N⟩
        · as_aux_lemma =>
            go_simp
            have kP := Box2.new ww1 N.size (.int .i64 0) (.int .i64 0) 25
            have hb := below1 ww1 (.cells #[.int .i64 0, .int .i64 0] 25)
            replace N := N.trans (hb.mono N.size)
            clear hb
            generalize ww1.alloc (.cells #[.int .i64 0, .int .i64 0] 25) = ww11 at *
            refine hK.out _ _ N (fun hHeld => ?_)
            clear hK K
            try simp only [Act.put, sA, sB, sC]
            refine wpAnyH_ready (rs := [5, 7]) (by kernel_rfl) (by simp) (AllReadyH.cons (gt rfl) (fun K hK => ?_) (AllReadyH.cons (gt rfl) (fun K hK => ?_) AllReadyH.nil))
            · skip
              go_simp
              refine (way_any x3 y3 x4 y4 _ c3 d3 c4 d4).mono ?_
              rintro e1 ww12 ⟨rfl, hb⟩
              replace kP := kP.below hb
              replace N := N.trans (hb.mono N.size)
              clear hb
              refine hK.out _ _ N (fun hHeld => ?_)
              clear hK K
              try simp only [Act.put, sA, sB, sC]
              refine wpAnyH_ready (rs := [7]) (by kernel_rfl) (by simp) (AllReadyH.cons (gt rfl) (fun K hK => ?_) AllReadyH.nil)
              go_simp
              have kQ := Box2.new ww12 N.size (.int .i64 0) (.int .i64 0) 25
              have hb := below1 ww12 (.cells #[.int .i64 0, .int .i64 0] 25)
              have ne_kQ_kP := Nat.ne_of_gt kP.lt
              have ne_kP_kQ := ne_kQ_kP.symm
              replace kP := kP.below hb
              replace N := N.trans (hb.mono N.size)
              clear hb
              generalize ww12.alloc (.cells #[.int .i64 0, .int .i64 0] 25) = ww13 at *
              refine hK.out _ _ N (fun hHeld => ?_)
              clear hK K
              try simp only [Act.put, sA, sB, sC]
              refine wpAnyH_ready (rs := [8]) (by kernel_rfl) (by simp) (AllReadyH.cons (gt rfl) (fun K hK => ?_) AllReadyH.nil)
              have z0 := kP.c0
              have z1 := kP.c1
              have zf := kP.fr
              go_simp
              clear z0 z1 zf
              replace N := Box2.chain N kP (.int .i64 (x2 - x1)) (.int .i64 (y2 - y1))
              replace kQ := kQ.old ne_kQ_kP (.int .i64 (x2 - x1)) (.int .i64 (y2 - y1))
              replace kP := kP.put (.int .i64 (x2 - x1)) (.int .i64 (y2 - y1))
              refine hK.out _ _ N (fun hHeld => ?_)
              clear hK K
              try simp only [Act.put, sA, sB, sC]
              refine wpAnyH_ready (rs := [9]) (by kernel_rfl) (by simp) (AllReadyH.cons (gt rfl) (fun K hK => ?_) AllReadyH.nil)
              have z0 := kQ.c0
              have z1 := kQ.c1
              have zf := kQ.fr
              go_simp
              clear z0 z1 zf
              replace N := Box2.chain N kQ (.int .i64 (x4 - x3)) (.int .i64 (y4 - y3))
              replace kP := kP.old ne_kP_kQ (.int .i64 (x4 - x3)) (.int .i64 (y4 - y3))
              replace kQ := kQ.put (.int .i64 (x4 - x3)) (.int .i64 (y4 - y3))
              refine hK.out _ _ N (fun hHeld => ?_)
              clear hK K
              try simp only [Act.put, sA, sB, sC]
              refine wpAnyH_done (by kernel_rfl) ?_ _
              go_wp2
              go_meet
              case rel => exact ⟨_, _, rfl, rfl, kP, kQ, N⟩
            · skip
              go_simp
              have kQ := Box2.new ww11 N.size (.int .i64 0) (.int .i64 0) 25
              have hb := below1 ww11 (.cells #[.int .i64 0, .int .i64 0] 25)
              have ne_kQ_kP := Nat.ne_of_gt kP.lt
              have ne_kP_kQ := ne_kQ_kP.symm
              replace kP := kP.below hb
              replace N := N.trans (hb.mono N.size)
              clear hb
              generalize ww11.alloc (.cells #[.int .i64 0, .int .i64 0] 25) = ww16 at *
              refine hK.out _ _ N (fun hHeld => ?_)
              clear hK K
              try simp only [Act.put, sA, sB, sC]
              refine wpAnyH_ready (rs := [5]) (by kernel_rfl) (by simp) (AllReadyH.cons (gt rfl) (fun K hK => ?_) AllReadyH.nil)
              go_simp
              refine (way_any x3 y3 x4 y4 _ c3 d3 c4 d4).mono ?_
              rintro e1 ww17 ⟨rfl, hb⟩
              replace kP := kP.below hb
              replace kQ := kQ.below hb
              replace N := N.trans (hb.mono N.size)
              clear hb
              refine hK.out _ _ N (fun hHeld => ?_)
              clear hK K
              try simp only [Act.put, sA, sB, sC]
              refine wpAnyH_ready (rs := [8]) (by kernel_rfl) (by simp) (AllReadyH.cons (gt rfl) (fun K hK => ?_) AllReadyH.nil)
              have z0 := kP.c0
              have z1 := kP.c1
              have zf := kP.fr
              go_simp
              clear z0 z1 zf
              replace N := Box2.chain N kP (.int .i64 (x2 - x1)) (.int .i64 (y2 - y1))
              replace kQ := kQ.old ne_kQ_kP (.int .i64 (x2 - x1)) (.int .i64 (y2 - y1))
              replace kP := kP.put (.int .i64 (x2 - x1)) (.int .i64 (y2 - y1))
              refine hK.out _ _ N (fun hHeld => ?_)
              clear hK K
              try simp only [Act.put, sA, sB, sC]
              refine wpAnyH_ready (rs := [9]) (by kernel_rfl) (by simp) (AllReadyH.cons (gt rfl) (fun K hK => ?_) AllReadyH.nil)
              have z0 := kQ.c0
              have z1 := kQ.c1
              have zf := kQ.fr
              go_simp
              clear z0 z1 zf
              replace N := Box2.chain N kQ (.int .i64 (x4 - x3)) (.int .i64 (y4 - y3))
              replace kP := kP.old ne_kP_kQ (.int .i64 (x4 - x3)) (.int .i64 (y4 - y3))
              replace kQ := kQ.put (.int .i64 (x4 - x3)) (.int .i64 (y4 - y3))
              refine hK.out _ _ N (fun hHeld => ?_)
              clear hK K
              try simp only [Act.put, sA, sB, sC]
              refine wpAnyH_done (by kernel_rfl) ?_ _
              go_wp2
              go_meet
              case rel => exact ⟨_, _, rfl, rfl, kP, kQ, N⟩
        · as_aux_lemma =>
            go_simp
            have kQ := Box2.new ww1 N.size (.int .i64 0) (.int .i64 0) 25
            have hb := below1 ww1 (.cells #[.int .i64 0, .int .i64 0] 25)
            replace N := N.trans (hb.mono N.size)
            clear hb
            generalize ww1.alloc (.cells #[.int .i64 0, .int .i64 0] 25) = ww20 at *
            refine hK.out _ _ N (fun hHeld => ?_)
            clear hK K
            try simp only [Act.put, sA, sB, sC]
            refine wpAnyH_ready (rs := [5, 6]) (by kernel_rfl) (by simp) (AllReadyH.cons (gt rfl) (fun K hK => ?_) (AllReadyH.cons (gt rfl) (fun K hK => ?_) AllReadyH.nil))
            · skip
              go_simp
              refine (way_any x3 y3 x4 y4 _ c3 d3 c4 d4).mono ?_
              rintro e1 ww21 ⟨rfl, hb⟩
              replace kQ := kQ.below hb
              replace N := N.trans (hb.mono N.size)
              clear hb
              refine hK.out _ _ N (fun hHeld => ?_)
              clear hK K
              try simp only [Act.put, sA, sB, sC]
              refine wpAnyH_ready (rs := [6]) (by kernel_rfl) (by simp) (AllReadyH.cons (gt rfl) (fun K hK => ?_) AllReadyH.nil)
              go_simp
              have kP := Box2.new ww21 N.size (.int .i64 0) (.int .i64 0) 25
              have hb := below1 ww21 (.cells #[.int .i64 0, .int .i64 0] 25)
              have ne_kP_kQ := Nat.ne_of_gt kQ.lt
              have ne_kQ_kP := ne_kP_kQ.symm
              replace kQ := kQ.below hb
              replace N := N.trans (hb.mono N.size)
              clear hb
              generalize ww21.alloc (.cells #[.int .i64 0, .int .i64 0] 25) = ww22 at *
              refine hK.out _ _ N (fun hHeld => ?_)
              clear hK K
              try simp only [Act.put, sA, sB, sC]
              refine wpAnyH_ready (rs := [8]) (by kernel_rfl) (by simp) (AllReadyH.cons (gt rfl) (fun K hK => ?_) AllReadyH.nil)
              have z0 := kP.c0
              have z1 := kP.c1
              have zf := kP.fr
              go_simp
              clear z0 z1 zf
              replace N := Box2.chain N kP (.int .i64 (x2 - x1)) (.int .i64 (y2 - y1))
              replace kQ := kQ.old ne_kQ_kP (.int .i64 (x2 - x1)) (.int .i64 (y2 - y1))
              replace kP := kP.put (.int .i64 (x2 - x1)) (.int .i64 (y2 - y1))
              refine hK.out _ _ N (fun hHeld => ?_)
              clear hK K
              try simp only [Act.put, sA, sB, sC]
              refine wpAnyH_ready (rs := [9]) (by kernel_rfl) (by simp) (AllReadyH.cons (gt rfl) (fun K hK => ?_) AllReadyH.nil)
              have z0 := kQ.c0
              have z1 := kQ.c1
              have zf := kQ.fr
              go_simp
              clear z0 z1 zf
              replace N := Box2.chain N kQ (.int .i64 (x4 - x3)) (.int .i64 (y4 - y3))
              replace kP := kP.old ne_kP_kQ (.int .i64 (x4 - x3)) (.int .i64 (y4 - y3))
              replace kQ := kQ.put (.int .i64 (x4 - x3)) (.int .i64 (y4 - y3))
              refine hK.out _ _ N (fun hHeld => ?_)
              clear hK K
              try simp only [Act.put, sA, sB, sC]
              refine wpAnyH_done (by kernel_rfl) ?_ _
              go_wp2
              go_meet
              case rel => exact ⟨_, _, rfl, rfl, kP, kQ, N⟩
            · skip
              go_simp
              have kP := Box2.new ww20 N.size (.int .i64 0) (.int .i64 0) 25
              have hb := below1 ww20 (.cells #[.int .i64 0, .int .i64 0] 25)
              have ne_kP_kQ := Nat.ne_of_gt kQ.lt
              have ne_kQ_kP := ne_kP_kQ.symm
              replace kQ := kQ.below hb
              replace N := N.trans (hb.mono N.size)
              clear hb
              generalize ww20.alloc (.cells #[.int .i64 0, .int .i64 0] 25) = ww25 at *
              refine hK.out _ _ N (fun hHeld => ?_)
              clear hK K
              try simp only [Act.put, sA, sB, sC]
              refine wpAnyH_ready (rs := [5]) (by kernel_rfl) (by simp) (AllReadyH.cons (gt rfl) (fun K hK => ?_) AllReadyH.nil)
              go_simp
              refine (way_any x3 y3 x4 y4 _ c3 d3 c4 d4).mono ?_
              rintro e1 ww26 ⟨rfl, hb⟩
              replace kQ := kQ.below hb
              replace kP := kP.below hb
              replace N := N.trans (hb.mono N.size)
              clear hb
              refine hK.out _ _ N (fun hHeld => ?_)
              clear hK K
              try simp only [Act.put, sA, sB, sC]
              refine wpAnyH_ready (rs := [8]) (by kernel_rfl) (by simp) (AllReadyH.cons (gt rfl) (fun K hK => ?_) AllReadyH.nil)
              have z0 := kP.c0
              have z1 := kP.c1
              have zf := kP.fr
              go_simp
              clear z0 z1 zf
              replace N := Box2.chain N kP (.int .i64 (x2 - x1)) (.int .i64 (y2 - y1))
              replace kQ := kQ.old ne_kQ_kP (.int .i64 (x2 - x1)) (.int .i64 (y2 - y1))
              replace kP := kP.put (.int .i64 (x2 - x1)) (.int .i64 (y2 - y1))
              refine hK.out _ _ N (fun hHeld => ?_)
              clear hK K
              try simp only [Act.put, sA, sB, sC]
              refine wpAnyH_ready (rs := [9]) (by kernel_rfl) (by simp) (AllReadyH.cons (gt rfl) (fun K hK => ?_) AllReadyH.nil)
              have z0 := kQ.c0
              have z1 := kQ.c1
              have zf := kQ.fr
              go_simp
              clear z0 z1 zf
              replace N := Box2.chain N kQ (.int .i64 (x4 - x3)) (.int .i64 (y4 - y3))
              replace kP := kP.old ne_kP_kQ (.int .i64 (x4 - x3)) (.int .i64 (y4 - y3))
              replace kQ := kQ.put (.int .i64 (x4 - x3)) (.int .i64 (y4 - y3))
              refine hK.out _ _ N (fun hHeld => ?_)
              clear hK K
              try simp only [Act.put, sA, sB, sC]
              refine wpAnyH_done (by kernel_rfl) ?_ _
              go_wp2
              go_meet
              case rel => exact ⟨_, _, rfl, rfl, kP, kQ, N⟩
    · as_aux_lemma =>
        go_simp
        have kP := Box2.new ww0 N.size (.int .i64 0) (.int .i64 0) 25
        have hb := below1 ww0 (.cells #[.int .i64 0, .int .i64 0] 25)
        replace N := N.trans (hb.mono N.size)
        clear hb
        generalize ww0.alloc (.cells #[.int .i64 0, .int .i64 0] 25) = ww29 at *
        refine hK.out _ _ N (fun hHeld => ?_)
        clear hK K
        try simp only [Act.put, sA, sB, sC]
        refine wpAnyH_ready (rs := [2, 7]) (by kernel_rfl) (by simp) (AllReadyH.cons (gt rfl) (fun K hK => ?_) (AllReadyH.cons (gt rfl) (fun K hK => ?_) AllReadyH.nil))
        · skip
          go_simp
          refine (way_any x1 y1 x2 y2 _ c1 d1 c2 d2).mono ?_
          rintro e1 ww30 ⟨rfl, hb⟩
          replace kP := kP.below hb
          replace N := N.trans (hb.mono N.size)
          clear hb
          refine hK.out _ _ N (fun hHeld => ?_)
          clear hK K
          try simp only [Act.put, sA, sB, sC]
          refine wpAnyH_ready (rs := [5, 7]) (by kernel_rfl) (by simp) (AllReadyH.cons (gt rfl) (fun K hK => ?_) (AllReadyH.cons (gt rfl) (fun K hK => ?_) AllReadyH.nil))
          · skip
            go_simp
            refine (way_any x3 y3 x4 y4 _ c3 d3 c4 d4).mono ?_
            rintro e1 ww31 ⟨rfl, hb⟩
            replace kP := kP.below hb
            replace N := N.trans (hb.mono N.size)
            clear hb
            refine hK.out _ _ N (fun hHeld => ?_)
            clear hK K
            try simp only [Act.put, sA, sB, sC]
            refine wpAnyH_ready (rs := [7]) (by kernel_rfl) (by simp) (AllReadyH.cons (gt rfl) (fun K hK => ?_) AllReadyH.nil)
            go_simp
            have kQ := Box2.new ww31 N.size (.int .i64 0) (.int .i64 0) 25
            have hb := below1 ww31 (.cells #[.int .i64 0, .int .i64 0] 25)
            have ne_kQ_kP := Nat.ne_of_gt kP.lt
            have ne_kP_kQ := ne_kQ_kP.symm
            replace kP := kP.below hb
            replace N := N.trans (hb.mono N.size)
            clear hb
            generalize ww31.alloc (.cells #[.int .i64 0, .int .i64 0] 25) = ww32 at *
            refine hK.out _ _ N (fun hHeld => ?_)
            clear hK K
            try simp only [Act.put, sA, sB, sC]
            refine wpAnyH_ready (rs := [8]) (by kernel_rfl) (by simp) (AllReadyH.cons (gt rfl) (fun K hK => ?_) AllReadyH.nil)
            have z0 := kP.c0
            have z1 := kP.c1
            have zf := kP.fr
            go_simp
            clear z0 z1 zf
            replace N := Box2.chain N kP (.int .i64 (x2 - x1)) (.int .i64 (y2 - y1))
            replace kQ := kQ.old ne_kQ_kP (.int .i64 (x2 - x1)) (.int .i64 (y2 - y1))
            replace kP := kP.put (.int .i64 (x2 - x1)) (.int .i64 (y2 - y1))
            refine hK.out _ _ N (fun hHeld => ?_)
            clear hK K
            try simp only [Act.put, sA, sB, sC]
            refine wpAnyH_ready (rs := [9]) (by kernel_rfl) (by simp) (AllReadyH.cons (gt rfl) (fun K hK => ?_) AllReadyH.nil)
            have z0 := kQ.c0
            have z1 := kQ.c1
            have zf := kQ.fr
            go_simp
            clear z0 z1 zf
            replace N := Box2.chain N kQ (.int .i64 (x4 - x3)) (.int .i64 (y4 - y3))
            replace kP := kP.old ne_kP_kQ (.int .i64 (x4 - x3)) (.int .i64 (y4 - y3))
            replace kQ := kQ.put (.int .i64 (x4 - x3)) (.int .i64 (y4 - y3))
            refine hK.out _ _ N (fun hHeld => ?_)
            clear hK K
            try simp only [Act.put, sA, sB, sC]
            refine wpAnyH_done (by kernel_rfl) ?_ _
            go_wp2
            go_meet
            case rel => exact ⟨_, _, rfl, rfl, kP, kQ, N⟩
          · skip
            go_simp
            have kQ := Box2.new ww30 N.size (.int .i64 0) (.int .i64 0) 25
            have hb := below1 ww30 (.cells #[.int .i64 0, .int .i64 0] 25)
            have ne_kQ_kP := Nat.ne_of_gt kP.lt
            have ne_kP_kQ := ne_kQ_kP.symm
            replace kP := kP.below hb
            replace N := N.trans (hb.mono N.size)
            clear hb
            generalize ww30.alloc (.cells #[.int .i64 0, .int .i64 0] 25) = ww35 at *
            refine hK.out _ _ N (fun hHeld => ?_)
            clear hK K
            try simp only [Act.put, sA, sB, sC]
            refine wpAnyH_ready (rs := [5]) (by kernel_rfl) (by simp) (AllReadyH.cons (gt rfl) (fun K hK => ?_) AllReadyH.nil)
            go_simp
            refine (way_any x3 y3 x4 y4 _ c3 d3 c4 d4).mono ?_
            rintro e1 ww36 ⟨rfl, hb⟩
            replace kP := kP.below hb
            replace kQ := kQ.below hb
            replace N := N.trans (hb.mono N.size)
            clear hb
            refine hK.out _ _ N (fun hHeld => ?_)
            clear hK K
            try simp only [Act.put, sA, sB, sC]
            refine wpAnyH_ready (rs := [8]) (by kernel_rfl) (by simp) (AllReadyH.cons (gt rfl) (fun K hK => ?_) AllReadyH.nil)
            have z0 := kP.c0
            have z1 := kP.c1
            have zf := kP.fr
            go_simp
            clear z0 z1 zf
            replace N := Box2.chain N kP (.int .i64 (x2 - x1)) (.int .i64 (y2 - y1))
            replace kQ := kQ.old ne_kQ_kP (.int .i64 (x2 - x1)) (.int .i64 (y2 - y1))
            replace kP := kP.put (.int .i64 (x2 - x1)) (.int .i64 (y2 - y1))
            refine hK.out _ _ N (fun hHeld => ?_)
            clear hK K
            try simp only [Act.put, sA, sB, sC]
            refine wpAnyH_ready (rs := [9]) (by kernel_rfl) (by simp) (AllReadyH.cons (gt rfl) (fun K hK => ?_) AllReadyH.nil)
            have z0 := kQ.c0
            have z1 := kQ.c1
            have zf := kQ.fr
            go_simp
            clear z0 z1 zf
            replace N := Box2.chain N kQ (.int .i64 (x4 - x3)) (.int .i64 (y4 - y3))
            replace kP := kP.old ne_kP_kQ (.int .i64 (x4 - x3)) (.int .i64 (y4 - y3))
            replace kQ := kQ.put (.int .i64 (x4 - x3)) (.int .i64 (y4 - y3))
            refine hK.out _ _ N (fun hHeld => ?_)
            clear hK K
            try simp only [Act.put, sA, sB, sC]
            refine wpAnyH_done (by kernel_rfl) ?_ _
            go_wp2
            go_meet
            case rel => exact ⟨_, _, rfl, rfl, kP, kQ, N⟩
        · skip
          go_simp
          have kQ := Box2.new ww29 N.size (.int .i64 0) (.int .i64 0) 25
          have hb := below1 ww29 (.cells #[.int .i64 0, .int .i64 0] 25)
          have ne_kQ_kP := Nat.ne_of_gt kP.lt
          have ne_kP_kQ := ne_kQ_kP.symm
          replace kP := kP.below hb
          replace N := N.trans (hb.mono N.size)
          clear hb
          generalize ww29.alloc (.cells #[.int .i64 0, .int .i64 0] 25) = ww39 at *
          refine hK.out _ _ N (fun hHeld => ?_)
          clear hK K
          try simp only [Act.put, sA, sB, sC]
          refine wpAnyH_ready (rs := [2]) (by kernel_rfl) (by simp) (AllReadyH.cons (gt rfl) (fun K hK => ?_) AllReadyH.nil)
          go_simp
          refine (way_any x1 y1 x2 y2 _ c1 d1 c2 d2).mono ?_
          rintro e1 ww40 ⟨rfl, hb⟩
          replace kP := kP.below hb
          replace kQ := kQ.below hb
          replace N := N.trans (hb.mono N.size)
          clear hb
          refine hK.out _ _ N (fun hHeld => ?_)
          clear hK K
          try simp only [Act.put, sA, sB, sC]
          refine wpAnyH_ready (rs := [5]) (by kernel_rfl) (by simp) (AllReadyH.cons (gt rfl) (fun K hK => ?_) AllReadyH.nil)
          go_simp
          refine (way_any x3 y3 x4 y4 _ c3 d3 c4 d4).mono ?_
          rintro e1 ww41 ⟨rfl, hb⟩
          replace kP := kP.below hb
          replace kQ := kQ.below hb
          replace N := N.trans (hb.mono N.size)
          clear hb
          refine hK.out _ _ N (fun hHeld => ?_)
          clear hK K
          try simp only [Act.put, sA, sB, sC]
          refine wpAnyH_ready (rs := [8]) (by kernel_rfl) (by simp) (AllReadyH.cons (gt rfl) (fun K hK => ?_) AllReadyH.nil)
          have z0 := kP.c0
          have z1 := kP.c1
          have zf := kP.fr
          go_simp
          clear z0 z1 zf
          replace N := Box2.chain N kP (.int .i64 (x2 - x1)) (.int .i64 (y2 - y1))
          replace kQ := kQ.old ne_kQ_kP (.int .i64 (x2 - x1)) (.int .i64 (y2 - y1))
          replace kP := kP.put (.int .i64 (x2 - x1)) (.int .i64 (y2 - y1))
          refine hK.out _ _ N (fun hHeld => ?_)
          clear hK K
          try simp only [Act.put, sA, sB, sC]
          refine wpAnyH_ready (rs := [9]) (by kernel_rfl) (by simp) (AllReadyH.cons (gt rfl) (fun K hK => ?_) AllReadyH.nil)
          have z0 := kQ.c0
          have z1 := kQ.c1
          have zf := kQ.fr
          go_simp
          clear z0 z1 zf
          replace N := Box2.chain N kQ (.int .i64 (x4 - x3)) (.int .i64 (y4 - y3))
          replace kP := kP.old ne_kP_kQ (.int .i64 (x4 - x3)) (.int .i64 (y4 - y3))
          replace kQ := kQ.put (.int .i64 (x4 - x3)) (.int .i64 (y4 - y3))
          refine hK.out _ _ N (fun hHeld => ?_)
          clear hK K
          try simp only [Act.put, sA, sB, sC]
          refine wpAnyH_done (by kernel_rfl) ?_ _
          go_wp2
          go_meet
          case rel => exact ⟨_, _, rfl, rfl, kP, kQ, N⟩
    · as_aux_lemma =>
        go_simp
        have kQ := Box2.new ww0 N.size (.int .i64 0) (.int .i64 0) 25
        have hb := below1 ww0 (.cells #[.int .i64 0, .int .i64 0] 25)
        replace N := N.trans (hb.mono N.size)
        clear hb
        generalize ww0.alloc (.cells #[.int .i64 0, .int .i64 0] 25) = ww44 at *
        refine hK.out _ _ N (fun hHeld => ?_)
        clear hK K
        try simp only [Act.put, sA, sB, sC]
        refine wpAnyH_ready (rs := [2, 6]) (by kernel_rfl) (by simp) (AllReadyH.cons (gt rfl) (fun K hK => ?_) (AllReadyH.cons (gt rfl) (fun K hK => ?_) AllReadyH.nil))
        · skip
          go_simp
          refine (way_any x1 y1 x2 y2 _ c1 d1 c2 d2).mono ?_
          rintro e1 ww45 ⟨rfl, hb⟩
          replace kQ := kQ.below hb
          replace N := N.trans (hb.mono N.size)
          clear hb
          refine hK.out _ _ N (fun hHeld => ?_)
          clear hK K
          try simp only [Act.put, sA, sB, sC]
          refine wpAnyH_ready (rs := [5, 6]) (by kernel_rfl) (by simp) (AllReadyH.cons (gt rfl) (fun K hK => ?_) (AllReadyH.cons (gt rfl) (fun K hK => ?_) AllReadyH.nil))
          · skip
            go_simp
            refine (way_any x3 y3 x4 y4 _ c3 d3 c4 d4).mono ?_
            rintro e1 ww46 ⟨rfl, hb⟩
            replace kQ := kQ.below hb
            replace N := N.trans (hb.mono N.size)
            clear hb
            refine hK.out _ _ N (fun hHeld => ?_)
            clear hK K
            try simp only [Act.put, sA, sB, sC]
            refine wpAnyH_ready (rs := [6]) (by kernel_rfl) (by simp) (AllReadyH.cons (gt rfl) (fun K hK => ?_) AllReadyH.nil)
            go_simp
            have kP := Box2.new ww46 N.size (.int .i64 0) (.int .i64 0) 25
            have hb := below1 ww46 (.cells #[.int .i64 0, .int .i64 0] 25)
            have ne_kP_kQ := Nat.ne_of_gt kQ.lt
            have ne_kQ_kP := ne_kP_kQ.symm
            replace kQ := kQ.below hb
            replace N := N.trans (hb.mono N.size)
            clear hb
            generalize ww46.alloc (.cells #[.int .i64 0, .int .i64 0] 25) = ww47 at *
            refine hK.out _ _ N (fun hHeld => ?_)
            clear hK K
            try simp only [Act.put, sA, sB, sC]
            refine wpAnyH_ready (rs := [8]) (by kernel_rfl) (by simp) (AllReadyH.cons (gt rfl) (fun K hK => ?_) AllReadyH.nil)
            have z0 := kP.c0
            have z1 := kP.c1
            have zf := kP.fr
            go_simp
            clear z0 z1 zf
            replace N := Box2.chain N kP (.int .i64 (x2 - x1)) (.int .i64 (y2 - y1))
            replace kQ := kQ.old ne_kQ_kP (.int .i64 (x2 - x1)) (.int .i64 (y2 - y1))
            replace kP := kP.put (.int .i64 (x2 - x1)) (.int .i64 (y2 - y1))
            refine hK.out _ _ N (fun hHeld => ?_)
            clear hK K
            try simp only [Act.put, sA, sB, sC]
            refine wpAnyH_ready (rs := [9]) (by kernel_rfl) (by simp) (AllReadyH.cons (gt rfl) (fun K hK => ?_) AllReadyH.nil)
            have z0 := kQ.c0
            have z1 := kQ.c1
            have zf := kQ.fr
            go_simp
            clear z0 z1 zf
            replace N := Box2.chain N kQ (.int .i64 (x4 - x3)) (.int .i64 (y4 - y3))
            replace kP := kP.old ne_kP_kQ (.int .i64 (x4 - x3)) (.int .i64 (y4 - y3))
            replace kQ := kQ.put (.int .i64 (x4 - x3)) (.int .i64 (y4 - y3))
            refine hK.out _ _ N (fun hHeld => ?_)
            clear hK K
            try simp only [Act.put, sA, sB, sC]
            refine wpAnyH_done (by kernel_rfl) ?_ _
            go_wp2
            go_meet
            case rel => exact ⟨_, _, rfl, rfl, kP, kQ, N⟩
          · skip
            go_simp
            have kP := Box2.new ww45 N.size (.int .i64 0) (.int .i64 0) 25
            have hb := below1 ww45 (.cells #[.int .i64 0, .int .i64 0] 25)
            have ne_kP_kQ := Nat.ne_of_gt kQ.lt
            have ne_kQ_kP := ne_kP_kQ.symm
            replace kQ := kQ.below hb
            replace N := N.trans (hb.mono N.size)
            clear hb
            generalize ww45.alloc (.cells #[.int .i64 0, .int .i64 0] 25) = ww50 at *
            refine hK.out _ _ N (fun hHeld => ?_)
            clear hK K
            try simp only [Act.put, sA, sB, sC]
            refine wpAnyH_ready (rs := [5]) (by kernel_rfl) (by simp) (AllReadyH.cons (gt rfl) (fun K hK => ?_) AllReadyH.nil)
            go_simp
            refine (way_any x3 y3 x4 y4 _ c3 d3 c4 d4).mono ?_
            rintro e1 ww51 ⟨rfl, hb⟩
            replace kQ := kQ.below hb
            replace kP := kP.below hb
            replace N := N.trans (hb.mono N.size)
            clear hb
            refine hK.out _ _ N (fun hHeld => ?_)
            clear hK K
            try simp only [Act.put, sA, sB, sC]
            refine wpAnyH_ready (rs := [8]) (by kernel_rfl) (by simp) (AllReadyH.cons (gt rfl) (fun K hK => ?_) AllReadyH.nil)
            have z0 := kP.c0
            have z1 := kP.c1
            have zf := kP.fr
            go_simp
            clear z0 z1 zf
            replace N := Box2.chain N kP (.int .i64 (x2 - x1)) (.int .i64 (y2 - y1))
            replace kQ := kQ.old ne_kQ_kP (.int .i64 (x2 - x1)) (.int .i64 (y2 - y1))
            replace kP := kP.put (.int .i64 (x2 - x1)) (.int .i64 (y2 - y1))
            refine hK.out _ _ N (fun hHeld => ?_)
            clear hK K
            try simp only [Act.put, sA, sB, sC]
            refine wpAnyH_ready (rs := [9]) (by kernel_rfl) (by simp) (AllReadyH.cons (gt rfl) (fun K hK => ?_) AllReadyH.nil)
            have z0 := kQ.c0
            have z1 := kQ.c1
            have zf := kQ.fr
            go_simp
            clear z0 z1 zf
            replace N := Box2.chain N kQ (.int .i64 (x4 - x3)) (.int .i64 (y4 - y3))
            replace kP := kP.old ne_kP_kQ (.int .i64 (x4 - x3)) (.int .i64 (y4 - y3))
            replace kQ := kQ.put (.int .i64 (x4 - x3)) (.int .i64 (y4 - y3))
            refine hK.out _ _ N (fun hHeld => ?_)
            clear hK K
            try simp only [Act.put, sA, sB, sC]
            refine wpAnyH_done (by kernel_rfl) ?_ _
            go_wp2
            go_meet
            case rel => exact ⟨_, _, rfl, rfl, kP, kQ, N⟩
        · skip
          go_simp
          have kP := Box2.new ww44 N.size (.int .i64 0) (.int .i64 0) 25
          have hb := below1 ww44 (.cells #[.int .i64 0, .int .i64 0] 25)
          have ne_kP_kQ := Nat.ne_of_gt kQ.lt
          have ne_kQ_kP := ne_kP_kQ.symm
          replace kQ := kQ.below hb
          replace N := N.trans (hb.mono N.size)
          clear hb
          generalize ww44.alloc (.cells #[.int .i64 0, .int .i64 0] 25) = ww54 at *
          refine hK.out _ _ N (fun hHeld => ?_)
          clear hK K
          try simp only [Act.put, sA, sB, sC]
          refine wpAnyH_ready (rs := [2]) (by kernel_rfl) (by simp) (AllReadyH.cons (gt rfl) (fun K hK => ?_) AllReadyH.nil)
          go_simp
          refine (way_any x1 y1 x2 y2 _ c1 d1 c2 d2).mono ?_
          rintro e1 ww55 ⟨rfl, hb⟩
          replace kQ := kQ.below hb
          replace kP := kP.below hb
          replace N := N.trans (hb.mono N.size)
          clear hb
          refine hK.out _ _ N (fun hHeld => ?_)
          clear hK K
          try simp only [Act.put, sA, sB, sC]
          refine wpAnyH_ready (rs := [5]) (by kernel_rfl) (by simp) (AllReadyH.cons (gt rfl) (fun K hK => ?_) AllReadyH.nil)
          go_simp
          refine (way_any x3 y3 x4 y4 _ c3 d3 c4 d4).mono ?_
          rintro e1 ww56 ⟨rfl, hb⟩
          replace kQ := kQ.below hb
          replace kP := kP.below hb
          replace N := N.trans (hb.mono N.size)
          clear hb
          refine hK.out _ _ N (fun hHeld => ?_)
          clear hK K
          try simp only [Act.put, sA, sB, sC]
          refine wpAnyH_ready (rs := [8]) (by kernel_rfl) (by simp) (AllReadyH.cons (gt rfl) (fun K hK => ?_) AllReadyH.nil)
          have z0 := kP.c0
          have z1 := kP.c1
          have zf := kP.fr
          go_simp
          clear z0 z1 zf
          replace N := Box2.chain N kP (.int .i64 (x2 - x1)) (.int .i64 (y2 - y1))
          replace kQ := kQ.old ne_kQ_kP (.int .i64 (x2 - x1)) (.int .i64 (y2 - y1))
          replace kP := kP.put (.int .i64 (x2 - x1)) (.int .i64 (y2 - y1))
          refine hK.out _ _ N (fun hHeld => ?_)
          clear hK K
          try simp only [Act.put, sA, sB, sC]
          refine wpAnyH_ready (rs := [9]) (by kernel_rfl) (by simp) (AllReadyH.cons (gt rfl) (fun K hK => ?_) AllReadyH.nil)
          have z0 := kQ.c0
          have z1 := kQ.c1
          have zf := kQ.fr
          go_simp
          clear z0 z1 zf
          replace N := Box2.chain N kQ (.int .i64 (x4 - x3)) (.int .i64 (y4 - y3))
          replace kP := kP.old ne_kP_kQ (.int .i64 (x4 - x3)) (.int .i64 (y4 - y3))
          replace kQ := kQ.put (.int .i64 (x4 - x3)) (.int .i64 (y4 - y3))
          refine hK.out _ _ N (fun hHeld => ?_)
          clear hK K
          try simp only [Act.put, sA, sB, sC]
          refine wpAnyH_done (by kernel_rfl) ?_ _
          go_wp2
          go_meet
          case rel => exact ⟨_, _, rfl, rfl, kP, kQ, N⟩
  obtain ⟨p, q, rfl, rfl, VP, VQ, hb⟩ := hcut
  rename World => W1
  have Z1 := hb.size
  replace k0 := bat hb k0
  replace k1 := bat hb k1
  replace k2 := bat hb k2
  replace k3 := bat hb k3
  replace k4 := bat hb k4
  replace k5 := bat hb k5
  replace k6 := bat hb k6
  replace k7 := bat hb k7
  replace R1 := R1.below hb
  replace R2 := R2.below hb
  replace B := B.trans (hb.mono B.size)
  clear hb
  go_upto_region 2 with fail
  obtain ⟨j0, j1, _, _⟩ := id VP
  obtain ⟨m0, m1, _, _⟩ := id VQ
  obtain ⟨gp, Hgp⟩ : ∃ f, Hid (decide ((partW x1 y1 x3 y3 x4 y4) < 0) = f) := ⟨_, rfl⟩
  obtain ⟨ga, Hga⟩ : ∃ f, Hid (decide ((allW x1 y1 x2 y2 x3 y3 x4 y4) < 0) = f) := ⟨_, rfl⟩
  go_cut [12, 13] (fun s12 s13 W => ∃ p q a1 c1 ps a2 c2 qs, s12 = .pointer (some ⟨p, 0, none⟩) ∧ s13 = .pointer (some ⟨q, 0, none⟩) ∧ Box2 W1.heap.size W p (.bool gp) (.slice a1 ps.length c1) ∧ Box2 W1.heap.size W q (.bool ga) (.slice a2 qs.length c2) ∧ Own W1.heap.size W a1 c1 ps ∧ Own W1.heap.size W a2 c2 qs ∧ Hid (Nrm ps ∧ val ps = mg (partW x1 y1 x3 y3 x4 y4) ∧ Nrm qs ∧ val qs = mg (allW x1 y1 x2 y2 x3 y3 x4 y4)) ∧ Below W1.heap.size W1 W)
  case first =>
    refine wp_region_held_drew (S := Below W1.heap.size W1) (by kernel_rfl) ((Below.refl _ _).drew) (fun hHeld => ?_)
    have N : Below W1.heap.size W1 W1.drew := hHeld
    revert hHeld N
    generalize W1.drew = ww0
    intro hHeld N
    refine takeQ (i := 0) (gt rfl) (by kernel_rfl) (fun _ _ _ h => h) (by rfl) (by intro wq hSw; have q0 := bat hSw k0; have q1 := bat hSw k1; have q2 := bat hSw k2; have q3 := bat hSw k3; have q4 := bat hSw k4; have q5 := bat hSw k5; have q6 := bat hSw k6; have q7 := bat hSw k7; have q8 := bat hSw j0; have q9 := bat hSw j1; have q10 := bat hSw m0; have q11 := bat hSw m1; go_simp <;> with_reducible rfl) (by assumption) ?_
    try simp only [Act.put, sA, sB, sC]
    refine takeQ (i := 1) (gt rfl) (by kernel_rfl) (fun _ _ _ h => h) (by rfl) (by intro wq hSw; have q0 := bat hSw k0; have q1 := bat hSw k1; have q2 := bat hSw k2; have q3 := bat hSw k3; have q4 := bat hSw k4; have q5 := bat hSw k5; have q6 := bat hSw k6; have q7 := bat hSw k7; have q8 := bat hSw j0; have q9 := bat hSw j1; have q10 := bat hSw m0; have q11 := bat hSw m1; go_simp <;> with_reducible rfl) (by assumption) ?_
    try simp only [Act.put, sA, sB, sC]
    refine takeQ (i := 3) (gt rfl) (by kernel_rfl) (fun _ _ _ h => h) (by rfl) (by intro wq hSw; have q0 := bat hSw k0; have q1 := bat hSw k1; have q2 := bat hSw k2; have q3 := bat hSw k3; have q4 := bat hSw k4; have q5 := bat hSw k5; have q6 := bat hSw k6; have q7 := bat hSw k7; have q8 := bat hSw j0; have q9 := bat hSw j1; have q10 := bat hSw m0; have q11 := bat hSw m1; go_simp <;> with_reducible rfl) (by assumption) ?_
    try simp only [Act.put, sA, sB, sC]
    refine takeQ (i := 6) (gt rfl) (by kernel_rfl) (fun _ _ _ h => h) (by rfl) (by intro wq hSw; have q0 := bat hSw k0; have q1 := bat hSw k1; have q2 := bat hSw k2; have q3 := bat hSw k3; have q4 := bat hSw k4; have q5 := bat hSw k5; have q6 := bat hSw k6; have q7 := bat hSw k7; have q8 := bat hSw j0; have q9 := bat hSw j1; have q10 := bat hSw m0; have q11 := bat hSw m1; go_simp <;> with_reducible rfl) (by assumption) ?_
    try simp only [Act.put, sA, sB, sC]
    refine takeQ (i := 7) (gt rfl) (by kernel_rfl) (fun _ _ _ h => h) (by rfl) (by intro wq hSw; have q0 := bat hSw k0; have q1 := bat hSw k1; have q2 := bat hSw k2; have q3 := bat hSw k3; have q4 := bat hSw k4; have q5 := bat hSw k5; have q6 := bat hSw k6; have q7 := bat hSw k7; have q8 := bat hSw j0; have q9 := bat hSw j1; have q10 := bat hSw m0; have q11 := bat hSw m1; go_simp <;> with_reducible rfl) (by assumption) ?_
    try simp only [Act.put, sA, sB, sC]
    refine capture (fun wp hwp => ?_)
    have H5_lplq : ∀ (lp : Nat) (lq : Nat) (ua : Option Addr) (uc : Nat) (us : List Int) (va : Option Addr) (vc : Nat) (vs : List Int) (V : World), Box2 W1.heap.size V lp (.bool false) (.slice none 0 0) → Box2 W1.heap.size V lq (.bool false) (.slice none 0 0) → lp ≠ lq → Own W1.heap.size V ua uc us → Own W1.heap.size V va vc vs → some lp ≠ rowOf ua us → some lp ≠ rowOf va vs → some lq ≠ rowOf ua us → some lq ≠ rowOf va vs → Hid (Nrm us ∧ val us = mg (partW x1 y1 x3 y3 x4 y4)) → Hid (Nrm vs ∧ val vs = mg (allW x1 y1 x2 y2 x3 y3 x4 y4)) → Below W1.heap.size W1 V → wp 2 #[true, true, true, true, true, true, true, true, true, true, true, true, false, false] ⟨#[.agg #[.int .i64 x1, .int .i64 y1], .agg #[.int .i64 x2, .int .i64 y2], .agg #[.int .i64 x3, .int .i64 y3], .agg #[.int .i64 x4, .int .i64 y4], .pointer (some ⟨w.heap.size, 0, none⟩), .pointer (some ⟨w.heap.size + 1, 0, none⟩), .pointer (some ⟨w.heap.size + 1 + 1, 0, none⟩), .pointer (some ⟨w.heap.size + 1 + 1 + 1, 0, none⟩), .pointer (some ⟨w.heap.size + 1 + 1 + 1 + 1, 0, none⟩), .pointer (some ⟨w.heap.size + 1 + 1 + 1 + 1 + 1, 0, none⟩), .pointer (some ⟨p, 0, none⟩), .pointer (some ⟨q, 0, none⟩), .pointer (some ⟨lp, 0, none⟩), .pointer (some ⟨lq, 0, none⟩), u14, u15, u16, u17, u18, u19, .agg #[.int .i64 x1, .int .i64 y1], .agg #[.int .i64 x3, .int .i64 y3], .agg #[.int .i64 (x3 - x1), .int .i64 (y3 - y1)], .agg #[.int .i64 (x4 - x3), .int .i64 (y4 - y3)], .int .i64 (partW x1 y1 x3 y3 x4 y4), .agg #[.bool gp, .slice ua us.length uc], .agg #[.int .i64 (x2 - x1), .int .i64 (y2 - y1)], .agg #[.int .i64 (x4 - x3), .int .i64 (y4 - y3)], .int .i64 (allW x1 y1 x2 y2 x3 y3 x4 y4), .agg #[.bool ga, .slice va vs.length vc], u30, u31, u32, u33, u34, u35, u36, u37, u38, u39, u40, u41, u42, u43], []⟩ V := by
     skip
     intro lp lq ua uc us va vc vs V kP kQ n_lplq uo vo r_kP_uo r_kP_vo r_kQ_uo r_kQ_vo uH vH N
     have hHeld : Below W1.heap.size W1 V := N
     rw [hwp]
     have ne_kP_kQ := n_lplq
     have ne_kQ_kP := n_lplq.symm
     refine wpAnyH_ready (rs := [12]) (by kernel_rfl) (by simp) (AllReadyH.cons (gt rfl) (fun K hK => ?_) AllReadyH.nil)
     have z0 := kP.c0
     have z1 := kP.c1
     have zf := kP.fr
     go_simp
     clear z0 z1 zf
     replace N := Box2.chain N kP (.bool gp) (.slice ua us.length uc)
     replace kQ := kQ.old ne_kQ_kP (.bool gp) (.slice ua us.length uc)
     replace uo := uo.put2 r_kP_uo (.bool gp) (.slice ua us.length uc)
     replace vo := vo.put2 r_kP_vo (.bool gp) (.slice ua us.length uc)
     replace kP := kP.put (.bool gp) (.slice ua us.length uc)
     refine hK.out _ _ N (fun hHeld => ?_)
     clear hK K
     try simp only [Act.put, sA, sB, sC]
     generalize ((V.setCell ⟨lp, 0, none⟩ (.bool gp)).setCell ⟨lp, 1, none⟩ (.slice ua us.length uc)) = Vs0 at *
     refine wpAnyH_ready (rs := [13]) (by kernel_rfl) (by simp) (AllReadyH.cons (gt rfl) (fun K hK => ?_) AllReadyH.nil)
     have z0 := kQ.c0
     have z1 := kQ.c1
     have zf := kQ.fr
     go_simp
     clear z0 z1 zf
     replace N := Box2.chain N kQ (.bool ga) (.slice va vs.length vc)
     replace kP := kP.old ne_kP_kQ (.bool ga) (.slice va vs.length vc)
     replace uo := uo.put2 r_kQ_uo (.bool ga) (.slice va vs.length vc)
     replace vo := vo.put2 r_kQ_vo (.bool ga) (.slice va vs.length vc)
     replace kQ := kQ.put (.bool ga) (.slice va vs.length vc)
     refine hK.out _ _ N (fun hHeld => ?_)
     clear hK K
     try simp only [Act.put, sA, sB, sC]
     generalize ((Vs0.setCell ⟨lq, 0, none⟩ (.bool ga)).setCell ⟨lq, 1, none⟩ (.slice va vs.length vc)) = Vs1 at *
     refine wpAnyH_done (by kernel_rfl) ?_ _
     go_wp2
     go_meet
     case rel => exact ⟨_, _, ua, uc, us, va, vc, vs, rfl, rfl, kP, kQ, uo, vo, ⟨uH.out.1, uH.out.2, vH.out.1, vH.out.2⟩, N⟩
    have H5_lp : ∀ (lp : Nat) (ua : Option Addr) (uc : Nat) (us : List Int) (va : Option Addr) (vc : Nat) (vs : List Int) (V : World), Box2 W1.heap.size V lp (.bool false) (.slice none 0 0) → Own W1.heap.size V ua uc us → Own W1.heap.size V va vc vs → some lp ≠ rowOf ua us → some lp ≠ rowOf va vs → Hid (Nrm us ∧ val us = mg (partW x1 y1 x3 y3 x4 y4)) → Hid (Nrm vs ∧ val vs = mg (allW x1 y1 x2 y2 x3 y3 x4 y4)) → Below W1.heap.size W1 V → wp 3 #[true, true, true, true, true, true, true, true, true, true, true, false, false, false] ⟨#[.agg #[.int .i64 x1, .int .i64 y1], .agg #[.int .i64 x2, .int .i64 y2], .agg #[.int .i64 x3, .int .i64 y3], .agg #[.int .i64 x4, .int .i64 y4], .pointer (some ⟨w.heap.size, 0, none⟩), .pointer (some ⟨w.heap.size + 1, 0, none⟩), .pointer (some ⟨w.heap.size + 1 + 1, 0, none⟩), .pointer (some ⟨w.heap.size + 1 + 1 + 1, 0, none⟩), .pointer (some ⟨w.heap.size + 1 + 1 + 1 + 1, 0, none⟩), .pointer (some ⟨w.heap.size + 1 + 1 + 1 + 1 + 1, 0, none⟩), .pointer (some ⟨p, 0, none⟩), .pointer (some ⟨q, 0, none⟩), .pointer (some ⟨lp, 0, none⟩), undef, u14, u15, u16, u17, u18, u19, .agg #[.int .i64 x1, .int .i64 y1], .agg #[.int .i64 x3, .int .i64 y3], .agg #[.int .i64 (x3 - x1), .int .i64 (y3 - y1)], .agg #[.int .i64 (x4 - x3), .int .i64 (y4 - y3)], .int .i64 (partW x1 y1 x3 y3 x4 y4), .agg #[.bool gp, .slice ua us.length uc], .agg #[.int .i64 (x2 - x1), .int .i64 (y2 - y1)], .agg #[.int .i64 (x4 - x3), .int .i64 (y4 - y3)], .int .i64 (allW x1 y1 x2 y2 x3 y3 x4 y4), .agg #[.bool ga, .slice va vs.length vc], u30, u31, u32, u33, u34, u35, u36, u37, u38, u39, u40, u41, u42, u43], []⟩ V := by
     as_aux_lemma =>
      intro lp ua uc us va vc vs V kP uo vo r_kP_uo r_kP_vo uH vH N
      have hHeld : Below W1.heap.size W1 V := N
      rw [hwp]
      refine wpAnyH_ready (rs := [11]) (by kernel_rfl) (by simp) (AllReadyH.cons (gt rfl) (fun K hK => ?_) AllReadyH.nil)
      · go_simp
        have kQ := Box2.new V N.size (.bool false) (.slice none 0 0) 30
        have hb := below1 V (.cells #[.bool false, .slice none 0 0] 30)
        have r_kQ_uo := row_ne_high uo.toCame (Nat.le_refl _)
        have r_kQ_vo := row_ne_high vo.toCame (Nat.le_refl _)
        have g_lp := Nat.ne_of_lt kP.lt
        replace kP := kP.below hb
        replace uo := uo.below hb
        replace vo := vo.below hb
        replace N := N.trans (hb.mono N.size)
        refine hK.out _ _ N (fun hHeld => ?_)
        clear hK K
        try simp only [Act.put, sA, sB, sC]
        rw [← hwp]
        exact met (H5_lplq lp _ ua uc us va vc vs _ kP kQ g_lp uo vo r_kP_uo r_kP_vo r_kQ_uo r_kQ_vo uH vH N) (by kernel_rfl)
    have H5_lq : ∀ (lq : Nat) (ua : Option Addr) (uc : Nat) (us : List Int) (va : Option Addr) (vc : Nat) (vs : List Int) (V : World), Box2 W1.heap.size V lq (.bool false) (.slice none 0 0) → Own W1.heap.size V ua uc us → Own W1.heap.size V va vc vs → some lq ≠ rowOf ua us → some lq ≠ rowOf va vs → Hid (Nrm us ∧ val us = mg (partW x1 y1 x3 y3 x4 y4)) → Hid (Nrm vs ∧ val vs = mg (allW x1 y1 x2 y2 x3 y3 x4 y4)) → Below W1.heap.size W1 V → wp 3 #[true, true, true, true, true, true, true, true, true, true, false, true, false, false] ⟨#[.agg #[.int .i64 x1, .int .i64 y1], .agg #[.int .i64 x2, .int .i64 y2], .agg #[.int .i64 x3, .int .i64 y3], .agg #[.int .i64 x4, .int .i64 y4], .pointer (some ⟨w.heap.size, 0, none⟩), .pointer (some ⟨w.heap.size + 1, 0, none⟩), .pointer (some ⟨w.heap.size + 1 + 1, 0, none⟩), .pointer (some ⟨w.heap.size + 1 + 1 + 1, 0, none⟩), .pointer (some ⟨w.heap.size + 1 + 1 + 1 + 1, 0, none⟩), .pointer (some ⟨w.heap.size + 1 + 1 + 1 + 1 + 1, 0, none⟩), .pointer (some ⟨p, 0, none⟩), .pointer (some ⟨q, 0, none⟩), undef, .pointer (some ⟨lq, 0, none⟩), u14, u15, u16, u17, u18, u19, .agg #[.int .i64 x1, .int .i64 y1], .agg #[.int .i64 x3, .int .i64 y3], .agg #[.int .i64 (x3 - x1), .int .i64 (y3 - y1)], .agg #[.int .i64 (x4 - x3), .int .i64 (y4 - y3)], .int .i64 (partW x1 y1 x3 y3 x4 y4), .agg #[.bool gp, .slice ua us.length uc], .agg #[.int .i64 (x2 - x1), .int .i64 (y2 - y1)], .agg #[.int .i64 (x4 - x3), .int .i64 (y4 - y3)], .int .i64 (allW x1 y1 x2 y2 x3 y3 x4 y4), .agg #[.bool ga, .slice va vs.length vc], u30, u31, u32, u33, u34, u35, u36, u37, u38, u39, u40, u41, u42, u43], []⟩ V := by
     as_aux_lemma =>
      intro lq ua uc us va vc vs V kQ uo vo r_kQ_uo r_kQ_vo uH vH N
      have hHeld : Below W1.heap.size W1 V := N
      rw [hwp]
      refine wpAnyH_ready (rs := [10]) (by kernel_rfl) (by simp) (AllReadyH.cons (gt rfl) (fun K hK => ?_) AllReadyH.nil)
      · go_simp
        have kP := Box2.new V N.size (.bool false) (.slice none 0 0) 30
        have hb := below1 V (.cells #[.bool false, .slice none 0 0] 30)
        have r_kP_uo := row_ne_high uo.toCame (Nat.le_refl _)
        have r_kP_vo := row_ne_high vo.toCame (Nat.le_refl _)
        have g_lq := Nat.ne_of_lt kQ.lt
        replace kQ := kQ.below hb
        replace uo := uo.below hb
        replace vo := vo.below hb
        replace N := N.trans (hb.mono N.size)
        refine hK.out _ _ N (fun hHeld => ?_)
        clear hK K
        try simp only [Act.put, sA, sB, sC]
        rw [← hwp]
        exact met (H5_lplq _ lq ua uc us va vc vs _ kP kQ g_lq.symm uo vo r_kP_uo r_kP_vo r_kQ_uo r_kQ_vo uH vH N) (by kernel_rfl)
    have H5_ : ∀ (ua : Option Addr) (uc : Nat) (us : List Int) (va : Option Addr) (vc : Nat) (vs : List Int) (V : World), Own W1.heap.size V ua uc us → Own W1.heap.size V va vc vs → Hid (Nrm us ∧ val us = mg (partW x1 y1 x3 y3 x4 y4)) → Hid (Nrm vs ∧ val vs = mg (allW x1 y1 x2 y2 x3 y3 x4 y4)) → Below W1.heap.size W1 V → wp 4 #[true, true, true, true, true, true, true, true, true, true, false, false, false, false] ⟨#[.agg #[.int .i64 x1, .int .i64 y1], .agg #[.int .i64 x2, .int .i64 y2], .agg #[.int .i64 x3, .int .i64 y3], .agg #[.int .i64 x4, .int .i64 y4], .pointer (some ⟨w.heap.size, 0, none⟩), .pointer (some ⟨w.heap.size + 1, 0, none⟩), .pointer (some ⟨w.heap.size + 1 + 1, 0, none⟩), .pointer (some ⟨w.heap.size + 1 + 1 + 1, 0, none⟩), .pointer (some ⟨w.heap.size + 1 + 1 + 1 + 1, 0, none⟩), .pointer (some ⟨w.heap.size + 1 + 1 + 1 + 1 + 1, 0, none⟩), .pointer (some ⟨p, 0, none⟩), .pointer (some ⟨q, 0, none⟩), undef, undef, u14, u15, u16, u17, u18, u19, .agg #[.int .i64 x1, .int .i64 y1], .agg #[.int .i64 x3, .int .i64 y3], .agg #[.int .i64 (x3 - x1), .int .i64 (y3 - y1)], .agg #[.int .i64 (x4 - x3), .int .i64 (y4 - y3)], .int .i64 (partW x1 y1 x3 y3 x4 y4), .agg #[.bool gp, .slice ua us.length uc], .agg #[.int .i64 (x2 - x1), .int .i64 (y2 - y1)], .agg #[.int .i64 (x4 - x3), .int .i64 (y4 - y3)], .int .i64 (allW x1 y1 x2 y2 x3 y3 x4 y4), .agg #[.bool ga, .slice va vs.length vc], u30, u31, u32, u33, u34, u35, u36, u37, u38, u39, u40, u41, u42, u43], []⟩ V := by
     as_aux_lemma =>
      intro ua uc us va vc vs V uo vo uH vH N
      have hHeld : Below W1.heap.size W1 V := N
      rw [hwp]
      refine wpAnyH_ready (rs := [10, 11]) (by kernel_rfl) (by simp) (AllReadyH.cons (gt rfl) (fun K hK => ?_) (AllReadyH.cons (gt rfl) (fun K hK => ?_) AllReadyH.nil))
      · go_simp
        have kP := Box2.new V N.size (.bool false) (.slice none 0 0) 30
        have hb := below1 V (.cells #[.bool false, .slice none 0 0] 30)
        have r_kP_uo := row_ne_high uo.toCame (Nat.le_refl _)
        have r_kP_vo := row_ne_high vo.toCame (Nat.le_refl _)
        replace uo := uo.below hb
        replace vo := vo.below hb
        replace N := N.trans (hb.mono N.size)
        refine hK.out _ _ N (fun hHeld => ?_)
        clear hK K
        try simp only [Act.put, sA, sB, sC]
        rw [← hwp]
        exact met (H5_lp _ ua uc us va vc vs _ kP uo vo r_kP_uo r_kP_vo uH vH N) (by kernel_rfl)
      · go_simp
        have kQ := Box2.new V N.size (.bool false) (.slice none 0 0) 30
        have hb := below1 V (.cells #[.bool false, .slice none 0 0] 30)
        have r_kQ_uo := row_ne_high uo.toCame (Nat.le_refl _)
        have r_kQ_vo := row_ne_high vo.toCame (Nat.le_refl _)
        replace uo := uo.below hb
        replace vo := vo.below hb
        replace N := N.trans (hb.mono N.size)
        refine hK.out _ _ N (fun hHeld => ?_)
        clear hK K
        try simp only [Act.put, sA, sB, sC]
        rw [← hwp]
        exact met (H5_lq _ ua uc us va vc vs _ kQ uo vo r_kQ_uo r_kQ_vo uH vH N) (by kernel_rfl)
    have H4_lplq : ∀ (lp : Nat) (lq : Nat) (ua : Option Addr) (uc : Nat) (us : List Int) (V : World), Box2 W1.heap.size V lp (.bool false) (.slice none 0 0) → Box2 W1.heap.size V lq (.bool false) (.slice none 0 0) → lp ≠ lq → Own W1.heap.size V ua uc us → some lp ≠ rowOf ua us → some lq ≠ rowOf ua us → Hid (Nrm us ∧ val us = mg (partW x1 y1 x3 y3 x4 y4)) → Below W1.heap.size W1 V → wp 3 #[true, true, true, true, true, true, true, true, true, false, true, true, false, false] ⟨#[.agg #[.int .i64 x1, .int .i64 y1], .agg #[.int .i64 x2, .int .i64 y2], .agg #[.int .i64 x3, .int .i64 y3], .agg #[.int .i64 x4, .int .i64 y4], .pointer (some ⟨w.heap.size, 0, none⟩), .pointer (some ⟨w.heap.size + 1, 0, none⟩), .pointer (some ⟨w.heap.size + 1 + 1, 0, none⟩), .pointer (some ⟨w.heap.size + 1 + 1 + 1, 0, none⟩), .pointer (some ⟨w.heap.size + 1 + 1 + 1 + 1, 0, none⟩), .pointer (some ⟨w.heap.size + 1 + 1 + 1 + 1 + 1, 0, none⟩), .pointer (some ⟨p, 0, none⟩), .pointer (some ⟨q, 0, none⟩), .pointer (some ⟨lp, 0, none⟩), .pointer (some ⟨lq, 0, none⟩), u14, u15, u16, u17, u18, u19, .agg #[.int .i64 x1, .int .i64 y1], .agg #[.int .i64 x3, .int .i64 y3], .agg #[.int .i64 (x3 - x1), .int .i64 (y3 - y1)], .agg #[.int .i64 (x4 - x3), .int .i64 (y4 - y3)], .int .i64 (partW x1 y1 x3 y3 x4 y4), .agg #[.bool gp, .slice ua us.length uc], .agg #[.int .i64 (x2 - x1), .int .i64 (y2 - y1)], .agg #[.int .i64 (x4 - x3), .int .i64 (y4 - y3)], .int .i64 (allW x1 y1 x2 y2 x3 y3 x4 y4), u29, u30, u31, u32, u33, u34, u35, u36, u37, u38, u39, u40, u41, u42, u43], []⟩ V := by
     as_aux_lemma =>
      intro lp lq ua uc us V kP kQ n_lplq uo r_kP_uo r_kQ_uo uH N
      have hHeld : Below W1.heap.size W1 V := N
      rw [hwp]
      refine wpAnyH_ready (rs := [9]) (by kernel_rfl) (by simp) (AllReadyH.cons (gt rfl) (fun K hK => ?_) AllReadyH.nil)
      · go_simp
        refine (implOf (allW x1 y1 x2 y2 x3 y3 x4 y4) _ (by have := HB.out; omega) (by have := HB.out; omega)).mono ?_
        rintro ee V' ⟨u, rfl, ⟨va, vc, vs, rfl, vo, vn, vv⟩, hb⟩
        rw [Hga.out]
        have vH : Hid (Nrm vs ∧ val vs = mg (allW x1 y1 x2 y2 x3 y3 x4 y4)) := ⟨vn, vv⟩
        clear vn vv
        have r_kP_vo := row_ne_low vo kP.lt
        have r_kQ_vo := row_ne_low vo kQ.lt
        replace vo := vo.base_le N.size
        replace kP := kP.below hb
        replace kQ := kQ.below hb
        replace uo := uo.below hb
        replace N := N.trans (hb.mono N.size)
        refine hK.out _ _ N (fun hHeld => ?_)
        clear hK K
        try simp only [Act.put, sA, sB, sC]
        rw [← hwp]
        exact met (H5_lplq lp lq ua uc us va vc vs _ kP kQ n_lplq uo vo r_kP_uo r_kP_vo r_kQ_uo r_kQ_vo uH vH N) (by kernel_rfl)
    have H4_lp : ∀ (lp : Nat) (ua : Option Addr) (uc : Nat) (us : List Int) (V : World), Box2 W1.heap.size V lp (.bool false) (.slice none 0 0) → Own W1.heap.size V ua uc us → some lp ≠ rowOf ua us → Hid (Nrm us ∧ val us = mg (partW x1 y1 x3 y3 x4 y4)) → Below W1.heap.size W1 V → wp 4 #[true, true, true, true, true, true, true, true, true, false, true, false, false, false] ⟨#[.agg #[.int .i64 x1, .int .i64 y1], .agg #[.int .i64 x2, .int .i64 y2], .agg #[.int .i64 x3, .int .i64 y3], .agg #[.int .i64 x4, .int .i64 y4], .pointer (some ⟨w.heap.size, 0, none⟩), .pointer (some ⟨w.heap.size + 1, 0, none⟩), .pointer (some ⟨w.heap.size + 1 + 1, 0, none⟩), .pointer (some ⟨w.heap.size + 1 + 1 + 1, 0, none⟩), .pointer (some ⟨w.heap.size + 1 + 1 + 1 + 1, 0, none⟩), .pointer (some ⟨w.heap.size + 1 + 1 + 1 + 1 + 1, 0, none⟩), .pointer (some ⟨p, 0, none⟩), .pointer (some ⟨q, 0, none⟩), .pointer (some ⟨lp, 0, none⟩), undef, u14, u15, u16, u17, u18, u19, .agg #[.int .i64 x1, .int .i64 y1], .agg #[.int .i64 x3, .int .i64 y3], .agg #[.int .i64 (x3 - x1), .int .i64 (y3 - y1)], .agg #[.int .i64 (x4 - x3), .int .i64 (y4 - y3)], .int .i64 (partW x1 y1 x3 y3 x4 y4), .agg #[.bool gp, .slice ua us.length uc], .agg #[.int .i64 (x2 - x1), .int .i64 (y2 - y1)], .agg #[.int .i64 (x4 - x3), .int .i64 (y4 - y3)], .int .i64 (allW x1 y1 x2 y2 x3 y3 x4 y4), u29, u30, u31, u32, u33, u34, u35, u36, u37, u38, u39, u40, u41, u42, u43], []⟩ V := by
     as_aux_lemma =>
      intro lp ua uc us V kP uo r_kP_uo uH N
      have hHeld : Below W1.heap.size W1 V := N
      rw [hwp]
      refine wpAnyH_ready (rs := [9, 11]) (by kernel_rfl) (by simp) (AllReadyH.cons (gt rfl) (fun K hK => ?_) (AllReadyH.cons (gt rfl) (fun K hK => ?_) AllReadyH.nil))
      · go_simp
        refine (implOf (allW x1 y1 x2 y2 x3 y3 x4 y4) _ (by have := HB.out; omega) (by have := HB.out; omega)).mono ?_
        rintro ee V' ⟨u, rfl, ⟨va, vc, vs, rfl, vo, vn, vv⟩, hb⟩
        rw [Hga.out]
        have vH : Hid (Nrm vs ∧ val vs = mg (allW x1 y1 x2 y2 x3 y3 x4 y4)) := ⟨vn, vv⟩
        clear vn vv
        have r_kP_vo := row_ne_low vo kP.lt
        replace vo := vo.base_le N.size
        replace kP := kP.below hb
        replace uo := uo.below hb
        replace N := N.trans (hb.mono N.size)
        refine hK.out _ _ N (fun hHeld => ?_)
        clear hK K
        try simp only [Act.put, sA, sB, sC]
        rw [← hwp]
        exact met (H5_lp lp ua uc us va vc vs _ kP uo vo r_kP_uo r_kP_vo uH vH N) (by kernel_rfl)
      · go_simp
        have kQ := Box2.new V N.size (.bool false) (.slice none 0 0) 30
        have hb := below1 V (.cells #[.bool false, .slice none 0 0] 30)
        have r_kQ_uo := row_ne_high uo.toCame (Nat.le_refl _)
        have g_lp := Nat.ne_of_lt kP.lt
        replace kP := kP.below hb
        replace uo := uo.below hb
        replace N := N.trans (hb.mono N.size)
        refine hK.out _ _ N (fun hHeld => ?_)
        clear hK K
        try simp only [Act.put, sA, sB, sC]
        rw [← hwp]
        exact met (H4_lplq lp _ ua uc us _ kP kQ g_lp uo r_kP_uo r_kQ_uo uH N) (by kernel_rfl)
    have H4_lq : ∀ (lq : Nat) (ua : Option Addr) (uc : Nat) (us : List Int) (V : World), Box2 W1.heap.size V lq (.bool false) (.slice none 0 0) → Own W1.heap.size V ua uc us → some lq ≠ rowOf ua us → Hid (Nrm us ∧ val us = mg (partW x1 y1 x3 y3 x4 y4)) → Below W1.heap.size W1 V → wp 4 #[true, true, true, true, true, true, true, true, true, false, false, true, false, false] ⟨#[.agg #[.int .i64 x1, .int .i64 y1], .agg #[.int .i64 x2, .int .i64 y2], .agg #[.int .i64 x3, .int .i64 y3], .agg #[.int .i64 x4, .int .i64 y4], .pointer (some ⟨w.heap.size, 0, none⟩), .pointer (some ⟨w.heap.size + 1, 0, none⟩), .pointer (some ⟨w.heap.size + 1 + 1, 0, none⟩), .pointer (some ⟨w.heap.size + 1 + 1 + 1, 0, none⟩), .pointer (some ⟨w.heap.size + 1 + 1 + 1 + 1, 0, none⟩), .pointer (some ⟨w.heap.size + 1 + 1 + 1 + 1 + 1, 0, none⟩), .pointer (some ⟨p, 0, none⟩), .pointer (some ⟨q, 0, none⟩), undef, .pointer (some ⟨lq, 0, none⟩), u14, u15, u16, u17, u18, u19, .agg #[.int .i64 x1, .int .i64 y1], .agg #[.int .i64 x3, .int .i64 y3], .agg #[.int .i64 (x3 - x1), .int .i64 (y3 - y1)], .agg #[.int .i64 (x4 - x3), .int .i64 (y4 - y3)], .int .i64 (partW x1 y1 x3 y3 x4 y4), .agg #[.bool gp, .slice ua us.length uc], .agg #[.int .i64 (x2 - x1), .int .i64 (y2 - y1)], .agg #[.int .i64 (x4 - x3), .int .i64 (y4 - y3)], .int .i64 (allW x1 y1 x2 y2 x3 y3 x4 y4), u29, u30, u31, u32, u33, u34, u35, u36, u37, u38, u39, u40, u41, u42, u43], []⟩ V := by
     as_aux_lemma =>
      intro lq ua uc us V kQ uo r_kQ_uo uH N
      have hHeld : Below W1.heap.size W1 V := N
      rw [hwp]
      refine wpAnyH_ready (rs := [9, 10]) (by kernel_rfl) (by simp) (AllReadyH.cons (gt rfl) (fun K hK => ?_) (AllReadyH.cons (gt rfl) (fun K hK => ?_) AllReadyH.nil))
      · go_simp
        refine (implOf (allW x1 y1 x2 y2 x3 y3 x4 y4) _ (by have := HB.out; omega) (by have := HB.out; omega)).mono ?_
        rintro ee V' ⟨u, rfl, ⟨va, vc, vs, rfl, vo, vn, vv⟩, hb⟩
        rw [Hga.out]
        have vH : Hid (Nrm vs ∧ val vs = mg (allW x1 y1 x2 y2 x3 y3 x4 y4)) := ⟨vn, vv⟩
        clear vn vv
        have r_kQ_vo := row_ne_low vo kQ.lt
        replace vo := vo.base_le N.size
        replace kQ := kQ.below hb
        replace uo := uo.below hb
        replace N := N.trans (hb.mono N.size)
        refine hK.out _ _ N (fun hHeld => ?_)
        clear hK K
        try simp only [Act.put, sA, sB, sC]
        rw [← hwp]
        exact met (H5_lq lq ua uc us va vc vs _ kQ uo vo r_kQ_uo r_kQ_vo uH vH N) (by kernel_rfl)
      · go_simp
        have kP := Box2.new V N.size (.bool false) (.slice none 0 0) 30
        have hb := below1 V (.cells #[.bool false, .slice none 0 0] 30)
        have r_kP_uo := row_ne_high uo.toCame (Nat.le_refl _)
        have g_lq := Nat.ne_of_lt kQ.lt
        replace kQ := kQ.below hb
        replace uo := uo.below hb
        replace N := N.trans (hb.mono N.size)
        refine hK.out _ _ N (fun hHeld => ?_)
        clear hK K
        try simp only [Act.put, sA, sB, sC]
        rw [← hwp]
        exact met (H4_lplq _ lq ua uc us _ kP kQ g_lq.symm uo r_kP_uo r_kQ_uo uH N) (by kernel_rfl)
    have H4_ : ∀ (ua : Option Addr) (uc : Nat) (us : List Int) (V : World), Own W1.heap.size V ua uc us → Hid (Nrm us ∧ val us = mg (partW x1 y1 x3 y3 x4 y4)) → Below W1.heap.size W1 V → wp 5 #[true, true, true, true, true, true, true, true, true, false, false, false, false, false] ⟨#[.agg #[.int .i64 x1, .int .i64 y1], .agg #[.int .i64 x2, .int .i64 y2], .agg #[.int .i64 x3, .int .i64 y3], .agg #[.int .i64 x4, .int .i64 y4], .pointer (some ⟨w.heap.size, 0, none⟩), .pointer (some ⟨w.heap.size + 1, 0, none⟩), .pointer (some ⟨w.heap.size + 1 + 1, 0, none⟩), .pointer (some ⟨w.heap.size + 1 + 1 + 1, 0, none⟩), .pointer (some ⟨w.heap.size + 1 + 1 + 1 + 1, 0, none⟩), .pointer (some ⟨w.heap.size + 1 + 1 + 1 + 1 + 1, 0, none⟩), .pointer (some ⟨p, 0, none⟩), .pointer (some ⟨q, 0, none⟩), undef, undef, u14, u15, u16, u17, u18, u19, .agg #[.int .i64 x1, .int .i64 y1], .agg #[.int .i64 x3, .int .i64 y3], .agg #[.int .i64 (x3 - x1), .int .i64 (y3 - y1)], .agg #[.int .i64 (x4 - x3), .int .i64 (y4 - y3)], .int .i64 (partW x1 y1 x3 y3 x4 y4), .agg #[.bool gp, .slice ua us.length uc], .agg #[.int .i64 (x2 - x1), .int .i64 (y2 - y1)], .agg #[.int .i64 (x4 - x3), .int .i64 (y4 - y3)], .int .i64 (allW x1 y1 x2 y2 x3 y3 x4 y4), u29, u30, u31, u32, u33, u34, u35, u36, u37, u38, u39, u40, u41, u42, u43], []⟩ V := by
     as_aux_lemma =>
      intro ua uc us V uo uH N
      have hHeld : Below W1.heap.size W1 V := N
      rw [hwp]
      refine wpAnyH_ready (rs := [9, 10, 11]) (by kernel_rfl) (by simp) (AllReadyH.cons (gt rfl) (fun K hK => ?_) (AllReadyH.cons (gt rfl) (fun K hK => ?_) (AllReadyH.cons (gt rfl) (fun K hK => ?_) AllReadyH.nil)))
      · go_simp
        refine (implOf (allW x1 y1 x2 y2 x3 y3 x4 y4) _ (by have := HB.out; omega) (by have := HB.out; omega)).mono ?_
        rintro ee V' ⟨u, rfl, ⟨va, vc, vs, rfl, vo, vn, vv⟩, hb⟩
        rw [Hga.out]
        have vH : Hid (Nrm vs ∧ val vs = mg (allW x1 y1 x2 y2 x3 y3 x4 y4)) := ⟨vn, vv⟩
        clear vn vv
        replace vo := vo.base_le N.size
        replace uo := uo.below hb
        replace N := N.trans (hb.mono N.size)
        refine hK.out _ _ N (fun hHeld => ?_)
        clear hK K
        try simp only [Act.put, sA, sB, sC]
        rw [← hwp]
        exact met (H5_ ua uc us va vc vs _ uo vo uH vH N) (by kernel_rfl)
      · go_simp
        have kP := Box2.new V N.size (.bool false) (.slice none 0 0) 30
        have hb := below1 V (.cells #[.bool false, .slice none 0 0] 30)
        have r_kP_uo := row_ne_high uo.toCame (Nat.le_refl _)
        replace uo := uo.below hb
        replace N := N.trans (hb.mono N.size)
        refine hK.out _ _ N (fun hHeld => ?_)
        clear hK K
        try simp only [Act.put, sA, sB, sC]
        rw [← hwp]
        exact met (H4_lp _ ua uc us _ kP uo r_kP_uo uH N) (by kernel_rfl)
      · go_simp
        have kQ := Box2.new V N.size (.bool false) (.slice none 0 0) 30
        have hb := below1 V (.cells #[.bool false, .slice none 0 0] 30)
        have r_kQ_uo := row_ne_high uo.toCame (Nat.le_refl _)
        replace uo := uo.below hb
        replace N := N.trans (hb.mono N.size)
        refine hK.out _ _ N (fun hHeld => ?_)
        clear hK K
        try simp only [Act.put, sA, sB, sC]
        rw [← hwp]
        exact met (H4_lq _ ua uc us _ kQ uo r_kQ_uo uH N) (by kernel_rfl)
    have H3_lplq : ∀ (lp : Nat) (lq : Nat) (ua : Option Addr) (uc : Nat) (us : List Int) (V : World), Box2 W1.heap.size V lp (.bool false) (.slice none 0 0) → Box2 W1.heap.size V lq (.bool false) (.slice none 0 0) → lp ≠ lq → Own W1.heap.size V ua uc us → some lp ≠ rowOf ua us → some lq ≠ rowOf ua us → Hid (Nrm us ∧ val us = mg (partW x1 y1 x3 y3 x4 y4)) → Below W1.heap.size W1 V → wp 4 #[true, true, true, true, true, true, true, true, false, false, true, true, false, false] ⟨#[.agg #[.int .i64 x1, .int .i64 y1], .agg #[.int .i64 x2, .int .i64 y2], .agg #[.int .i64 x3, .int .i64 y3], .agg #[.int .i64 x4, .int .i64 y4], .pointer (some ⟨w.heap.size, 0, none⟩), .pointer (some ⟨w.heap.size + 1, 0, none⟩), .pointer (some ⟨w.heap.size + 1 + 1, 0, none⟩), .pointer (some ⟨w.heap.size + 1 + 1 + 1, 0, none⟩), .pointer (some ⟨w.heap.size + 1 + 1 + 1 + 1, 0, none⟩), .pointer (some ⟨w.heap.size + 1 + 1 + 1 + 1 + 1, 0, none⟩), .pointer (some ⟨p, 0, none⟩), .pointer (some ⟨q, 0, none⟩), .pointer (some ⟨lp, 0, none⟩), .pointer (some ⟨lq, 0, none⟩), u14, u15, u16, u17, u18, u19, .agg #[.int .i64 x1, .int .i64 y1], .agg #[.int .i64 x3, .int .i64 y3], .agg #[.int .i64 (x3 - x1), .int .i64 (y3 - y1)], .agg #[.int .i64 (x4 - x3), .int .i64 (y4 - y3)], .int .i64 (partW x1 y1 x3 y3 x4 y4), .agg #[.bool gp, .slice ua us.length uc], .agg #[.int .i64 (x2 - x1), .int .i64 (y2 - y1)], .agg #[.int .i64 (x4 - x3), .int .i64 (y4 - y3)], u28, u29, u30, u31, u32, u33, u34, u35, u36, u37, u38, u39, u40, u41, u42, u43], []⟩ V := by
     as_aux_lemma =>
      intro lp lq ua uc us V kP kQ n_lplq uo r_kP_uo r_kQ_uo uH N
      have hHeld : Below W1.heap.size W1 V := N
      rw [hwp]
      refine wpAnyH_ready (rs := [8]) (by kernel_rfl) (by simp) (AllReadyH.cons (gt rfl) (fun K hK => ?_) AllReadyH.nil)
      · go_simp
        refine (across_any (x2 - x1) (y2 - y1) (x4 - x3) (y4 - y3) _ (c2.dif c1) (d2.dif d1) (c4.dif c3) (d4.dif d3)).mono ?_
        rintro e1 V' ⟨rfl, hb⟩
        rw [show (x2 - x1) * (y4 - y3) - (y2 - y1) * (x4 - x3) = (allW x1 y1 x2 y2 x3 y3 x4 y4) from rfl]
        replace kP := kP.below hb
        replace kQ := kQ.below hb
        replace uo := uo.below hb
        replace N := N.trans (hb.mono N.size)
        refine hK.out _ _ N (fun hHeld => ?_)
        clear hK K
        try simp only [Act.put, sA, sB, sC]
        rw [← hwp]
        exact met (H4_lplq lp lq ua uc us _ kP kQ n_lplq uo r_kP_uo r_kQ_uo uH N) (by kernel_rfl)
    have H3_lp : ∀ (lp : Nat) (ua : Option Addr) (uc : Nat) (us : List Int) (V : World), Box2 W1.heap.size V lp (.bool false) (.slice none 0 0) → Own W1.heap.size V ua uc us → some lp ≠ rowOf ua us → Hid (Nrm us ∧ val us = mg (partW x1 y1 x3 y3 x4 y4)) → Below W1.heap.size W1 V → wp 5 #[true, true, true, true, true, true, true, true, false, false, true, false, false, false] ⟨#[.agg #[.int .i64 x1, .int .i64 y1], .agg #[.int .i64 x2, .int .i64 y2], .agg #[.int .i64 x3, .int .i64 y3], .agg #[.int .i64 x4, .int .i64 y4], .pointer (some ⟨w.heap.size, 0, none⟩), .pointer (some ⟨w.heap.size + 1, 0, none⟩), .pointer (some ⟨w.heap.size + 1 + 1, 0, none⟩), .pointer (some ⟨w.heap.size + 1 + 1 + 1, 0, none⟩), .pointer (some ⟨w.heap.size + 1 + 1 + 1 + 1, 0, none⟩), .pointer (some ⟨w.heap.size + 1 + 1 + 1 + 1 + 1, 0, none⟩), .pointer (some ⟨p, 0, none⟩), .pointer (some ⟨q, 0, none⟩), .pointer (some ⟨lp, 0, none⟩), undef, u14, u15, u16, u17, u18, u19, .agg #[.int .i64 x1, .int .i64 y1], .agg #[.int .i64 x3, .int .i64 y3], .agg #[.int .i64 (x3 - x1), .int .i64 (y3 - y1)], .agg #[.int .i64 (x4 - x3), .int .i64 (y4 - y3)], .int .i64 (partW x1 y1 x3 y3 x4 y4), .agg #[.bool gp, .slice ua us.length uc], .agg #[.int .i64 (x2 - x1), .int .i64 (y2 - y1)], .agg #[.int .i64 (x4 - x3), .int .i64 (y4 - y3)], u28, u29, u30, u31, u32, u33, u34, u35, u36, u37, u38, u39, u40, u41, u42, u43], []⟩ V := by
     as_aux_lemma =>
      intro lp ua uc us V kP uo r_kP_uo uH N
      have hHeld : Below W1.heap.size W1 V := N
      rw [hwp]
      refine wpAnyH_ready (rs := [8, 11]) (by kernel_rfl) (by simp) (AllReadyH.cons (gt rfl) (fun K hK => ?_) (AllReadyH.cons (gt rfl) (fun K hK => ?_) AllReadyH.nil))
      · go_simp
        refine (across_any (x2 - x1) (y2 - y1) (x4 - x3) (y4 - y3) _ (c2.dif c1) (d2.dif d1) (c4.dif c3) (d4.dif d3)).mono ?_
        rintro e1 V' ⟨rfl, hb⟩
        rw [show (x2 - x1) * (y4 - y3) - (y2 - y1) * (x4 - x3) = (allW x1 y1 x2 y2 x3 y3 x4 y4) from rfl]
        replace kP := kP.below hb
        replace uo := uo.below hb
        replace N := N.trans (hb.mono N.size)
        refine hK.out _ _ N (fun hHeld => ?_)
        clear hK K
        try simp only [Act.put, sA, sB, sC]
        rw [← hwp]
        exact met (H4_lp lp ua uc us _ kP uo r_kP_uo uH N) (by kernel_rfl)
      · go_simp
        have kQ := Box2.new V N.size (.bool false) (.slice none 0 0) 30
        have hb := below1 V (.cells #[.bool false, .slice none 0 0] 30)
        have r_kQ_uo := row_ne_high uo.toCame (Nat.le_refl _)
        have g_lp := Nat.ne_of_lt kP.lt
        replace kP := kP.below hb
        replace uo := uo.below hb
        replace N := N.trans (hb.mono N.size)
        refine hK.out _ _ N (fun hHeld => ?_)
        clear hK K
        try simp only [Act.put, sA, sB, sC]
        rw [← hwp]
        exact met (H3_lplq lp _ ua uc us _ kP kQ g_lp uo r_kP_uo r_kQ_uo uH N) (by kernel_rfl)
    have H3_lq : ∀ (lq : Nat) (ua : Option Addr) (uc : Nat) (us : List Int) (V : World), Box2 W1.heap.size V lq (.bool false) (.slice none 0 0) → Own W1.heap.size V ua uc us → some lq ≠ rowOf ua us → Hid (Nrm us ∧ val us = mg (partW x1 y1 x3 y3 x4 y4)) → Below W1.heap.size W1 V → wp 5 #[true, true, true, true, true, true, true, true, false, false, false, true, false, false] ⟨#[.agg #[.int .i64 x1, .int .i64 y1], .agg #[.int .i64 x2, .int .i64 y2], .agg #[.int .i64 x3, .int .i64 y3], .agg #[.int .i64 x4, .int .i64 y4], .pointer (some ⟨w.heap.size, 0, none⟩), .pointer (some ⟨w.heap.size + 1, 0, none⟩), .pointer (some ⟨w.heap.size + 1 + 1, 0, none⟩), .pointer (some ⟨w.heap.size + 1 + 1 + 1, 0, none⟩), .pointer (some ⟨w.heap.size + 1 + 1 + 1 + 1, 0, none⟩), .pointer (some ⟨w.heap.size + 1 + 1 + 1 + 1 + 1, 0, none⟩), .pointer (some ⟨p, 0, none⟩), .pointer (some ⟨q, 0, none⟩), undef, .pointer (some ⟨lq, 0, none⟩), u14, u15, u16, u17, u18, u19, .agg #[.int .i64 x1, .int .i64 y1], .agg #[.int .i64 x3, .int .i64 y3], .agg #[.int .i64 (x3 - x1), .int .i64 (y3 - y1)], .agg #[.int .i64 (x4 - x3), .int .i64 (y4 - y3)], .int .i64 (partW x1 y1 x3 y3 x4 y4), .agg #[.bool gp, .slice ua us.length uc], .agg #[.int .i64 (x2 - x1), .int .i64 (y2 - y1)], .agg #[.int .i64 (x4 - x3), .int .i64 (y4 - y3)], u28, u29, u30, u31, u32, u33, u34, u35, u36, u37, u38, u39, u40, u41, u42, u43], []⟩ V := by
     as_aux_lemma =>
      intro lq ua uc us V kQ uo r_kQ_uo uH N
      have hHeld : Below W1.heap.size W1 V := N
      rw [hwp]
      refine wpAnyH_ready (rs := [8, 10]) (by kernel_rfl) (by simp) (AllReadyH.cons (gt rfl) (fun K hK => ?_) (AllReadyH.cons (gt rfl) (fun K hK => ?_) AllReadyH.nil))
      · go_simp
        refine (across_any (x2 - x1) (y2 - y1) (x4 - x3) (y4 - y3) _ (c2.dif c1) (d2.dif d1) (c4.dif c3) (d4.dif d3)).mono ?_
        rintro e1 V' ⟨rfl, hb⟩
        rw [show (x2 - x1) * (y4 - y3) - (y2 - y1) * (x4 - x3) = (allW x1 y1 x2 y2 x3 y3 x4 y4) from rfl]
        replace kQ := kQ.below hb
        replace uo := uo.below hb
        replace N := N.trans (hb.mono N.size)
        refine hK.out _ _ N (fun hHeld => ?_)
        clear hK K
        try simp only [Act.put, sA, sB, sC]
        rw [← hwp]
        exact met (H4_lq lq ua uc us _ kQ uo r_kQ_uo uH N) (by kernel_rfl)
      · go_simp
        have kP := Box2.new V N.size (.bool false) (.slice none 0 0) 30
        have hb := below1 V (.cells #[.bool false, .slice none 0 0] 30)
        have r_kP_uo := row_ne_high uo.toCame (Nat.le_refl _)
        have g_lq := Nat.ne_of_lt kQ.lt
        replace kQ := kQ.below hb
        replace uo := uo.below hb
        replace N := N.trans (hb.mono N.size)
        refine hK.out _ _ N (fun hHeld => ?_)
        clear hK K
        try simp only [Act.put, sA, sB, sC]
        rw [← hwp]
        exact met (H3_lplq _ lq ua uc us _ kP kQ g_lq.symm uo r_kP_uo r_kQ_uo uH N) (by kernel_rfl)
    have H3_ : ∀ (ua : Option Addr) (uc : Nat) (us : List Int) (V : World), Own W1.heap.size V ua uc us → Hid (Nrm us ∧ val us = mg (partW x1 y1 x3 y3 x4 y4)) → Below W1.heap.size W1 V → wp 6 #[true, true, true, true, true, true, true, true, false, false, false, false, false, false] ⟨#[.agg #[.int .i64 x1, .int .i64 y1], .agg #[.int .i64 x2, .int .i64 y2], .agg #[.int .i64 x3, .int .i64 y3], .agg #[.int .i64 x4, .int .i64 y4], .pointer (some ⟨w.heap.size, 0, none⟩), .pointer (some ⟨w.heap.size + 1, 0, none⟩), .pointer (some ⟨w.heap.size + 1 + 1, 0, none⟩), .pointer (some ⟨w.heap.size + 1 + 1 + 1, 0, none⟩), .pointer (some ⟨w.heap.size + 1 + 1 + 1 + 1, 0, none⟩), .pointer (some ⟨w.heap.size + 1 + 1 + 1 + 1 + 1, 0, none⟩), .pointer (some ⟨p, 0, none⟩), .pointer (some ⟨q, 0, none⟩), undef, undef, u14, u15, u16, u17, u18, u19, .agg #[.int .i64 x1, .int .i64 y1], .agg #[.int .i64 x3, .int .i64 y3], .agg #[.int .i64 (x3 - x1), .int .i64 (y3 - y1)], .agg #[.int .i64 (x4 - x3), .int .i64 (y4 - y3)], .int .i64 (partW x1 y1 x3 y3 x4 y4), .agg #[.bool gp, .slice ua us.length uc], .agg #[.int .i64 (x2 - x1), .int .i64 (y2 - y1)], .agg #[.int .i64 (x4 - x3), .int .i64 (y4 - y3)], u28, u29, u30, u31, u32, u33, u34, u35, u36, u37, u38, u39, u40, u41, u42, u43], []⟩ V := by
     as_aux_lemma =>
      intro ua uc us V uo uH N
      have hHeld : Below W1.heap.size W1 V := N
      rw [hwp]
      refine wpAnyH_ready (rs := [8, 10, 11]) (by kernel_rfl) (by simp) (AllReadyH.cons (gt rfl) (fun K hK => ?_) (AllReadyH.cons (gt rfl) (fun K hK => ?_) (AllReadyH.cons (gt rfl) (fun K hK => ?_) AllReadyH.nil)))
      · go_simp
        refine (across_any (x2 - x1) (y2 - y1) (x4 - x3) (y4 - y3) _ (c2.dif c1) (d2.dif d1) (c4.dif c3) (d4.dif d3)).mono ?_
        rintro e1 V' ⟨rfl, hb⟩
        rw [show (x2 - x1) * (y4 - y3) - (y2 - y1) * (x4 - x3) = (allW x1 y1 x2 y2 x3 y3 x4 y4) from rfl]
        replace uo := uo.below hb
        replace N := N.trans (hb.mono N.size)
        refine hK.out _ _ N (fun hHeld => ?_)
        clear hK K
        try simp only [Act.put, sA, sB, sC]
        rw [← hwp]
        exact met (H4_ ua uc us _ uo uH N) (by kernel_rfl)
      · go_simp
        have kP := Box2.new V N.size (.bool false) (.slice none 0 0) 30
        have hb := below1 V (.cells #[.bool false, .slice none 0 0] 30)
        have r_kP_uo := row_ne_high uo.toCame (Nat.le_refl _)
        replace uo := uo.below hb
        replace N := N.trans (hb.mono N.size)
        refine hK.out _ _ N (fun hHeld => ?_)
        clear hK K
        try simp only [Act.put, sA, sB, sC]
        rw [← hwp]
        exact met (H3_lp _ ua uc us _ kP uo r_kP_uo uH N) (by kernel_rfl)
      · go_simp
        have kQ := Box2.new V N.size (.bool false) (.slice none 0 0) 30
        have hb := below1 V (.cells #[.bool false, .slice none 0 0] 30)
        have r_kQ_uo := row_ne_high uo.toCame (Nat.le_refl _)
        replace uo := uo.below hb
        replace N := N.trans (hb.mono N.size)
        refine hK.out _ _ N (fun hHeld => ?_)
        clear hK K
        try simp only [Act.put, sA, sB, sC]
        rw [← hwp]
        exact met (H3_lq _ ua uc us _ kQ uo r_kQ_uo uH N) (by kernel_rfl)
    have H2_lplq : ∀ (lp : Nat) (lq : Nat) (V : World), Box2 W1.heap.size V lp (.bool false) (.slice none 0 0) → Box2 W1.heap.size V lq (.bool false) (.slice none 0 0) → lp ≠ lq → Below W1.heap.size W1 V → wp 5 #[true, true, true, true, true, false, true, true, false, false, true, true, false, false] ⟨#[.agg #[.int .i64 x1, .int .i64 y1], .agg #[.int .i64 x2, .int .i64 y2], .agg #[.int .i64 x3, .int .i64 y3], .agg #[.int .i64 x4, .int .i64 y4], .pointer (some ⟨w.heap.size, 0, none⟩), .pointer (some ⟨w.heap.size + 1, 0, none⟩), .pointer (some ⟨w.heap.size + 1 + 1, 0, none⟩), .pointer (some ⟨w.heap.size + 1 + 1 + 1, 0, none⟩), .pointer (some ⟨w.heap.size + 1 + 1 + 1 + 1, 0, none⟩), .pointer (some ⟨w.heap.size + 1 + 1 + 1 + 1 + 1, 0, none⟩), .pointer (some ⟨p, 0, none⟩), .pointer (some ⟨q, 0, none⟩), .pointer (some ⟨lp, 0, none⟩), .pointer (some ⟨lq, 0, none⟩), u14, u15, u16, u17, u18, u19, .agg #[.int .i64 x1, .int .i64 y1], .agg #[.int .i64 x3, .int .i64 y3], .agg #[.int .i64 (x3 - x1), .int .i64 (y3 - y1)], .agg #[.int .i64 (x4 - x3), .int .i64 (y4 - y3)], .int .i64 (partW x1 y1 x3 y3 x4 y4), u25, .agg #[.int .i64 (x2 - x1), .int .i64 (y2 - y1)], .agg #[.int .i64 (x4 - x3), .int .i64 (y4 - y3)], u28, u29, u30, u31, u32, u33, u34, u35, u36, u37, u38, u39, u40, u41, u42, u43], []⟩ V := by
     as_aux_lemma =>
      intro lp lq V kP kQ n_lplq N
      have hHeld : Below W1.heap.size W1 V := N
      rw [hwp]
      refine wpAnyH_ready (rs := [5]) (by kernel_rfl) (by simp) (AllReadyH.cons (gt rfl) (fun K hK => ?_) AllReadyH.nil)
      · go_simp
        refine (implOf (partW x1 y1 x3 y3 x4 y4) _ (by have := HB.out; omega) (by have := HB.out; omega)).mono ?_
        rintro ee V' ⟨u, rfl, ⟨ua, uc, us, rfl, uo, un, uv⟩, hb⟩
        rw [Hgp.out]
        have uH : Hid (Nrm us ∧ val us = mg (partW x1 y1 x3 y3 x4 y4)) := ⟨un, uv⟩
        clear un uv
        have r_kP_uo := row_ne_low uo kP.lt
        have r_kQ_uo := row_ne_low uo kQ.lt
        replace uo := uo.base_le N.size
        replace kP := kP.below hb
        replace kQ := kQ.below hb
        replace N := N.trans (hb.mono N.size)
        refine hK.out _ _ N (fun hHeld => ?_)
        clear hK K
        try simp only [Act.put, sA, sB, sC]
        rw [← hwp]
        exact met (H3_lplq lp lq ua uc us _ kP kQ n_lplq uo r_kP_uo r_kQ_uo uH N) (by kernel_rfl)
    have H2_lp : ∀ (lp : Nat) (V : World), Box2 W1.heap.size V lp (.bool false) (.slice none 0 0) → Below W1.heap.size W1 V → wp 6 #[true, true, true, true, true, false, true, true, false, false, true, false, false, false] ⟨#[.agg #[.int .i64 x1, .int .i64 y1], .agg #[.int .i64 x2, .int .i64 y2], .agg #[.int .i64 x3, .int .i64 y3], .agg #[.int .i64 x4, .int .i64 y4], .pointer (some ⟨w.heap.size, 0, none⟩), .pointer (some ⟨w.heap.size + 1, 0, none⟩), .pointer (some ⟨w.heap.size + 1 + 1, 0, none⟩), .pointer (some ⟨w.heap.size + 1 + 1 + 1, 0, none⟩), .pointer (some ⟨w.heap.size + 1 + 1 + 1 + 1, 0, none⟩), .pointer (some ⟨w.heap.size + 1 + 1 + 1 + 1 + 1, 0, none⟩), .pointer (some ⟨p, 0, none⟩), .pointer (some ⟨q, 0, none⟩), .pointer (some ⟨lp, 0, none⟩), undef, u14, u15, u16, u17, u18, u19, .agg #[.int .i64 x1, .int .i64 y1], .agg #[.int .i64 x3, .int .i64 y3], .agg #[.int .i64 (x3 - x1), .int .i64 (y3 - y1)], .agg #[.int .i64 (x4 - x3), .int .i64 (y4 - y3)], .int .i64 (partW x1 y1 x3 y3 x4 y4), u25, .agg #[.int .i64 (x2 - x1), .int .i64 (y2 - y1)], .agg #[.int .i64 (x4 - x3), .int .i64 (y4 - y3)], u28, u29, u30, u31, u32, u33, u34, u35, u36, u37, u38, u39, u40, u41, u42, u43], []⟩ V := by
     as_aux_lemma =>
      intro lp V kP N
      have hHeld : Below W1.heap.size W1 V := N
      rw [hwp]
      refine wpAnyH_ready (rs := [5, 11]) (by kernel_rfl) (by simp) (AllReadyH.cons (gt rfl) (fun K hK => ?_) (AllReadyH.cons (gt rfl) (fun K hK => ?_) AllReadyH.nil))
      · go_simp
        refine (implOf (partW x1 y1 x3 y3 x4 y4) _ (by have := HB.out; omega) (by have := HB.out; omega)).mono ?_
        rintro ee V' ⟨u, rfl, ⟨ua, uc, us, rfl, uo, un, uv⟩, hb⟩
        rw [Hgp.out]
        have uH : Hid (Nrm us ∧ val us = mg (partW x1 y1 x3 y3 x4 y4)) := ⟨un, uv⟩
        clear un uv
        have r_kP_uo := row_ne_low uo kP.lt
        replace uo := uo.base_le N.size
        replace kP := kP.below hb
        replace N := N.trans (hb.mono N.size)
        refine hK.out _ _ N (fun hHeld => ?_)
        clear hK K
        try simp only [Act.put, sA, sB, sC]
        rw [← hwp]
        exact met (H3_lp lp ua uc us _ kP uo r_kP_uo uH N) (by kernel_rfl)
      · go_simp
        have kQ := Box2.new V N.size (.bool false) (.slice none 0 0) 30
        have hb := below1 V (.cells #[.bool false, .slice none 0 0] 30)
        have g_lp := Nat.ne_of_lt kP.lt
        replace kP := kP.below hb
        replace N := N.trans (hb.mono N.size)
        refine hK.out _ _ N (fun hHeld => ?_)
        clear hK K
        try simp only [Act.put, sA, sB, sC]
        rw [← hwp]
        exact met (H2_lplq lp _ _ kP kQ g_lp N) (by kernel_rfl)
    have H2_lq : ∀ (lq : Nat) (V : World), Box2 W1.heap.size V lq (.bool false) (.slice none 0 0) → Below W1.heap.size W1 V → wp 6 #[true, true, true, true, true, false, true, true, false, false, false, true, false, false] ⟨#[.agg #[.int .i64 x1, .int .i64 y1], .agg #[.int .i64 x2, .int .i64 y2], .agg #[.int .i64 x3, .int .i64 y3], .agg #[.int .i64 x4, .int .i64 y4], .pointer (some ⟨w.heap.size, 0, none⟩), .pointer (some ⟨w.heap.size + 1, 0, none⟩), .pointer (some ⟨w.heap.size + 1 + 1, 0, none⟩), .pointer (some ⟨w.heap.size + 1 + 1 + 1, 0, none⟩), .pointer (some ⟨w.heap.size + 1 + 1 + 1 + 1, 0, none⟩), .pointer (some ⟨w.heap.size + 1 + 1 + 1 + 1 + 1, 0, none⟩), .pointer (some ⟨p, 0, none⟩), .pointer (some ⟨q, 0, none⟩), undef, .pointer (some ⟨lq, 0, none⟩), u14, u15, u16, u17, u18, u19, .agg #[.int .i64 x1, .int .i64 y1], .agg #[.int .i64 x3, .int .i64 y3], .agg #[.int .i64 (x3 - x1), .int .i64 (y3 - y1)], .agg #[.int .i64 (x4 - x3), .int .i64 (y4 - y3)], .int .i64 (partW x1 y1 x3 y3 x4 y4), u25, .agg #[.int .i64 (x2 - x1), .int .i64 (y2 - y1)], .agg #[.int .i64 (x4 - x3), .int .i64 (y4 - y3)], u28, u29, u30, u31, u32, u33, u34, u35, u36, u37, u38, u39, u40, u41, u42, u43], []⟩ V := by
     as_aux_lemma =>
      intro lq V kQ N
      have hHeld : Below W1.heap.size W1 V := N
      rw [hwp]
      refine wpAnyH_ready (rs := [5, 10]) (by kernel_rfl) (by simp) (AllReadyH.cons (gt rfl) (fun K hK => ?_) (AllReadyH.cons (gt rfl) (fun K hK => ?_) AllReadyH.nil))
      · go_simp
        refine (implOf (partW x1 y1 x3 y3 x4 y4) _ (by have := HB.out; omega) (by have := HB.out; omega)).mono ?_
        rintro ee V' ⟨u, rfl, ⟨ua, uc, us, rfl, uo, un, uv⟩, hb⟩
        rw [Hgp.out]
        have uH : Hid (Nrm us ∧ val us = mg (partW x1 y1 x3 y3 x4 y4)) := ⟨un, uv⟩
        clear un uv
        have r_kQ_uo := row_ne_low uo kQ.lt
        replace uo := uo.base_le N.size
        replace kQ := kQ.below hb
        replace N := N.trans (hb.mono N.size)
        refine hK.out _ _ N (fun hHeld => ?_)
        clear hK K
        try simp only [Act.put, sA, sB, sC]
        rw [← hwp]
        exact met (H3_lq lq ua uc us _ kQ uo r_kQ_uo uH N) (by kernel_rfl)
      · go_simp
        have kP := Box2.new V N.size (.bool false) (.slice none 0 0) 30
        have hb := below1 V (.cells #[.bool false, .slice none 0 0] 30)
        have g_lq := Nat.ne_of_lt kQ.lt
        replace kQ := kQ.below hb
        replace N := N.trans (hb.mono N.size)
        refine hK.out _ _ N (fun hHeld => ?_)
        clear hK K
        try simp only [Act.put, sA, sB, sC]
        rw [← hwp]
        exact met (H2_lplq _ lq _ kP kQ g_lq.symm N) (by kernel_rfl)
    have H2_ : ∀ (V : World), Below W1.heap.size W1 V → wp 7 #[true, true, true, true, true, false, true, true, false, false, false, false, false, false] ⟨#[.agg #[.int .i64 x1, .int .i64 y1], .agg #[.int .i64 x2, .int .i64 y2], .agg #[.int .i64 x3, .int .i64 y3], .agg #[.int .i64 x4, .int .i64 y4], .pointer (some ⟨w.heap.size, 0, none⟩), .pointer (some ⟨w.heap.size + 1, 0, none⟩), .pointer (some ⟨w.heap.size + 1 + 1, 0, none⟩), .pointer (some ⟨w.heap.size + 1 + 1 + 1, 0, none⟩), .pointer (some ⟨w.heap.size + 1 + 1 + 1 + 1, 0, none⟩), .pointer (some ⟨w.heap.size + 1 + 1 + 1 + 1 + 1, 0, none⟩), .pointer (some ⟨p, 0, none⟩), .pointer (some ⟨q, 0, none⟩), undef, undef, u14, u15, u16, u17, u18, u19, .agg #[.int .i64 x1, .int .i64 y1], .agg #[.int .i64 x3, .int .i64 y3], .agg #[.int .i64 (x3 - x1), .int .i64 (y3 - y1)], .agg #[.int .i64 (x4 - x3), .int .i64 (y4 - y3)], .int .i64 (partW x1 y1 x3 y3 x4 y4), u25, .agg #[.int .i64 (x2 - x1), .int .i64 (y2 - y1)], .agg #[.int .i64 (x4 - x3), .int .i64 (y4 - y3)], u28, u29, u30, u31, u32, u33, u34, u35, u36, u37, u38, u39, u40, u41, u42, u43], []⟩ V := by
     as_aux_lemma =>
      intro V N
      have hHeld : Below W1.heap.size W1 V := N
      rw [hwp]
      refine wpAnyH_ready (rs := [5, 10, 11]) (by kernel_rfl) (by simp) (AllReadyH.cons (gt rfl) (fun K hK => ?_) (AllReadyH.cons (gt rfl) (fun K hK => ?_) (AllReadyH.cons (gt rfl) (fun K hK => ?_) AllReadyH.nil)))
      · go_simp
        refine (implOf (partW x1 y1 x3 y3 x4 y4) _ (by have := HB.out; omega) (by have := HB.out; omega)).mono ?_
        rintro ee V' ⟨u, rfl, ⟨ua, uc, us, rfl, uo, un, uv⟩, hb⟩
        rw [Hgp.out]
        have uH : Hid (Nrm us ∧ val us = mg (partW x1 y1 x3 y3 x4 y4)) := ⟨un, uv⟩
        clear un uv
        replace uo := uo.base_le N.size
        replace N := N.trans (hb.mono N.size)
        refine hK.out _ _ N (fun hHeld => ?_)
        clear hK K
        try simp only [Act.put, sA, sB, sC]
        rw [← hwp]
        exact met (H3_ ua uc us _ uo uH N) (by kernel_rfl)
      · go_simp
        have kP := Box2.new V N.size (.bool false) (.slice none 0 0) 30
        have hb := below1 V (.cells #[.bool false, .slice none 0 0] 30)
        replace N := N.trans (hb.mono N.size)
        refine hK.out _ _ N (fun hHeld => ?_)
        clear hK K
        try simp only [Act.put, sA, sB, sC]
        rw [← hwp]
        exact met (H2_lp _ _ kP N) (by kernel_rfl)
      · go_simp
        have kQ := Box2.new V N.size (.bool false) (.slice none 0 0) 30
        have hb := below1 V (.cells #[.bool false, .slice none 0 0] 30)
        replace N := N.trans (hb.mono N.size)
        refine hK.out _ _ N (fun hHeld => ?_)
        clear hK K
        try simp only [Act.put, sA, sB, sC]
        rw [← hwp]
        exact met (H2_lq _ _ kQ N) (by kernel_rfl)
    have H1_lplq : ∀ (lp : Nat) (lq : Nat) (V : World), Box2 W1.heap.size V lp (.bool false) (.slice none 0 0) → Box2 W1.heap.size V lq (.bool false) (.slice none 0 0) → lp ≠ lq → Below W1.heap.size W1 V → wp 6 #[true, true, true, true, false, false, true, true, false, false, true, true, false, false] ⟨#[.agg #[.int .i64 x1, .int .i64 y1], .agg #[.int .i64 x2, .int .i64 y2], .agg #[.int .i64 x3, .int .i64 y3], .agg #[.int .i64 x4, .int .i64 y4], .pointer (some ⟨w.heap.size, 0, none⟩), .pointer (some ⟨w.heap.size + 1, 0, none⟩), .pointer (some ⟨w.heap.size + 1 + 1, 0, none⟩), .pointer (some ⟨w.heap.size + 1 + 1 + 1, 0, none⟩), .pointer (some ⟨w.heap.size + 1 + 1 + 1 + 1, 0, none⟩), .pointer (some ⟨w.heap.size + 1 + 1 + 1 + 1 + 1, 0, none⟩), .pointer (some ⟨p, 0, none⟩), .pointer (some ⟨q, 0, none⟩), .pointer (some ⟨lp, 0, none⟩), .pointer (some ⟨lq, 0, none⟩), u14, u15, u16, u17, u18, u19, .agg #[.int .i64 x1, .int .i64 y1], .agg #[.int .i64 x3, .int .i64 y3], .agg #[.int .i64 (x3 - x1), .int .i64 (y3 - y1)], .agg #[.int .i64 (x4 - x3), .int .i64 (y4 - y3)], u24, u25, .agg #[.int .i64 (x2 - x1), .int .i64 (y2 - y1)], .agg #[.int .i64 (x4 - x3), .int .i64 (y4 - y3)], u28, u29, u30, u31, u32, u33, u34, u35, u36, u37, u38, u39, u40, u41, u42, u43], []⟩ V := by
     as_aux_lemma =>
      intro lp lq V kP kQ n_lplq N
      have hHeld : Below W1.heap.size W1 V := N
      rw [hwp]
      refine wpAnyH_ready (rs := [4]) (by kernel_rfl) (by simp) (AllReadyH.cons (gt rfl) (fun K hK => ?_) AllReadyH.nil)
      · go_simp
        refine (across_any (x3 - x1) (y3 - y1) (x4 - x3) (y4 - y3) _ (c3.dif c1) (d3.dif d1) (c4.dif c3) (d4.dif d3)).mono ?_
        rintro e1 V' ⟨rfl, hb⟩
        rw [show (x3 - x1) * (y4 - y3) - (y3 - y1) * (x4 - x3) = (partW x1 y1 x3 y3 x4 y4) from rfl]
        replace kP := kP.below hb
        replace kQ := kQ.below hb
        replace N := N.trans (hb.mono N.size)
        refine hK.out _ _ N (fun hHeld => ?_)
        clear hK K
        try simp only [Act.put, sA, sB, sC]
        rw [← hwp]
        exact met (H2_lplq lp lq _ kP kQ n_lplq N) (by kernel_rfl)
    have H1_lp : ∀ (lp : Nat) (V : World), Box2 W1.heap.size V lp (.bool false) (.slice none 0 0) → Below W1.heap.size W1 V → wp 7 #[true, true, true, true, false, false, true, true, false, false, true, false, false, false] ⟨#[.agg #[.int .i64 x1, .int .i64 y1], .agg #[.int .i64 x2, .int .i64 y2], .agg #[.int .i64 x3, .int .i64 y3], .agg #[.int .i64 x4, .int .i64 y4], .pointer (some ⟨w.heap.size, 0, none⟩), .pointer (some ⟨w.heap.size + 1, 0, none⟩), .pointer (some ⟨w.heap.size + 1 + 1, 0, none⟩), .pointer (some ⟨w.heap.size + 1 + 1 + 1, 0, none⟩), .pointer (some ⟨w.heap.size + 1 + 1 + 1 + 1, 0, none⟩), .pointer (some ⟨w.heap.size + 1 + 1 + 1 + 1 + 1, 0, none⟩), .pointer (some ⟨p, 0, none⟩), .pointer (some ⟨q, 0, none⟩), .pointer (some ⟨lp, 0, none⟩), undef, u14, u15, u16, u17, u18, u19, .agg #[.int .i64 x1, .int .i64 y1], .agg #[.int .i64 x3, .int .i64 y3], .agg #[.int .i64 (x3 - x1), .int .i64 (y3 - y1)], .agg #[.int .i64 (x4 - x3), .int .i64 (y4 - y3)], u24, u25, .agg #[.int .i64 (x2 - x1), .int .i64 (y2 - y1)], .agg #[.int .i64 (x4 - x3), .int .i64 (y4 - y3)], u28, u29, u30, u31, u32, u33, u34, u35, u36, u37, u38, u39, u40, u41, u42, u43], []⟩ V := by
     as_aux_lemma =>
      intro lp V kP N
      have hHeld : Below W1.heap.size W1 V := N
      rw [hwp]
      refine wpAnyH_ready (rs := [4, 11]) (by kernel_rfl) (by simp) (AllReadyH.cons (gt rfl) (fun K hK => ?_) (AllReadyH.cons (gt rfl) (fun K hK => ?_) AllReadyH.nil))
      · go_simp
        refine (across_any (x3 - x1) (y3 - y1) (x4 - x3) (y4 - y3) _ (c3.dif c1) (d3.dif d1) (c4.dif c3) (d4.dif d3)).mono ?_
        rintro e1 V' ⟨rfl, hb⟩
        rw [show (x3 - x1) * (y4 - y3) - (y3 - y1) * (x4 - x3) = (partW x1 y1 x3 y3 x4 y4) from rfl]
        replace kP := kP.below hb
        replace N := N.trans (hb.mono N.size)
        refine hK.out _ _ N (fun hHeld => ?_)
        clear hK K
        try simp only [Act.put, sA, sB, sC]
        rw [← hwp]
        exact met (H2_lp lp _ kP N) (by kernel_rfl)
      · go_simp
        have kQ := Box2.new V N.size (.bool false) (.slice none 0 0) 30
        have hb := below1 V (.cells #[.bool false, .slice none 0 0] 30)
        have g_lp := Nat.ne_of_lt kP.lt
        replace kP := kP.below hb
        replace N := N.trans (hb.mono N.size)
        refine hK.out _ _ N (fun hHeld => ?_)
        clear hK K
        try simp only [Act.put, sA, sB, sC]
        rw [← hwp]
        exact met (H1_lplq lp _ _ kP kQ g_lp N) (by kernel_rfl)
    have H1_lq : ∀ (lq : Nat) (V : World), Box2 W1.heap.size V lq (.bool false) (.slice none 0 0) → Below W1.heap.size W1 V → wp 7 #[true, true, true, true, false, false, true, true, false, false, false, true, false, false] ⟨#[.agg #[.int .i64 x1, .int .i64 y1], .agg #[.int .i64 x2, .int .i64 y2], .agg #[.int .i64 x3, .int .i64 y3], .agg #[.int .i64 x4, .int .i64 y4], .pointer (some ⟨w.heap.size, 0, none⟩), .pointer (some ⟨w.heap.size + 1, 0, none⟩), .pointer (some ⟨w.heap.size + 1 + 1, 0, none⟩), .pointer (some ⟨w.heap.size + 1 + 1 + 1, 0, none⟩), .pointer (some ⟨w.heap.size + 1 + 1 + 1 + 1, 0, none⟩), .pointer (some ⟨w.heap.size + 1 + 1 + 1 + 1 + 1, 0, none⟩), .pointer (some ⟨p, 0, none⟩), .pointer (some ⟨q, 0, none⟩), undef, .pointer (some ⟨lq, 0, none⟩), u14, u15, u16, u17, u18, u19, .agg #[.int .i64 x1, .int .i64 y1], .agg #[.int .i64 x3, .int .i64 y3], .agg #[.int .i64 (x3 - x1), .int .i64 (y3 - y1)], .agg #[.int .i64 (x4 - x3), .int .i64 (y4 - y3)], u24, u25, .agg #[.int .i64 (x2 - x1), .int .i64 (y2 - y1)], .agg #[.int .i64 (x4 - x3), .int .i64 (y4 - y3)], u28, u29, u30, u31, u32, u33, u34, u35, u36, u37, u38, u39, u40, u41, u42, u43], []⟩ V := by
     as_aux_lemma =>
      intro lq V kQ N
      have hHeld : Below W1.heap.size W1 V := N
      rw [hwp]
      refine wpAnyH_ready (rs := [4, 10]) (by kernel_rfl) (by simp) (AllReadyH.cons (gt rfl) (fun K hK => ?_) (AllReadyH.cons (gt rfl) (fun K hK => ?_) AllReadyH.nil))
      · go_simp
        refine (across_any (x3 - x1) (y3 - y1) (x4 - x3) (y4 - y3) _ (c3.dif c1) (d3.dif d1) (c4.dif c3) (d4.dif d3)).mono ?_
        rintro e1 V' ⟨rfl, hb⟩
        rw [show (x3 - x1) * (y4 - y3) - (y3 - y1) * (x4 - x3) = (partW x1 y1 x3 y3 x4 y4) from rfl]
        replace kQ := kQ.below hb
        replace N := N.trans (hb.mono N.size)
        refine hK.out _ _ N (fun hHeld => ?_)
        clear hK K
        try simp only [Act.put, sA, sB, sC]
        rw [← hwp]
        exact met (H2_lq lq _ kQ N) (by kernel_rfl)
      · go_simp
        have kP := Box2.new V N.size (.bool false) (.slice none 0 0) 30
        have hb := below1 V (.cells #[.bool false, .slice none 0 0] 30)
        have g_lq := Nat.ne_of_lt kQ.lt
        replace kQ := kQ.below hb
        replace N := N.trans (hb.mono N.size)
        refine hK.out _ _ N (fun hHeld => ?_)
        clear hK K
        try simp only [Act.put, sA, sB, sC]
        rw [← hwp]
        exact met (H1_lplq _ lq _ kP kQ g_lq.symm N) (by kernel_rfl)
    have H1_ : ∀ (V : World), Below W1.heap.size W1 V → wp 8 #[true, true, true, true, false, false, true, true, false, false, false, false, false, false] ⟨#[.agg #[.int .i64 x1, .int .i64 y1], .agg #[.int .i64 x2, .int .i64 y2], .agg #[.int .i64 x3, .int .i64 y3], .agg #[.int .i64 x4, .int .i64 y4], .pointer (some ⟨w.heap.size, 0, none⟩), .pointer (some ⟨w.heap.size + 1, 0, none⟩), .pointer (some ⟨w.heap.size + 1 + 1, 0, none⟩), .pointer (some ⟨w.heap.size + 1 + 1 + 1, 0, none⟩), .pointer (some ⟨w.heap.size + 1 + 1 + 1 + 1, 0, none⟩), .pointer (some ⟨w.heap.size + 1 + 1 + 1 + 1 + 1, 0, none⟩), .pointer (some ⟨p, 0, none⟩), .pointer (some ⟨q, 0, none⟩), undef, undef, u14, u15, u16, u17, u18, u19, .agg #[.int .i64 x1, .int .i64 y1], .agg #[.int .i64 x3, .int .i64 y3], .agg #[.int .i64 (x3 - x1), .int .i64 (y3 - y1)], .agg #[.int .i64 (x4 - x3), .int .i64 (y4 - y3)], u24, u25, .agg #[.int .i64 (x2 - x1), .int .i64 (y2 - y1)], .agg #[.int .i64 (x4 - x3), .int .i64 (y4 - y3)], u28, u29, u30, u31, u32, u33, u34, u35, u36, u37, u38, u39, u40, u41, u42, u43], []⟩ V := by
     as_aux_lemma =>
      intro V N
      have hHeld : Below W1.heap.size W1 V := N
      rw [hwp]
      refine wpAnyH_ready (rs := [4, 10, 11]) (by kernel_rfl) (by simp) (AllReadyH.cons (gt rfl) (fun K hK => ?_) (AllReadyH.cons (gt rfl) (fun K hK => ?_) (AllReadyH.cons (gt rfl) (fun K hK => ?_) AllReadyH.nil)))
      · go_simp
        refine (across_any (x3 - x1) (y3 - y1) (x4 - x3) (y4 - y3) _ (c3.dif c1) (d3.dif d1) (c4.dif c3) (d4.dif d3)).mono ?_
        rintro e1 V' ⟨rfl, hb⟩
        rw [show (x3 - x1) * (y4 - y3) - (y3 - y1) * (x4 - x3) = (partW x1 y1 x3 y3 x4 y4) from rfl]
        replace N := N.trans (hb.mono N.size)
        refine hK.out _ _ N (fun hHeld => ?_)
        clear hK K
        try simp only [Act.put, sA, sB, sC]
        rw [← hwp]
        exact met (H2_ _ N) (by kernel_rfl)
      · go_simp
        have kP := Box2.new V N.size (.bool false) (.slice none 0 0) 30
        have hb := below1 V (.cells #[.bool false, .slice none 0 0] 30)
        replace N := N.trans (hb.mono N.size)
        refine hK.out _ _ N (fun hHeld => ?_)
        clear hK K
        try simp only [Act.put, sA, sB, sC]
        rw [← hwp]
        exact met (H1_lp _ _ kP N) (by kernel_rfl)
      · go_simp
        have kQ := Box2.new V N.size (.bool false) (.slice none 0 0) 30
        have hb := below1 V (.cells #[.bool false, .slice none 0 0] 30)
        replace N := N.trans (hb.mono N.size)
        refine hK.out _ _ N (fun hHeld => ?_)
        clear hK K
        try simp only [Act.put, sA, sB, sC]
        rw [← hwp]
        exact met (H1_lq _ _ kQ N) (by kernel_rfl)
    have H0_lplq : ∀ (lp : Nat) (lq : Nat) (V : World), Box2 W1.heap.size V lp (.bool false) (.slice none 0 0) → Box2 W1.heap.size V lq (.bool false) (.slice none 0 0) → lp ≠ lq → Below W1.heap.size W1 V → wp 7 #[true, true, false, true, false, false, true, true, false, false, true, true, false, false] ⟨#[.agg #[.int .i64 x1, .int .i64 y1], .agg #[.int .i64 x2, .int .i64 y2], .agg #[.int .i64 x3, .int .i64 y3], .agg #[.int .i64 x4, .int .i64 y4], .pointer (some ⟨w.heap.size, 0, none⟩), .pointer (some ⟨w.heap.size + 1, 0, none⟩), .pointer (some ⟨w.heap.size + 1 + 1, 0, none⟩), .pointer (some ⟨w.heap.size + 1 + 1 + 1, 0, none⟩), .pointer (some ⟨w.heap.size + 1 + 1 + 1 + 1, 0, none⟩), .pointer (some ⟨w.heap.size + 1 + 1 + 1 + 1 + 1, 0, none⟩), .pointer (some ⟨p, 0, none⟩), .pointer (some ⟨q, 0, none⟩), .pointer (some ⟨lp, 0, none⟩), .pointer (some ⟨lq, 0, none⟩), u14, u15, u16, u17, u18, u19, .agg #[.int .i64 x1, .int .i64 y1], .agg #[.int .i64 x3, .int .i64 y3], u22, .agg #[.int .i64 (x4 - x3), .int .i64 (y4 - y3)], u24, u25, .agg #[.int .i64 (x2 - x1), .int .i64 (y2 - y1)], .agg #[.int .i64 (x4 - x3), .int .i64 (y4 - y3)], u28, u29, u30, u31, u32, u33, u34, u35, u36, u37, u38, u39, u40, u41, u42, u43], []⟩ V := by
     as_aux_lemma =>
      intro lp lq V kP kQ n_lplq N
      have hHeld : Below W1.heap.size W1 V := N
      rw [hwp]
      refine wpAnyH_ready (rs := [2]) (by kernel_rfl) (by simp) (AllReadyH.cons (gt rfl) (fun K hK => ?_) AllReadyH.nil)
      · go_simp
        refine (way_any x1 y1 x3 y3 _ c1 d1 c3 d3).mono ?_
        rintro e1 V' ⟨rfl, hb⟩
        replace kP := kP.below hb
        replace kQ := kQ.below hb
        replace N := N.trans (hb.mono N.size)
        refine hK.out _ _ N (fun hHeld => ?_)
        clear hK K
        try simp only [Act.put, sA, sB, sC]
        rw [← hwp]
        exact met (H1_lplq lp lq _ kP kQ n_lplq N) (by kernel_rfl)
    have H0_lp : ∀ (lp : Nat) (V : World), Box2 W1.heap.size V lp (.bool false) (.slice none 0 0) → Below W1.heap.size W1 V → wp 8 #[true, true, false, true, false, false, true, true, false, false, true, false, false, false] ⟨#[.agg #[.int .i64 x1, .int .i64 y1], .agg #[.int .i64 x2, .int .i64 y2], .agg #[.int .i64 x3, .int .i64 y3], .agg #[.int .i64 x4, .int .i64 y4], .pointer (some ⟨w.heap.size, 0, none⟩), .pointer (some ⟨w.heap.size + 1, 0, none⟩), .pointer (some ⟨w.heap.size + 1 + 1, 0, none⟩), .pointer (some ⟨w.heap.size + 1 + 1 + 1, 0, none⟩), .pointer (some ⟨w.heap.size + 1 + 1 + 1 + 1, 0, none⟩), .pointer (some ⟨w.heap.size + 1 + 1 + 1 + 1 + 1, 0, none⟩), .pointer (some ⟨p, 0, none⟩), .pointer (some ⟨q, 0, none⟩), .pointer (some ⟨lp, 0, none⟩), undef, u14, u15, u16, u17, u18, u19, .agg #[.int .i64 x1, .int .i64 y1], .agg #[.int .i64 x3, .int .i64 y3], u22, .agg #[.int .i64 (x4 - x3), .int .i64 (y4 - y3)], u24, u25, .agg #[.int .i64 (x2 - x1), .int .i64 (y2 - y1)], .agg #[.int .i64 (x4 - x3), .int .i64 (y4 - y3)], u28, u29, u30, u31, u32, u33, u34, u35, u36, u37, u38, u39, u40, u41, u42, u43], []⟩ V := by
     as_aux_lemma =>
      intro lp V kP N
      have hHeld : Below W1.heap.size W1 V := N
      rw [hwp]
      refine wpAnyH_ready (rs := [2, 11]) (by kernel_rfl) (by simp) (AllReadyH.cons (gt rfl) (fun K hK => ?_) (AllReadyH.cons (gt rfl) (fun K hK => ?_) AllReadyH.nil))
      · go_simp
        refine (way_any x1 y1 x3 y3 _ c1 d1 c3 d3).mono ?_
        rintro e1 V' ⟨rfl, hb⟩
        replace kP := kP.below hb
        replace N := N.trans (hb.mono N.size)
        refine hK.out _ _ N (fun hHeld => ?_)
        clear hK K
        try simp only [Act.put, sA, sB, sC]
        rw [← hwp]
        exact met (H1_lp lp _ kP N) (by kernel_rfl)
      · go_simp
        have kQ := Box2.new V N.size (.bool false) (.slice none 0 0) 30
        have hb := below1 V (.cells #[.bool false, .slice none 0 0] 30)
        have g_lp := Nat.ne_of_lt kP.lt
        replace kP := kP.below hb
        replace N := N.trans (hb.mono N.size)
        refine hK.out _ _ N (fun hHeld => ?_)
        clear hK K
        try simp only [Act.put, sA, sB, sC]
        rw [← hwp]
        exact met (H0_lplq lp _ _ kP kQ g_lp N) (by kernel_rfl)
    have H0_lq : ∀ (lq : Nat) (V : World), Box2 W1.heap.size V lq (.bool false) (.slice none 0 0) → Below W1.heap.size W1 V → wp 8 #[true, true, false, true, false, false, true, true, false, false, false, true, false, false] ⟨#[.agg #[.int .i64 x1, .int .i64 y1], .agg #[.int .i64 x2, .int .i64 y2], .agg #[.int .i64 x3, .int .i64 y3], .agg #[.int .i64 x4, .int .i64 y4], .pointer (some ⟨w.heap.size, 0, none⟩), .pointer (some ⟨w.heap.size + 1, 0, none⟩), .pointer (some ⟨w.heap.size + 1 + 1, 0, none⟩), .pointer (some ⟨w.heap.size + 1 + 1 + 1, 0, none⟩), .pointer (some ⟨w.heap.size + 1 + 1 + 1 + 1, 0, none⟩), .pointer (some ⟨w.heap.size + 1 + 1 + 1 + 1 + 1, 0, none⟩), .pointer (some ⟨p, 0, none⟩), .pointer (some ⟨q, 0, none⟩), undef, .pointer (some ⟨lq, 0, none⟩), u14, u15, u16, u17, u18, u19, .agg #[.int .i64 x1, .int .i64 y1], .agg #[.int .i64 x3, .int .i64 y3], u22, .agg #[.int .i64 (x4 - x3), .int .i64 (y4 - y3)], u24, u25, .agg #[.int .i64 (x2 - x1), .int .i64 (y2 - y1)], .agg #[.int .i64 (x4 - x3), .int .i64 (y4 - y3)], u28, u29, u30, u31, u32, u33, u34, u35, u36, u37, u38, u39, u40, u41, u42, u43], []⟩ V := by
     as_aux_lemma =>
      intro lq V kQ N
      have hHeld : Below W1.heap.size W1 V := N
      rw [hwp]
      refine wpAnyH_ready (rs := [2, 10]) (by kernel_rfl) (by simp) (AllReadyH.cons (gt rfl) (fun K hK => ?_) (AllReadyH.cons (gt rfl) (fun K hK => ?_) AllReadyH.nil))
      · go_simp
        refine (way_any x1 y1 x3 y3 _ c1 d1 c3 d3).mono ?_
        rintro e1 V' ⟨rfl, hb⟩
        replace kQ := kQ.below hb
        replace N := N.trans (hb.mono N.size)
        refine hK.out _ _ N (fun hHeld => ?_)
        clear hK K
        try simp only [Act.put, sA, sB, sC]
        rw [← hwp]
        exact met (H1_lq lq _ kQ N) (by kernel_rfl)
      · go_simp
        have kP := Box2.new V N.size (.bool false) (.slice none 0 0) 30
        have hb := below1 V (.cells #[.bool false, .slice none 0 0] 30)
        have g_lq := Nat.ne_of_lt kQ.lt
        replace kQ := kQ.below hb
        replace N := N.trans (hb.mono N.size)
        refine hK.out _ _ N (fun hHeld => ?_)
        clear hK K
        try simp only [Act.put, sA, sB, sC]
        rw [← hwp]
        exact met (H0_lplq _ lq _ kP kQ g_lq.symm N) (by kernel_rfl)
    have H0_ : ∀ (V : World), Below W1.heap.size W1 V → wp 9 #[true, true, false, true, false, false, true, true, false, false, false, false, false, false] ⟨#[.agg #[.int .i64 x1, .int .i64 y1], .agg #[.int .i64 x2, .int .i64 y2], .agg #[.int .i64 x3, .int .i64 y3], .agg #[.int .i64 x4, .int .i64 y4], .pointer (some ⟨w.heap.size, 0, none⟩), .pointer (some ⟨w.heap.size + 1, 0, none⟩), .pointer (some ⟨w.heap.size + 1 + 1, 0, none⟩), .pointer (some ⟨w.heap.size + 1 + 1 + 1, 0, none⟩), .pointer (some ⟨w.heap.size + 1 + 1 + 1 + 1, 0, none⟩), .pointer (some ⟨w.heap.size + 1 + 1 + 1 + 1 + 1, 0, none⟩), .pointer (some ⟨p, 0, none⟩), .pointer (some ⟨q, 0, none⟩), undef, undef, u14, u15, u16, u17, u18, u19, .agg #[.int .i64 x1, .int .i64 y1], .agg #[.int .i64 x3, .int .i64 y3], u22, .agg #[.int .i64 (x4 - x3), .int .i64 (y4 - y3)], u24, u25, .agg #[.int .i64 (x2 - x1), .int .i64 (y2 - y1)], .agg #[.int .i64 (x4 - x3), .int .i64 (y4 - y3)], u28, u29, u30, u31, u32, u33, u34, u35, u36, u37, u38, u39, u40, u41, u42, u43], []⟩ V := by
     as_aux_lemma =>
      intro V N
      have hHeld : Below W1.heap.size W1 V := N
      rw [hwp]
      refine wpAnyH_ready (rs := [2, 10, 11]) (by kernel_rfl) (by simp) (AllReadyH.cons (gt rfl) (fun K hK => ?_) (AllReadyH.cons (gt rfl) (fun K hK => ?_) (AllReadyH.cons (gt rfl) (fun K hK => ?_) AllReadyH.nil)))
      · go_simp
        refine (way_any x1 y1 x3 y3 _ c1 d1 c3 d3).mono ?_
        rintro e1 V' ⟨rfl, hb⟩
        replace N := N.trans (hb.mono N.size)
        refine hK.out _ _ N (fun hHeld => ?_)
        clear hK K
        try simp only [Act.put, sA, sB, sC]
        rw [← hwp]
        exact met (H1_ _ N) (by kernel_rfl)
      · go_simp
        have kP := Box2.new V N.size (.bool false) (.slice none 0 0) 30
        have hb := below1 V (.cells #[.bool false, .slice none 0 0] 30)
        replace N := N.trans (hb.mono N.size)
        refine hK.out _ _ N (fun hHeld => ?_)
        clear hK K
        try simp only [Act.put, sA, sB, sC]
        rw [← hwp]
        exact met (H0_lp _ _ kP N) (by kernel_rfl)
      · go_simp
        have kQ := Box2.new V N.size (.bool false) (.slice none 0 0) 30
        have hb := below1 V (.cells #[.bool false, .slice none 0 0] 30)
        replace N := N.trans (hb.mono N.size)
        refine hK.out _ _ N (fun hHeld => ?_)
        clear hK K
        try simp only [Act.put, sA, sB, sC]
        rw [← hwp]
        exact met (H0_lq _ _ kQ N) (by kernel_rfl)
    exact met (H0_ _ N) (by kernel_rfl)
  obtain ⟨r, s, a1, f1, ps, a2, f2, qs, rfl, rfl, VR, VS, o1, o2, HN, hb⟩ := hcut
  rename World => W2
  replace k0 := bat hb k0
  replace k1 := bat hb k1
  replace j0 := bat hb j0
  replace j1 := bat hb j1
  replace R1 := R1.below hb
  replace R2 := R2.below hb
  replace VP := VP.below hb
  replace B := B.trans (hb.mono B.size)
  clear hb
  clear k2 k3 k4 k5 k6 k7 m0 m1 VQ
  have l1 : ps.length ≤ 24 := of_len (n := (partW x1 y1 x3 y3 x4 y4)) (by have := HB.out; omega) (by have := HB.out; omega) o1.lim HN.out.1 HN.out.2.1
  have l2 : qs.length ≤ 24 := of_len (n := (allW x1 y1 x2 y2 x3 y3 x4 y4)) (by have := HB.out; omega) (by have := HB.out; omega) o2.lim HN.out.2.2.1 HN.out.2.2.2
  have bx1 : -9223372036854775808 ≤ x1 ∧ x1 ≤ 9223372036854775807 := by unfold Crd at c1; omega
  have by1 : -9223372036854775808 ≤ y1 ∧ y1 ≤ 9223372036854775807 := by unfold Crd at d1; omega
  have bx2 : -9223372036854775808 ≤ x2 - x1 ∧ x2 - x1 ≤ 9223372036854775807 := by unfold Crd at c1 c2; omega
  have by2 : -9223372036854775808 ≤ y2 - y1 ∧ y2 - y1 ≤ 9223372036854775807 := by unfold Crd at d1 d2; omega
  have HL : Hid (ps.length ≤ 24 ∧ qs.length ≤ 24) := ⟨l1, l2⟩
  have Z2 : W0.heap.size ≤ p := VP.lo
  have Z3 : W1.heap.size ≤ r := VR.lo
  have Z4 : W1.heap.size ≤ s := VS.lo
  have K8 : W2.cell? ⟨w.heap.size, 0, none⟩ = some (.int .i64 x1) ∧ W2.cell? ⟨w.heap.size, 1, none⟩ = some (.int .i64 y1) ∧ W2.cell? ⟨p, 0, none⟩ = some (.int .i64 (x2 - x1)) ∧ W2.cell? ⟨p, 1, none⟩ = some (.int .i64 (y2 - y1)) ∧ W2.cell? ⟨r, 0, none⟩ = some (.bool gp) ∧ W2.cell? ⟨r, 1, none⟩ = some (.slice a1 ps.length f1) ∧ W2.cell? ⟨s, 0, none⟩ = some (.bool ga) ∧ W2.cell? ⟨s, 1, none⟩ = some (.slice a2 qs.length f2) := ⟨k0, k1, VP.c0, VP.c1, VR.c0, VR.c1, VS.c0, VS.c1⟩
  have Kd : W2.drew.cell? ⟨w.heap.size, 0, none⟩ = some (.int .i64 x1) ∧ W2.drew.cell? ⟨w.heap.size, 1, none⟩ = some (.int .i64 y1) ∧ W2.drew.cell? ⟨p, 0, none⟩ = some (.int .i64 (x2 - x1)) ∧ W2.drew.cell? ⟨p, 1, none⟩ = some (.int .i64 (y2 - y1)) ∧ W2.drew.cell? ⟨r, 0, none⟩ = some (.bool gp) ∧ W2.drew.cell? ⟨r, 1, none⟩ = some (.slice a1 ps.length f1) ∧ W2.drew.cell? ⟨s, 0, none⟩ = some (.bool ga) ∧ W2.drew.cell? ⟨s, 1, none⟩ = some (.slice a2 qs.length f2) := K8
  have N0 : Below W2.heap.size W2 W2.drew := (Below.refl _ _).drew
  have Z5 := R2.lt
  go_upto_region 3 with fail
  clear k0 k1 j0 j1
  go_region_held3 (fun w' => w'.cell? ⟨w.heap.size, 0, none⟩ = some (.int .i64 x1) ∧ w'.cell? ⟨w.heap.size, 1, none⟩ = some (.int .i64 y1) ∧ w'.cell? ⟨p, 0, none⟩ = some (.int .i64 (x2 - x1)) ∧ w'.cell? ⟨p, 1, none⟩ = some (.int .i64 (y2 - y1)) ∧ w'.cell? ⟨r, 0, none⟩ = some (.bool gp) ∧ w'.cell? ⟨r, 1, none⟩ = some (.slice a1 ps.length f1) ∧ w'.cell? ⟨s, 0, none⟩ = some (.bool ga) ∧ w'.cell? ⟨s, 1, none⟩ = some (.slice a2 qs.length f2))
    (first | with_reducible exact Kd | with_reducible exact t1 | with_reducible exact t2 | with_reducible exact ⟨(cput4 (by omega)).trans t2.1, (cput4 (by omega)).trans t2.2.1, (cput4 (by omega)).trans t2.2.2.1, (cput4 (by omega)).trans t2.2.2.2.1, (cput4 (by omega)).trans t2.2.2.2.2.1, (cput4 (by omega)).trans t2.2.2.2.2.2.1, (cput4 (by omega)).trans t2.2.2.2.2.2.2.1, (cput4 (by omega)).trans t2.2.2.2.2.2.2.2⟩ | with_reducible exact ⟨(cput4 (by omega)).trans ((cput4 (by omega)).trans t2.1), (cput4 (by omega)).trans ((cput4 (by omega)).trans t2.2.1), (cput4 (by omega)).trans ((cput4 (by omega)).trans t2.2.2.1), (cput4 (by omega)).trans ((cput4 (by omega)).trans t2.2.2.2.1), (cput4 (by omega)).trans ((cput4 (by omega)).trans t2.2.2.2.2.1), (cput4 (by omega)).trans ((cput4 (by omega)).trans t2.2.2.2.2.2.1), (cput4 (by omega)).trans ((cput4 (by omega)).trans t2.2.2.2.2.2.2.1), (cput4 (by omega)).trans ((cput4 (by omega)).trans t2.2.2.2.2.2.2.2)⟩)
    (first
    | (go_at_call_of 35 (Value.int .i64 x1); refine (partWayC x1 (x2 - x1) gp ga a1 a2 f1 f2 ps qs _ (partW x1 y1 x3 y3 x4 y4) (allW x1 y1 x2 y2 x3 y3 x4 y4) (o1.toSees.below N0) (o2.toSees.below N0) HN.out.2.2.1 HN.out.2.1 HN.out.2.2.2 l1 l2 Hgp.out Hga.out HB.out.2.2 bx1 bx2).mono ?_; rintro e w3 ⟨v3, rfl, I3, hb⟩; have N3 := N0.trans hb; have t1 : w3.cell? ⟨w.heap.size, 0, none⟩ = some (.int .i64 x1) ∧ w3.cell? ⟨w.heap.size, 1, none⟩ = some (.int .i64 y1) ∧ w3.cell? ⟨p, 0, none⟩ = some (.int .i64 (x2 - x1)) ∧ w3.cell? ⟨p, 1, none⟩ = some (.int .i64 (y2 - y1)) ∧ w3.cell? ⟨r, 0, none⟩ = some (.bool gp) ∧ w3.cell? ⟨r, 1, none⟩ = some (.slice a1 ps.length f1) ∧ w3.cell? ⟨s, 0, none⟩ = some (.bool ga) ∧ w3.cell? ⟨s, 1, none⟩ = some (.slice a2 qs.length f2) := ⟨bat N3 K8.1, bat N3 K8.2.1, bat N3 K8.2.2.1, bat N3 K8.2.2.2.1, bat N3 K8.2.2.2.2.1, bat N3 K8.2.2.2.2.2.1, bat N3 K8.2.2.2.2.2.2.1, bat N3 K8.2.2.2.2.2.2.2⟩; have z3 := N3.size)
    | (go_at_call_of 35 (Value.int .i64 y1); refine (partWayC y1 (y2 - y1) gp ga a1 a2 f1 f2 ps qs _ (partW x1 y1 x3 y3 x4 y4) (allW x1 y1 x2 y2 x3 y3 x4 y4) (o1.toSees.below N3) (o2.toSees.below N3) HN.out.2.2.1 HN.out.2.1 HN.out.2.2.2 l1 l2 Hgp.out Hga.out HB.out.2.2 by1 by2).mono ?_; rintro e w4 ⟨v4, rfl, I4, hb4⟩; have N4 := N3.trans (hb4.mono N3.size); have t2 : w4.cell? ⟨w.heap.size, 0, none⟩ = some (.int .i64 x1) ∧ w4.cell? ⟨w.heap.size, 1, none⟩ = some (.int .i64 y1) ∧ w4.cell? ⟨p, 0, none⟩ = some (.int .i64 (x2 - x1)) ∧ w4.cell? ⟨p, 1, none⟩ = some (.int .i64 (y2 - y1)) ∧ w4.cell? ⟨r, 0, none⟩ = some (.bool gp) ∧ w4.cell? ⟨r, 1, none⟩ = some (.slice a1 ps.length f1) ∧ w4.cell? ⟨s, 0, none⟩ = some (.bool ga) ∧ w4.cell? ⟨s, 1, none⟩ = some (.slice a2 qs.length f2) := ⟨bat N4 K8.1, bat N4 K8.2.1, bat N4 K8.2.2.1, bat N4 K8.2.2.2.1, bat N4 K8.2.2.2.2.1, bat N4 K8.2.2.2.2.2.1, bat N4 K8.2.2.2.2.2.2.1, bat N4 K8.2.2.2.2.2.2.2⟩; have TF := (TwoFr.of I3 hb4 I4 z3 (Nat.le_refl _)).base_le (show W2.heap.size ≤ _ from Nat.le_refl _); obtain ⟨h1, q1, n1, r1, h2, q2, n2, r2, h3, q3, n3, r3, h4, q4, n4, r4, e1, e2⟩ := TF.is'; subst e1; subst e2; have B4 := B.trans (N4.mono B.size); have R14 := R1.below N4; have R24 := R2.below N4; obtain ⟨s0, s1, s2, s3, sf, _⟩ := id R14; obtain ⟨u0, u1, u2, u3, uf, _⟩ := id R24))
  all_goals
    have f1 := (((TF.put (b := w.heap.size + 1 + 1 + 1 + 1) (by omega) (.bool h1) (.slice q1 n1 r1) (.bool h2) (.slice q2 n2 r2)).put (b := w.heap.size + 1 + 1 + 1 + 1 + 1) (by omega) (.bool h3) (.slice q3 n3 r3) (.bool h4) (.slice q4 n4 r4))).base_le (show w.heap.size ≤ W2.heap.size by omega)
    have f3 := Box4.chain (Box4.chain B4 R14 (.bool h1) (.slice q1 n1 r1) (.bool h2) (.slice q2 n2 r2)) (R24.old (by omega) (.bool h1) (.slice q1 n1 r1) (.bool h2) (.slice q2 n2 r2)) (.bool h3) (.slice q3 n3 r3) (.bool h4) (.slice q4 n4 r4)
    go_wp2
    exact bodyPost_ret (v := .tuple #[.agg #[.bool h1, .slice q1 n1 r1, .bool h2, .slice q2 n2 r2], .agg #[.bool h3, .slice q3 n3 r3, .bool h4, .slice q4 n4 r4]]) (by simp [results, Try.results18, go_sem, s0, s1, s2, s3, u0, u1, u2, u3]) rfl ⟨_, _, rfl, f1, f3⟩
end Go.Proofs.Ytfhcbgjnojcigaa
