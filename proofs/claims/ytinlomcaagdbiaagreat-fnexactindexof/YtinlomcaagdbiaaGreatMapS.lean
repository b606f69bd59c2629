/- Whether a list of entries is a map: of the specification. -/
import Derived.Test.YtinlomcaagdbiaaGreatSBox
import Derived.Test.YtinlomcaagdbiaaGreatParM
namespace Go.Proofs.YtinlomcaagdbiaaGreat
open Go.RowKit

theorem l1InW (n lo hi : Int) (w : World) :
  Calls Tryz.prog 34 #[.int .i64 n, .int .i64 lo, .int .i64 hi] w fun e w' => e = .returned (.bool (inB n lo hi)) ∧ Below w.heap.size w w' :=
 (l1In_any n lo hi w).mono fun _ _ q => ⟨q.1, by rw [q.2]; exact Below.refl _ _⟩

set_option maxRecDepth 20000 in
set_option maxHeartbeats 4000000 in
theorem specMapOk (a : Option Addr) (c : Nat) (es : List En) (w : World) (h : SeesEn w a c es) :
  Calls Tryz.prog 14 #[.slice a es.length c] w fun e w' => e = .returned (.bool (mpB es)) ∧ Below w.heap.size w w' := by
 have hm := h.max
 have hf := h.fits
 unfold maxLen at hm
 obtain ⟨z, HZ⟩ : ∃ z, Hid (mpB es = z) := ⟨_, rfl⟩
 rw [HZ.out]
 by_cases hl : es.length ≤ 500
 ·have hn5 : ¬ (500 : Int) < es.length := by omega
  have ZN : Hid (∀ j, j < es.length → atE es j = false → z = false) := fun j hj q => by
   rw [← HZ.out]; unfold mpB; rw [mpTo_no hj q, Bool.and_false]
  have ZY : Hid (mpTo es es.length = true → z = true) := fun q => by
   rw [← HZ.out]; unfold mpB; rw [q, decide_eq_true hl]; rfl
  clear HZ
  go_enter Tryz.func14, Tryz.ntmps14
  go_wp2
  go_loopw [3] (fun s3 wr => ∃ (j : Nat), j ≤ es.length ∧ s3 = .int .i64 j ∧ Hid (mpTo es j = true) ∧ Below w.heap.size w wr) (fun s3 _ => es.length - (intOf s3).toNat)
  case atStart => exact ⟨0, Nat.zero_le _, rfl, rfl, Below.refl _ _⟩
  case round =>
   obtain ⟨j, hj, rfl, hto, B⟩ := hrel
   rename World => wr
   by_cases hlt : j < es.length
   ·obtain ⟨b, off, rfl, hc⟩ := (h.below B).cells (by intro e; simp [e] at hlt)
    obtain ⟨g0, g1, a', c', g2, sp⟩ := hc j hlt
    rcases Nat.eq_zero_or_pos j with rfl | hpos
    ·have EA : Hid (atE es 0 = (inB (enA es 0).1 1 1000000 && (decide (0 < (enA es 0).1) && goodB (enA es 0).2.1 (enA es 0).2.2))) := rfl
     clear hc
     generalize enA es 0 = en at *
     obtain ⟨ix, n, rs⟩ := en
     dsimp only at g0 g1 g2 sp EA
     simp only [Nat.zero_mul, Nat.add_zero] at g0 g1 g2
     have j0 : ((0 : Nat) : Int) = 0 := rfl
     cases hi : inB ix 1 1000000
     ·have Z : Hid (z = false) := ZN.out 0 hlt (by rw [EA.out, hi]; rfl)
      clear EA hto
      go_wp2_with fail
      refine wp_region_held_drew (S := Below wr.heap.size wr) (by kernel_rfl) ((Below.refl _ _).drew) (fun hHeld => ?_)
      have N : Below wr.heap.size wr wr.drew := hHeld
      revert hHeld N
      generalize wr.drew = ww0
      intro hHeld N
      refine takeA (i := 0) (h := ?_)
      refine takeA (i := 1) (h := ?_)
      refine takeA (i := 2) (h := ?_)
      refine takeA (i := 3) (h := ?_)
      refine takeA (i := 4) (hy := by intro wq hSw; have q0 := bat hSw g0; have q1 := bat hSw g1; have q2 := bat hSw g2; go_simp <;> with_reducible rfl) (h := ?_)
      refine rdA (i := 5) (h := fun K hK => ?_)
      go_simp
      refine (l1InW _ _ _ _).mono ?_
      rintro e1 ww1 ⟨rfl, hb⟩
      rw [hi]
      replace N := N.trans (hb.mono N.size)
      clear hb
      refine hK.out _ _ N (fun hHeld => ?_)
      clear hK K
      try simp only [Act.put, sA, sB, sC]
      refine takeA (i := 6) (h := ?_)
      refine takeA (i := 7) (h := ?_)
      refine takeN (i := 8) (gt rfl) (by kernel_rfl) (by kernel_rfl) (by kernel_rfl) (by exact fun _ _ _ h => h) (by rfl) (by assumption) ?_
      try simp only [Act.put, sA, sB, sC]
      refine takeN (i := 9) (gt rfl) (by kernel_rfl) (by kernel_rfl) (by kernel_rfl) (by exact fun _ _ _ h => h) (by rfl) (by assumption) ?_
      try simp only [Act.put, sA, sB, sC]
      refine takeN (i := 10) (gt rfl) (by kernel_rfl) (by kernel_rfl) (by kernel_rfl) (by exact fun _ _ _ h => h) (by rfl) (by assumption) ?_
      try simp only [Act.put, sA, sB, sC]
      refine takeN (i := 11) (gt rfl) (by kernel_rfl) (by kernel_rfl) (by kernel_rfl) (by exact fun _ _ _ h => h) (by rfl) (by assumption) ?_
      try simp only [Act.put, sA, sB, sC]
      refine takeN (i := 12) (gt rfl) (by kernel_rfl) (by kernel_rfl) (by kernel_rfl) (by exact fun _ _ _ h => h) (by rfl) (by assumption) ?_
      try simp only [Act.put, sA, sB, sC]
      refine takeN (i := 13) (gt rfl) (by kernel_rfl) (by kernel_rfl) (by kernel_rfl) (by exact fun _ _ _ h => h) (by rfl) (by assumption) ?_
      try simp only [Act.put, sA, sB, sC]
      refine takeN (i := 14) (gt rfl) (by kernel_rfl) (by kernel_rfl) (by kernel_rfl) (by exact fun _ _ _ h => h) (by rfl) (by assumption) ?_
      try simp only [Act.put, sA, sB, sC]
      refine takeN (i := 15) (gt rfl) (by kernel_rfl) (by kernel_rfl) (by kernel_rfl) (by exact fun _ _ _ h => h) (by rfl) (by assumption) ?_
      try simp only [Act.put, sA, sB, sC]
      refine takeN (i := 16) (gt rfl) (by kernel_rfl) (by kernel_rfl) (by kernel_rfl) (by exact fun _ _ _ h => h) (by rfl) (by assumption) ?_
      try simp only [Act.put, sA, sB, sC]
      refine takeN (i := 17) (gt rfl) (by kernel_rfl) (by kernel_rfl) (by kernel_rfl) (by exact fun _ _ _ h => h) (by rfl) (by assumption) ?_
      try simp only [Act.put, sA, sB, sC]
      refine takeN (i := 18) (gt rfl) (by kernel_rfl) (by kernel_rfl) (by kernel_rfl) (by exact fun _ _ _ h => h) (by rfl) (by assumption) ?_
      try simp only [Act.put, sA, sB, sC]
      refine takeN (i := 19) (gt rfl) (by kernel_rfl) (by kernel_rfl) (by kernel_rfl) (by exact fun _ _ _ h => h) (by rfl) (by assumption) ?_
      try simp only [Act.put, sA, sB, sC]
      refine takeN (i := 20) (gt rfl) (by kernel_rfl) (by kernel_rfl) (by kernel_rfl) (by exact fun _ _ _ h => h) (by rfl) (by assumption) ?_
      try simp only [Act.put, sA, sB, sC]
      refine takeN (i := 21) (gt rfl) (by kernel_rfl) (by kernel_rfl) (by kernel_rfl) (by exact fun _ _ _ h => h) (by rfl) (by assumption) ?_
      try simp only [Act.put, sA, sB, sC]
      refine takeN (i := 22) (gt rfl) (by kernel_rfl) (by kernel_rfl) (by kernel_rfl) (by exact fun _ _ _ h => h) (by rfl) (by assumption) ?_
      try simp only [Act.put, sA, sB, sC]
      refine takeN (i := 23) (gt rfl) (by kernel_rfl) (by kernel_rfl) (by kernel_rfl) (by exact fun _ _ _ h => h) (by rfl) (by assumption) ?_
      try simp only [Act.put, sA, sB, sC]
      refine takeA (i := 24) (h := ?_)
      refine takeA (i := 25) (h := ?_)
      refine takeN (i := 26) (gt rfl) (by kernel_rfl) (by kernel_rfl) (by kernel_rfl) (by exact fun _ _ _ h => h) (by rfl) (by assumption) ?_
      try simp only [Act.put, sA, sB, sC]
      refine takeN (i := 27) (gt rfl) (by kernel_rfl) (by kernel_rfl) (by kernel_rfl) (by exact fun _ _ _ h => h) (by rfl) (by assumption) ?_
      try simp only [Act.put, sA, sB, sC]
      refine takeN (i := 28) (gt rfl) (by kernel_rfl) (by kernel_rfl) (by kernel_rfl) (by exact fun _ _ _ h => h) (by rfl) (by assumption) ?_
      try simp only [Act.put, sA, sB, sC]
      refine takeN (i := 29) (gt rfl) (by kernel_rfl) (by kernel_rfl) (by kernel_rfl) (by exact fun _ _ _ h => h) (by rfl) (by assumption) ?_
      try simp only [Act.put, sA, sB, sC]
      refine takeN (i := 30) (gt rfl) (by kernel_rfl) (by kernel_rfl) (by kernel_rfl) (by exact fun _ _ _ h => h) (by rfl) (by assumption) ?_
      try simp only [Act.put, sA, sB, sC]
      refine takeN (i := 31) (gt rfl) (by kernel_rfl) (by kernel_rfl) (by kernel_rfl) (by exact fun _ _ _ h => h) (by rfl) (by assumption) ?_
      try simp only [Act.put, sA, sB, sC]
      refine takeN (i := 32) (gt rfl) (by kernel_rfl) (by kernel_rfl) (by kernel_rfl) (by exact fun _ _ _ h => h) (by rfl) (by assumption) ?_
      try simp only [Act.put, sA, sB, sC]
      refine takeA (i := 33) (h := ?_)
      refine wpAnyH_done (by kernel_rfl) ?_ _
      replace B := B.trans (N.mono B.size)
      go_wp2
      go_ret
      exact ⟨by rw [Z.out]; rfl, B⟩
     ·have h0 : 0 < ix := by unfold inB at hi; simp at hi; omega
      cases hg : goodB n rs
      ·have Z : Hid (z = false) := ZN.out 0 hlt (by rw [EA.out, hi, hg, Bool.and_false]; rfl)
       clear EA hto
       go_wp2_with fail
       refine wp_region_held_drew (S := Below wr.heap.size wr) (by kernel_rfl) ((Below.refl _ _).drew) (fun hHeld => ?_)
       have N : Below wr.heap.size wr wr.drew := hHeld
       revert hHeld N
       generalize wr.drew = ww0
       intro hHeld N
       refine takeA (i := 0) (h := ?_)
       refine takeA (i := 1) (h := ?_)
       refine takeA (i := 2) (h := ?_)
       refine takeA (i := 3) (h := ?_)
       refine takeA (i := 4) (hy := by intro wq hSw; have q0 := bat hSw g0; have q1 := bat hSw g1; have q2 := bat hSw g2; go_simp <;> with_reducible rfl) (h := ?_)
       refine rdA (i := 5) (h := fun K hK => ?_)
       go_simp
       refine (l1InW _ _ _ _).mono ?_
       rintro e1 ww1 ⟨rfl, hb⟩
       rw [hi]
       replace N := N.trans (hb.mono N.size)
       clear hb
       refine hK.out _ _ N (fun hHeld => ?_)
       clear hK K
       try simp only [Act.put, sA, sB, sC]
       refine takeA (i := 6) (h := ?_)
       refine takeA (i := 7) (h := ?_)
       refine takeA (i := 8) (h := ?_)
       refine takeA (i := 9) (h := ?_)
       refine takeA (i := 10) (h := ?_)
       refine takeN (i := 11) (gt rfl) (by kernel_rfl) (by kernel_rfl) (by kernel_rfl) (by exact fun _ _ _ h => h) (by rfl) (by assumption) ?_
       try simp only [Act.put, sA, sB, sC]
       refine takeN (i := 12) (gt rfl) (by kernel_rfl) (by kernel_rfl) (by kernel_rfl) (by exact fun _ _ _ h => h) (by rfl) (by assumption) ?_
       try simp only [Act.put, sA, sB, sC]
       refine takeN (i := 13) (gt rfl) (by kernel_rfl) (by kernel_rfl) (by kernel_rfl) (by exact fun _ _ _ h => h) (by rfl) (by assumption) ?_
       try simp only [Act.put, sA, sB, sC]
       refine takeN (i := 14) (gt rfl) (by kernel_rfl) (by kernel_rfl) (by kernel_rfl) (by exact fun _ _ _ h => h) (by rfl) (by assumption) ?_
       try simp only [Act.put, sA, sB, sC]
       refine takeN (i := 15) (gt rfl) (by kernel_rfl) (by kernel_rfl) (by kernel_rfl) (by exact fun _ _ _ h => h) (by rfl) (by assumption) ?_
       try simp only [Act.put, sA, sB, sC]
       refine takeN (i := 16) (gt rfl) (by kernel_rfl) (by kernel_rfl) (by kernel_rfl) (by exact fun _ _ _ h => h) (by rfl) (by assumption) ?_
       try simp only [Act.put, sA, sB, sC]
       refine takeN (i := 17) (gt rfl) (by kernel_rfl) (by kernel_rfl) (by kernel_rfl) (by exact fun _ _ _ h => h) (by rfl) (by assumption) ?_
       try simp only [Act.put, sA, sB, sC]
       refine takeN (i := 18) (gt rfl) (by kernel_rfl) (by kernel_rfl) (by kernel_rfl) (by exact fun _ _ _ h => h) (by rfl) (by assumption) ?_
       try simp only [Act.put, sA, sB, sC]
       refine takeN (i := 19) (gt rfl) (by kernel_rfl) (by kernel_rfl) (by kernel_rfl) (by exact fun _ _ _ h => h) (by rfl) (by assumption) ?_
       try simp only [Act.put, sA, sB, sC]
       refine takeN (i := 20) (gt rfl) (by kernel_rfl) (by kernel_rfl) (by kernel_rfl) (by exact fun _ _ _ h => h) (by rfl) (by assumption) ?_
       try simp only [Act.put, sA, sB, sC]
       refine takeN (i := 21) (gt rfl) (by kernel_rfl) (by kernel_rfl) (by kernel_rfl) (by exact fun _ _ _ h => h) (by rfl) (by assumption) ?_
       try simp only [Act.put, sA, sB, sC]
       refine takeN (i := 22) (gt rfl) (by kernel_rfl) (by kernel_rfl) (by kernel_rfl) (by exact fun _ _ _ h => h) (by rfl) (by assumption) ?_
       try simp only [Act.put, sA, sB, sC]
       refine takeA (i := 23) (h := ?_)
       refine takeA (i := 24) (h := ?_)
       refine takeA (i := 25) (h := ?_)
       refine takeA (i := 26) (h := ?_)
       refine takeA (i := 27) (h := ?_)
       refine takeA (i := 28) (h := ?_)
       refine takeA (i := 29) (h := ?_)
       refine takeA (i := 30) (hy := by intro wq hSw; have q0 := bat hSw g0; have q1 := bat hSw g1; have q2 := bat hSw g2; go_simp <;> with_reducible rfl) (h := ?_)
       refine rdA (i := 31) (h := fun K hK => ?_)
       go_simp
       refine (l5Good_any n a' c' rs _ (sp.below N)).mono ?_
       rintro e1 ww2 ⟨rfl, hb⟩
       rw [hg]
       replace N := N.trans (hb.mono N.size)
       clear hb
       refine hK.out _ _ N (fun hHeld => ?_)
       clear hK K
       try simp only [Act.put, sA, sB, sC]
       refine takeA (i := 32) (h := ?_)
       refine takeA (i := 33) (h := ?_)
       refine wpAnyH_done (by kernel_rfl) ?_ _
       replace B := B.trans (N.mono B.size)
       go_wp2
       go_ret
       exact ⟨by rw [Z.out]; rfl, B⟩
      ·have HT : Hid (mpTo es (0 + 1) = true) := by show _ = _; rw [mpTo_succ, hto.out, EA.out, hi, hg, decide_eq_true h0]; rfl
       clear EA hto
       go_wp2_with fail
       refine wp_region_held_drew (S := Below wr.heap.size wr) (by kernel_rfl) ((Below.refl _ _).drew) (fun hHeld => ?_)
       have N : Below wr.heap.size wr wr.drew := hHeld
       revert hHeld N
       generalize wr.drew = ww0
       intro hHeld N
       refine takeA (i := 0) (h := ?_)
       refine takeA (i := 1) (h := ?_)
       refine takeA (i := 2) (h := ?_)
       refine takeA (i := 3) (h := ?_)
       refine takeA (i := 4) (hy := by intro wq hSw; have q0 := bat hSw g0; have q1 := bat hSw g1; have q2 := bat hSw g2; go_simp <;> with_reducible rfl) (h := ?_)
       refine rdA (i := 5) (h := fun K hK => ?_)
       go_simp
       refine (l1InW _ _ _ _).mono ?_
       rintro e1 ww1 ⟨rfl, hb⟩
       rw [hi]
       replace N := N.trans (hb.mono N.size)
       clear hb
       refine hK.out _ _ N (fun hHeld => ?_)
       clear hK K
       try simp only [Act.put, sA, sB, sC]
       refine takeA (i := 6) (h := ?_)
       refine takeA (i := 7) (h := ?_)
       refine takeA (i := 8) (h := ?_)
       refine takeA (i := 9) (h := ?_)
       refine takeA (i := 10) (h := ?_)
       refine takeN (i := 11) (gt rfl) (by kernel_rfl) (by kernel_rfl) (by kernel_rfl) (by exact fun _ _ _ h => h) (by rfl) (by assumption) ?_
       try simp only [Act.put, sA, sB, sC]
       refine takeN (i := 12) (gt rfl) (by kernel_rfl) (by kernel_rfl) (by kernel_rfl) (by exact fun _ _ _ h => h) (by rfl) (by assumption) ?_
       try simp only [Act.put, sA, sB, sC]
       refine takeN (i := 13) (gt rfl) (by kernel_rfl) (by kernel_rfl) (by kernel_rfl) (by exact fun _ _ _ h => h) (by rfl) (by assumption) ?_
       try simp only [Act.put, sA, sB, sC]
       refine takeN (i := 14) (gt rfl) (by kernel_rfl) (by kernel_rfl) (by kernel_rfl) (by exact fun _ _ _ h => h) (by rfl) (by assumption) ?_
       try simp only [Act.put, sA, sB, sC]
       refine takeN (i := 15) (gt rfl) (by kernel_rfl) (by kernel_rfl) (by kernel_rfl) (by exact fun _ _ _ h => h) (by rfl) (by assumption) ?_
       try simp only [Act.put, sA, sB, sC]
       refine takeN (i := 16) (gt rfl) (by kernel_rfl) (by kernel_rfl) (by kernel_rfl) (by exact fun _ _ _ h => h) (by rfl) (by assumption) ?_
       try simp only [Act.put, sA, sB, sC]
       refine takeN (i := 17) (gt rfl) (by kernel_rfl) (by kernel_rfl) (by kernel_rfl) (by exact fun _ _ _ h => h) (by rfl) (by assumption) ?_
       try simp only [Act.put, sA, sB, sC]
       refine takeN (i := 18) (gt rfl) (by kernel_rfl) (by kernel_rfl) (by kernel_rfl) (by exact fun _ _ _ h => h) (by rfl) (by assumption) ?_
       try simp only [Act.put, sA, sB, sC]
       refine takeN (i := 19) (gt rfl) (by kernel_rfl) (by kernel_rfl) (by kernel_rfl) (by exact fun _ _ _ h => h) (by rfl) (by assumption) ?_
       try simp only [Act.put, sA, sB, sC]
       refine takeN (i := 20) (gt rfl) (by kernel_rfl) (by kernel_rfl) (by kernel_rfl) (by exact fun _ _ _ h => h) (by rfl) (by assumption) ?_
       try simp only [Act.put, sA, sB, sC]
       refine takeN (i := 21) (gt rfl) (by kernel_rfl) (by kernel_rfl) (by kernel_rfl) (by exact fun _ _ _ h => h) (by rfl) (by assumption) ?_
       try simp only [Act.put, sA, sB, sC]
       refine takeN (i := 22) (gt rfl) (by kernel_rfl) (by kernel_rfl) (by kernel_rfl) (by exact fun _ _ _ h => h) (by rfl) (by assumption) ?_
       try simp only [Act.put, sA, sB, sC]
       refine takeA (i := 23) (h := ?_)
       refine takeA (i := 24) (h := ?_)
       refine takeA (i := 25) (h := ?_)
       refine takeA (i := 26) (h := ?_)
       refine takeA (i := 27) (h := ?_)
       refine takeA (i := 28) (h := ?_)
       refine takeA (i := 29) (h := ?_)
       refine takeA (i := 30) (hy := by intro wq hSw; have q0 := bat hSw g0; have q1 := bat hSw g1; have q2 := bat hSw g2; go_simp <;> with_reducible rfl) (h := ?_)
       refine rdA (i := 31) (h := fun K hK => ?_)
       go_simp
       refine (l5Good_any n a' c' rs _ (sp.below N)).mono ?_
       rintro e1 ww2 ⟨rfl, hb⟩
       rw [hg]
       replace N := N.trans (hb.mono N.size)
       clear hb
       refine hK.out _ _ N (fun hHeld => ?_)
       clear hK K
       try simp only [Act.put, sA, sB, sC]
       refine takeA (i := 32) (h := ?_)
       refine takeA (i := 33) (h := ?_)
       refine wpAnyH_done (by kernel_rfl) ?_ _
       replace B := B.trans (N.mono B.size)
       go_wp2
       go_roundw
       case rel => exact ⟨0 + 1, by omega, by go_num, HT, B⟩
       case measure => simp [intOf]; omega
    ·obtain ⟨i, hji⟩ : ∃ i, j = i + 1 := ⟨j - 1, by omega⟩
     obtain ⟨p0, _, _, _, _, _⟩ := hc i (by omega)
     have EA : Hid (atE es j = (inB (enA es j).1 1 1000000 && (decide ((enA es i).1 < (enA es j).1) && goodB (enA es j).2.1 (enA es j).2.2))) := by subst hji; exact (rfl : atE es (i + 1) = _)
     clear hc
     generalize enA es j = en at *
     generalize (enA es i).1 = y at *
     obtain ⟨ix, n, rs⟩ := en
     dsimp only at g0 g1 g2 sp EA
     have hw1 : IntKind.i64.wrap ((j : Int) - 1) = (i : Int) := by rw [IntKind.wrap_i64]; omega
     have hgt : ((0 : Int) < (j : Int)) := by omega
     have hil : i < es.length := by omega
     clear hji
     cases hi : inB ix 1 1000000
     ·have Z : Hid (z = false) := ZN.out _ hlt (by rw [EA.out, hi]; rfl)
      clear EA hto
      go_wp2_with fail
      refine wp_region_held_drew (S := Below wr.heap.size wr) (by kernel_rfl) ((Below.refl _ _).drew) (fun hHeld => ?_)
      have N : Below wr.heap.size wr wr.drew := hHeld
      revert hHeld N
      generalize wr.drew = ww0
      intro hHeld N
      refine takeA (i := 0) (h := ?_)
      refine takeA (i := 1) (h := ?_)
      refine takeA (i := 2) (h := ?_)
      refine takeA (i := 3) (h := ?_)
      refine takeA (i := 4) (hy := by intro wq hSw; have q0 := bat hSw g0; have q1 := bat hSw g1; have q2 := bat hSw g2; have q3 := bat hSw p0; go_simp <;> with_reducible rfl) (h := ?_)
      refine rdA (i := 5) (h := fun K hK => ?_)
      go_simp
      refine (l1InW _ _ _ _).mono ?_
      rintro e1 ww1 ⟨rfl, hb⟩
      rw [hi]
      replace N := N.trans (hb.mono N.size)
      clear hb
      refine hK.out _ _ N (fun hHeld => ?_)
      clear hK K
      try simp only [Act.put, sA, sB, sC]
      refine takeA (i := 6) (h := ?_)
      refine takeA (i := 7) (h := ?_)
      refine takeN (i := 8) (gt rfl) (by kernel_rfl) (by kernel_rfl) (by kernel_rfl) (by exact fun _ _ _ h => h) (by rfl) (by assumption) ?_
      try simp only [Act.put, sA, sB, sC]
      refine takeN (i := 9) (gt rfl) (by kernel_rfl) (by kernel_rfl) (by kernel_rfl) (by exact fun _ _ _ h => h) (by rfl) (by assumption) ?_
      try simp only [Act.put, sA, sB, sC]
      refine takeN (i := 10) (gt rfl) (by kernel_rfl) (by kernel_rfl) (by kernel_rfl) (by exact fun _ _ _ h => h) (by rfl) (by assumption) ?_
      try simp only [Act.put, sA, sB, sC]
      refine takeN (i := 11) (gt rfl) (by kernel_rfl) (by kernel_rfl) (by kernel_rfl) (by exact fun _ _ _ h => h) (by rfl) (by assumption) ?_
      try simp only [Act.put, sA, sB, sC]
      refine takeN (i := 12) (gt rfl) (by kernel_rfl) (by kernel_rfl) (by kernel_rfl) (by exact fun _ _ _ h => h) (by rfl) (by assumption) ?_
      try simp only [Act.put, sA, sB, sC]
      refine takeN (i := 13) (gt rfl) (by kernel_rfl) (by kernel_rfl) (by kernel_rfl) (by exact fun _ _ _ h => h) (by rfl) (by assumption) ?_
      try simp only [Act.put, sA, sB, sC]
      refine takeN (i := 14) (gt rfl) (by kernel_rfl) (by kernel_rfl) (by kernel_rfl) (by exact fun _ _ _ h => h) (by rfl) (by assumption) ?_
      try simp only [Act.put, sA, sB, sC]
      refine takeN (i := 15) (gt rfl) (by kernel_rfl) (by kernel_rfl) (by kernel_rfl) (by exact fun _ _ _ h => h) (by rfl) (by assumption) ?_
      try simp only [Act.put, sA, sB, sC]
      refine takeN (i := 16) (gt rfl) (by kernel_rfl) (by kernel_rfl) (by kernel_rfl) (by exact fun _ _ _ h => h) (by rfl) (by assumption) ?_
      try simp only [Act.put, sA, sB, sC]
      refine takeN (i := 17) (gt rfl) (by kernel_rfl) (by kernel_rfl) (by kernel_rfl) (by exact fun _ _ _ h => h) (by rfl) (by assumption) ?_
      try simp only [Act.put, sA, sB, sC]
      refine takeN (i := 18) (gt rfl) (by kernel_rfl) (by kernel_rfl) (by kernel_rfl) (by exact fun _ _ _ h => h) (by rfl) (by assumption) ?_
      try simp only [Act.put, sA, sB, sC]
      refine takeN (i := 19) (gt rfl) (by kernel_rfl) (by kernel_rfl) (by kernel_rfl) (by exact fun _ _ _ h => h) (by rfl) (by assumption) ?_
      try simp only [Act.put, sA, sB, sC]
      refine takeN (i := 20) (gt rfl) (by kernel_rfl) (by kernel_rfl) (by kernel_rfl) (by exact fun _ _ _ h => h) (by rfl) (by assumption) ?_
      try simp only [Act.put, sA, sB, sC]
      refine takeN (i := 21) (gt rfl) (by kernel_rfl) (by kernel_rfl) (by kernel_rfl) (by exact fun _ _ _ h => h) (by rfl) (by assumption) ?_
      try simp only [Act.put, sA, sB, sC]
      refine takeN (i := 22) (gt rfl) (by kernel_rfl) (by kernel_rfl) (by kernel_rfl) (by exact fun _ _ _ h => h) (by rfl) (by assumption) ?_
      try simp only [Act.put, sA, sB, sC]
      refine takeN (i := 23) (gt rfl) (by kernel_rfl) (by kernel_rfl) (by kernel_rfl) (by exact fun _ _ _ h => h) (by rfl) (by assumption) ?_
      try simp only [Act.put, sA, sB, sC]
      refine takeA (i := 24) (h := ?_)
      refine takeA (i := 25) (h := ?_)
      refine takeN (i := 26) (gt rfl) (by kernel_rfl) (by kernel_rfl) (by kernel_rfl) (by exact fun _ _ _ h => h) (by rfl) (by assumption) ?_
      try simp only [Act.put, sA, sB, sC]
      refine takeN (i := 27) (gt rfl) (by kernel_rfl) (by kernel_rfl) (by kernel_rfl) (by exact fun _ _ _ h => h) (by rfl) (by assumption) ?_
      try simp only [Act.put, sA, sB, sC]
      refine takeN (i := 28) (gt rfl) (by kernel_rfl) (by kernel_rfl) (by kernel_rfl) (by exact fun _ _ _ h => h) (by rfl) (by assumption) ?_
      try simp only [Act.put, sA, sB, sC]
      refine takeN (i := 29) (gt rfl) (by kernel_rfl) (by kernel_rfl) (by kernel_rfl) (by exact fun _ _ _ h => h) (by rfl) (by assumption) ?_
      try simp only [Act.put, sA, sB, sC]
      refine takeN (i := 30) (gt rfl) (by kernel_rfl) (by kernel_rfl) (by kernel_rfl) (by exact fun _ _ _ h => h) (by rfl) (by assumption) ?_
      try simp only [Act.put, sA, sB, sC]
      refine takeN (i := 31) (gt rfl) (by kernel_rfl) (by kernel_rfl) (by kernel_rfl) (by exact fun _ _ _ h => h) (by rfl) (by assumption) ?_
      try simp only [Act.put, sA, sB, sC]
      refine takeN (i := 32) (gt rfl) (by kernel_rfl) (by kernel_rfl) (by kernel_rfl) (by exact fun _ _ _ h => h) (by rfl) (by assumption) ?_
      try simp only [Act.put, sA, sB, sC]
      refine takeA (i := 33) (h := ?_)
      refine wpAnyH_done (by kernel_rfl) ?_ _
      replace B := B.trans (N.mono B.size)
      go_wp2
      go_ret
      exact ⟨by rw [Z.out]; rfl, B⟩
     ·by_cases hy2 : y < ix
      ·have HD : Hid (decide (ix ≤ y) = false) := decide_eq_false (by omega)
       cases hg : goodB n rs
       ·have Z : Hid (z = false) := ZN.out _ hlt (by rw [EA.out, hi, hg, Bool.and_false]; rfl)
        clear EA hto
        go_wp2_with fail
        refine wp_region_held_drew (S := Below wr.heap.size wr) (by kernel_rfl) ((Below.refl _ _).drew) (fun hHeld => ?_)
        have N : Below wr.heap.size wr wr.drew := hHeld
        revert hHeld N
        generalize wr.drew = ww0
        intro hHeld N
        refine takeA (i := 0) (h := ?_)
        refine takeA (i := 1) (h := ?_)
        refine takeA (i := 2) (h := ?_)
        refine takeA (i := 3) (h := ?_)
        refine takeA (i := 4) (hy := by intro wq hSw; have q0 := bat hSw g0; have q1 := bat hSw g1; have q2 := bat hSw g2; have q3 := bat hSw p0; go_simp <;> with_reducible rfl) (h := ?_)
        refine rdA (i := 5) (h := fun K hK => ?_)
        go_simp
        refine (l1InW _ _ _ _).mono ?_
        rintro e1 ww1 ⟨rfl, hb⟩
        rw [hi]
        replace N := N.trans (hb.mono N.size)
        clear hb
        refine hK.out _ _ N (fun hHeld => ?_)
        clear hK K
        try simp only [Act.put, sA, sB, sC]
        refine takeA (i := 6) (h := ?_)
        refine takeA (i := 7) (h := ?_)
        refine takeA (i := 8) (h := ?_)
        refine takeA (i := 9) (h := ?_)
        refine takeA (i := 10) (h := ?_)
        refine takeA (i := 11) (h := ?_)
        refine takeA (i := 12) (h := ?_)
        refine takeA (i := 13) (h := ?_)
        refine takeA (i := 14) (h := ?_)
        refine takeA (i := 15) (h := ?_)
        refine takeA (i := 16) (hy := by intro wq hSw; have q0 := bat hSw g0; have q1 := bat hSw g1; have q2 := bat hSw g2; have q3 := bat hSw p0; go_simp <;> with_reducible rfl) (h := ?_)
        refine takeA (i := 17) (h := ?_)
        refine takeA (i := 18) (h := ?_)
        refine takeA (i := 19) (h := ?_)
        refine takeA (i := 20) (h := ?_)
        refine takeA (i := 21) (hy := by intro wq hSw; have q0 := bat hSw g0; have q1 := bat hSw g1; have q2 := bat hSw g2; have q3 := bat hSw p0; go_simp <;> with_reducible rfl) (h := ?_)
        refine takeA (i := 22) (h := ?_)
        try rw [HD.out]
        refine takeA (i := 23) (h := ?_)
        refine takeA (i := 24) (h := ?_)
        refine takeA (i := 25) (h := ?_)
        refine takeA (i := 26) (h := ?_)
        refine takeA (i := 27) (h := ?_)
        refine takeA (i := 28) (h := ?_)
        refine takeA (i := 29) (h := ?_)
        refine takeA (i := 30) (hy := by intro wq hSw; have q0 := bat hSw g0; have q1 := bat hSw g1; have q2 := bat hSw g2; have q3 := bat hSw p0; go_simp <;> with_reducible rfl) (h := ?_)
        refine rdA (i := 31) (h := fun K hK => ?_)
        go_simp
        refine (l5Good_any n a' c' rs _ (sp.below N)).mono ?_
        rintro e1 ww2 ⟨rfl, hb⟩
        rw [hg]
        replace N := N.trans (hb.mono N.size)
        clear hb
        refine hK.out _ _ N (fun hHeld => ?_)
        clear hK K
        try simp only [Act.put, sA, sB, sC]
        refine takeA (i := 32) (h := ?_)
        refine takeA (i := 33) (h := ?_)
        refine wpAnyH_done (by kernel_rfl) ?_ _
        replace B := B.trans (N.mono B.size)
        go_wp2
        go_ret
        exact ⟨by rw [Z.out]; rfl, B⟩
       ·have HT : Hid (mpTo es (j + 1) = true) := by show _ = _; rw [mpTo_succ, hto.out, EA.out, hi, hg, decide_eq_true hy2]; rfl
        clear EA hto
        go_wp2_with fail
        refine wp_region_held_drew (S := Below wr.heap.size wr) (by kernel_rfl) ((Below.refl _ _).drew) (fun hHeld => ?_)
        have N : Below wr.heap.size wr wr.drew := hHeld
        revert hHeld N
        generalize wr.drew = ww0
        intro hHeld N
        refine takeA (i := 0) (h := ?_)
        refine takeA (i := 1) (h := ?_)
        refine takeA (i := 2) (h := ?_)
        refine takeA (i := 3) (h := ?_)
        refine takeA (i := 4) (hy := by intro wq hSw; have q0 := bat hSw g0; have q1 := bat hSw g1; have q2 := bat hSw g2; have q3 := bat hSw p0; go_simp <;> with_reducible rfl) (h := ?_)
        refine rdA (i := 5) (h := fun K hK => ?_)
        go_simp
        refine (l1InW _ _ _ _).mono ?_
        rintro e1 ww1 ⟨rfl, hb⟩
        rw [hi]
        replace N := N.trans (hb.mono N.size)
        clear hb
        refine hK.out _ _ N (fun hHeld => ?_)
        clear hK K
        try simp only [Act.put, sA, sB, sC]
        refine takeA (i := 6) (h := ?_)
        refine takeA (i := 7) (h := ?_)
        refine takeA (i := 8) (h := ?_)
        refine takeA (i := 9) (h := ?_)
        refine takeA (i := 10) (h := ?_)
        refine takeA (i := 11) (h := ?_)
        refine takeA (i := 12) (h := ?_)
        refine takeA (i := 13) (h := ?_)
        refine takeA (i := 14) (h := ?_)
        refine takeA (i := 15) (h := ?_)
        refine takeA (i := 16) (hy := by intro wq hSw; have q0 := bat hSw g0; have q1 := bat hSw g1; have q2 := bat hSw g2; have q3 := bat hSw p0; go_simp <;> with_reducible rfl) (h := ?_)
        refine takeA (i := 17) (h := ?_)
        refine takeA (i := 18) (h := ?_)
        refine takeA (i := 19) (h := ?_)
        refine takeA (i := 20) (h := ?_)
        refine takeA (i := 21) (hy := by intro wq hSw; have q0 := bat hSw g0; have q1 := bat hSw g1; have q2 := bat hSw g2; have q3 := bat hSw p0; go_simp <;> with_reducible rfl) (h := ?_)
        refine takeA (i := 22) (h := ?_)
        try rw [HD.out]
        refine takeA (i := 23) (h := ?_)
        refine takeA (i := 24) (h := ?_)
        refine takeA (i := 25) (h := ?_)
        refine takeA (i := 26) (h := ?_)
        refine takeA (i := 27) (h := ?_)
        refine takeA (i := 28) (h := ?_)
        refine takeA (i := 29) (h := ?_)
        refine takeA (i := 30) (hy := by intro wq hSw; have q0 := bat hSw g0; have q1 := bat hSw g1; have q2 := bat hSw g2; have q3 := bat hSw p0; go_simp <;> with_reducible rfl) (h := ?_)
        refine rdA (i := 31) (h := fun K hK => ?_)
        go_simp
        refine (l5Good_any n a' c' rs _ (sp.below N)).mono ?_
        rintro e1 ww2 ⟨rfl, hb⟩
        rw [hg]
        replace N := N.trans (hb.mono N.size)
        clear hb
        refine hK.out _ _ N (fun hHeld => ?_)
        clear hK K
        try simp only [Act.put, sA, sB, sC]
        refine takeA (i := 32) (h := ?_)
        refine takeA (i := 33) (h := ?_)
        refine wpAnyH_done (by kernel_rfl) ?_ _
        replace B := B.trans (N.mono B.size)
        go_wp2
        go_roundw
        case rel => exact ⟨j + 1, by omega, by go_num, HT, B⟩
        case measure => simp [intOf]; omega
      ·have HD : Hid (decide (ix ≤ y) = true) := decide_eq_true (by omega)
       have Z : Hid (z = false) := ZN.out _ hlt (by rw [EA.out, hi, decide_eq_false hy2]; rfl)
       clear EA hto
       go_wp2_with fail
       refine wp_region_held_drew (S := Below wr.heap.size wr) (by kernel_rfl) ((Below.refl _ _).drew) (fun hHeld => ?_)
       have N : Below wr.heap.size wr wr.drew := hHeld
       revert hHeld N
       generalize wr.drew = ww0
       intro hHeld N
       refine takeA (i := 0) (h := ?_)
       refine takeA (i := 1) (h := ?_)
       refine takeA (i := 2) (h := ?_)
       refine takeA (i := 3) (h := ?_)
       refine takeA (i := 4) (hy := by intro wq hSw; have q0 := bat hSw g0; have q1 := bat hSw g1; have q2 := bat hSw g2; have q3 := bat hSw p0; go_simp <;> with_reducible rfl) (h := ?_)
       refine rdA (i := 5) (h := fun K hK => ?_)
       go_simp
       refine (l1InW _ _ _ _).mono ?_
       rintro e1 ww1 ⟨rfl, hb⟩
       rw [hi]
       replace N := N.trans (hb.mono N.size)
       clear hb
       refine hK.out _ _ N (fun hHeld => ?_)
       clear hK K
       try simp only [Act.put, sA, sB, sC]
       refine takeA (i := 6) (h := ?_)
       refine takeA (i := 7) (h := ?_)
       refine takeA (i := 8) (h := ?_)
       refine takeA (i := 9) (h := ?_)
       refine takeA (i := 10) (h := ?_)
       refine takeA (i := 11) (h := ?_)
       refine takeA (i := 12) (h := ?_)
       refine takeA (i := 13) (h := ?_)
       refine takeA (i := 14) (h := ?_)
       refine takeA (i := 15) (h := ?_)
       refine takeA (i := 16) (hy := by intro wq hSw; have q0 := bat hSw g0; have q1 := bat hSw g1; have q2 := bat hSw g2; have q3 := bat hSw p0; go_simp <;> with_reducible rfl) (h := ?_)
       refine takeA (i := 17) (h := ?_)
       refine takeA (i := 18) (h := ?_)
       refine takeA (i := 19) (h := ?_)
       refine takeA (i := 20) (h := ?_)
       refine takeA (i := 21) (hy := by intro wq hSw; have q0 := bat hSw g0; have q1 := bat hSw g1; have q2 := bat hSw g2; have q3 := bat hSw p0; go_simp <;> with_reducible rfl) (h := ?_)
       refine takeA (i := 22) (h := ?_)
       try rw [HD.out]
       refine takeA (i := 23) (h := ?_)
       refine takeA (i := 24) (h := ?_)
       refine takeA (i := 25) (h := ?_)
       refine takeN (i := 26) (gt rfl) (by kernel_rfl) (by kernel_rfl) (by kernel_rfl) (by exact fun _ _ _ h => h) (by rfl) (by assumption) ?_
       try simp only [Act.put, sA, sB, sC]
       refine takeN (i := 27) (gt rfl) (by kernel_rfl) (by kernel_rfl) (by kernel_rfl) (by exact fun _ _ _ h => h) (by rfl) (by assumption) ?_
       try simp only [Act.put, sA, sB, sC]
       refine takeN (i := 28) (gt rfl) (by kernel_rfl) (by kernel_rfl) (by kernel_rfl) (by exact fun _ _ _ h => h) (by rfl) (by assumption) ?_
       try simp only [Act.put, sA, sB, sC]
       refine takeN (i := 29) (gt rfl) (by kernel_rfl) (by kernel_rfl) (by kernel_rfl) (by exact fun _ _ _ h => h) (by rfl) (by assumption) ?_
       try simp only [Act.put, sA, sB, sC]
       refine takeN (i := 30) (gt rfl) (by kernel_rfl) (by kernel_rfl) (by kernel_rfl) (by exact fun _ _ _ h => h) (by rfl) (by assumption) ?_
       try simp only [Act.put, sA, sB, sC]
       refine takeN (i := 31) (gt rfl) (by kernel_rfl) (by kernel_rfl) (by kernel_rfl) (by exact fun _ _ _ h => h) (by rfl) (by assumption) ?_
       try simp only [Act.put, sA, sB, sC]
       refine takeN (i := 32) (gt rfl) (by kernel_rfl) (by kernel_rfl) (by kernel_rfl) (by exact fun _ _ _ h => h) (by rfl) (by assumption) ?_
       try simp only [Act.put, sA, sB, sC]
       refine takeA (i := 33) (h := ?_)
       refine wpAnyH_done (by kernel_rfl) ?_ _
       replace B := B.trans (N.mono B.size)
       go_wp2
       go_ret
       exact ⟨by rw [Z.out]; rfl, B⟩
   ·obtain rfl : j = es.length := by omega
    have Z : Hid (z = true) := ZY.out hto.out
    clear hto
    go_wp2
    go_ret
    exact ⟨by rw [Z.out]; rfl, B⟩
 ·have hn5 : (500 : Int) < es.length := by omega
  have Z : Hid (z = false) := by show _ = _; rw [← HZ.out]; unfold mpB; rw [decide_eq_false hl]; rfl
  clear HZ hl
  go_enter Tryz.func14, Tryz.ntmps14
  go_wp2
  go_ret
  exact ⟨by rw [Z.out]; rfl, Below.refl _ _⟩
end Go.Proofs.YtinlomcaagdbiaaGreat
