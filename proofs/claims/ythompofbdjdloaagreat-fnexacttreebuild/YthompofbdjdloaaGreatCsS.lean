/- CurveSort of the specification: the places of boxes, sorted. -/
import Derived.Test.YthompofbdjdloaaGreatCurI
import Derived.Test.YthompofbdjdloaaGreatBxsL
import Derived.Test.YthompofbdjdloaaGreatIntsL
import Derived.Test.YthompofbdjdloaaGreatCsM
import Derived.Test.YthompofbdjdloaaGreatHeld
namespace Go.Proofs.YthompofbdjdloaaGreat
open Go.RowKit

/-- The key of the box at a place. -/
def csK (bs : List Bx) (j : Nat) : Int := cvKey (bxAt bs j).1 (bxAt bs j).2.1 (bxAt bs j).2.2.1 (bxAt bs j).2.2.2
/-- What CurveSort answers. -/
def csOk (bs : List Bx) (l : List Nat) : Prop := if bs.length ≤ 500 then Srt (csK bs) bs.length l else l = []
theorem csOk.one {bs : List Bx} {l l' : List Nat} (h : csOk bs l) (k : csOk bs l') : l = l' := by
  unfold csOk at *
  split at h
  · next c => rw [if_pos c] at k; exact h.one k
  · next c => rw [if_neg c] at k; rw [h, k]
theorem csOk.len {bs : List Bx} {l : List Nat} (h : csOk bs l) : l.length ≤ 500 := by
  unfold csOk at h
  split at h
  · rw [h.len]; assumption
  · rw [h]; simp
theorem mapN_at (l : List Nat) (j : Nat) : (l.map Int.ofNat)[j]?.getD 0 = ((l[j]?.getD 0 : Nat) : Int) := by
  rw [List.getElem?_map]
  cases l[j]? <;> rfl
theorem hole_setI {l : List Nat} {k x y : Nat} (hk : k ≤ l.length) : ((hole l k x).map Int.ofNat).set k (y : Int) = (hole l k y).map Int.ofNat := by
  rw [← hole_set (x := x) (y := y) hk, List.map_set]
  rfl
theorem hole_downI {l : List Nat} {k x y : Nat} (hk : k < l.length) (hy : l[k]?.getD 0 = y) : ((hole l (k + 1) x).map Int.ofNat).set (k + 1) (y : Int) = (hole l k y).map Int.ofNat := by
  have := hole_down (x := x) hk
  rw [hy] at this
  rw [← this, List.map_set]
  rfl
theorem RowI.at3 {base q cap : Nat} {w : World} {ds : List Int} (h : RowI base w (.slice (some ⟨q, 0, none⟩) ds.length cap) ds) {j : Nat} (hj : j < ds.length) : ∃ v, w.cell? ⟨q, j, none⟩ = some v := ⟨_, h.at' hj⟩

set_option maxRecDepth 20000 in
set_option maxHeartbeats 8000000 in
theorem specCurveSort (a : Option Addr) (cap : Nat) (bs : List Bx) (w : World) (h : SeesX w a cap bs) :
    Calls Tryz.prog 54 #[.slice a bs.length cap] w fun e w' => ∃ v, e = .returned v ∧ ∃ l, RowI w.heap.size w' v (List.map Int.ofNat l) ∧ csOk bs l ∧ Below w.heap.size w w' := by
  have hm := h.max
  have hf := h.fits
  unfold maxLen at hm
  have B0 := below1 w (.cells #[] 3)
  have R0 := RowI.empty w (base := w.heap.size) (Nat.le_refl _)
  obtain ⟨i8, hi8, hy0, hy1, hy2⟩ := info_parts infoI
  by_cases hs : bs.length ≤ 500
  · have CO : Hid (∀ l, Srt (csK bs) bs.length l → csOk bs l) := fun l hl => by unfold csOk; rw [if_pos hs]; exact hl
    go_enter Tryz.func54, Tryz.ntmps54
    go_wp2
    go_loopw [3, 4] (fun s3 s4 wr => ∃ (i : Nat) (l : List Nat), i ≤ bs.length ∧ s4 = .int .i64 i ∧ Srt (csK bs) i l ∧ RowI w.heap.size wr s3 (l.map Int.ofNat) ∧ Below w.heap.size w wr) (fun _ s4 _ => bs.length - (intOf s4).toNat)
    case atStart => exact ⟨0, [], Nat.zero_le _, rfl, Srt.nil _, R0, B0⟩
    case round =>
      clear R0 B0
      obtain ⟨i, l, hi, rfl, SR0, R, B⟩ := hrel
      rename World => wr
      rename Value => s3
      by_cases hlt : i < bs.length
      · have SL := SR0.len
        have SR : Hid (Srt (csK bs) i l) := SR0
        clear SR0
        obtain ⟨a3, c3, rfl, hc3, hm3⟩ := R.shape'
        rw [List.length_map, SL] at R hc3 ⊢
        unfold maxLen at hm3
        have wl := B.size
        go_wp2_with (at_builtin; refine wpList_append_own _ rfl (.tmp 19) (.tmp 21) 22 rfl w.heap.size 3 i8 (.int .i64 0) 1 8 Tryz.underlying22 hi8 hy0 hy1 hy2 rfl (by decide) (.slice a3 i c3) i (l.map Int.ofNat |>.map (Value.int .i64)) rfl (World.ownsRow.alloc (by have := R; unfold RowI at this; rw [List.length_map, SL] at this; exact this) _) ⟨wr.heap.size, 0, none⟩ 1 _ ([(i : Int)].map (Value.int .i64)) rfl rfl (one_newI _ _ _) (onesI _) (by unfold maxLen; omega) (by omega) (by simp <;> omega) ?_; intro v' w5 hown' hgrow' hiff; clear hiff)
        have O1 : (wr.alloc (.cells #[.int .i64 (i : Int)] 3)).ownsRow w.heap.size 3 1 (.slice a3 i c3) i ((l.map Int.ofNat).map (Value.int .i64)) := World.ownsRow.alloc (by have := R; unfold RowI at this; rw [List.length_map, SL] at this; exact this) _
        have B5 : Below w.heap.size w w5 := (B.alloc wl _).grown hgrow' (by simp <;> omega) (fun q hq => (O1.lt q hq).1)
        have R5 : RowI w.heap.size w5 v' ((l.map Int.ofNat) ++ [(i : Int)]) := RowI.snoc (n := 0) (by rw [List.length_map, SL]; exact hown') rfl
        rw [show l.map Int.ofNat ++ [(i : Int)] = (hole l i i).map Int.ofNat by rw [← SL, hole_end, List.map_append]; rfl] at R5
        clear O1 hown' hgrow' R B hc3 hm3
        obtain ⟨q, cap4, rfl, ql, _⟩ := R5.shape (by intro e; have := congrArg List.length e; rw [List.length_map, hole_len] at this; simp at this)
        rw [List.length_map, hole_len, SL]
        obtain ⟨hc4, hm4⟩ := R5.caps
        rw [List.length_map, hole_len, SL] at hc4
        unfold maxLen at hm4
        obtain ⟨xx, HX⟩ : ∃ x, Hid (bxAt bs i = x) := ⟨_, rfl⟩
        obtain ⟨x1, x2, x3, x4⟩ := xx
        have KI : Hid (csK bs i = cvKey x1 x2 x3 x4) := by show _ = _; unfold csK; rw [HX.out]
        go_wp2
        go_loopw [5] (fun s5 wi => ∃ k x : Nat, k ≤ i ∧ s5 = .int .i64 k ∧ RowI w.heap.size wi (.slice (some ⟨q, 0, none⟩) ((hole l k x).map Int.ofNat).length cap4) ((hole l k x).map Int.ofNat) ∧ Hid (∀ a ∈ l.drop k, csK bs i < csK bs a) ∧ Below w.heap.size w wi) (fun s5 _ => (intOf s5).toNat)
        case atStart => exact ⟨i, i, Nat.le_refl _, rfl, R5, (by intro a ha; rw [List.drop_of_length_le (by omega)] at ha; cases ha), B5⟩
        case round =>
          clear R5 B5
          obtain ⟨k, x, hk, rfl, RI, GT, BI⟩ := hrel
          rename World => wi
          cases k with
          | zero =>
            go_upto_region 9 with fail
            refine wp_region_held_drew (S := Below wi.heap.size wi) (by kernel_rfl) ((Below.refl _ _).drew) (fun hHeld => ?_)
            have N : Below wi.heap.size wi wi.drew := hHeld
            revert hHeld N
            generalize wi.drew = ww0
            intro hHeld N
            refine takeQ (i := 0) (gt rfl) (by kernel_rfl) (fun _ _ _ h => h) (by rfl) (by intro wq _; go_simp <;> with_reducible rfl) (by assumption) ?_
            try simp only [Act.put, sA, sB, sC]
            refine takeQ (i := 1) (gt rfl) (by kernel_rfl) (fun _ _ _ h => h) (by rfl) (by intro wq _; go_simp <;> with_reducible rfl) (by assumption) ?_
            try simp only [Act.put, sA, sB, sC]
            refine takeQ (i := 2) (gt rfl) (by kernel_rfl) (fun _ _ _ h => h) (by rfl) (by intro wq _; go_simp <;> with_reducible rfl) (by assumption) ?_
            try simp only [Act.put, sA, sB, sC]
            refine takeN (i := 3) (gt rfl) (by kernel_rfl) (by kernel_rfl) (by kernel_rfl) (by exact fun _ _ _ h => h) (by rfl) (by assumption) ?_
            try simp only [Act.put, sA, sB, sC]
            refine takeN (i := 4) (gt rfl) (by kernel_rfl) (by kernel_rfl) (by kernel_rfl) (by exact fun _ _ _ h => h) (by rfl) (by assumption) ?_
            try simp only [Act.put, sA, sB, sC]
            refine takeN (i := 5) (gt rfl) (by kernel_rfl) (by kernel_rfl) (by kernel_rfl) (by exact fun _ _ _ h => h) (by rfl) (by assumption) ?_
            try simp only [Act.put, sA, sB, sC]
            refine takeN (i := 6) (gt rfl) (by kernel_rfl) (by kernel_rfl) (by kernel_rfl) (by exact fun _ _ _ h => h) (by rfl) (by assumption) ?_
            try simp only [Act.put, sA, sB, sC]
            refine takeN (i := 7) (gt rfl) (by kernel_rfl) (by kernel_rfl) (by kernel_rfl) (by exact fun _ _ _ h => h) (by rfl) (by assumption) ?_
            try simp only [Act.put, sA, sB, sC]
            refine takeN (i := 8) (gt rfl) (by kernel_rfl) (by kernel_rfl) (by kernel_rfl) (by exact fun _ _ _ h => h) (by rfl) (by assumption) ?_
            try simp only [Act.put, sA, sB, sC]
            refine takeN (i := 9) (gt rfl) (by kernel_rfl) (by kernel_rfl) (by kernel_rfl) (by exact fun _ _ _ h => h) (by rfl) (by assumption) ?_
            try simp only [Act.put, sA, sB, sC]
            refine takeN (i := 10) (gt rfl) (by kernel_rfl) (by kernel_rfl) (by kernel_rfl) (by exact fun _ _ _ h => h) (by rfl) (by assumption) ?_
            try simp only [Act.put, sA, sB, sC]
            refine takeN (i := 11) (gt rfl) (by kernel_rfl) (by kernel_rfl) (by kernel_rfl) (by exact fun _ _ _ h => h) (by rfl) (by assumption) ?_
            try simp only [Act.put, sA, sB, sC]
            refine takeN (i := 12) (gt rfl) (by kernel_rfl) (by kernel_rfl) (by kernel_rfl) (by exact fun _ _ _ h => h) (by rfl) (by assumption) ?_
            try simp only [Act.put, sA, sB, sC]
            refine takeN (i := 13) (gt rfl) (by kernel_rfl) (by kernel_rfl) (by kernel_rfl) (by exact fun _ _ _ h => h) (by rfl) (by assumption) ?_
            try simp only [Act.put, sA, sB, sC]
            refine takeN (i := 14) (gt rfl) (by kernel_rfl) (by kernel_rfl) (by kernel_rfl) (by exact fun _ _ _ h => h) (by rfl) (by assumption) ?_
            try simp only [Act.put, sA, sB, sC]
            refine takeN (i := 15) (gt rfl) (by kernel_rfl) (by kernel_rfl) (by kernel_rfl) (by exact fun _ _ _ h => h) (by rfl) (by assumption) ?_
            try simp only [Act.put, sA, sB, sC]
            refine takeN (i := 16) (gt rfl) (by kernel_rfl) (by kernel_rfl) (by kernel_rfl) (by exact fun _ _ _ h => h) (by rfl) (by assumption) ?_
            try simp only [Act.put, sA, sB, sC]
            refine takeN (i := 17) (gt rfl) (by kernel_rfl) (by kernel_rfl) (by kernel_rfl) (by exact fun _ _ _ h => h) (by rfl) (by assumption) ?_
            try simp only [Act.put, sA, sB, sC]
            refine takeQ (i := 18) (gt rfl) (by kernel_rfl) (fun _ _ _ h => h) (by rfl) (by intro wq _; go_simp <;> with_reducible rfl) (by assumption) ?_
            try simp only [Act.put, sA, sB, sC]
            refine wpAnyH_done (by kernel_rfl) ?_ _
            have NS : Srt (csK bs) (i + 1) (hole l 0 i) := SR.out.ins GT.out (fun a ha => by simp at ha)
            replace BI := BI.trans (N.mono BI.size)
            replace RI := RI.below N
            clear N
            have RP := RI.put 0 (i : Int)
            rw [hole_setI (by omega)] at RP
            obtain ⟨rx, rz⟩ := RI.at3 (j := 0) (by rw [List.length_map, hole_len]; omega)
            have rf : ww0.frozen? ⟨q, 0, none⟩ = false := RI.frozenAt 0
            have BJ := BI.setCell (p := ⟨q, 0, none⟩) ql (.int .i64 (i : Int))
            rw [List.length_map, hole_len, SL] at RP
            clear RI BI
            go_wp2
            go_roundw
            case rel => exact ⟨i + 1, hole l 0 i, by omega, by go_num, NS, (by first | exact RP | (rw [List.length_map, hole_len, SL]; exact RP) | (simp only [List.length_map, hole_len, SL] at RP ⊢; exact RP)), BJ⟩
            case measure => simp [intOf] <;> omega
          | succ k' =>
            obtain ⟨y, HYe⟩ : ∃ y, Hid (l[k']?.getD 0 = y) := ⟨_, rfl⟩
            have yi : y < i := by
              have hk'' : k' < l.length := by omega
              rw [← HYe.out, List.getElem?_eq_getElem hk'']
              exact SR.out.lt (List.getElem_mem hk'')
            have yn : y < bs.length := by omega
            obtain ⟨yy, HY⟩ : ∃ x, Hid (bxAt bs y = x) := ⟨_, rfl⟩
            obtain ⟨y1, y2, y3, y4⟩ := yy
            have KY : Hid (csK bs y = cvKey y1 y2 y3 y4) := by show _ = _; unfold csK; rw [HY.out]
            obtain ⟨b1, o1, rfl, hc⟩ := (h.below BI).cells (by intro e; rw [e] at hlt; simp at hlt)
            have F1 := hc y yn
            rw [HY.out] at F1
            obtain ⟨f0, f1, f2, f3⟩ := F1
            have F2 := hc i hlt
            rw [HX.out] at F2
            obtain ⟨g0, g1, g2, g3⟩ := F2
            dsimp only at f0 f1 f2 f3 g0 g1 g2 g3
            clear hc
            have r0 : wi.cell? ⟨q, k', none⟩ = some (.int .i64 (y : Int)) := by
              have h9 := RI.at' (j := k') (by rw [List.length_map, hole_len]; omega)
              rw [mapN_at, hole_at (by omega) (by omega), HYe.out] at h9
              exact h9
            have kk : ((k' + 1 : Nat) : Int) - 1 = (k' : Int) := by omega
            have wk : IntKind.i64.wrap (k' : Int) = (k' : Int) := by rw [IntKind.wrap_i64]; omega
            have wy : IntKind.i64.wrap (y : Int) = (y : Int) := by rw [IntKind.wrap_i64]; omega
            have wx : IntKind.i64.wrap (i : Int) = (i : Int) := by rw [IntKind.wrap_i64]; omega
            have bk : (k' : Int) < (i : Int) + 1 := by omega
            have yb : (y : Int) < (bs.length : Int) := by omega
            have ib : (i : Int) < (bs.length : Int) := by omega
            go_upto_region 9 with fail
            refine wp_region_held_drew (S := Below wi.heap.size wi) (by kernel_rfl) ((Below.refl _ _).drew) (fun hHeld => ?_)
            have N : Below wi.heap.size wi wi.drew := hHeld
            revert hHeld N
            generalize wi.drew = ww0
            intro hHeld N
            refine takeQ (i := 0) (gt rfl) (by kernel_rfl) (fun _ _ _ h => h) (by rfl) (by intro wq _; go_simp <;> with_reducible rfl) (by assumption) ?_
            try simp only [Act.put, sA, sB, sC]
            refine takeQ (i := 1) (gt rfl) (by kernel_rfl) (fun _ _ _ h => h) (by rfl) (by intro wq _; go_simp <;> with_reducible rfl) (by assumption) ?_
            try simp only [Act.put, sA, sB, sC]
            refine takeQ (i := 2) (gt rfl) (by kernel_rfl) (fun _ _ _ h => h) (by rfl) (by intro wq _; go_simp <;> with_reducible rfl) (by assumption) ?_
            try simp only [Act.put, sA, sB, sC]
            refine takeQ (i := 3) (gt rfl) (by kernel_rfl) (fun _ _ _ h => h) (by rfl) (by intro wq _; go_simp <;> with_reducible rfl) (by assumption) ?_
            try simp only [Act.put, sA, sB, sC]
            refine takeQ (i := 4) (gt rfl) (by kernel_rfl) (fun _ _ _ h => h) (by rfl) (by intro wq _; go_simp <;> with_reducible rfl) (by assumption) ?_
            try simp only [Act.put, sA, sB, sC]
            refine takeQ (i := 5) (gt rfl) (by kernel_rfl) (fun _ _ _ h => h) (by rfl) (by intro wq _; go_simp <;> with_reducible rfl) (by assumption) ?_
            try simp only [Act.put, sA, sB, sC]
            refine takeQ (i := 6) (gt rfl) (by kernel_rfl) (fun _ _ _ h => h) (by rfl) (by intro wq _; go_simp <;> with_reducible rfl) (by assumption) ?_
            try simp only [Act.put, sA, sB, sC]
            refine takeQ (i := 7) (gt rfl) (by kernel_rfl) (fun _ _ _ h => h) (by rfl) (by intro wq _; go_simp <;> with_reducible rfl) (by assumption) ?_
            try simp only [Act.put, sA, sB, sC]
            refine takeQ (i := 8) (gt rfl) (by kernel_rfl) (fun _ _ _ h => h) (by rfl) (by intro wq hSw; have q0 := bat hSw r0; have q1 := bat hSw f0; have q2 := bat hSw f1; have q3 := bat hSw f2; have q4 := bat hSw f3; have q5 := bat hSw g0; have q6 := bat hSw g1; have q7 := bat hSw g2; have q8 := bat hSw g3; go_simp <;> with_reducible rfl) (by assumption) ?_
            try simp only [Act.put, sA, sB, sC]
            refine takeQ (i := 9) (gt rfl) (by kernel_rfl) (fun _ _ _ h => h) (by rfl) (by intro wq _; go_simp <;> with_reducible rfl) (by assumption) ?_
            try simp only [Act.put, sA, sB, sC]
            refine takeQ (i := 10) (gt rfl) (by kernel_rfl) (fun _ _ _ h => h) (by rfl) (by intro wq hSw; have q0 := bat hSw r0; have q1 := bat hSw f0; have q2 := bat hSw f1; have q3 := bat hSw f2; have q4 := bat hSw f3; have q5 := bat hSw g0; have q6 := bat hSw g1; have q7 := bat hSw g2; have q8 := bat hSw g3; go_simp <;> with_reducible rfl) (by assumption) ?_
            try simp only [Act.put, sA, sB, sC]
            refine takeQ (i := 12) (gt rfl) (by kernel_rfl) (fun _ _ _ h => h) (by rfl) (by intro wq _; go_simp <;> with_reducible rfl) (by assumption) ?_
            try simp only [Act.put, sA, sB, sC]
            refine takeQ (i := 13) (gt rfl) (by kernel_rfl) (fun _ _ _ h => h) (by rfl) (by intro wq _; go_simp <;> with_reducible rfl) (by assumption) ?_
            try simp only [Act.put, sA, sB, sC]
            refine takeQ (i := 14) (gt rfl) (by kernel_rfl) (fun _ _ _ h => h) (by rfl) (by intro wq _; go_simp <;> with_reducible rfl) (by assumption) ?_
            try simp only [Act.put, sA, sB, sC]
            refine takeQ (i := 15) (gt rfl) (by kernel_rfl) (fun _ _ _ h => h) (by rfl) (by intro wq hSw; have q0 := bat hSw r0; have q1 := bat hSw f0; have q2 := bat hSw f1; have q3 := bat hSw f2; have q4 := bat hSw f3; have q5 := bat hSw g0; have q6 := bat hSw g1; have q7 := bat hSw g2; have q8 := bat hSw g3; go_simp <;> with_reducible rfl) (by assumption) ?_
            try simp only [Act.put, sA, sB, sC]
            refine wpAnyH_ready (rs := [11]) (by kernel_rfl) (by simp) (AllReadyH.cons (gt rfl) (fun K hK => ?_) AllReadyH.nil)
            go_simp
            refine (specCurveKey y1 y2 y3 y4 _).mono ?_
            rintro e1 ww1 ⟨rfl, hb⟩
            replace N := N.trans (hb.mono N.size)
            clear hb
            refine hK.out _ _ N (fun hHeld => ?_)
            clear hK K
            try simp only [Act.put, sA, sB, sC]
            refine wpAnyH_ready (rs := [16]) (by kernel_rfl) (by simp) (AllReadyH.cons (gt rfl) (fun K hK => ?_) AllReadyH.nil)
            go_simp
            refine (specCurveKey x1 x2 x3 x4 _).mono ?_
            rintro e1 ww2 ⟨rfl, hb⟩
            replace N := N.trans (hb.mono N.size)
            clear hb
            refine hK.out _ _ N (fun hHeld => ?_)
            clear hK K
            try simp only [Act.put, sA, sB, sC]
            refine takeQ (i := 17) (gt rfl) (by kernel_rfl) (fun _ _ _ h => h) (by rfl) (by intro wq _; go_simp <;> with_reducible rfl) (by assumption) ?_
            try simp only [Act.put, sA, sB, sC]
            refine takeQ (i := 18) (gt rfl) (by kernel_rfl) (fun _ _ _ h => h) (by rfl) (by intro wq _; go_simp <;> with_reducible rfl) (by assumption) ?_
            try simp only [Act.put, sA, sB, sC]
            refine wpAnyH_done (by kernel_rfl) ?_ _
            by_cases hgt0 : cvKey x1 x2 x3 x4 < cvKey y1 y2 y3 y4
            · have hgt : csK bs i < csK bs y := by rw [KI.out, KY.out]; exact hgt0
              have GD : ∀ a ∈ l.drop k', csK bs i < csK bs a := drop_gt (by omega) GT.out (by rw [HYe.out]; exact hgt)
              replace BI := BI.trans (N.mono BI.size)
              replace RI := RI.below N
              clear N
              have RP := RI.put (k' + 1) (y : Int)
              rw [hole_downI (by omega) HYe.out] at RP
              obtain ⟨rx, rz⟩ := RI.at3 (j := k' + 1) (by rw [List.length_map, hole_len]; omega)
              have rf : ww2.frozen? ⟨q, k' + 1, none⟩ = false := RI.frozenAt (k' + 1)
              have BJ := BI.setCell (p := ⟨q, k' + 1, none⟩) ql (.int .i64 (y : Int))
              rw [List.length_map, hole_len, SL] at RP
              have r9 : ww2.cell? ⟨q, k', none⟩ = some (.int .i64 (y : Int)) := by
                have h9 := RI.at' (j := k') (by rw [List.length_map, hole_len]; omega)
                rw [mapN_at, hole_at (by omega) (by omega), HYe.out] at h9
                exact h9
              clear RI BI f0 f1 f2 f3 g0 g1 g2 g3 r0
              go_wp2
              go_roundw
              case rel => exact ⟨k', y, by omega, by go_num, (by first | exact RP | (rw [List.length_map, hole_len, SL]; exact RP) | (simp only [List.length_map, hole_len, SL] at RP ⊢; exact RP)), GD, BJ⟩
              case measure => simp [intOf] <;> omega
            · have hgt : ¬ csK bs i < csK bs y := by rw [KI.out, KY.out]; exact hgt0
              have NS : Srt (csK bs) (i + 1) (hole l (k' + 1) i) := SR.out.ins GT.out (SR.out.le (by omega) (by rw [HYe.out]; omega))
              clear f0 f1 f2 f3 g0 g1 g2 g3 r0
              replace BI := BI.trans (N.mono BI.size)
              replace RI := RI.below N
              clear N
              have RP := RI.put (k' + 1) (i : Int)
              rw [hole_setI (by omega)] at RP
              obtain ⟨rx, rz⟩ := RI.at3 (j := k' + 1) (by rw [List.length_map, hole_len]; omega)
              have rf : ww2.frozen? ⟨q, k' + 1, none⟩ = false := RI.frozenAt (k' + 1)
              have BJ := BI.setCell (p := ⟨q, k' + 1, none⟩) ql (.int .i64 (i : Int))
              rw [List.length_map, hole_len, SL] at RP
              clear RI BI
              go_wp2
              go_roundw
              case rel => exact ⟨i + 1, hole l (k' + 1) i, by omega, by go_num, NS, (by first | exact RP | (rw [List.length_map, hole_len, SL]; exact RP) | (simp only [List.length_map, hole_len, SL] at RP ⊢; exact RP)), BJ⟩
              case measure => simp [intOf] <;> omega
      · obtain rfl : i = bs.length := by omega
        go_wp2
        go_ret
        exact ⟨_, rfl, l, R, CO.out l SR0, B⟩
  · have CO : csOk bs [] := by unfold csOk; rw [if_neg hs]
    go_enter Tryz.func54, Tryz.ntmps54
    go_wp2
    go_ret
    exact ⟨_, rfl, [], R0, CO, B0⟩
end Go.Proofs.YthompofbdjdloaaGreat
