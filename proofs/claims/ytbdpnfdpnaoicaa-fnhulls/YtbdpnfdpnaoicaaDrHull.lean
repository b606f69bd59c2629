/- Points that are drawn for a hull: l1Size, l9Draw, DrawHull. -/
import Derived.Test.YtbdpnfdpnaoicaaDrThin
import Derived.Test.YtbdpnfdpnaoicaaHullM
namespace Go.Proofs.Ytbdpnfdpnaoicaa
open Go.RowKit

theorem l1SizeH_any (a : Option Addr) (n cap : Nat) (w : World) (hm : n ≤ 1048576) :
    Calls Try.prog 15 #[.slice a n cap, .int .i64 30] w fun e w' => ∃ s : Int, e = .returned (.int .i64 s) ∧ 0 < s ∧ s ≤ 30 ∧ w' = w := by
  obtain ⟨q, hq⟩ : ∃ q : Int, (n : Int).tdiv 12 = q := ⟨_, rfl⟩
  have q0 : 0 ≤ q ∧ q ≤ 1048576 := by
    rw [← hq, Int.tdiv_eq_ediv_of_nonneg (by omega)]
    omega
  by_cases h : 30 < 3 + q
  · go_enter Try.func15, Try.ntmps15
    go_wp2
    go_ret
    exact ⟨30, rfl, by omega, by omega, rfl⟩
  · go_enter Try.func15, Try.ntmps15
    go_wp2
    go_ret
    exact ⟨3 + q, rfl, by omega, by omega, rfl⟩
set_option maxRecDepth 20000 in
set_option maxHeartbeats 2000000 in
theorem l9DrawH_any (p : Nat) (a : Option Addr) (n cap : Nat) (m : Int) (w : World) (h : Cur w p a n cap) (hb : ∀ b off, a = some ⟨b, off, none⟩ → 0 < n → b < w.heap.size) (hm0 : 0 < m) (hm : m ≤ 30) :
    Calls Try.prog 14 #[.pointer (some ⟨p, 0, none⟩), .int .i64 m] w fun e w' => ∃ v ps, e = .returned v ∧ RowPt w.heap.size w' v ps ∧ ps.length ≤ 30 ∧ v ≠ .slice none 0 0 ∧ Cur w' p a n cap ∧ w.grownBy w' (some p) := by
  obtain ⟨iP, hiP, hP0, hP1, hP2⟩ := info_parts infoPt
  have hp := h.lt
  have HB : Hid (∀ b off, a = some ⟨b, off, none⟩ → 0 < n → b < w.heap.size) := hb
  have R0 := RowPt.empty w (base := w.heap.size) (Nat.le_refl _)
  have b0 := below1 w (.cells #[] 29)
  have C0 := h.below b0
  have G0 : w.grownBy (w.alloc (.cells #[] 29)) (some p) := World.grownBy_alloc _ _ _
  clear hb h b0
  go_enter Try.func14, Try.ntmps14
  go_wp2_with fail
  generalize w.alloc (.cells #[] 29) = W0 at *
  refine (l1Below_any p a n cap m _ C0).mono ?_
  rintro e w1 ⟨x, rfl, x0, x1, C1, g1⟩
  have x2 := x1 hm0
  replace R0 := R0.drawn g1 hp
  replace G0 := grownBy_trans G0 g1
  obtain ⟨k, hk⟩ : ∃ k : Nat, x = (k : Int) := ⟨x.toNat, by omega⟩
  subst hk
  have k30 : k ≤ 30 := by omega
  clear C0 g1 x1
  go_wp2
  go_loopw [5, 6] (fun s5 s6 wr => ∃ (j : Nat) (ps : List (Int × Int)), s6 = .int .i64 j ∧ j ≤ 30 ∧ Hid (ps.length + j ≤ 30) ∧ Hid (s5 ≠ .slice none 0 0) ∧ Hid (RowPt w.heap.size wr s5 ps) ∧ Hid (Cur wr p a n cap) ∧ Hid (w.grownBy wr (some p))) (fun _ s6 _ => (intOf s6).toNat)
  case atStart => exact ⟨k, [], rfl, k30, (by show _ ≤ _; simp; exact k30), (by intro e; cases e), R0, C1, G0⟩
  case round =>
    clear R0 C1 G0 x0 x2
    obtain ⟨j, ps, rfl, hj, hl, nn, RR, CC, G⟩ := hrel
    rename World => wr
    by_cases hj0 : 0 < j
    · go_wp2_with fail
      refine (l3Draw_any p a n cap _ CC.out).mono ?_
      rintro e w2 ⟨x, y, rfl, C2, g2⟩
      have R2 := RR.out.drawn g2 hp
      have G2 := grownBy_trans G.out g2
      clear RR CC G g2
      go_wp2_with fail
      refine (specTakenPt x y _).mono ?_
      rintro e w3 ⟨rfl, hb3⟩
      replace R2 := R2.below hb3
      replace C2 := C2.below hb3
      replace G2 := grownBy_trans G2 (grown_wider (grown_of_below hb3))
      obtain ⟨X, hX⟩ : ∃ X, Hid (tX x y = X) := ⟨_, rfl⟩
      obtain ⟨Y, hY⟩ : ∃ X, Hid (tY x y = X) := ⟨_, rfl⟩
      rw [hX.out, hY.out]
      have bn := below1 w3 (.cells #[.int .i64 X, .int .i64 Y] 29)
      have V7 := Box2.new w3 (lo := 0) (Nat.zero_le _) (.int .i64 X) (.int .i64 Y) 29
      have R3 := R2.below bn
      have C3 := C2.below bn
      have G3 := grown_alloc G2 (.cells #[.int .i64 X, .int .i64 Y] 29)
      have z3 : w.heap.size ≤ w3.heap.size := G2.size
      have R3n : Hid (∀ k, u5.ownBlock = some k → k < w3.heap.size) := fun k hk => (World.ownsRow.lt R2 k hk).2
      have hl' : ps.length + j ≤ 30 := hl.out
      clear R2 C2 bn
      go_wp2_with fail
      generalize w3.alloc (.cells #[.int .i64 X, .int .i64 Y] 29) = W3 at *
      generalize w3.heap.size = q3 at *
      refine (l1Once_any p a n cap 40 _ C3).mono ?_
      rintro e w4 ⟨o, rfl, C4, g4⟩
      have R4 := R3.drawn g4 hp
      have G4 := grownBy_trans G3 g4
      have V4 := V7.grown g4 (by omega)
      clear R3 C3 G3 V7 g4 G2
      cases o
      · have bq := below1 w4 (.cells #[.int .i64 X, .int .i64 Y] 29)
        have NW := pt_new w4 29 X Y
        have R6 := R4.below bq
        have C6 := C4.below bq
        have G6 := grown_alloc G4 (.cells #[.int .i64 X, .int .i64 Y] 29)
        have HZ : w.heap.size ≤ (w4.alloc (.cells #[.int .i64 X, .int .i64 Y] 29)).heap.size := G6.size
        obtain ⟨q0, q1, qf, _⟩ := id V4
        clear bq R4 C4 G4
        go_wp2_with (at_builtin; refine wpList_append_own_at _ rfl (.tmp 22) (.tmp 24) 24 rfl w.heap.size 29 iP (.agg #[.int .i64 0, .int .i64 0]) 2 16 Try.underlying24 hiP hP0 hP1 hP2 rfl (by decide) u5 ps.length (ptC ps) rfl R6 ⟨w4.heap.size, 0, none⟩ 1 _ (ptC [(X, Y)]) rfl rfl NW (ptC_ones _) (by unfold maxLen; omega) (by omega) HZ ?_; intro v7 w7 R8 G7 nil7 _; replace R8 := RowPt.snoc R8; have NN7 : Hid (v7 ≠ .slice none 0 0) := (fun e => absurd (nil7.1 e).2 (by decide)); clear nil7)
        have C8 := C6.row R6 G7 hp HB.out
        have G8 := drawn_row G6 R6 (Nat.le_refl _) G7
        go_roundw
        case rel => exact ⟨j - 1, _, by go_num, by omega, (by show _ ≤ _; rw [List.length_append, List.length_singleton]; omega), NN7, R8, C8, G8⟩
        case measure => simp [intOf]; omega
      · have V5 := V4.put (.int .i64 10000001) (.int .i64 0)
        have gq : w4.grownBy ((w4.setCell ⟨q3, 0, none⟩ (.int .i64 10000001)).setCell ⟨q3, 1, none⟩ (.int .i64 0)) (some q3) := grownBy_setCell (p := ⟨q3, 1, none⟩) (grownBy_setCell (p := ⟨q3, 0, none⟩) (grownBy_refl _ _) rfl _) rfl _
        have R5 : RowPt w.heap.size ((w4.setCell ⟨q3, 0, none⟩ (.int .i64 10000001)).setCell ⟨q3, 1, none⟩ (.int .i64 0)) u5 ps := owns_kept R4 gq (fun k hk e => by have := R3n.out k hk; injection e with e; omega)
        have C5 := (C4.put (q := q3) (by omega) (fun b off e hn => by have := HB.out b off e hn; omega) 0 (.int .i64 10000001)).put (q := q3) (by omega) (fun b off e hn => by have := HB.out b off e hn; omega) 1 (.int .i64 0)
        have G5 := grown_new (grown_new G4 z3 0 (.int .i64 10000001)) z3 1 (.int .i64 0)
        obtain ⟨k0, k1, kf, _⟩ := id V4
        clear R4 C4 G4 gq
        have bq := below1 ((w4.setCell ⟨q3, 0, none⟩ (.int .i64 10000001)).setCell ⟨q3, 1, none⟩ (.int .i64 0)) (.cells #[.int .i64 10000001, .int .i64 0] 29)
        have NW := pt_new ((w4.setCell ⟨q3, 0, none⟩ (.int .i64 10000001)).setCell ⟨q3, 1, none⟩ (.int .i64 0)) 29 10000001 0
        have zW : ((w4.setCell ⟨q3, 0, none⟩ (.int .i64 10000001)).setCell ⟨q3, 1, none⟩ (.int .i64 0)).heap.size = w4.heap.size := by simp
        rw [zW] at NW
        have R6 := R5.below bq
        have C6 := C5.below bq
        have G6 := grown_alloc G5 (.cells #[.int .i64 10000001, .int .i64 0] 29)
        have HZ : w.heap.size ≤ (((w4.setCell ⟨q3, 0, none⟩ (.int .i64 10000001)).setCell ⟨q3, 1, none⟩ (.int .i64 0)).alloc (.cells #[.int .i64 10000001, .int .i64 0] 29)).heap.size := G6.size
        obtain ⟨q0, q1, qf, _⟩ := id V5
        clear bq R5 C5 G5 zW
        go_wp2_with (at_builtin; refine wpList_append_own_at _ rfl (.tmp 22) (.tmp 24) 24 rfl w.heap.size 29 iP (.agg #[.int .i64 0, .int .i64 0]) 2 16 Try.underlying24 hiP hP0 hP1 hP2 rfl (by decide) u5 ps.length (ptC ps) rfl R6 ⟨w4.heap.size, 0, none⟩ 1 _ (ptC [(10000001, 0)]) rfl rfl NW (ptC_ones _) (by unfold maxLen; omega) (by omega) HZ ?_; intro v7 w7 R8 G7 nil7 _; replace R8 := RowPt.snoc R8; have NN7 : Hid (v7 ≠ .slice none 0 0) := (fun e => absurd (nil7.1 e).2 (by decide)); clear nil7)
        have C8 := C6.row R6 G7 hp HB.out
        have G8 := drawn_row G6 R6 (Nat.le_refl _) G7
        go_roundw
        case rel => exact ⟨j - 1, _, by go_num, by omega, (by show _ ≤ _; rw [List.length_append, List.length_singleton]; omega), NN7, R8, C8, G8⟩
        case measure => simp [intOf]; omega
    · obtain rfl : j = 0 := by omega
      go_wp2
      go_ret
      exact ⟨_, ps, rfl, RR.out, (by have := hl.out; omega), nn.out, CC.out, G.out⟩

theorem RowPt.made {base g n : Nat} {w : World} (h : w.ownsRow base 29 2 (.slice (some ⟨g, 0, none⟩) n n) n (madeCells #[Value.int .i64 0, Value.int .i64 0] (n * 2)).toList) : RowPt base w (.slice (some ⟨g, 0, none⟩) n n) (List.replicate n (0, 0)) := by
  have ZE : (madeCells #[Value.int .i64 0, Value.int .i64 0] (n * 2)).toList = ptC (List.replicate n ((0 : Int), (0 : Int))) := by
    apply List.ext_getElem
    · rw [ptC_len]; simp [madeCells]
    · intro i h1 h2
      have hi : i < n * 2 := by rw [ptC_len] at h2; simpa using h2
      obtain ⟨c1, c2⟩ := ptC_at (List.replicate n ((0 : Int), (0 : Int))) (i / 2) (by simp; omega)
      have e0 : (List.replicate n ((0 : Int), (0 : Int)))[i / 2]?.getD (0, 0) = (0, 0) := by rw [List.getElem?_replicate]; split <;> rfl
      rw [e0] at c1 c2
      rcases (show i % 2 = 0 ∨ i % 2 = 1 by omega) with q | q
      · have e : i / 2 * 2 = i := by omega
        rw [e, List.getElem?_eq_getElem h2] at c1
        injection c1 with c1
        rw [c1]
        simp [madeCells, q]
      · have e : i / 2 * 2 + 1 = i := by omega
        rw [e, List.getElem?_eq_getElem h2] at c2
        injection c2 with c2
        rw [c2]
        simp [madeCells, q]
  unfold RowPt
  rw [List.length_replicate, ← ZE]
  exact h

set_option maxRecDepth 20000 in
set_option maxHeartbeats 2000000 in
theorem drawHull_any (a : Option Addr) (n cap : Nat) (w : World) (hB : Byt w a n) (hm : n ≤ 1048576) :
    Calls Try.prog 5 #[.slice a n cap] w fun e w' => ∃ ad c ps, e = .returned (.slice (some ad) (ps : List (Int × Int)).length c) ∧ SeesP w' (some ad) c ps ∧ (ps.length ≤ 30 ∨ ∃ k : Nat, k ≤ 501 ∧ ps = List.replicate k (0, 0)) ∧ Below w.heap.size w w' := by
  have HM : Hid (n ≤ 1048576) := hm
  have hb : ∀ b off, a = some ⟨b, off, none⟩ → 0 < n → b < w.heap.size := fun b off e hn => by
    obtain ⟨b', off', e', y, _, _, hc⟩ := hB 0 hn
    rw [e] at e'
    injection e' with e'
    injection e' with e1 e2
    subst e1
    exact World.block_lt_of_cell? w ⟨b, off' + 0, none⟩ hc
  obtain ⟨iP, hiP, hP0, hP1, hP2⟩ := info_parts infoPt
  go_enter Try.func5, Try.ntmps5
  go_wp2_with fail
  refine (l1New_any a n cap w hB hm).mono ?_
  rintro e w1 ⟨rfl, C1, B1⟩
  clear hm
  go_wp2_with fail
  refine (l1Once_any w.heap.size a n cap 60 _ C1).mono ?_
  rintro e w2 ⟨x, rfl, C2, g2⟩
  have B2 := B1.grown g2 B1.size (fun k hk => by injection hk with hk; omega)
  cases x
  · go_wp2_with fail
    refine (l1SizeH_any a n cap _ HM.out).mono ?_
    rintro e w3 ⟨s, rfl, s0, s1, rfl⟩
    go_wp2_with fail
    refine (l9DrawH_any w.heap.size a n cap s _ C2 (fun b off e hn => Nat.lt_of_lt_of_le (hb b off e hn) B2.size) s0 s1).mono ?_
    rintro e w3 ⟨v, ps, rfl, R3, l3, nn, C3, g3⟩
    obtain ⟨va, vc, ev, _, _⟩ := R3.shape
    obtain ⟨ad, ea⟩ : ∃ ad, va = some ad := by
      cases va with
      | none =>
        rcases R3.2 with ⟨q, _⟩ | ⟨g, cp, cur, hv, _⟩
        · exact absurd q nn
        · rw [ev] at hv
          injection hv with hv
          cases hv
      | some ad => exact ⟨ad, rfl⟩
    subst ea
    subst ev
    have B3 := B2.grown g3 B2.size (fun k hk => by injection hk with hk; omega)
    have S3 := R3.seesP
    clear R3 C3 g3 C1 nn
    go_wp2
    go_ret
    exact ⟨ad, vc, ps, rfl, S3, .inl l3, B3⟩
  · go_wp2_with fail
    refine (l1Below_any w.heap.size a n cap 2 _ C2).mono ?_
    rintro e w3 ⟨x, rfl, x0, x1, C3, g3⟩
    have x2 := x1 (by decide)
    have B3 := B2.grown g3 B2.size (fun k hk => by injection hk with hk; omega)
    obtain ⟨m, hm⟩ : ∃ m : Nat, 500 + x = (m : Int) := ⟨(500 + x).toNat, by omega⟩
    have m1 : m ≤ 501 := by omega
    obtain rfl : x = (m : Int) - 500 := by omega
    have ex : 500 + ((m : Int) - 500) = (m : Int) := by omega
    clear x1
    go_wp2_with (at_make; refine wpList_make_full _ rfl _ _ 24 rfl w.heap.size 29 iP (.agg #[.int .i64 0, .int .i64 0]) 2 Try.underlying24 hiP hP0 hP1 .i64 .i64 _ _ m rfl (by go_simp <;> rw [ex]) (by go_simp <;> rw [ex]) rfl ?b2 ?b3 ?b4 ?_)
    case b2 => rw [hP2]; omega
    case b3 => unfold maxLen; omega
    case b4 => exact B3.size
    intro w4 hown hgrow
    have R4 := RowPt.made hown
    have S4 := (show RowPt w.heap.size w4 (.slice (some ⟨w3.heap.size, 0, none⟩) (List.replicate m ((0 : Int), (0 : Int))).length m) (List.replicate m (0, 0)) from by rw [List.length_replicate]; exact R4).seesP
    have B4 := B3.grown hgrow B3.size (fun k h => by cases h)
    have HL : Hid (m = (List.replicate m ((0 : Int), (0 : Int))).length) := by show _ = _; simp
    clear hown hgrow R4
    go_wp2
    go_ret
    exact ⟨_, _, List.replicate m (0, 0), by rw [← HL.out]; rfl, S4, .inr ⟨m, m1, rfl⟩, B4⟩
end Go.Proofs.Ytbdpnfdpnaoicaa
