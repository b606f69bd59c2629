/- Rows that are drawn: l1Size, l9Draw, DrawThin. -/
import Derived.Test.YtbdpnfdpnaoicaaDrStar
import Derived.Test.YtbdpnfdpnaoicaaCurP
import Derived.Test.YtbdpnfdpnaoicaaCurSz
import Derived.Test.YtbdpnfdpnaoicaaDrawR
import Derived.Test.YtbdpnfdpnaoicaaChgW
namespace Go.Proofs.Ytbdpnfdpnaoicaa
open Go.RowKit


set_option maxRecDepth 20000 in
set_option maxHeartbeats 2000000 in
theorem l9Draw_any (p : Nat) (a : Option Addr) (n cap : Nat) (m : Int) (w : World) (h : Cur w p a n cap) (hb : ∀ b off, a = some ⟨b, off, none⟩ → 0 < n → b < w.heap.size) (hm0 : 0 < m) (hm : m ≤ 20) :
    Calls Try.prog 14 #[.pointer (some ⟨p, 0, none⟩), .int .i64 m] w fun e w' => ∃ v ps, e = .returned v ∧ RowPt w.heap.size w' v ps ∧ ps.length ≤ 20 ∧ v ≠ .slice none 0 0 ∧ Cur w' p a n cap ∧ w.grownBy w' (some p) := by
  obtain ⟨iP, hiP, hP0, hP1, hP2⟩ := info_parts infoPt
  have hp := h.lt
  have HB : Hid (∀ b off, a = some ⟨b, off, none⟩ → 0 < n → b < w.heap.size) := hb
  have R0 := RowPt.empty w (base := w.heap.size) (Nat.le_refl _)
  have b0 := below1 w (.cells #[] 29)
  have C0 := h.below b0
  have G0 : w.grownBy (w.alloc (.cells #[] 29)) (some p) := World.grownBy_alloc _ _ _
  clear hb h b0
  go_enter Try.func14, Try.ntmps14
  go_wp2_with fail
  generalize w.alloc (.cells #[] 29) = W0 at *
  refine (l1Below_any p a n cap m _ C0).mono ?_
  rintro e w1 ⟨x, rfl, x0, x1, C1, g1⟩
  have x2 := x1 hm0
  replace R0 := R0.drawn g1 hp
  replace G0 := grownBy_trans G0 g1
  obtain ⟨k, hk⟩ : ∃ k : Nat, x = (k : Int) := ⟨x.toNat, by omega⟩
  subst hk
  have k20 : k ≤ 20 := by omega
  clear C0 g1 x1
  go_wp2
  go_loopw [5, 6] (fun s5 s6 wr => ∃ (j : Nat) (ps : List (Int × Int)), s6 = .int .i64 j ∧ j ≤ 20 ∧ Hid (ps.length + j ≤ 20) ∧ Hid (s5 ≠ .slice none 0 0) ∧ Hid (RowPt w.heap.size wr s5 ps) ∧ Hid (Cur wr p a n cap) ∧ Hid (w.grownBy wr (some p))) (fun _ s6 _ => (intOf s6).toNat)
  case atStart => exact ⟨k, [], rfl, k20, (by show _ ≤ _; simp; exact k20), (by intro e; cases e), R0, C1, G0⟩
  case round =>
    clear R0 C1 G0 x0 x2
    obtain ⟨j, ps, rfl, hj, hl, nn, RR, CC, G⟩ := hrel
    rename World => wr
    by_cases hj0 : 0 < j
    · go_wp2_with fail
      refine (l3Draw_any p a n cap _ CC.out).mono ?_
      rintro e w2 ⟨x, y, rfl, C2, g2⟩
      have R2 := RR.out.drawn g2 hp
      have G2 := grownBy_trans G.out g2
      clear RR CC G g2
      go_wp2_with fail
      refine (specTakenPt x y _).mono ?_
      rintro e w3 ⟨rfl, hb3⟩
      replace R2 := R2.below hb3
      replace C2 := C2.below hb3
      replace G2 := grownBy_trans G2 (grown_wider (grown_of_below hb3))
      obtain ⟨X, hX⟩ : ∃ X, Hid (tX x y = X) := ⟨_, rfl⟩
      obtain ⟨Y, hY⟩ : ∃ X, Hid (tY x y = X) := ⟨_, rfl⟩
      rw [hX.out, hY.out]
      have bn := below1 w3 (.cells #[.int .i64 X, .int .i64 Y] 29)
      have V7 := Box2.new w3 (lo := 0) (Nat.zero_le _) (.int .i64 X) (.int .i64 Y) 29
      have R3 := R2.below bn
      have C3 := C2.below bn
      have G3 := grown_alloc G2 (.cells #[.int .i64 X, .int .i64 Y] 29)
      have z3 : w.heap.size ≤ w3.heap.size := G2.size
      have R3n : Hid (∀ k, u5.ownBlock = some k → k < w3.heap.size) := fun k hk => (World.ownsRow.lt R2 k hk).2
      have hl' : ps.length + j ≤ 20 := hl.out
      clear R2 C2 bn
      go_wp2_with fail
      generalize w3.alloc (.cells #[.int .i64 X, .int .i64 Y] 29) = W3 at *
      generalize w3.heap.size = q3 at *
      refine (l1Once_any p a n cap 40 _ C3).mono ?_
      rintro e w4 ⟨o, rfl, C4, g4⟩
      have R4 := R3.drawn g4 hp
      have G4 := grownBy_trans G3 g4
      have V4 := V7.grown g4 (by omega)
      clear R3 C3 G3 V7 g4 G2
      cases o
      · have bq := below1 w4 (.cells #[.int .i64 X, .int .i64 Y] 29)
        have NW := pt_new w4 29 X Y
        have R6 := R4.below bq
        have C6 := C4.below bq
        have G6 := grown_alloc G4 (.cells #[.int .i64 X, .int .i64 Y] 29)
        have HZ : w.heap.size ≤ (w4.alloc (.cells #[.int .i64 X, .int .i64 Y] 29)).heap.size := G6.size
        obtain ⟨q0, q1, qf, _⟩ := id V4
        clear bq R4 C4 G4
        go_wp2_with (at_builtin; refine wpList_append_own_at _ rfl (.tmp 22) (.tmp 24) 24 rfl w.heap.size 29 iP (.agg #[.int .i64 0, .int .i64 0]) 2 16 Try.underlying24 hiP hP0 hP1 hP2 rfl (by decide) u5 ps.length (ptC ps) rfl R6 ⟨w4.heap.size, 0, none⟩ 1 _ (ptC [(X, Y)]) rfl rfl NW (ptC_ones _) (by unfold maxLen; omega) (by omega) HZ ?_; intro v7 w7 R8 G7 nil7 _; replace R8 := RowPt.snoc R8; have NN7 : Hid (v7 ≠ .slice none 0 0) := (fun e => absurd (nil7.1 e).2 (by decide)); clear nil7)
        have C8 := C6.row R6 G7 hp HB.out
        have G8 := drawn_row G6 R6 (Nat.le_refl _) G7
        go_roundw
        case rel => exact ⟨j - 1, _, by go_num, by omega, (by show _ ≤ _; rw [List.length_append, List.length_singleton]; omega), NN7, R8, C8, G8⟩
        case measure => simp [intOf]; omega
      · have V5 := V4.put (.int .i64 10000001) (.int .i64 0)
        have gq : w4.grownBy ((w4.setCell ⟨q3, 0, none⟩ (.int .i64 10000001)).setCell ⟨q3, 1, none⟩ (.int .i64 0)) (some q3) := grownBy_setCell (p := ⟨q3, 1, none⟩) (grownBy_setCell (p := ⟨q3, 0, none⟩) (grownBy_refl _ _) rfl _) rfl _
        have R5 : RowPt w.heap.size ((w4.setCell ⟨q3, 0, none⟩ (.int .i64 10000001)).setCell ⟨q3, 1, none⟩ (.int .i64 0)) u5 ps := owns_kept R4 gq (fun k hk e => by have := R3n.out k hk; injection e with e; omega)
        have C5 := (C4.put (q := q3) (by omega) (fun b off e hn => by have := HB.out b off e hn; omega) 0 (.int .i64 10000001)).put (q := q3) (by omega) (fun b off e hn => by have := HB.out b off e hn; omega) 1 (.int .i64 0)
        have G5 := grown_new (grown_new G4 z3 0 (.int .i64 10000001)) z3 1 (.int .i64 0)
        obtain ⟨k0, k1, kf, _⟩ := id V4
        clear R4 C4 G4 gq
        have bq := below1 ((w4.setCell ⟨q3, 0, none⟩ (.int .i64 10000001)).setCell ⟨q3, 1, none⟩ (.int .i64 0)) (.cells #[.int .i64 10000001, .int .i64 0] 29)
        have NW := pt_new ((w4.setCell ⟨q3, 0, none⟩ (.int .i64 10000001)).setCell ⟨q3, 1, none⟩ (.int .i64 0)) 29 10000001 0
        have zW : ((w4.setCell ⟨q3, 0, none⟩ (.int .i64 10000001)).setCell ⟨q3, 1, none⟩ (.int .i64 0)).heap.size = w4.heap.size := by simp
        rw [zW] at NW
        have R6 := R5.below bq
        have C6 := C5.below bq
        have G6 := grown_alloc G5 (.cells #[.int .i64 10000001, .int .i64 0] 29)
        have HZ : w.heap.size ≤ (((w4.setCell ⟨q3, 0, none⟩ (.int .i64 10000001)).setCell ⟨q3, 1, none⟩ (.int .i64 0)).alloc (.cells #[.int .i64 10000001, .int .i64 0] 29)).heap.size := G6.size
        obtain ⟨q0, q1, qf, _⟩ := id V5
        clear bq R5 C5 G5 zW
        go_wp2_with (at_builtin; refine wpList_append_own_at _ rfl (.tmp 22) (.tmp 24) 24 rfl w.heap.size 29 iP (.agg #[.int .i64 0, .int .i64 0]) 2 16 Try.underlying24 hiP hP0 hP1 hP2 rfl (by decide) u5 ps.length (ptC ps) rfl R6 ⟨w4.heap.size, 0, none⟩ 1 _ (ptC [(10000001, 0)]) rfl rfl NW (ptC_ones _) (by unfold maxLen; omega) (by omega) HZ ?_; intro v7 w7 R8 G7 nil7 _; replace R8 := RowPt.snoc R8; have NN7 : Hid (v7 ≠ .slice none 0 0) := (fun e => absurd (nil7.1 e).2 (by decide)); clear nil7)
        have C8 := C6.row R6 G7 hp HB.out
        have G8 := drawn_row G6 R6 (Nat.le_refl _) G7
        go_roundw
        case rel => exact ⟨j - 1, _, by go_num, by omega, (by show _ ≤ _; rw [List.length_append, List.length_singleton]; omega), NN7, R8, C8, G8⟩
        case measure => simp [intOf]; omega
    · obtain rfl : j = 0 := by omega
      go_wp2
      go_ret
      exact ⟨_, ps, rfl, RR.out, (by have := hl.out; omega), nn.out, CC.out, G.out⟩

def sqL : List Int := [0, 1, 2, 9, 100, -1, 9223372036854775807]
theorem sq_max : ∀ z ∈ sqL, z ≤ 9223372036854775807 := by decide
end Go.Proofs.Ytbdpnfdpnaoicaa
