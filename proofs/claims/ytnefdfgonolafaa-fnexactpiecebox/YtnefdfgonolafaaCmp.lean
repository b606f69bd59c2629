/- The program's comparing of limbs: impl.cmpMag. -/
import Derived.Test.YtnefdfgonolafaaArith
import Derived.Test.YtnefdfgonolafaaEq
namespace Go.Proofs.Ytnefdfgonolafaa
open Go.RowKit

set_option maxHeartbeats 1000000 in
theorem cmpMagC (a b : Option Addr) (c d : Nat) (xs ys : List Int) (w : World) (h : Sees w a c xs) (k : Sees w b d ys) (nx : Nrm xs) (ny : Nrm ys) :
    Calls Try.prog 55 #[.slice a xs.length c, .slice b ys.length d] w fun e w' => e = .returned (.int .i64 (cmpZ (val xs) (val ys))) ∧ ∃ n, w' = w.drewN n := by
  have hm := h.max
  have hf := h.fits
  have hm2 := k.max
  have hf2 := k.fits
  unfold maxLen at hm hm2
  by_cases hl : xs.length = ys.length
  · have HL : Hid (xs.length = ys.length) := hl
    have HX : Hid (Lim xs ∧ Nrm xs) := ⟨h.lim, nx⟩
    have HY : Hid (Lim ys ∧ Nrm ys) := ⟨k.lim, ny⟩
    rw [← hl]
    rw [← hl] at hf2
    clear hl nx ny
    go_enter Try.func55, Try.ntmps55
    go_wp2
    go_loopw [5] (fun i wr => ∃ (j n : Nat), j ≤ xs.length ∧ i = .int .i64 ((j : Int) - 1) ∧ wr = w.drewN n ∧ Hid (xs.drop j = ys.drop j)) (fun i _ => (intOf i + 1).toNat)
    case atStart => exact ⟨xs.length, 0, Nat.le_refl _, rfl, rfl, by show _ = _; rw [List.drop_eq_nil_of_le (Nat.le_refl _), List.drop_eq_nil_of_le (by rw [HL.out]; exact Nat.le_refl _)]⟩
    case round =>
      obtain ⟨j, n, hj, rfl, rfl, he⟩ := hrel
      by_cases h0 : j = 0
      · subst h0
        have E : Hid (cmpZ (val xs) (val ys) = 0) := by
          have := he.out
          simp only [List.drop_zero] at this
          show _ = _
          rw [this]; simp [cmpZ]
        clear he
        go_wp2
        go_ret
        exact ⟨by rw [E.out]; rfl, n, rfl⟩
      · have hne : xs ≠ [] := by intro e; simp [e] at hj; omega
        have hne' : ys ≠ [] := by intro e; have := HL.out; rw [e] at this; simp at this; exact hne this
        obtain ⟨b1, o1, rfl, hc1⟩ := h.cells hne
        obtain ⟨b2, o2, rfl, hc2⟩ := k.cells hne'
        have g1 := hc1 (j - 1) (by omega)
        have g2 := hc2 (j - 1) (by have := HL.out; omega)
        have hp : 0 < j := by omega
        have hsub : j - 1 + 1 = j := by omega
        rcases Int.lt_trichotomy (xs[j - 1]?.getD 0) (ys[j - 1]?.getD 0) with hlt | heq | hgt
        · have E : Hid (cmpZ (val xs) (val ys) = -1) := by
            have := cmp_at (j := j - 1) HX.out.1 HY.out.1 HL.out (by omega) (by rw [hsub]; exact he.out) hlt
            show _ = _
            unfold cmpZ; rw [if_pos this]
          have hne3 : (xs[j - 1]?.getD 0 != ys[j - 1]?.getD 0) = true := by simp; omega
          clear hc1 hc2 h k he hsub
          generalize xs[j - 1]?.getD 0 = x at *
          generalize ys[j - 1]?.getD 0 = y at *
          go_wp2
          go_quiet (fail)
          go_wp2
          go_quiet (fail)
          go_wp2
          go_ret
          exact ⟨by rw [E.out]; rfl, _, by rw [World.drewN_drewN, World.drewN_drewN]⟩
        · have E : Hid (xs.drop (j - 1) = ys.drop (j - 1)) := drop_step HL.out (by rw [hsub]; exact he.out) heq
          rw [heq] at g1
          clear hc1 hc2 h k he hsub heq
          generalize ys[j - 1]?.getD 0 = y at *
          go_wp2
          go_quiet (fail)
          go_wp2
          go_roundw
          case rel => exact ⟨j - 1, _, by omega, by go_num, rfl, E⟩
          case measure => simp [intOf]; omega
        · have E : Hid (cmpZ (val xs) (val ys) = 1) := by
            have := cmp_at (j := j - 1) HY.out.1 HX.out.1 HL.out.symm (by have := HL.out; omega) (by rw [hsub]; exact he.out.symm) hgt
            show _ = _
            unfold cmpZ; rw [if_neg (by omega), if_neg (by omega)]
          have hne3 : (xs[j - 1]?.getD 0 != ys[j - 1]?.getD 0) = true := by simp; omega
          have hge : ¬ xs[j - 1]?.getD 0 < ys[j - 1]?.getD 0 := by omega
          have hdd : decide (xs[j - 1]?.getD 0 < ys[j - 1]?.getD 0) = false := by simp; omega
          clear hc1 hc2 h k he hsub
          generalize xs[j - 1]?.getD 0 = x at *
          generalize ys[j - 1]?.getD 0 = y at *
          go_wp2
          go_quiet (fail)
          go_wp2
          go_quiet (fail)
          go_wp2
          go_ret
          exact ⟨by rw [E.out]; rfl, _, by rw [World.drewN_drewN, World.drewN_drewN]⟩
  · have hne : ((xs.length : Int) != (ys.length : Int)) = true := by simp; omega
    by_cases hlt : xs.length < ys.length
    · have E : Hid (cmpZ (val xs) (val ys) = -1) := by
        have := cmp_len h.lim k.lim ny hlt
        show _ = _
        unfold cmpZ; rw [if_pos this]
      clear h k nx ny hl
      go_enter Try.func55, Try.ntmps55
      go_wp2
      go_ret
      exact ⟨by rw [E.out]; rfl, 0, rfl⟩
    · have E : Hid (cmpZ (val xs) (val ys) = 1) := by
        have := cmp_len k.lim h.lim nx (by omega)
        show _ = _
        unfold cmpZ; rw [if_neg (by omega), if_neg (by omega)]
      clear h k nx ny hl
      go_enter Try.func55, Try.ntmps55
      go_wp2
      go_ret
      exact ⟨by rw [E.out]; rfl, 0, rfl⟩
end Go.Proofs.Ytnefdfgonolafaa
