/- The specification's l1Reaches: is a row, one limb longer, at least the other one? -/
import Derived.Test.YtnefdfgonolafaaArith
import Derived.Test.YtnefdfgonolafaaEq
namespace Go.Proofs.Ytnefdfgonolafaa
open Go.RowKit

theorem val_top {rs : List Int} {n : Nat} (h : rs.length = n + 1) : val rs = val (rs.take n) + 4294967296 ^ n * (rs[n]?.getD 0) := by
  have := val_take_succ rs n
  rw [← h, List.take_length] at this
  exact this

set_option maxHeartbeats 1000000 in
theorem l1ReachesC (a b : Option Addr) (c d : Nat) (rs ys : List Int) (w : World) (h : Sees w a c rs) (k : Sees w b d ys) (hl : rs.length = ys.length + 1) :
    Calls Try.prog 52 #[.slice a (ys.length + 1) c, .slice b ys.length d] w fun e w' => e = .returned (.bool (decide (val ys ≤ val rs))) ∧ ∃ n, w' = w.drewN n := by
  have hm2 := k.max
  have hf2 := k.fits
  have hm := h.max
  have hf := h.fits
  rw [hl] at hf
  unfold maxLen at hm hm2
  have hne : rs ≠ [] := by intro e; simp [e] at hl
  obtain ⟨b1, o1, rfl, hc1⟩ := h.cells hne
  have g0 := hc1 ys.length (by omega)
  have hv := val_top hl
  have ht := h.lim.get ys.length
  have hLR : Lim (rs.take ys.length) := h.lim.take _
  have hlen : (rs.take ys.length).length = ys.length := by simp; omega
  have y1 := val_lt k.lim
  have r0 := val_nonneg hLR
  by_cases h0 : 0 < rs[ys.length]?.getD 0
  · have E : Hid (decide (val ys ≤ val rs) = true) := by
      show _ = _
      have hp := p_pos ys.length
      have : 4294967296 ^ ys.length * 1 ≤ 4294967296 ^ ys.length * (rs[ys.length]?.getD 0) := Int.mul_le_mul_of_nonneg_left (by omega) (by omega)
      simp only [decide_eq_true_eq]
      omega
    clear hc1 hv hLR hlen y1 r0 h k hne hl
    generalize rs[ys.length]?.getD 0 = t at *
    go_enter Try.func52, Try.ntmps52
    go_wp2
    go_ret
    exact ⟨by rw [E.out]; rfl, 0, rfl⟩
  · have ht0 : rs[ys.length]?.getD 0 = 0 := by omega
    have HV : Hid (val rs = val (rs.take ys.length)) := by show _ = _; rw [hv, ht0]; simp
    rw [ht0] at g0
    have HL : Hid ((rs.take ys.length).length = ys.length) := hlen
    have HLR : Hid (Lim (rs.take ys.length) ∧ Lim ys) := ⟨hLR, k.lim⟩
    have hget : ∀ i, i < ys.length → (rs.take ys.length)[i]?.getD 0 = rs[i]?.getD 0 := fun i hi => by rw [List.getElem?_take, if_pos hi]
    have HG : Hid (∀ i, i < ys.length → (rs.take ys.length)[i]?.getD 0 = rs[i]?.getD 0) := hget
    have HR : Hid (rs.length = ys.length + 1) := hl
    clear hv hLR hlen y1 r0 h0 ht ht0 hget hl
    go_enter Try.func52, Try.ntmps52
    go_wp2
    go_loopw [6] (fun i wr => ∃ (j n : Nat), j ≤ ys.length ∧ i = .int .i64 ((j : Int) - 1) ∧ wr = w.drewN n ∧ Hid ((rs.take ys.length).drop j = ys.drop j)) (fun i _ => (intOf i + 1).toNat)
    case atStart => exact ⟨ys.length, 0, Nat.le_refl _, rfl, rfl, by show _ = _; rw [List.drop_eq_nil_of_le (Nat.le_of_eq HL.out), List.drop_eq_nil_of_le (Nat.le_refl _)]⟩
    case round =>
      obtain ⟨j, n, hj, rfl, rfl, he⟩ := hrel
      by_cases h0 : j = 0
      · subst h0
        have E : Hid (decide (val ys ≤ val rs) = true) := by
          have := he.out
          simp only [List.drop_zero] at this
          show _ = _
          rw [HV.out, this]; simp
        clear he hc1
        go_wp2
        go_ret
        exact ⟨by rw [E.out]; rfl, n, rfl⟩
      · obtain ⟨b2, o2, rfl, hc2⟩ := k.cells (by intro e; simp [e] at hj; omega)
        have g1 := hc1 (j - 1) (by rw [HR.out]; omega)
        have g2 := hc2 (j - 1) (by omega)
        have hp : 0 < j := by omega
        have hsub : j - 1 + 1 = j := by omega
        have hgg := HG.out (j - 1) (by omega)
        rcases Int.lt_trichotomy (rs[j - 1]?.getD 0) (ys[j - 1]?.getD 0) with hlt | heq | hgt
        · have E : Hid (decide (val ys ≤ val rs) = false) := by
            have := cmp_at (j := j - 1) HLR.out.1 HLR.out.2 HL.out (by rw [HL.out]; omega) (by rw [hsub]; exact he.out) (by rw [hgg]; exact hlt)
            show _ = _
            rw [HV.out]
            simp only [decide_eq_false_iff_not]
            omega
          have hne3 : (rs[j - 1]?.getD 0 != ys[j - 1]?.getD 0) = true := by simp; omega
          have hdd : decide (ys[j - 1]?.getD 0 < rs[j - 1]?.getD 0) = false := by simp; omega
          clear hc1 hc2 h k he hsub hgg
          generalize rs[j - 1]?.getD 0 = x at *
          generalize ys[j - 1]?.getD 0 = y at *
          go_wp2
          go_quiet (fail)
          go_wp2
          go_quiet (fail)
          go_wp2
          go_ret
          exact ⟨by rw [E.out]; rfl, _, by rw [World.drewN_drewN, World.drewN_drewN]⟩
        · have E : Hid ((rs.take ys.length).drop (j - 1) = ys.drop (j - 1)) := drop_step HL.out (by rw [hsub]; exact he.out) (by rw [hgg]; exact heq)
          rw [heq] at g1
          clear hc2 h k he hsub heq hgg
          clear hc1
          generalize ys[j - 1]?.getD 0 = y at *
          go_wp2
          go_quiet (fail)
          go_wp2
          go_roundw
          case rel => exact ⟨j - 1, _, by omega, by go_num, rfl, E⟩
          case measure => simp [intOf]; omega
        · have E : Hid (decide (val ys ≤ val rs) = true) := by
            have := cmp_at (j := j - 1) HLR.out.2 HLR.out.1 HL.out.symm (by omega) (by rw [hsub]; exact he.out.symm) (by rw [hgg]; exact hgt)
            show _ = _
            rw [HV.out]
            simp only [decide_eq_true_eq]
            omega
          have hne3 : (rs[j - 1]?.getD 0 != ys[j - 1]?.getD 0) = true := by simp; omega
          clear hc1 hc2 h k he hsub hgg
          generalize rs[j - 1]?.getD 0 = x at *
          generalize ys[j - 1]?.getD 0 = y at *
          go_wp2
          go_quiet (fail)
          go_wp2
          go_quiet (fail)
          go_wp2
          go_ret
          exact ⟨by rw [E.out]; rfl, _, by rw [World.drewN_drewN, World.drewN_drewN]⟩
end Go.Proofs.Ytnefdfgonolafaa
