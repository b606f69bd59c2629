/- Floats of whole numbers: spec.FloatOf. -/
import Derived.Test.YtekojbkkfbmncaaFltI
namespace Go.Proofs.Ytekojbkkfbmncaa
open Go.RowKit

theorem shr_pos {m : Int} {j t : Nat} (a : (2 : Int) ^ t ≤ m) (h : j < t) : 0 < m / 2 ^ (j + 1) := by
  have h1 := two_le (show j + 1 ≤ t by omega)
  have h2 := two_pos (j + 1)
  exact Int.lt_of_lt_of_le (by decide : (0 : Int) < 1) (Int.le_ediv_of_mul_le h2 (by omega))
theorem shr_zero {m : Int} {t : Nat} (h0 : 0 < m) (b : m < 2 ^ (t + 1)) : m / 2 ^ (t + 1) = 0 := Int.ediv_eq_zero_of_lt (by omega) b

set_option maxHeartbeats 1000000 in
set_option maxRecDepth 100000 in
theorem specFloat (n : Int) (w : World) :
    Calls Try.prog 10 #[.int .i64 n] w fun e w' => e = .returned (.int .i64 (flt n)) ∧ w' = w := by
  by_cases k0 : n = 0
  · subst k0
    rw [flt_zero]
    go_enter Try.func10, Try.ntmps10
    go_wp2
    go_ret
    exact ⟨rfl, rfl⟩
  · obtain ⟨g, HG⟩ : ∃ g, Hid ((decide ((-9007199254740992 : Int) ≤ n) && decide (n ≤ 9007199254740992)) = g) := ⟨_, rfl⟩
    cases g with
    | false =>
      have E : Hid (flt n = 0) := flt_out (by have := HG.out; simp at this; omega)
      go_enter Try.func10, Try.ntmps10
      go_wp2_with fail
      refine (l1InC n _ _ _).mono ?_
      rintro e w' ⟨rfl, rfl⟩
      rw [HG.out]
      go_wp2
      go_ret
      exact ⟨by rw [E.out]; rfl, rfl⟩
    | true =>
      have hh := HG.out
      simp only [Bool.and_eq_true, decide_eq_true_eq] at hh
      obtain ⟨k1, k2⟩ := hh
      by_cases k3 : n < 0
      · obtain ⟨m, hm⟩ : ∃ m, m = -n := ⟨_, rfl⟩
        obtain ⟨a, b, _⟩ := tp_spec (m := m) (by omega) (by omega)
        have ht := tp_le (m := m) (by omega) (by omega)
        obtain ⟨z, z0, z1, e1, _, e3, e4⟩ := low_bits ht a b (by omega)
        have E : Hid (flt n = (1023 + (tp m : Int)) * 4503599627370496 + z - 9223372036854775808) := by show flt n = _; unfold flt; rw [if_neg (by omega), if_pos k3, ← hm]; unfold fltA; rw [e1]; omega
        generalize tp m = t at *
        have m0 : 0 < m := by omega
        have m1 : m ≤ 9007199254740992 := by omega
        obtain rfl : n = -m := by omega
        clear hm
        go_enter Try.func10, Try.ntmps10
        go_wp2_with fail
        refine (l1InC (-m) _ _ _).mono ?_
        rintro e w' ⟨rfl, rfl⟩
        rw [HG.out]
        go_wp2_with fail
        go_loopw [5] (fun s wr => ∃ j : Nat, j ≤ t ∧ s = .int .i64 j ∧ wr = w') (fun s _ => t - (intOf s).toNat)
        case atStart => exact ⟨0, Nat.zero_le _, rfl, rfl⟩
        case round =>
          obtain ⟨j, hj, rfl, rfl⟩ := hrel
          by_cases hlt : j < t
          · have D := shr_pos a hlt
            go_wp2
            go_roundw
            case rel => exact ⟨j + 1, by omega, by go_num, by first | rfl | trivial⟩
            case measure => simp [intOf]; omega
          · obtain rfl : j = t := by omega
            have D := shr_zero m0 b
            have L := low_spec ht z0 z1 9223372036854775808 (Or.inr rfl)
            rw [← E.out] at L
            by_cases h5 : j ≤ 52
            · have e5 := e3 h5
              have LH : Hid _ := L
              clear L E
              go_wp2
              rw [LH.out]
              go_ret
              exact ⟨rfl, rfl⟩
            · have e5 : (m - 2 ^ j) / 2 ^ (j - 52) = z := by rw [(e4 (by omega)).1, (e4 (by omega)).2, Int.zero_ediv]
              have LH : Hid _ := L
              clear L E
              go_wp2
              rw [e5, LH.out]
              go_ret
              exact ⟨rfl, rfl⟩
      · obtain ⟨m, hm⟩ : ∃ m, m = n := ⟨_, rfl⟩
        subst hm
        obtain ⟨a, b, _⟩ := tp_spec (m := m) (by omega) (by omega)
        have ht := tp_le (m := m) (by omega) (by omega)
        obtain ⟨z, z0, z1, e1, _, e3, e4⟩ := low_bits ht a b (by omega)
        have E : Hid (flt m = (1023 + (tp m : Int)) * 4503599627370496 + z - 0) := by show flt m = _; unfold flt; rw [if_neg (by omega), if_neg k3]; unfold fltA; rw [e1]; omega
        generalize tp m = t at *
        have m0 : 0 < m := by omega
        have m1 : m ≤ 9007199254740992 := by omega
        go_enter Try.func10, Try.ntmps10
        go_wp2_with fail
        refine (l1InC m _ _ _).mono ?_
        rintro e w' ⟨rfl, rfl⟩
        rw [HG.out]
        go_wp2_with fail
        go_loopw [5] (fun s wr => ∃ j : Nat, j ≤ t ∧ s = .int .i64 j ∧ wr = w') (fun s _ => t - (intOf s).toNat)
        case atStart => exact ⟨0, Nat.zero_le _, rfl, rfl⟩
        case round =>
          obtain ⟨j, hj, rfl, rfl⟩ := hrel
          by_cases hlt : j < t
          · have D := shr_pos a hlt
            go_wp2
            go_roundw
            case rel => exact ⟨j + 1, by omega, by go_num, by first | rfl | trivial⟩
            case measure => simp [intOf]; omega
          · obtain rfl : j = t := by omega
            have D := shr_zero m0 b
            have L := low_spec ht z0 z1 0 (Or.inl rfl)
            rw [← E.out] at L
            by_cases h5 : j ≤ 52
            · have e5 := e3 h5
              have LH : Hid _ := L
              clear L E
              go_wp2
              rw [LH.out]
              go_ret
              exact ⟨rfl, rfl⟩
            · have e5 : (m - 2 ^ j) / 2 ^ (j - 52) = z := by rw [(e4 (by omega)).1, (e4 (by omega)).2, Int.zero_ediv]
              have LH : Hid _ := L
              clear L E
              go_wp2
              rw [e5, LH.out]
              go_ret
              exact ⟨rfl, rfl⟩
end Go.Proofs.Ytekojbkkfbmncaa
