/- Whole numbers of floats: impl.wholePart, impl.IntOf, spec.IntOf. -/
import Derived.Test.YtekojbkkfbmncaaFltS
namespace Go.Proofs.Ytekojbkkfbmncaa
open Go.RowKit

theorem i64_and2047 (n : Int) : bits .and .i64 n 2047 = n % 2048 := by
  have h127 : (BitVec.ofInt 64 2047).toNat = 2 ^ 11 - 1 := by decide
  have key : (BitVec.ofInt 64 n &&& BitVec.ofInt 64 2047).toNat = (n % ((2 ^ 64 : Nat) : Int)).toNat % 2 ^ 11 := by
    rw [BitVec.toNat_and, BitVec.toNat_ofInt, h127, Nat.and_two_pow_sub_one_eq_mod]
  show IntKind.i64.wrap ((BitVec.ofInt 64 n &&& BitVec.ofInt 64 2047).toNat : Nat) = n % 2048
  rw [key, IntKind.wrap_i64]
  omega
theorem pw_at (b : Int) : bits .and .i64 (b / 4503599627370496) 2047 = pwr b + 1023 := by rw [i64_and2047]; unfold pwr; omega
theorem pwr_bd (b : Int) : -1023 ≤ pwr b ∧ pwr b ≤ 1024 := by unfold pwr; omega
theorem top_at (b : Int) : bits .or .u64 9223372036854775808 (IntKind.u64.wrap (IntKind.u64.wrap b * 2048)) = 9223372036854775808 + b % 4503599627370496 * 2048 := by
  rw [IntKind.wrap_u64, IntKind.wrap_u64]
  obtain ⟨x, hx⟩ := Int.eq_ofNat_of_zero_le (show 0 ≤ b % 18446744073709551616 * 2048 % 18446744073709551616 by omega)
  rw [hx, show (9223372036854775808 : Int) = ((9223372036854775808 : Nat) : Int) from rfl, u64_or_nat _ _ (by decide) (by omega)]
  by_cases h : x < 9223372036854775808
  · rw [nat_join 63 _ _ (by decide) (by omega)]; omega
  · obtain ⟨y, rfl⟩ : ∃ y, x = 9223372036854775808 + y := ⟨x - 9223372036854775808, by omega⟩
    rw [← nat_join 63 9223372036854775808 y (by decide) (by omega), ← Nat.or_assoc, Nat.or_self, nat_join 63 _ _ (by decide) (by omega)]
    omega
theorem whl_bd (b : Int) : 0 ≤ whl b ∧ whl b ≤ 18014398509481984 := by
  unfold whl
  have hp := two_pos (53 - pwr b).toNat
  have h0 : 0 ≤ (4503599627370496 + b % 4503599627370496) * 2 := by omega
  refine ⟨Int.ediv_nonneg h0 (by omega), ?_⟩
  have := Int.ediv_le_self (2 ^ (53 - pwr b).toNat) h0
  omega
theorem whl_top {b : Int} {k : Nat} (hk : pwr b = k) (h : k ≤ 53) : wrap64 ((9223372036854775808 + b % 4503599627370496 * 2048) / 2 ^ (63 - k)) = whl b := by
  have hb := whl_bd b
  have e : (9223372036854775808 + b % 4503599627370496 * 2048) / 2 ^ (63 - k) = whl b := by
    unfold whl
    rw [hk, show ((53 : Int) - k).toNat = 53 - k by omega, show 63 - k = (53 - k) + 10 by omega, Int.pow_add, show (2 : Int) ^ 10 = 1024 by decide]
    rw [show (9223372036854775808 : Int) + b % 4503599627370496 * 2048 = ((4503599627370496 + b % 4503599627370496) * 2) * 1024 by omega]
    exact Int.mul_ediv_mul_of_pos_left _ _ (by decide)
  rw [e, wrap64_small (by omega) (by omega)]
theorem whl_low {b : Int} {k : Nat} (hk : pwr b = k) (h : k ≤ 52) : (4503599627370496 + b % 4503599627370496) / 2 ^ (52 - k) = whl b := by
  unfold whl
  rw [hk, show ((53 : Int) - k).toNat = (52 - k) + 1 by omega, Int.pow_succ]
  exact (Int.mul_ediv_mul_of_pos_left _ _ (by decide)).symm
theorem whl_hi {b : Int} {k : Nat} (hk : pwr b = k) (h : k = 53) : (4503599627370496 + b % 4503599627370496) * 2 = whl b := by
  unfold whl
  subst h
  rw [hk, show ((53 : Int) - (53 : Nat)).toNat = 0 by decide]
  simp

set_option maxHeartbeats 1000000 in
set_option maxRecDepth 100000 in
theorem wholeC (b : Int) (w : World) (h1 : -9223372036854775808 ≤ b) (h2 : b ≤ 9223372036854775807) :
    Calls Try.prog 17 #[.int .i64 b] w fun e w' => e = .returned (.int .i64 (whN b)) ∧ w' = w := by
  have A := pw_at b
  obtain ⟨p0, p1⟩ := pwr_bd b
  have WB := whl_bd b
  have T := top_at b
  by_cases hr : 0 ≤ pwr b ∧ pwr b ≤ 53
  · obtain ⟨k, hk⟩ := Int.eq_ofNat_of_zero_le hr.1
    rw [hk] at A p0 p1
    have k53 : k ≤ 53 := by omega
    have L : Hid _ := whl_top hk k53
    have W2 : Hid (whN b = if b < 0 then -whl b else whl b) := by show whN b = _; unfold whN; rw [if_pos hr]
    generalize whN b = v at *
    generalize whl b = l at *
    generalize 9223372036854775808 + b % 4503599627370496 * 2048 = F at *
    clear hr hk
    by_cases hn : b < 0
    · go_enter Try.func17, Try.ntmps17
      go_wp2
      rw [L.out, wrap64_small (by omega) (by omega)]
      go_ret
      exact ⟨by rw [W2.out, if_pos hn]; rfl, rfl⟩
    · rw [show IntKind.u64.wrap b = b by rw [IntKind.wrap_u64]; omega] at T
      go_enter Try.func17, Try.ntmps17
      go_wp2
      rw [L.out]
      go_ret
      exact ⟨by rw [W2.out, if_neg (by omega)]; rfl, rfl⟩
  · have W2 : Hid (whN b = 0) := by show whN b = _; unfold whN; rw [if_neg hr]
    generalize pwr b = e at *
    by_cases h0 : e < 0
    · go_enter Try.func17, Try.ntmps17
      go_wp2
      go_ret
      exact ⟨by rw [W2.out]; rfl, rfl⟩
    · have h5 : 53 < e := by omega
      go_enter Try.func17, Try.ntmps17
      go_wp2
      go_ret
      exact ⟨by rw [W2.out]; rfl, rfl⟩

set_option maxHeartbeats 1000000 in
set_option maxRecDepth 100000 in
theorem implInt (b : Int) (w : World) (h1 : -9223372036854775808 ≤ b) (h2 : b ≤ 9223372036854775807) :
    Calls Try.prog 8 #[.int .i64 b] w fun e w' => e = .returned (.tuple #[.int .i64 (intN b), .bool (intB b)]) ∧ w' = w := by
  by_cases hb : b = -9223372036854775808
  · subst hb
    have E1 : Hid (intN (-9223372036854775808) = 0) := by show _ = _; unfold intN; rw [if_pos rfl]
    have E2 : Hid (intB (-9223372036854775808) = true) := by show _ = _; unfold intB; rw [if_pos rfl]
    go_enter Try.func8, Try.ntmps8
    go_wp2
    go_ret2
    exact ⟨by rw [E1.out, E2.out]; rfl, rfl⟩
  · by_cases hf : flt (whN b) = b
    · have E1 : Hid (intN b = whN b) := by show _ = _; unfold intN; rw [if_neg hb, if_pos hf]
      have E2 : Hid (intB b = true) := by show _ = _; unfold intB; rw [if_neg hb, if_pos hf]
      go_enter Try.func8, Try.ntmps8
      go_wp2_with fail
      refine (wholeC b _ h1 h2).mono ?_
      rintro e w' ⟨rfl, rfl⟩
      go_wp2_with fail
      refine (implFloat _ _).mono ?_
      rintro e w' ⟨rfl, rfl⟩
      rw [hf]
      go_wp2
      go_ret2
      exact ⟨by rw [E1.out, E2.out]; rfl, rfl⟩
    · have E1 : Hid (intN b = 0) := by show _ = _; unfold intN; rw [if_neg hb, if_neg hf]
      have E2 : Hid (intB b = false) := by show _ = _; unfold intB; rw [if_neg hb, if_neg hf]
      go_enter Try.func8, Try.ntmps8
      go_wp2_with fail
      refine (wholeC b _ h1 h2).mono ?_
      rintro e w' ⟨rfl, rfl⟩
      go_wp2_with fail
      refine (implFloat _ _).mono ?_
      rintro e w' ⟨rfl, rfl⟩
      go_wp2
      go_ret2
      exact ⟨by rw [E1.out, E2.out]; rfl, rfl⟩

theorem u_and2047 (b : Int) : bits .and .u64 (IntKind.u64.wrap b / 4503599627370496) 2047 = pwr b + 1023 := by
  rw [IntKind.wrap_u64, u64_and _ _ (by omega) (by omega) (by decide) (by decide), show Int.toNat 2047 = 2 ^ 11 - 1 from rfl, Nat.and_two_pow_sub_one_eq_mod]
  unfold pwr
  omega
theorem u_low (b : Int) : bits .or .u64 (bits .and .u64 (IntKind.u64.wrap b) 4503599627370495) 4503599627370496 = 4503599627370496 + b % 4503599627370496 := by
  have e : bits .and .u64 (IntKind.u64.wrap b) 4503599627370495 = b % 4503599627370496 := by
    rw [IntKind.wrap_u64, u64_and _ _ (by omega) (by omega) (by decide) (by decide), show Int.toNat 4503599627370495 = 2 ^ 52 - 1 from rfl, Nat.and_two_pow_sub_one_eq_mod]
    omega
  rw [e, u64_or _ _ (by omega) (by omega) (by decide) (by decide), Nat.or_comm, nat_join 52 _ _ (by decide) (by omega)]
  omega

set_option maxHeartbeats 1000000 in
set_option maxRecDepth 100000 in
theorem specInt (b : Int) (w : World) (h1 : -9223372036854775808 ≤ b) (h2 : b ≤ 9223372036854775807) :
    Calls Try.prog 11 #[.int .i64 b] w fun e w' => e = .returned (.tuple #[.int .i64 (intN b), .bool (intB b)]) ∧ w' = w := by
  have A := u_and2047 b
  obtain ⟨p0, p1⟩ := pwr_bd b
  have WB := whl_bd b
  have T := u_low b
  by_cases hz : b = 0 ∨ b = -9223372036854775808
  · have E1 : Hid (intN b = 0 ∧ intB b = true) := by
      rcases hz with rfl | rfl
      · exact int_zero
      · exact ⟨by unfold intN; rw [if_pos rfl], by unfold intB; rw [if_pos rfl]⟩
    have Z : IntKind.u64.wrap (IntKind.u64.wrap b * 2) = 0 := by rw [IntKind.wrap_u64, IntKind.wrap_u64]; omega
    generalize pwr b = e at *
    go_enter Try.func11, Try.ntmps11
    go_wp2
    go_ret2
    exact ⟨by rw [E1.out.1, E1.out.2]; rfl, rfl⟩
  · have Z : ¬ IntKind.u64.wrap (IntKind.u64.wrap b * 2) = 0 := by rw [IntKind.wrap_u64, IntKind.wrap_u64]; omega
    by_cases hr : 0 ≤ pwr b ∧ pwr b ≤ 53
    · obtain ⟨k, hk⟩ := Int.eq_ofNat_of_zero_le hr.1
      rw [hk] at A p0 p1
      have k53 : k ≤ 53 := by omega
      have W2 : Hid (whN b = if b < 0 then -whl b else whl b) := by show whN b = _; unfold whN; rw [if_pos hr]
      have IN : Hid ((decide ((0 : Int) ≤ (k : Int)) && decide ((k : Int) ≤ 53)) = true) := by show _ = _; simp; omega
      have SG : IntKind.u64.wrap b / 9223372036854775808 = if b < 0 then 1 else 0 := by rw [IntKind.wrap_u64]; split <;> omega
      have I1 : Hid (intN b = if flt (whN b) = b then whN b else 0) := by show _ = _; unfold intN; rw [if_neg (by omega)]
      have I2 : Hid (intB b = if flt (whN b) = b then true else false) := by show _ = _; unfold intB; rw [if_neg (by omega)]
      have WL : Hid ((k ≤ 52 → (4503599627370496 + b % 4503599627370496) / 2 ^ (52 - k) = whl b) ∧ (k = 53 → (4503599627370496 + b % 4503599627370496) * 2 = whl b)) := ⟨whl_low hk, whl_hi hk⟩
      have FB : 0 ≤ 4503599627370496 + b % 4503599627370496 ∧ 4503599627370496 + b % 4503599627370496 ≤ 9007199254740992 := by omega
      generalize whN b = v at *
      generalize whl b = l at *
      generalize 4503599627370496 + b % 4503599627370496 = F at *
      generalize intN b = rn at *
      generalize intB b = rb at *
      obtain ⟨f, hf⟩ : ∃ f, Hid (flt v = f) := ⟨_, rfl⟩
      rw [hf.out] at I1 I2
      have hz0 : ¬ b = 0 := by omega
      have hz2 : ¬ b * 2 = 0 := by omega
      clear hr hk hz
      by_cases h5 : k ≤ 52
      · have e5 := WL.out.1 h5
        by_cases hn : b < 0
        · rw [if_pos hn] at SG
          obtain rfl : v = -l := by rw [W2.out, if_pos hn]
          by_cases hfb : f = b
          · obtain ⟨rfl, rfl⟩ : rn = -l ∧ rb = true := by rw [I1.out, I2.out, if_pos hfb, if_pos hfb]; exact ⟨rfl, rfl⟩
            clear W2 WL I1 I2
            go_enter Try.func11, Try.ntmps11
            go_wp2_with fail
            refine (l1InC _ _ _ _).mono ?_
            rintro e w' ⟨rfl, rfl⟩
            rw [IN.out]
            go_wp2_with fail
            refine (specFloat _ _).mono ?_
            rintro e w' ⟨rfl, rfl⟩
            rw [hf.out]
            go_wp2
            go_ret2
            exact ⟨rfl, rfl⟩
          · obtain ⟨rfl, rfl⟩ : rn = 0 ∧ rb = false := by rw [I1.out, I2.out, if_neg hfb, if_neg hfb]; exact ⟨rfl, rfl⟩
            clear W2 WL I1 I2
            go_enter Try.func11, Try.ntmps11
            go_wp2_with fail
            refine (l1InC _ _ _ _).mono ?_
            rintro e w' ⟨rfl, rfl⟩
            rw [IN.out]
            go_wp2_with fail
            refine (specFloat _ _).mono ?_
            rintro e w' ⟨rfl, rfl⟩
            rw [hf.out]
            go_wp2
            go_ret2
            exact ⟨rfl, rfl⟩
        · rw [if_neg hn] at SG
          obtain rfl : v = l := by rw [W2.out, if_neg hn]
          rw [show IntKind.u64.wrap b = b by rw [IntKind.wrap_u64]; omega] at A T Z SG
          by_cases hfb : f = b
          · obtain ⟨rfl, rfl⟩ : rn = v ∧ rb = true := by rw [I1.out, I2.out, if_pos hfb, if_pos hfb]; exact ⟨rfl, rfl⟩
            clear W2 WL I1 I2
            go_enter Try.func11, Try.ntmps11
            go_wp2_with fail
            refine (l1InC _ _ _ _).mono ?_
            rintro e w' ⟨rfl, rfl⟩
            rw [IN.out]
            go_wp2_with fail
            refine (specFloat _ _).mono ?_
            rintro e w' ⟨rfl, rfl⟩
            rw [hf.out]
            go_wp2
            go_ret2
            exact ⟨rfl, rfl⟩
          · obtain ⟨rfl, rfl⟩ : rn = 0 ∧ rb = false := by rw [I1.out, I2.out, if_neg hfb, if_neg hfb]; exact ⟨rfl, rfl⟩
            clear W2 WL I1 I2
            go_enter Try.func11, Try.ntmps11
            go_wp2_with fail
            refine (l1InC _ _ _ _).mono ?_
            rintro e w' ⟨rfl, rfl⟩
            rw [IN.out]
            go_wp2_with fail
            refine (specFloat _ _).mono ?_
            rintro e w' ⟨rfl, rfl⟩
            rw [hf.out]
            go_wp2
            go_ret2
            exact ⟨rfl, rfl⟩
      · have e5 := WL.out.2 (by omega)
        by_cases hn : b < 0
        · rw [if_pos hn] at SG
          obtain rfl : v = -l := by rw [W2.out, if_pos hn]
          by_cases hfb : f = b
          · obtain ⟨rfl, rfl⟩ : rn = -l ∧ rb = true := by rw [I1.out, I2.out, if_pos hfb, if_pos hfb]; exact ⟨rfl, rfl⟩
            clear W2 WL I1 I2
            go_enter Try.func11, Try.ntmps11
            go_wp2_with fail
            refine (l1InC _ _ _ _).mono ?_
            rintro e w' ⟨rfl, rfl⟩
            rw [IN.out]
            go_wp2_with fail
            refine (specFloat _ _).mono ?_
            rintro e w' ⟨rfl, rfl⟩
            rw [hf.out]
            go_wp2
            go_ret2
            exact ⟨rfl, rfl⟩
          · obtain ⟨rfl, rfl⟩ : rn = 0 ∧ rb = false := by rw [I1.out, I2.out, if_neg hfb, if_neg hfb]; exact ⟨rfl, rfl⟩
            clear W2 WL I1 I2
            go_enter Try.func11, Try.ntmps11
            go_wp2_with fail
            refine (l1InC _ _ _ _).mono ?_
            rintro e w' ⟨rfl, rfl⟩
            rw [IN.out]
            go_wp2_with fail
            refine (specFloat _ _).mono ?_
            rintro e w' ⟨rfl, rfl⟩
            rw [hf.out]
            go_wp2
            go_ret2
            exact ⟨rfl, rfl⟩
        · rw [if_neg hn] at SG
          obtain rfl : v = l := by rw [W2.out, if_neg hn]
          rw [show IntKind.u64.wrap b = b by rw [IntKind.wrap_u64]; omega] at A T Z SG
          by_cases hfb : f = b
          · obtain ⟨rfl, rfl⟩ : rn = v ∧ rb = true := by rw [I1.out, I2.out, if_pos hfb, if_pos hfb]; exact ⟨rfl, rfl⟩
            clear W2 WL I1 I2
            go_enter Try.func11, Try.ntmps11
            go_wp2_with fail
            refine (l1InC _ _ _ _).mono ?_
            rintro e w' ⟨rfl, rfl⟩
            rw [IN.out]
            go_wp2_with fail
            refine (specFloat _ _).mono ?_
            rintro e w' ⟨rfl, rfl⟩
            rw [hf.out]
            go_wp2
            go_ret2
            exact ⟨rfl, rfl⟩
          · obtain ⟨rfl, rfl⟩ : rn = 0 ∧ rb = false := by rw [I1.out, I2.out, if_neg hfb, if_neg hfb]; exact ⟨rfl, rfl⟩
            clear W2 WL I1 I2
            go_enter Try.func11, Try.ntmps11
            go_wp2_with fail
            refine (l1InC _ _ _ _).mono ?_
            rintro e w' ⟨rfl, rfl⟩
            rw [IN.out]
            go_wp2_with fail
            refine (specFloat _ _).mono ?_
            rintro e w' ⟨rfl, rfl⟩
            rw [hf.out]
            go_wp2
            go_ret2
            exact ⟨rfl, rfl⟩
    · have W2 : Hid (whN b = 0) := by show whN b = _; unfold whN; rw [if_neg hr]
      have E1 : Hid (intN b = 0 ∧ intB b = false) := by
        have hf : ¬ flt (whN b) = b := by rw [W2.out, flt_zero]; omega
        exact ⟨by unfold intN; rw [if_neg (by omega), if_neg hf], by unfold intB; rw [if_neg (by omega), if_neg hf]⟩
      have IN : Hid ((decide ((0 : Int) ≤ pwr b) && decide (pwr b ≤ 53)) = false) := by show _ = _; simp only [Bool.and_eq_false_iff, decide_eq_false_iff_not]; omega
      have hz0 : ¬ b = 0 := by omega
      have hz2 : ¬ b * 2 = 0 := by omega
      generalize pwr b = e at *
      by_cases hn : b < 0
      · go_enter Try.func11, Try.ntmps11
        go_wp2_with fail
        refine (l1InC _ _ _ _).mono ?_
        rintro e w' ⟨rfl, rfl⟩
        rw [IN.out]
        go_wp2
        go_ret2
        exact ⟨by rw [E1.out.1, E1.out.2]; rfl, rfl⟩
      · rw [show IntKind.u64.wrap b = b by rw [IntKind.wrap_u64]; omega] at A T Z
        go_enter Try.func11, Try.ntmps11
        go_wp2_with fail
        refine (l1InC _ _ _ _).mono ?_
        rintro e w' ⟨rfl, rfl⟩
        rw [IN.out]
        go_wp2
        go_ret2
        exact ⟨by rw [E1.out.1, E1.out.2]; rfl, rfl⟩
end Go.Proofs.Ytekojbkkfbmncaa
