/- Floats of whole numbers: impl.FloatOf, spec.FloatOf, spec.l1In. -/
import Derived.Test.YtekojbkkfbmncaaFltL
import Derived.Laws.BitsAllLaws
namespace Go.Proofs.Ytekojbkkfbmncaa
open Go.RowKit

theorem i64_or_nat (x y : Int) (X Y : Nat) (hx : x % 18446744073709551616 = X) (hy : y % 18446744073709551616 = Y) : bits .or .i64 x y = IntKind.i64.wrap ((X ||| Y : Nat) : Int) := by
  show IntKind.i64.wrap ((BitVec.ofInt 64 x ||| BitVec.ofInt 64 y).toNat : Int) = _
  rw [BitVec.toNat_or, BitVec.toNat_ofInt, BitVec.toNat_ofInt]
  have e1 : (x % ((2 ^ 64 : Nat) : Int)).toNat = X := by omega
  have e2 : (y % ((2 ^ 64 : Nat) : Int)).toNat = Y := by omega
  rw [e1, e2]
theorem wrap_small {x : Int} (h0 : -9223372036854775808 ≤ x) (h1 : x ≤ 9223372036854775807) : IntKind.i64.wrap x = x := by rw [IntKind.wrap_i64]; omega
theorem wrap64_small {x : Int} (h0 : -9223372036854775808 ≤ x) (h1 : x ≤ 9223372036854775807) : wrap64 x = x := by unfold wrap64; omega

/-- The bits joined. -/
theorem or_join {t : Nat} {z : Int} (ht : t ≤ 53) (z0 : 0 ≤ z) (z1 : z < 4503599627370496) : bits .or .i64 ((1023 + (t : Int)) * 4503599627370496) z = (1023 + (t : Int)) * 4503599627370496 + z := by
  obtain ⟨y, rfl⟩ := Int.eq_ofNat_of_zero_le z0
  rw [i64_or_nat _ _ ((1023 + t) * 4503599627370496) y (by omega) (by omega), nat_join 52 _ _ (by omega) (by omega)]
  rw [wrap_small (by omega) (by omega)]
  omega
theorem or_sign {x : Int} (h0 : 0 ≤ x) (h1 : x ≤ 9223372036854775807) : bits .or .i64 x (-9223372036854775808) = x - 9223372036854775808 := by
  obtain ⟨y, rfl⟩ := Int.eq_ofNat_of_zero_le h0
  rw [i64_or_nat _ _ y 9223372036854775808 (by omega) (by decide), Nat.or_comm, nat_join 63 _ _ (by decide) (by omega), IntKind.wrap_i64]
  omega
theorem fltA_bd {m : Int} (h0 : 0 < m) (h1 : m ≤ 9007199254740992) : 0 ≤ fltA m (tp m) ∧ fltA m (tp m) ≤ 9223372036854775807 := by
  obtain ⟨a, b, _⟩ := tp_spec h0 (by omega)
  have ht := tp_le h0 h1
  obtain ⟨z, z0, z1, _, e⟩ := fltA_eq ht a b h1
  rw [e]; omega

set_option maxHeartbeats 1000000 in
set_option maxRecDepth 100000 in
theorem implFloatPos (n : Int) (w : World) (h0 : 0 < n) (h1 : n ≤ 9007199254740992) :
    Calls Try.prog 9 #[.int .i64 n] w fun e w' => e = .returned (.int .i64 (fltA n (tp n))) ∧ w' = w := by
  obtain ⟨a, b, hb⟩ := tp_spec h0 (by omega)
  have ht := tp_le h0 h1
  obtain ⟨z, z0, z1, e1, e2, _, _⟩ := low_bits ht a b h1
  have E : Hid (fltA n (tp n) = (1023 + tp n) * 4503599627370496 + z) := by unfold fltA; rw [e1]; show _ = _; omega
  have E2 : Hid (wrap64 (IntKind.u64.wrap (n * 2 ^ (64 - tp n)) / 4096) = z) := by
    show wrap64 (IntKind.u64.wrap (n * 2 ^ (64 - tp n)) / 4096) = z
    rw [IntKind.wrap_u64, e2, wrap64_small (by omega) (by omega)]
  have E3 : Hid _ := or_join ht z0 z1
  clear a b e1 e2
  generalize tp n = t at *
  have HB : Hid ((Lib.bitLen n.toNat : Int) = t + 1) := hb
  clear hb
  have k0 : ¬ n = 0 := by omega
  have k1 : ¬ n < -9007199254740992 := by omega
  have k2 : ¬ 9007199254740992 < n := by omega
  have k3 : ¬ n < 0 := by omega
  go_enter Try.func9, Try.ntmps9
  go_wp2_with (go_at_call 18; refine (lenC n _ (by omega) (by omega)).mono ?_; rintro e w' ⟨rfl, rfl⟩; rw [HB.out])
  rw [E2.out, E3.out, ← E.out]
  go_ret
  exact ⟨rfl, rfl⟩

set_option maxHeartbeats 1000000 in
set_option maxRecDepth 100000 in
theorem implFloat (n : Int) (w : World) :
    Calls Try.prog 9 #[.int .i64 n] w fun e w' => e = .returned (.int .i64 (flt n)) ∧ w' = w := by
  by_cases k0 : n = 0
  · subst k0
    rw [flt_zero]
    go_enter Try.func9, Try.ntmps9
    go_wp2
    go_ret
    exact ⟨rfl, rfl⟩
  · by_cases k1 : n < -9007199254740992
    · rw [flt_out (Or.inl k1)]
      go_enter Try.func9, Try.ntmps9
      go_wp2
      go_ret
      exact ⟨rfl, rfl⟩
    · by_cases k2 : 9007199254740992 < n
      · rw [flt_out (Or.inr k2)]
        go_enter Try.func9, Try.ntmps9
        go_wp2
        go_ret
        exact ⟨rfl, rfl⟩
      · by_cases k3 : n < 0
        · have E : Hid (flt n = fltA (-n) (tp (-n)) - 9223372036854775808) := by show flt n = _; unfold flt; rw [if_neg (by omega), if_pos k3]
          obtain ⟨f0, f1⟩ := fltA_bd (m := -n) (by omega) (by omega)
          have E2 : Hid _ := or_sign f0 f1
          go_enter Try.func9, Try.ntmps9
          go_wp2_with (go_at_call 9; refine (implFloatPos (-n) _ (by omega) (by omega)).mono ?_; rintro e w' ⟨rfl, rfl⟩)
          rw [E2.out, ← E.out]
          go_ret
          exact ⟨rfl, rfl⟩
        · have E : flt n = fltA n (tp n) := by unfold flt; rw [if_neg (by omega), if_neg k3]
          rw [E]
          exact implFloatPos n w (by omega) (by omega)

set_option maxHeartbeats 400000 in
theorem l1InC (x a b : Int) (w : World) :
    Calls Try.prog 19 #[.int .i64 x, .int .i64 a, .int .i64 b] w fun e w' => e = .returned (.bool (decide (a ≤ x) && decide (x ≤ b))) ∧ w' = w := by
  by_cases h1 : a ≤ x
  · by_cases h2 : x ≤ b
    · go_enter Try.func19, Try.ntmps19
      go_wp2
      go_ret
      exact ⟨by simp [h1, h2], rfl⟩
    · go_enter Try.func19, Try.ntmps19
      go_wp2
      go_ret
      exact ⟨by simp [h2], rfl⟩
  · go_enter Try.func19, Try.ntmps19
    go_wp2
    go_ret
    exact ⟨by rw [decide_eq_false (show ¬ a ≤ x by omega)]; rfl, rfl⟩

theorem low_spec {t : Nat} {z : Int} (ht : t ≤ 53) (z0 : 0 ≤ z) (z1 : z < 4503599627370496) (g : Int) (hg : g = 0 ∨ g = 9223372036854775808) :
    wrap64 (bits .or .u64 (bits .or .u64 g ((1023 + (t : Int)) * 4503599627370496)) z) = (1023 + (t : Int)) * 4503599627370496 + z - g := by
  obtain ⟨y, rfl⟩ := Int.eq_ofNat_of_zero_le z0
  have e1 : bits .or .u64 g ((1023 + (t : Int)) * 4503599627370496) = (((if g = 0 then 0 else 9223372036854775808) + (1023 + t) * 4503599627370496 : Nat) : Int) := by
    rcases hg with rfl | rfl
    · rw [u64_or 0 _ (by decide) (by decide) (by omega) (by omega)]; simp; omega
    · rw [u64_or _ _ (by decide) (by decide) (by omega) (by omega), nat_join 63 _ _ (by decide) (by omega)]; simp; omega
  rw [e1, u64_or_nat _ _ (by split <;> omega) (by omega), nat_join 52 _ _ (by split <;> omega) (by omega)]
  unfold wrap64
  rcases hg with rfl | rfl
  · simp; omega
  · simp; omega
end Go.Proofs.Ytekojbkkfbmncaa
