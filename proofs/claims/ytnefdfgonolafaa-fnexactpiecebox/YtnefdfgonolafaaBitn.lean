/- How many bits a limb has: math/bits.Len32, math/bits.LeadingZeros32. -/
import Derived.Test.YtnefdfgonolafaaEq
import Derived.Lib.BitFns
namespace Go.Proofs.Ytnefdfgonolafaa
open Go.RowKit

theorem bits_at (y : Int) (h0 : 0 ≤ y) (h1 : y ≤ 255) : Lib.len8 y = (Lib.bitLen y.toNat : Int) ∧ 0 ≤ Lib.len8 y ∧ Lib.len8 y ≤ 8 := by
  have l := Lib.bitLen_le8' y h0 h1
  rw [Lib.len8_of y h0 h1]
  exact ⟨rfl, by omega, by omega⟩

set_option maxHeartbeats 4000000 in
set_option maxRecDepth 100000 in
theorem len32C (x : Int) (w : World) (h0 : 0 ≤ x) (h1 : x ≤ 4294967295) :
    Calls Try.prog 69 #[.int .u32 x] w fun e w' => e = .returned (.int .i64 (Lib.bitLen x.toNat)) ∧ w' = w := by
  by_cases hx : x < 256
  · obtain ⟨e1, e2, e3⟩ := bits_at x h0 (by omega)
    have E : Hid (Lib.len8 x = (Lib.bitLen x.toNat : Int)) := e1
    have b1 : x ≤ 255 := by omega
    clear e1
    go_enter Try.func69, Try.ntmps69
    go_wp2
    go_ret
    exact ⟨by rw [← E.out]; rfl, rfl⟩
  · by_cases hy : x < 65536
    · obtain ⟨e1, e2, e3⟩ := bits_at (x / 256) (by omega) (by omega)
      have E : Hid (Lib.len8 (x / 256) = (Lib.bitLen (x / 256).toNat : Int)) := e1
      have S : Hid (Lib.bitLen x.toNat = 8 + Lib.bitLen (x / 256).toNat) := by
        have := Lib.bitLen_shift8 x.toNat (by omega) (by omega)
        rw [show x.toNat / 256 = (x / 256).toNat by omega] at this
        exact this
      have b0 : 0 ≤ x / 256 := by omega
      have b1 : x / 256 ≤ 255 := by omega
      clear e1
      go_enter Try.func69, Try.ntmps69
      go_wp2
      go_ret
      exact ⟨by rw [S.out, Int.natCast_add, ← E.out]; rfl, rfl⟩
    · by_cases hz : x < 16777216
      · obtain ⟨e1, e2, e3⟩ := bits_at (x / 65536) (by omega) (by omega)
        have E : Hid (Lib.len8 (x / 65536) = (Lib.bitLen (x / 65536).toNat : Int)) := e1
        have S : Hid (Lib.bitLen x.toNat = 16 + Lib.bitLen (x / 65536).toNat) := by
          have := Lib.bitLen_shift16 x.toNat (by omega) (by omega)
          rw [show x.toNat / 65536 = (x / 65536).toNat by omega] at this
          exact this
        have b0 : 0 ≤ x / 65536 := by omega
        have b1 : x / 65536 ≤ 255 := by omega
        clear e1
        go_enter Try.func69, Try.ntmps69
        go_wp2
        go_ret
        exact ⟨by rw [S.out, Int.natCast_add, ← E.out]; rfl, rfl⟩
      · obtain ⟨e1, e2, e3⟩ := bits_at (x / 65536 / 256) (by omega) (by omega)
        have E : Hid (Lib.len8 (x / 65536 / 256) = (Lib.bitLen (x / 65536 / 256).toNat : Int)) := e1
        have S : Hid (Lib.bitLen x.toNat = 24 + Lib.bitLen (x / 65536 / 256).toNat) := by
          have := Lib.bitLen_shift24 x.toNat (by omega) (by omega)
          rw [show x.toNat / 16777216 = (x / 65536 / 256).toNat by omega] at this
          exact this
        have b0 : 0 ≤ x / 65536 / 256 := by omega
        have b1 : x / 65536 / 256 ≤ 255 := by omega
        have b2 : 256 ≤ x / 65536 := by omega
        clear e1
        go_enter Try.func69, Try.ntmps69
        go_wp2
        go_ret
        exact ⟨by rw [S.out, Int.natCast_add, ← E.out]; rfl, rfl⟩

theorem lt_bits : ∀ (f x : Nat), x < 2 ^ f → x < 2 ^ Lib.bitLenAux f x
  | 0, x, h => by simpa [Lib.bitLenAux] using h
  | f + 1, x, h => by
    unfold Lib.bitLenAux
    by_cases h0 : x = 0
    · rw [if_pos h0, h0]; decide
    · rw [if_neg h0]
      have := lt_bits f (x / 2) (by rw [Nat.pow_succ] at h; omega)
      rw [Nat.add_comm, Nat.pow_succ]
      omega

theorem lzC (x : Int) (w : World) (h0 : 0 < x) (h1 : x ≤ 4294967295) :
    Calls Try.prog 62 #[.int .u32 x] w fun e w' => (∃ s : Nat, e = .returned (.int .i64 s) ∧ s ≤ 31 ∧ (x + 1) * 2 ^ s ≤ 4294967296) ∧ w' = w := by
  have l := Lib.bitLen_le x.toNat 32 (by omega) (by omega)
  have lp : 0 < Lib.bitLen x.toNat := by
    show 0 < Lib.bitLenAux (63 + 1) x.toNat
    unfold Lib.bitLenAux
    rw [if_neg (by omega)]
    omega
  have hlt : x.toNat < 2 ^ Lib.bitLen x.toNat := lt_bits 64 x.toNat (by omega)
  go_enter Try.func62, Try.ntmps62
  go_wp2_with (go_at_call 69; refine (len32C x _ (by omega) h1).mono ?_; rintro e w' ⟨rfl, rfl⟩)
  go_ret
  generalize Lib.bitLen x.toNat = L at *
  refine ⟨⟨32 - L, ?_, by omega, ?_⟩, rfl⟩
  · have e3 : (32 : Int) - L = ((32 - L : Nat) : Int) := by omega
    rw [← e3]
    rfl
  · have e1 : (x + 1) * 2 ^ (32 - L) ≤ 2 ^ L * 2 ^ (32 - L) := by
      refine Int.mul_le_mul_of_nonneg_right ?_ (Int.le_of_lt (by have := Int.pow_pos (n := 2) (m := 32 - L) (by decide); exact this))
      have e2 : ((x.toNat + 1 : Nat) : Int) ≤ ((2 ^ L : Nat) : Int) := Int.ofNat_le.2 hlt
      rw [Int.natCast_pow, show ((2 : Nat) : Int) = 2 from rfl, Int.natCast_add, Int.toNat_of_nonneg (by omega)] at e2
      exact e2
    rw [← Int.pow_add, show L + (32 - L) = 32 by omega] at e1
    exact e1
end Go.Proofs.Ytnefdfgonolafaa
