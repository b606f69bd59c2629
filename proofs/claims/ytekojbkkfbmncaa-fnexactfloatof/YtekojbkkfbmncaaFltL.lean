/- Floats of whole numbers, the program's and the specification's: math/bits.Len64, math/bits.Len, impl.FloatOf, spec.FloatOf. -/
import Derived.Test.YtekojbkkfbmncaaFltM
namespace Go.Proofs.Ytekojbkkfbmncaa
open Go.RowKit

theorem bits8_at (y : Int) (h0 : 0 ≤ y) (h1 : y ≤ 255) : Lib.len8 y = (Lib.bitLen y.toNat : Int) ∧ 0 ≤ Lib.len8 y ∧ Lib.len8 y ≤ 8 := by
  have l := Lib.bitLen_le8' y h0 h1
  rw [Lib.len8_of y h0 h1]
  exact ⟨rfl, by omega, by omega⟩

set_option maxHeartbeats 4000000 in
set_option maxRecDepth 100000 in
theorem len64C (x : Int) (w : World) (h0 : 0 ≤ x) (h1 : x ≤ 18446744073709551615) :
    Calls Try.prog 22 #[.int .u64 x] w fun e w' => e = .returned (.int .i64 (Lib.bitLen x.toNat)) ∧ w' = w := by
  by_cases c32 : x < 4294967296
  · skip
    by_cases c16 : x < 65536
    · skip
      by_cases c8 : x < 256
      · skip
        have b0 : 0 ≤ x := by omega
        have b1 : x ≤ 255 := by omega
        obtain ⟨e1, e2, e3⟩ := bits8_at (x) b0 b1
        have E : Hid (Lib.len8 (x) = (Lib.bitLen (x).toNat : Int)) := e1
        clear e1
        go_enter Try.func22, Try.ntmps22
        go_wp2
        go_ret
        exact ⟨by rw [← E.out]; rfl, rfl⟩
      · have d8 : 256 ≤ x := by omega
        have b0 : 0 ≤ x / 256 := by omega
        have b1 : x / 256 ≤ 255 := by omega
        obtain ⟨e1, e2, e3⟩ := bits8_at (x / 256) b0 b1
        have E : Hid (Lib.len8 (x / 256) = (Lib.bitLen (x / 256).toNat : Int)) := e1
        have S : Hid (Lib.bitLen x.toNat = 8 + Lib.bitLen (x / 256).toNat) := by
          have := Lib.bitLen_shift 8 x.toNat (by omega) (by omega)
          rw [show x.toNat / 2 ^ 8 = (x / 256).toNat by omega] at this
          exact this
        clear e1
        go_enter Try.func22, Try.ntmps22
        go_wp2
        go_ret
        exact ⟨by rw [S.out, Int.natCast_add, ← E.out]; rfl, rfl⟩
    · have d16 : 65536 ≤ x := by omega
      by_cases c8 : x / 65536 < 256
      · skip
        have b0 : 0 ≤ x / 65536 := by omega
        have b1 : x / 65536 ≤ 255 := by omega
        obtain ⟨e1, e2, e3⟩ := bits8_at (x / 65536) b0 b1
        have E : Hid (Lib.len8 (x / 65536) = (Lib.bitLen (x / 65536).toNat : Int)) := e1
        have S : Hid (Lib.bitLen x.toNat = 16 + Lib.bitLen (x / 65536).toNat) := by
          have := Lib.bitLen_shift 16 x.toNat (by omega) (by omega)
          rw [show x.toNat / 2 ^ 16 = (x / 65536).toNat by omega] at this
          exact this
        clear e1
        go_enter Try.func22, Try.ntmps22
        go_wp2
        go_ret
        exact ⟨by rw [S.out, Int.natCast_add, ← E.out]; rfl, rfl⟩
      · have d8 : 256 ≤ x / 65536 := by omega
        have b0 : 0 ≤ x / 65536 / 256 := by omega
        have b1 : x / 65536 / 256 ≤ 255 := by omega
        obtain ⟨e1, e2, e3⟩ := bits8_at (x / 65536 / 256) b0 b1
        have E : Hid (Lib.len8 (x / 65536 / 256) = (Lib.bitLen (x / 65536 / 256).toNat : Int)) := e1
        have S : Hid (Lib.bitLen x.toNat = 24 + Lib.bitLen (x / 65536 / 256).toNat) := by
          have := Lib.bitLen_shift 24 x.toNat (by omega) (by omega)
          rw [show x.toNat / 2 ^ 24 = (x / 65536 / 256).toNat by omega] at this
          exact this
        clear e1
        go_enter Try.func22, Try.ntmps22
        go_wp2
        go_ret
        exact ⟨by rw [S.out, Int.natCast_add, ← E.out]; rfl, rfl⟩
  · have d32 : 4294967296 ≤ x := by omega
    by_cases c16 : x / 4294967296 < 65536
    · skip
      by_cases c8 : x / 4294967296 < 256
      · skip
        have b0 : 0 ≤ x / 4294967296 := by omega
        have b1 : x / 4294967296 ≤ 255 := by omega
        obtain ⟨e1, e2, e3⟩ := bits8_at (x / 4294967296) b0 b1
        have E : Hid (Lib.len8 (x / 4294967296) = (Lib.bitLen (x / 4294967296).toNat : Int)) := e1
        have S : Hid (Lib.bitLen x.toNat = 32 + Lib.bitLen (x / 4294967296).toNat) := by
          have := Lib.bitLen_shift 32 x.toNat (by omega) (by omega)
          rw [show x.toNat / 2 ^ 32 = (x / 4294967296).toNat by omega] at this
          exact this
        clear e1
        go_enter Try.func22, Try.ntmps22
        go_wp2
        go_ret
        exact ⟨by rw [S.out, Int.natCast_add, ← E.out]; rfl, rfl⟩
      · have d8 : 256 ≤ x / 4294967296 := by omega
        have b0 : 0 ≤ x / 4294967296 / 256 := by omega
        have b1 : x / 4294967296 / 256 ≤ 255 := by omega
        obtain ⟨e1, e2, e3⟩ := bits8_at (x / 4294967296 / 256) b0 b1
        have E : Hid (Lib.len8 (x / 4294967296 / 256) = (Lib.bitLen (x / 4294967296 / 256).toNat : Int)) := e1
        have S : Hid (Lib.bitLen x.toNat = 40 + Lib.bitLen (x / 4294967296 / 256).toNat) := by
          have := Lib.bitLen_shift 40 x.toNat (by omega) (by omega)
          rw [show x.toNat / 2 ^ 40 = (x / 4294967296 / 256).toNat by omega] at this
          exact this
        clear e1
        go_enter Try.func22, Try.ntmps22
        go_wp2
        go_ret
        exact ⟨by rw [S.out, Int.natCast_add, ← E.out]; rfl, rfl⟩
    · have d16 : 65536 ≤ x / 4294967296 := by omega
      by_cases c8 : x / 4294967296 / 65536 < 256
      · skip
        have b0 : 0 ≤ x / 4294967296 / 65536 := by omega
        have b1 : x / 4294967296 / 65536 ≤ 255 := by omega
        obtain ⟨e1, e2, e3⟩ := bits8_at (x / 4294967296 / 65536) b0 b1
        have E : Hid (Lib.len8 (x / 4294967296 / 65536) = (Lib.bitLen (x / 4294967296 / 65536).toNat : Int)) := e1
        have S : Hid (Lib.bitLen x.toNat = 48 + Lib.bitLen (x / 4294967296 / 65536).toNat) := by
          have := Lib.bitLen_shift 48 x.toNat (by omega) (by omega)
          rw [show x.toNat / 2 ^ 48 = (x / 4294967296 / 65536).toNat by omega] at this
          exact this
        clear e1
        go_enter Try.func22, Try.ntmps22
        go_wp2
        go_ret
        exact ⟨by rw [S.out, Int.natCast_add, ← E.out]; rfl, rfl⟩
      · have d8 : 256 ≤ x / 4294967296 / 65536 := by omega
        have b0 : 0 ≤ x / 4294967296 / 65536 / 256 := by omega
        have b1 : x / 4294967296 / 65536 / 256 ≤ 255 := by omega
        obtain ⟨e1, e2, e3⟩ := bits8_at (x / 4294967296 / 65536 / 256) b0 b1
        have E : Hid (Lib.len8 (x / 4294967296 / 65536 / 256) = (Lib.bitLen (x / 4294967296 / 65536 / 256).toNat : Int)) := e1
        have S : Hid (Lib.bitLen x.toNat = 56 + Lib.bitLen (x / 4294967296 / 65536 / 256).toNat) := by
          have := Lib.bitLen_shift 56 x.toNat (by omega) (by omega)
          rw [show x.toNat / 2 ^ 56 = (x / 4294967296 / 65536 / 256).toNat by omega] at this
          exact this
        clear e1
        go_enter Try.func22, Try.ntmps22
        go_wp2
        go_ret
        exact ⟨by rw [S.out, Int.natCast_add, ← E.out]; rfl, rfl⟩

set_option maxHeartbeats 1000000 in
theorem lenC (x : Int) (w : World) (h0 : 0 ≤ x) (h1 : x ≤ 18446744073709551615) :
    Calls Try.prog 18 #[.int .u64 x] w fun e w' => e = .returned (.int .i64 (Lib.bitLen x.toNat)) ∧ w' = w := by
  go_enter Try.func18, Try.ntmps18
  go_wp2_with (go_at_call 22; refine (len64C x _ h0 h1).mono ?_; rintro e w' ⟨rfl, rfl⟩)
  go_ret
  exact ⟨rfl, rfl⟩
end Go.Proofs.Ytekojbkkfbmncaa
