/- The place of a cell on the curve: the specification's. -/
import Derived.Test.YtceeokcjdekklaaCurveM
import Derived.Test.YtceeokcjdekklaaPtW
namespace Go.Proofs.Ytceeokcjdekklaa
open Go.RowKit

set_option maxRecDepth 20000 in
set_option maxHeartbeats 2000000 in
theorem l10Of_any (x y : Int) (w : World) (hx : 0 ≤ x ∧ x < 33554432) (hy : 0 ≤ y ∧ y < 33554432) :
    Calls Try.prog 32 #[.int .i64 x, .int .i64 y, .int .i64 25] w fun e w' => e = .returned (.int .i64 (hOf 25 x y)) ∧ Below w.heap.size w w' := by
  have H0 : Hid (cvAt 25 x y 0 (hOf 25 x y)) := cvStart hx hy
  have R0 := hOf_room hx hy
  generalize hOf 25 x y = N at *
  clear hx hy
  go_enter Try.func32, Try.ntmps32
  go_wp2
  go_loopw [0, 1, 7, 8] (fun sx sy sn sb wr => ∃ (j : Nat) (u v m : Int), sx = .int .i64 u ∧ sy = .int .i64 v ∧ sn = .int .i64 m ∧ sb = .int .i64 j ∧ j ≤ 25 ∧ Hid (cvAt j u v m N) ∧ Hid (Below w.heap.size w wr)) (fun _ _ _ sb _ => (intOf sb).toNat)
  case atStart => exact ⟨25, x, y, 0, rfl, rfl, rfl, rfl, by omega, H0, Below.refl _ _⟩
  case round =>
    obtain ⟨j, u, v, m, rfl, rfl, rfl, rfl, hj, H, B⟩ := hrel
    rename World => wr
    clear H0
    by_cases h0 : 0 < j
    · obtain ⟨k, hk⟩ : ∃ k : Nat, Hid (j = k + 1) := ⟨j - 1, by show _ = _; omega⟩
      have hjk : ((j : Int) - 1) = (k : Int) := by have := hk.out; omega
      have hk2 : k < 25 := by have := hk.out; omega
      have wk : IntKind.i64.wrap (k : Int) = (k : Int) := by rw [IntKind.wrap_i64]; omega
      obtain ⟨P0, P1⟩ := pow25 hk2
      have wP : wrap64 ((2 : Int) ^ k) = 2 ^ k := by unfold wrap64; omega
      have HS := cvStep (by have := H.out; rw [hk.out] at this; exact this)
      have m4 := cvLe H.out
      obtain ⟨u0, u1, v0, v1, m0, _⟩ := H.out
      have u2 : u < 2 * 2 ^ k := by rw [hk.out, cvTwoS] at u1; exact u1
      have v2 : v < 2 * 2 ^ k := by rw [hk.out, cvTwoS] at v1; exact v1
      clear u1 v1 H
      by_cases c1 : u < 2 ^ k
      · by_cases c2 : v < 2 ^ k
        · have H2 : Hid (cvAt k v u (m * 4) N) := HS.1 c1 c2
          clear HS
          have m5 := cvLe H2.out
          go_wp2
          go_roundw
          case rel => exact ⟨k, _, _, _, by congr 1; first | done | (unfold wrap64; omega), by congr 1; first | done | (unfold wrap64; omega), by congr 1; first | done | (unfold wrap64; omega), by go_num, by omega, H2, B⟩
          case measure => simp [intOf]; omega
        · have H2 : Hid (cvAt k u (v - 2 ^ k) (m * 4 + 1) N) := HS.2.1 c1 c2
          clear HS
          have m5 := cvLe H2.out
          go_wp2
          go_roundw
          case rel => exact ⟨k, _, _, _, by congr 1; first | done | (unfold wrap64; omega), by congr 1; first | done | (unfold wrap64; omega), by congr 1; first | done | (unfold wrap64; omega), by go_num, by omega, H2, B⟩
          case measure => simp [intOf]; omega
      · by_cases c2 : (2 : Int) ^ k ≤ v
        · have H2 : Hid (cvAt k (u - 2 ^ k) (v - 2 ^ k) (m * 4 + 2) N) := HS.2.2.1 c1 c2
          clear HS
          have m5 := cvLe H2.out
          go_wp2
          go_roundw
          case rel => exact ⟨k, _, _, _, by congr 1; first | done | (unfold wrap64; omega), by congr 1; first | done | (unfold wrap64; omega), by congr 1; first | done | (unfold wrap64; omega), by go_num, by omega, H2, B⟩
          case measure => simp [intOf]; omega
        · have H2 : Hid (cvAt k (2 ^ k - 1 - v) (2 * 2 ^ k - 1 - u) (m * 4 + 3) N) := HS.2.2.2 c1 c2
          clear HS
          have m5 := cvLe H2.out
          go_wp2
          go_roundw
          case rel => exact ⟨k, _, _, _, by congr 1; first | done | (unfold wrap64; omega), by congr 1; first | done | (unfold wrap64; omega), by congr 1; first | done | (unfold wrap64; omega), by go_num, by omega, H2, B⟩
          case measure => simp [intOf]; omega
    · obtain rfl : j = 0 := by omega
      obtain rfl := cvEnd H.out
      go_wp2
      go_ret
      exact ⟨rfl, B.out⟩
end Go.Proofs.Ytceeokcjdekklaa
