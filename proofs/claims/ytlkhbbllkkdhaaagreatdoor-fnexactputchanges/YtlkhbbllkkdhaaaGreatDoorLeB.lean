/- The bytes of a number, lowest first: spec.l8Bytes. -/
import Derived.Test.YtlkhbbllkkdhaaaGreatDoorEq
import Derived.Maps.AppendAt
import Derived.BigRegion
namespace Go.Proofs.YtlkhbbllkkdhaaaGreatDoor
open Go.RowKit

/-- The bytes of a number, lowest first. -/
def leB (k : Nat) (n : Int) : List Int := (List.range k).map fun i => n / 256 ^ i % 256
theorem leB_len (k : Nat) (n : Int) : (leB k n).length = k := by simp [leB]
theorem leB_step (k : Nat) (n : Int) : leB (k + 1) n = leB k n ++ [n / 256 ^ k % 256] := by simp [leB, List.range_succ]
theorem div_step (k : Nat) (n : Int) : n / 256 ^ k / 256 = n / 256 ^ (k + 1) := by
  rw [Int.pow_succ, Int.ediv_ediv_of_nonneg (Int.pow_nonneg (by decide))]
theorem div_bd {k : Nat} {n m : Int} (h0 : 0 ≤ n) (h1 : n ≤ m) : 0 ≤ n / 256 ^ k ∧ n / 256 ^ k ≤ m := by
  have hp : (0 : Int) < 256 ^ k := Int.pow_pos (by decide)
  exact ⟨Int.ediv_nonneg h0 (by omega), Int.le_trans (Int.ediv_le_self _ h0) h1⟩

theorem wrap_u8 (x : Int) : IntKind.u8.wrap x = x % 256 := by
  simp only [IntKind.wrap, IntKind.bits, IntKind.signed]
  simp

set_option maxRecDepth 20000 in
set_option maxHeartbeats 2000000 in
theorem l8Bytes_any (n : Int) (k : Nat) (w : World) (hk : k ≤ 8) :
    Calls Tryz.prog 15 #[.int .i64 n, .int .i64 k] w fun e w' => ∃ v', e = .returned v' ∧ RowB w.heap.size w' v' (leB k (IntKind.u64.wrap n)) ∧ Below w.heap.size w w' := by
  obtain ⟨i8, hi8, hy0, hy1, hy2⟩ := info_parts infoB
  have W0 : 0 ≤ IntKind.u64.wrap n ∧ IntKind.u64.wrap n ≤ 18446744073709551615 := by rw [IntKind.wrap_u64]; omega
  obtain ⟨x, hx⟩ : ∃ x, Hid (IntKind.u64.wrap n = x) := ⟨_, rfl⟩
  rw [hx.out] at W0 ⊢
  have HN : Hid (0 ≤ x ∧ x ≤ 18446744073709551615) := W0
  clear W0
  have R0 := RowB.empty w (Nat.le_refl _)
  have B0 := below1 w (.cells #[] 5)
  go_enter Tryz.func15, Tryz.ntmps15
  go_wp2
  rw [hx.out]
  go_loopw [5, 6, 7] (fun s5 s6 s7 wr => ∃ j : Nat, j ≤ k ∧ s7 = .int .i64 j ∧ s6 = .int .u64 (x / 256 ^ j) ∧ RowB w.heap.size wr s5 (leB j x) ∧ Below w.heap.size w wr) (fun _ _ s7 _ => k - (intOf s7).toNat)
  case atStart => exact ⟨0, by omega, rfl, by simp, by simpa [leB] using R0, B0⟩
  case round =>
    obtain ⟨j, hj, rfl, rfl, R, B⟩ := hrel
    rename World => wr
    by_cases hlt : j < k
    · obtain ⟨d0, d1⟩ := div_bd (k := j) HN.out.1 HN.out.2
      have DS := div_step j x
      have LS := leB_step j x
      have LL : (leB j x).length ≤ 1000010 := by rw [leB_len]; omega
      generalize x / 256 ^ j = q at *
      have bn := below1 wr (.cells #[.int .u8 (q % 256)] 5)
      have NW := one_new8 wr 5 (q % 256)
      have R2 := R.below bn
      have B2 := B.trans (bn.mono B.size)
      have hb2 := B2.size
      generalize HLL : leB j x = L at *
      go_wp2_with (at_builtin; refine wpList_append_own_at _ rfl (.tmp 16) (.tmp 19) 24 rfl w.heap.size 5 i8 (.int .u8 0) 1 1 Tryz.underlying24 hi8 hy0 hy1 hy2 rfl (by decide) u5 L.length (L.map (Value.int .u8)) rfl R2 ⟨wr.heap.size, 0, none⟩ 1 _ ([q % 256].map (Value.int .u8)) rfl rfl NW (ones8 _) (by unfold maxLen; omega) (by omega) hb2 ?_; intro v7 w7 R7 G7 _ _; have X7 : Below w.heap.size w w7 := B2.grown G7 hb2 (fun k hk => (World.ownsRow.lt R2 k hk).1); replace R7 : RowB w.heap.size w7 v7 (L ++ [q % 256]) := RowB.app R7; clear G7)
      go_roundw
      case rel => exact ⟨j + 1, by omega, by go_num, by rw [← DS], by rw [LS]; exact R7, X7⟩
      case measure => simp [intOf]; omega
    · obtain rfl : j = k := by omega
      go_wp2
      go_ret
      exact ⟨_, rfl, R, B⟩
end Go.Proofs.YtlkhbbllkkdhaaaGreatDoor
