/- The log, the specification's side: the sum, the room, whether it is a log. -/
import Derived.Test.YtbgpkajgnappiaaBytM
import Derived.Test.YtbgpkajgnappiaaLeB
import Derived.Test.YtbgpkajgnappiaaDkS
namespace Go.Proofs.Ytbgpkajgnappiaa
open Go.RowKit

/-- One byte more in the sum. -/
def fnvS (x : Nat) (b : Int) : Nat := ((x ^^^ b.toNat) * 16777619) % 4294967296
/-- The sum of bytes. -/
def fnv (bs : List Int) : Nat := bs.foldl fnvS 2166136261
theorem fnvS_lt (x : Nat) (b : Int) : fnvS x b < 4294967296 := Nat.mod_lt _ (by omega)
theorem foldl_snoc1 (f : Nat → Int → Nat) (x : Nat) (bs : List Int) (b : Int) : (bs ++ [b]).foldl f x = f (bs.foldl f x) b := by simp
theorem fnv_snoc (bs : List Int) (b : Int) : fnv (bs ++ [b]) = fnvS (fnv bs) b := foldl_snoc1 fnvS 2166136261 bs b
theorem foldl_fnv_lt : ∀ (bs : List Int) (x : Nat), x < 4294967296 → bs.foldl fnvS x < 4294967296
  | [], _, h => h
  | b :: bs, x, _ => foldl_fnv_lt bs _ (fnvS_lt x b)
theorem fnv_lt (bs : List Int) : fnv bs < 4294967296 := foldl_fnv_lt bs 2166136261 (by omega)
theorem xor_u64 {x : Nat} {b : Int} (hx : x < 4294967296) (h0 : 0 ≤ b) (h1 : b < 256) : bits .xor .u64 (x : Int) b = ((x ^^^ b.toNat : Nat) : Int) := by
  obtain ⟨y, rfl⟩ : ∃ y : Nat, b = (y : Int) := ⟨b.toNat, by omega⟩
  have hy : y < 256 := by omega
  have hl : x ^^^ y < 2 ^ 32 := Nat.xor_lt_two_pow (by omega) (by omega)
  show IntKind.u64.wrap ((BitVec.ofInt 64 (x : Int) ^^^ BitVec.ofInt 64 (y : Int)).toNat : Nat) = _
  rw [BitVec.toNat_xor, BitVec.toNat_ofInt, BitVec.toNat_ofInt, IntKind.wrap_u64, Int.toNat_natCast]
  have e1 : ((x : Int) % ((2 ^ 64 : Nat) : Int)).toNat = x := by omega
  have e2 : ((y : Int) % ((2 ^ 64 : Nat) : Int)).toNat = y := by omega
  rw [e1, e2]
  omega

set_option maxRecDepth 20000 in
set_option maxHeartbeats 2000000 in
theorem l12Sum_any (a : Option Addr) (c : Nat) (bs : List Int) (w : World) (h : SeesB w a c bs) (h8 : ∀ x ∈ bs, 0 ≤ x ∧ x < 256) :
    Calls Try.prog 26 #[.slice a bs.length c] w fun e w' => e = .returned (.int .i64 (fnv bs : Nat)) ∧ w' = w := by
  have hm := h.max
  have hf := h.fits
  unfold maxLen at hm
  have HH : Hid (SeesB w a c bs) := h
  have H8 : Hid (∀ x ∈ bs, 0 ≤ x ∧ x < 256) := h8
  clear h h8
  go_enter Try.func26, Try.ntmps26
  go_wp2
  go_loopw [3, 4] (fun s3 s4 wr => ∃ (j x : Nat), j ≤ bs.length ∧ s4 = .int .i64 j ∧ s3 = .int .u64 (x : Int) ∧ Hid (x = fnv (bs.take j)) ∧ Hid (wr = w)) (fun _ s4 _ => bs.length - (intOf s4).toNat)
  case atStart => exact ⟨0, 2166136261, Nat.zero_le _, rfl, rfl, (by show _ = _; simp [fnv]), rfl⟩
  case round =>
    obtain ⟨j, x, hj, rfl, rfl, hx, hw⟩ := hrel
    rename World => wr
    have hw' := hw.out
    subst hw'
    have xl : x < 4294967296 := by rw [hx.out]; exact fnv_lt _
    by_cases hlt : j < bs.length
    · obtain ⟨b, off, rfl, hc⟩ := HH.out.cells (by intro e; rw [e] at hlt; simp at hlt)
      have g1 := hc j hlt
      have hy := H8.out (bs[j]?.getD 0) (by rw [List.getElem?_eq_getElem hlt]; exact List.getElem_mem hlt)
      have FS : Hid (fnvS x (bs[j]?.getD 0) = fnv (bs.take (j + 1))) := by
        show _ = _
        rw [List.take_add_one, List.getElem?_eq_getElem hlt]
        show _ = fnv (_ ++ [_])
        rw [fnv_snoc, ← hx.out]
        rfl
      generalize bs[j]?.getD 0 = y at *
      obtain ⟨y0, y1⟩ := hy
      clear hc hx hw
      have hxr := xor_u64 xl y0 y1
      have hxl : x ^^^ y.toNat < 4294967296 := Nat.xor_lt_two_pow (n := 32) (by omega) (by omega)
      have FD : Hid (fnvS x y = ((x ^^^ y.toNat) * 16777619) % 4294967296) := rfl
      generalize x ^^^ y.toNat = z at *
      have hwz : IntKind.u64.wrap ((z : Int) * 16777619) = (z : Int) * 16777619 := by rw [IntKind.wrap_u64]; omega
      have htm : ((z : Int) * 16777619).tmod 4294967296 = ((z * 16777619 % 4294967296 : Nat) : Int) := by rw [Int.tmod_eq_emod_of_nonneg (by omega)]; omega
      go_wp2
      go_roundw
      case rel => exact ⟨j + 1, z * 16777619 % 4294967296, by omega, by go_num, by first | rfl | (congr 1), (by show _ = _; rw [← FS.out, FD.out]), (by first | exact trivial | exact rfl)⟩
      case measure => simp [intOf]; omega
    · obtain rfl : j = bs.length := by omega
      rw [List.take_length] at hx
      have hw64 : wrap64 (x : Int) = (x : Int) := by unfold wrap64; omega
      go_wp2
      go_ret
      exact ⟨by rw [← hx.out]; rfl, rfl⟩

/-- The room behind a log's end. -/
def lgRoom (F L N : Int) : Int := if wrap64 (wrap64 (wrap64 (L - F) + 1) - N) < 0 then 0 else wrap64 (wrap64 (wrap64 (L - F) + 1) - N)
theorem specLogRoom (F L N Ep : Int) (w : World) :
    Calls Try.prog 14 #[.agg #[.int .i64 F, .int .i64 L, .int .i64 N, .int .i64 Ep]] w fun e w' => e = .returned (.int .i64 (lgRoom F L N)) ∧ Below w.heap.size w w' := by
  have B := below1 w (.cells #[.int .i64 F, .int .i64 L, .int .i64 N, .int .i64 Ep] 27)
  obtain ⟨z, hz⟩ : ∃ z, Hid (wrap64 (wrap64 (wrap64 (L - F) + 1) - N) = z) := ⟨_, rfl⟩
  have LR : Hid (lgRoom F L N = if z < 0 then 0 else z) := by show _ = _; unfold lgRoom; rw [hz.out]
  by_cases h : z < 0
  · have e : Hid (lgRoom F L N = 0) := LR.out.trans (if_pos h)
    go_enter Try.func14, Try.ntmps14
    go_upto_region 2 with fail
    rw [hz.out]
    go_wp2
    go_ret
    exact ⟨by rw [e.out]; rfl, B⟩
  · have e : Hid (lgRoom F L N = z) := LR.out.trans (if_neg h)
    go_enter Try.func14, Try.ntmps14
    go_upto_region 2 with fail
    rw [hz.out]
    go_wp2
    go_ret
    exact ⟨by rw [e.out]; rfl, B⟩
end Go.Proofs.Ytbgpkajgnappiaa
