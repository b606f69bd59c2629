import Derived.Test.YtgcaemhcdpddiaaDoorBoxP
import Derived.Lib.BitFns
import Derived.Laws.BitsAllLaws
/- Floats of whole numbers: mathematics alone. flt: the bits of n; intV: the number of bits. -/
namespace Go.Proofs.YtgcaemhcdpddiaaDoor
open Go.RowKit

/-- The place of the highest bit. -/
def tp (m : Int) : Nat := Lib.bitLen m.toNat - 1
/-- The bits of m, whose highest bit is at t. -/
def fltA (m : Int) (t : Nat) : Int := (1022 + t) * 4503599627370496 + m * 4503599627370496 / 2 ^ t
def flt (n : Int) : Int := if n = 0 ∨ n < -9007199254740992 ∨ 9007199254740992 < n then 0 else if n < 0 then fltA (-n) (tp (-n)) - 9223372036854775808 else fltA n (tp n)
/-- The power that bits tell. -/
def pwr (b : Int) : Int := b / 4503599627370496 % 2048 - 1023
def whl (b : Int) : Int := (4503599627370496 + b % 4503599627370496) * 2 / 2 ^ (53 - pwr b).toNat
def whN (b : Int) : Int := if 0 ≤ pwr b ∧ pwr b ≤ 53 then (if b < 0 then -whl b else whl b) else 0
def intN (b : Int) : Int := if b = -9223372036854775808 then 0 else if flt (whN b) = b then whN b else 0
def intB (b : Int) : Bool := if b = -9223372036854775808 then true else if flt (whN b) = b then true else false

theorem two_pos (t : Nat) : (0 : Int) < 2 ^ t := Int.pow_pos (by decide)
theorem two_nat (t : Nat) : ((2 ^ t : Nat) : Int) = 2 ^ t := by simp
theorem two_le {s t : Nat} (h : s ≤ t) : (2 : Int) ^ s ≤ 2 ^ t := by
  rw [← two_nat s, ← two_nat t]; exact Int.ofNat_le.2 (Nat.pow_le_pow_right (by decide) h)
theorem two_lt {s t : Nat} (h : s < t) : (2 : Int) ^ s < 2 ^ t := by
  rw [← two_nat s, ← two_nat t]; exact Int.ofNat_lt.2 (Nat.pow_lt_pow_right (by decide) h)
theorem two_mul_q {t k : Nat} (h : t ≤ k) : (2 : Int) ^ t * 2 ^ (k - t) = 2 ^ k := by rw [← Int.pow_add, show t + (k - t) = k by omega]

theorem bitAux_lt : ∀ (f x : Nat), x < 2 ^ f → x < 2 ^ Lib.bitLenAux f x
  | 0, x, h => by simpa [Lib.bitLenAux] using h
  | f + 1, x, h => by
    unfold Lib.bitLenAux
    by_cases h0 : x = 0
    · rw [if_pos h0, h0]; decide
    · rw [if_neg h0]
      have := bitAux_lt f (x / 2) (by rw [Nat.pow_succ] at h; omega)
      rw [Nat.add_comm, Nat.pow_succ]
      omega
theorem bitAux_ge : ∀ (f x : Nat), 0 < x → x < 2 ^ f → 2 ^ (Lib.bitLenAux f x - 1) ≤ x ∧ 0 < Lib.bitLenAux f x
  | 0, x, h0, h => by simp at h; omega
  | f + 1, x, h0, h => by
    unfold Lib.bitLenAux
    rw [if_neg (by omega)]
    by_cases h1 : x / 2 = 0
    · rw [h1]
      have e : Lib.bitLenAux f 0 = 0 := by cases f <;> simp [Lib.bitLenAux]
      rw [e]; simp; omega
    · obtain ⟨e, p⟩ := bitAux_ge f (x / 2) (by omega) (by rw [Nat.pow_succ] at h; omega)
      refine ⟨?_, by omega⟩
      rw [show 1 + Lib.bitLenAux f (x / 2) - 1 = (Lib.bitLenAux f (x / 2) - 1) + 1 by omega, Nat.pow_succ]
      omega

theorem tp_spec {m : Int} (h0 : 0 < m) (h1 : m < 18446744073709551616) : (2 : Int) ^ tp m ≤ m ∧ m < 2 ^ (tp m + 1) ∧ (Lib.bitLen m.toNat : Int) = tp m + 1 := by
  have a := bitAux_lt 64 m.toNat (by omega)
  obtain ⟨b, p⟩ := bitAux_ge 64 m.toNat (by omega) (by omega)
  have e : Lib.bitLenAux 64 m.toNat = tp m + 1 := by show _ = (Lib.bitLenAux 64 m.toNat - 1) + 1; omega
  rw [e] at a b
  rw [show tp m + 1 - 1 = tp m by omega] at b
  refine ⟨?_, ?_, ?_⟩
  · rw [← two_nat]; omega
  · rw [← two_nat]; omega
  · show ((Lib.bitLenAux 64 m.toNat : Nat) : Int) = _
    rw [e]; omega
theorem tp_le {m : Int} (h0 : 0 < m) (h1 : m ≤ 9007199254740992) : tp m ≤ 53 := by
  obtain ⟨a, _, _⟩ := tp_spec h0 (by omega)
  rcases Nat.lt_or_ge 53 (tp m) with h | h
  · have := two_le h
    have e : (2 : Int) ^ (53 + 1) = 18014398509481984 := by decide
    omega
  · exact h
theorem tp_uniq {m : Int} {t : Nat} (h0 : 0 < m) (h1 : m < 18446744073709551616) (a : (2 : Int) ^ t ≤ m) (b : m < 2 ^ (t + 1)) : t = tp m := by
  obtain ⟨c, d, _⟩ := tp_spec h0 h1
  rcases Nat.lt_trichotomy t (tp m) with h | h | h
  · have := two_le (show t + 1 ≤ tp m by omega); omega
  · exact h
  · have := two_le (show tp m + 1 ≤ t by omega); omega

/-- What is below the highest bit, from the top. -/
theorem low_bits {m : Int} {t : Nat} (ht : t ≤ 53) (a : (2 : Int) ^ t ≤ m) (b : m < 2 ^ (t + 1)) (h1 : m ≤ 9007199254740992) :
    ∃ z : Int, 0 ≤ z ∧ z < 4503599627370496 ∧ m * 4503599627370496 / 2 ^ t = 4503599627370496 + z ∧ m * 2 ^ (64 - t) % 18446744073709551616 / 4096 = z ∧
      (t ≤ 52 → (m - 2 ^ t) * 2 ^ (52 - t) = z) ∧ (t = 53 → m - 2 ^ t = 0 ∧ z = 0) := by
  have hp := two_pos t
  rcases Nat.lt_or_ge 52 t with h | h
  · obtain rfl : t = 53 := by omega
    have e : (2 : Int) ^ 53 = 9007199254740992 := by decide
    have e2 : (2 : Int) ^ (64 - 53) = 2048 := by decide
    rw [e2]
    rw [e] at a ⊢
    obtain rfl : m = 9007199254740992 := by omega
    exact ⟨0, by decide, by decide, by decide, by decide, fun h => by omega, fun _ => by decide⟩
  · have hq := two_pos (52 - t)
    have pq := two_mul_q h
    rw [show (2 : Int) ^ 52 = 4503599627370496 by decide] at pq
    have e64 : (2 : Int) ^ (64 - t) = 2 ^ (52 - t) * 4096 := by
      rw [show 64 - t = (52 - t) + 12 by omega, Int.pow_add]; rfl
    rw [Int.pow_succ] at b
    rw [e64]
    generalize (2 : Int) ^ t = p at *
    generalize (2 : Int) ^ (52 - t) = q at *
    have r0 : 0 ≤ (m - p) * q := Int.mul_nonneg (by omega) (by omega)
    have r1 : (m - p) * q < p * q := Int.mul_lt_mul_of_pos_right (by omega) hq
    have r2 : m * q = 4503599627370496 + (m - p) * q := by rw [← pq]; grind
    have r3 : m * 4503599627370496 / p = m * q := by
      rw [← pq, show m * (p * q) = p * (m * q) by grind, Int.mul_ediv_cancel_left _ (by omega)]
    refine ⟨(m - p) * q, r0, by omega, by omega, ?_, fun _ => rfl, fun h => by omega⟩
    rw [← Int.mul_assoc, r2]
    generalize (m - p) * q = z at *
    omega

theorem fltA_eq {m : Int} {t : Nat} (ht : t ≤ 53) (a : (2 : Int) ^ t ≤ m) (b : m < 2 ^ (t + 1)) (h1 : m ≤ 9007199254740992) :
    ∃ z : Int, 0 ≤ z ∧ z < 4503599627370496 ∧ m * 4503599627370496 / 2 ^ t = 4503599627370496 + z ∧ fltA m t = (1023 + t) * 4503599627370496 + z := by
  obtain ⟨z, z0, z1, e, _⟩ := low_bits ht a b h1
  exact ⟨z, z0, z1, e, by unfold fltA; rw [e]; omega⟩

theorem flt_zero : flt 0 = 0 := by simp [flt]

theorem whl_fltA {m : Int} {t : Nat} (ht : t ≤ 53) (a : (2 : Int) ^ t ≤ m) (b : m < 2 ^ (t + 1)) (h1 : m ≤ 9007199254740992) (d : Int) (hd : d = 0 ∨ d = -9223372036854775808) :
    pwr (fltA m t + d) = t ∧ whl (fltA m t + d) = m := by
  obtain ⟨z, z0, z1, e, f⟩ := fltA_eq ht a b h1
  have hw : pwr (fltA m t + d) = t := by
    unfold pwr; rw [f]
    rcases hd with rfl | rfl <;> omega
  refine ⟨hw, ?_⟩
  unfold whl
  rw [hw]
  have hm : (fltA m t + d) % 4503599627370496 = z := by
    rw [f]
    rcases hd with rfl | rfl <;> omega
  rw [hm, ← e, show ((53 : Int) - t).toNat = 53 - t by omega]
  have hp := two_pos t
  have hq := two_pos (53 - t)
  have pq := two_mul_q ht
  rw [show (2 : Int) ^ 53 = 9007199254740992 by decide] at pq
  rcases Nat.lt_or_ge 52 t with h | h
  · obtain rfl : t = 53 := by omega
    have e : (2 : Int) ^ 53 = 9007199254740992 := by decide
    rw [e] at a ⊢
    obtain rfl : m = 9007199254740992 := by omega
    decide
  · have hq2 := two_pos (52 - t)
    have pq2 := two_mul_q h
    rw [show (2 : Int) ^ 52 = 4503599627370496 by decide] at pq2
    have e5 : (2 : Int) ^ (53 - t) = 2 ^ (52 - t) * 2 := by rw [show 53 - t = (52 - t) + 1 by omega, Int.pow_succ]
    rw [e5]
    generalize (2 : Int) ^ t = p at *
    generalize (2 : Int) ^ (52 - t) = q at *
    have r3 : m * 4503599627370496 / p = m * q := by
      rw [← pq2, show m * (p * q) = p * (m * q) by grind, Int.mul_ediv_cancel_left _ (by omega)]
    rw [r3, Int.mul_assoc, Int.mul_ediv_cancel _ (by omega)]

theorem flt_bd (n : Int) : -9223372036854775808 ≤ flt n ∧ flt n ≤ 9223372036854775807 ∧ flt n ≠ -9223372036854775808 := by
  unfold flt
  by_cases h : n = 0 ∨ n < -9007199254740992 ∨ 9007199254740992 < n
  · rw [if_pos h]; omega
  · rw [if_neg h]
    by_cases h0 : n < 0
    · rw [if_pos h0]
      obtain ⟨a, b, _⟩ := tp_spec (m := -n) (by omega) (by omega)
      obtain ⟨z, z0, z1, _, e⟩ := fltA_eq (tp_le (by omega) (by omega)) a b (by omega)
      have := tp_le (m := -n) (by omega) (by omega)
      rw [e]; omega
    · rw [if_neg h0]
      obtain ⟨a, b, _⟩ := tp_spec (m := n) (by omega) (by omega)
      obtain ⟨z, z0, z1, _, e⟩ := fltA_eq (tp_le (by omega) (by omega)) a b (by omega)
      have := tp_le (m := n) (by omega) (by omega)
      rw [e]; omega

/-- A number comes back of its bits. -/
theorem whN_flt {n : Int} (h1 : -9007199254740992 ≤ n) (h2 : n ≤ 9007199254740992) : whN (flt n) = n := by
  by_cases h0 : n = 0
  · subst h0; rw [flt_zero]; decide
  · by_cases hn : n < 0
    · obtain ⟨a, b, _⟩ := tp_spec (m := -n) (by omega) (by omega)
      have ht := tp_le (m := -n) (by omega) (by omega)
      obtain ⟨p, q⟩ := whl_fltA ht a b (by omega) (-9223372036854775808) (Or.inr rfl)
      obtain ⟨z, z0, z1, _, e⟩ := fltA_eq ht a b (by omega)
      have ef : flt n = fltA (-n) (tp (-n)) + -9223372036854775808 := by
        unfold flt; rw [if_neg (by omega), if_pos hn]; omega
      rw [ef]; unfold whN
      rw [p, q, if_pos (by omega), if_pos (by rw [e]; omega)]; omega
    · obtain ⟨a, b, _⟩ := tp_spec (m := n) (by omega) (by omega)
      have ht := tp_le (m := n) (by omega) (by omega)
      obtain ⟨p, q⟩ := whl_fltA ht a b (by omega) 0 (Or.inl rfl)
      obtain ⟨z, z0, z1, _, e⟩ := fltA_eq ht a b (by omega)
      have ef : flt n = fltA n (tp n) + 0 := by
        unfold flt; rw [if_neg (by omega), if_neg hn]; omega
      rw [ef]; unfold whN
      rw [p, q, if_pos (by omega), if_neg (by rw [e]; omega)]
theorem int_flt {n : Int} (h1 : -9007199254740992 ≤ n) (h2 : n ≤ 9007199254740992) : intN (flt n) = n ∧ intB (flt n) = true := by
  have hb := (flt_bd n).2.2
  unfold intN intB
  rw [if_neg hb, if_neg hb, whN_flt h1 h2, if_pos rfl, if_pos rfl]
  exact ⟨rfl, rfl⟩
theorem int_zero : intN 0 = 0 ∧ intB 0 = true := by
  have := int_flt (n := 0) (by decide) (by decide)
  rwa [flt_zero] at this
theorem flt_out {n : Int} (h : n < -9007199254740992 ∨ 9007199254740992 < n) : flt n = 0 := by unfold flt; rw [if_pos (by omega)]

theorem flt_lt {n : Int} (h0 : 0 < n) (h1 : n < 9007199254740992) : flt n < flt (n + 1) := by
  obtain ⟨a, b, _⟩ := tp_spec (m := n) (by omega) (by omega)
  obtain ⟨c, d, _⟩ := tp_spec (m := n + 1) (by omega) (by omega)
  have ht := tp_le (m := n) (by omega) (by omega)
  have ht' := tp_le (m := n + 1) (by omega) (by omega)
  have e1 : flt n = fltA n (tp n) := by unfold flt; rw [if_neg (by omega), if_neg (by omega)]
  have e2 : flt (n + 1) = fltA (n + 1) (tp (n + 1)) := by unfold flt; rw [if_neg (by omega), if_neg (by omega)]
  rw [e1, e2]
  obtain ⟨z, z0, z1, k, f⟩ := fltA_eq ht a b (by omega)
  obtain ⟨y, y0, y1, l, g⟩ := fltA_eq ht' c d (by omega)
  rw [f, g]
  rcases Nat.lt_trichotomy (tp n) (tp (n + 1)) with h | h | h
  · omega
  · rw [← h] at c d l ⊢
    have h52 : tp n ≤ 52 := by
      rcases Nat.lt_or_ge 52 (tp n) with h | h
      · have := two_le (show 53 ≤ tp n by omega)
        have e : (2 : Int) ^ 53 = 9007199254740992 := by decide
        omega
      · exact h
    have hp := two_pos (tp n)
    have hq2 := two_pos (52 - tp n)
    have pq2 := two_mul_q h52
    rw [show (2 : Int) ^ 52 = 4503599627370496 by decide] at pq2
    generalize (2 : Int) ^ tp n = p at *
    generalize (2 : Int) ^ (52 - tp n) = q at *
    have r3 : ∀ m : Int, m * 4503599627370496 / p = m * q := by
      intro m
      rw [← pq2, show m * (p * q) = p * (m * q) by grind, Int.mul_ediv_cancel_left _ (by omega)]
    rw [r3] at k l
    rw [Int.add_mul] at l
    omega
  · have := two_le (show tp (n + 1) + 1 ≤ tp n by omega)
    omega
theorem intN_bd (b : Int) : -9007199254740992 ≤ intN b ∧ intN b ≤ 9007199254740992 := by
  unfold intN
  split
  · omega
  · split
    · rename_i h
      by_cases h0 : whN b < -9007199254740992 ∨ 9007199254740992 < whN b
      · rw [flt_out h0] at h
        subst h
        have : whN 0 = 0 := by decide
        omega
      · omega
    · omega
end Go.Proofs.YtgcaemhcdpddiaaDoor

/- Floats of whole numbers, the program's and the specification's: math/bits.Len64, math/bits.Len, impl.FloatOf, spec.FloatOf. -/
namespace Go.Proofs.YtgcaemhcdpddiaaDoor
open Go.RowKit

theorem bits8_at (y : Int) (h0 : 0 ≤ y) (h1 : y ≤ 255) : Lib.len8 y = (Lib.bitLen y.toNat : Int) ∧ 0 ≤ Lib.len8 y ∧ Lib.len8 y ≤ 8 := by
  have l := Lib.bitLen_le8' y h0 h1
  rw [Lib.len8_of y h0 h1]
  exact ⟨rfl, by omega, by omega⟩

set_option maxHeartbeats 4000000 in
set_option maxRecDepth 100000 in
theorem len64C (x : Int) (w : World) (h0 : 0 ≤ x) (h1 : x ≤ 18446744073709551615) :
    Calls Tryd.prog 64 #[.int .u64 x] w fun e w' => e = .returned (.int .i64 (Lib.bitLen x.toNat)) ∧ w' = w := by
  by_cases c32 : x < 4294967296
  · skip
    by_cases c16 : x < 65536
    · skip
      by_cases c8 : x < 256
      · skip
        have b0 : 0 ≤ x := by omega
        have b1 : x ≤ 255 := by omega
        obtain ⟨e1, e2, e3⟩ := bits8_at (x) b0 b1
        have E : Hid (Lib.len8 (x) = (Lib.bitLen (x).toNat : Int)) := e1
        clear e1
        go_enter Tryd.func64, Tryd.ntmps64
        go_wp2
        go_ret
        exact ⟨by rw [← E.out]; rfl, rfl⟩
      · have d8 : 256 ≤ x := by omega
        have b0 : 0 ≤ x / 256 := by omega
        have b1 : x / 256 ≤ 255 := by omega
        obtain ⟨e1, e2, e3⟩ := bits8_at (x / 256) b0 b1
        have E : Hid (Lib.len8 (x / 256) = (Lib.bitLen (x / 256).toNat : Int)) := e1
        have S : Hid (Lib.bitLen x.toNat = 8 + Lib.bitLen (x / 256).toNat) := by
          have := Lib.bitLen_shift 8 x.toNat (by omega) (by omega)
          rw [show x.toNat / 2 ^ 8 = (x / 256).toNat by omega] at this
          exact this
        clear e1
        go_enter Tryd.func64, Tryd.ntmps64
        go_wp2
        go_ret
        exact ⟨by rw [S.out, Int.natCast_add, ← E.out]; rfl, rfl⟩
    · have d16 : 65536 ≤ x := by omega
      by_cases c8 : x / 65536 < 256
      · skip
        have b0 : 0 ≤ x / 65536 := by omega
        have b1 : x / 65536 ≤ 255 := by omega
        obtain ⟨e1, e2, e3⟩ := bits8_at (x / 65536) b0 b1
        have E : Hid (Lib.len8 (x / 65536) = (Lib.bitLen (x / 65536).toNat : Int)) := e1
        have S : Hid (Lib.bitLen x.toNat = 16 + Lib.bitLen (x / 65536).toNat) := by
          have := Lib.bitLen_shift 16 x.toNat (by omega) (by omega)
          rw [show x.toNat / 2 ^ 16 = (x / 65536).toNat by omega] at this
          exact this
        clear e1
        go_enter Tryd.func64, Tryd.ntmps64
        go_wp2
        go_ret
        exact ⟨by rw [S.out, Int.natCast_add, ← E.out]; rfl, rfl⟩
      · have d8 : 256 ≤ x / 65536 := by omega
        have b0 : 0 ≤ x / 65536 / 256 := by omega
        have b1 : x / 65536 / 256 ≤ 255 := by omega
        obtain ⟨e1, e2, e3⟩ := bits8_at (x / 65536 / 256) b0 b1
        have E : Hid (Lib.len8 (x / 65536 / 256) = (Lib.bitLen (x / 65536 / 256).toNat : Int)) := e1
        have S : Hid (Lib.bitLen x.toNat = 24 + Lib.bitLen (x / 65536 / 256).toNat) := by
          have := Lib.bitLen_shift 24 x.toNat (by omega) (by omega)
          rw [show x.toNat / 2 ^ 24 = (x / 65536 / 256).toNat by omega] at this
          exact this
        clear e1
        go_enter Tryd.func64, Tryd.ntmps64
        go_wp2
        go_ret
        exact ⟨by rw [S.out, Int.natCast_add, ← E.out]; rfl, rfl⟩
  · have d32 : 4294967296 ≤ x := by omega
    by_cases c16 : x / 4294967296 < 65536
    · skip
      by_cases c8 : x / 4294967296 < 256
      · skip
        have b0 : 0 ≤ x / 4294967296 := by omega
        have b1 : x / 4294967296 ≤ 255 := by omega
        obtain ⟨e1, e2, e3⟩ := bits8_at (x / 4294967296) b0 b1
        have E : Hid (Lib.len8 (x / 4294967296) = (Lib.bitLen (x / 4294967296).toNat : Int)) := e1
        have S : Hid (Lib.bitLen x.toNat = 32 + Lib.bitLen (x / 4294967296).toNat) := by
          have := Lib.bitLen_shift 32 x.toNat (by omega) (by omega)
          rw [show x.toNat / 2 ^ 32 = (x / 4294967296).toNat by omega] at this
          exact this
        clear e1
        go_enter Tryd.func64, Tryd.ntmps64
        go_wp2
        go_ret
        exact ⟨by rw [S.out, Int.natCast_add, ← E.out]; rfl, rfl⟩
      · have d8 : 256 ≤ x / 4294967296 := by omega
        have b0 : 0 ≤ x / 4294967296 / 256 := by omega
        have b1 : x / 4294967296 / 256 ≤ 255 := by omega
        obtain ⟨e1, e2, e3⟩ := bits8_at (x / 4294967296 / 256) b0 b1
        have E : Hid (Lib.len8 (x / 4294967296 / 256) = (Lib.bitLen (x / 4294967296 / 256).toNat : Int)) := e1
        have S : Hid (Lib.bitLen x.toNat = 40 + Lib.bitLen (x / 4294967296 / 256).toNat) := by
          have := Lib.bitLen_shift 40 x.toNat (by omega) (by omega)
          rw [show x.toNat / 2 ^ 40 = (x / 4294967296 / 256).toNat by omega] at this
          exact this
        clear e1
        go_enter Tryd.func64, Tryd.ntmps64
        go_wp2
        go_ret
        exact ⟨by rw [S.out, Int.natCast_add, ← E.out]; rfl, rfl⟩
    · have d16 : 65536 ≤ x / 4294967296 := by omega
      by_cases c8 : x / 4294967296 / 65536 < 256
      · skip
        have b0 : 0 ≤ x / 4294967296 / 65536 := by omega
        have b1 : x / 4294967296 / 65536 ≤ 255 := by omega
        obtain ⟨e1, e2, e3⟩ := bits8_at (x / 4294967296 / 65536) b0 b1
        have E : Hid (Lib.len8 (x / 4294967296 / 65536) = (Lib.bitLen (x / 4294967296 / 65536).toNat : Int)) := e1
        have S : Hid (Lib.bitLen x.toNat = 48 + Lib.bitLen (x / 4294967296 / 65536).toNat) := by
          have := Lib.bitLen_shift 48 x.toNat (by omega) (by omega)
          rw [show x.toNat / 2 ^ 48 = (x / 4294967296 / 65536).toNat by omega] at this
          exact this
        clear e1
        go_enter Tryd.func64, Tryd.ntmps64
        go_wp2
        go_ret
        exact ⟨by rw [S.out, Int.natCast_add, ← E.out]; rfl, rfl⟩
      · have d8 : 256 ≤ x / 4294967296 / 65536 := by omega
        have b0 : 0 ≤ x / 4294967296 / 65536 / 256 := by omega
        have b1 : x / 4294967296 / 65536 / 256 ≤ 255 := by omega
        obtain ⟨e1, e2, e3⟩ := bits8_at (x / 4294967296 / 65536 / 256) b0 b1
        have E : Hid (Lib.len8 (x / 4294967296 / 65536 / 256) = (Lib.bitLen (x / 4294967296 / 65536 / 256).toNat : Int)) := e1
        have S : Hid (Lib.bitLen x.toNat = 56 + Lib.bitLen (x / 4294967296 / 65536 / 256).toNat) := by
          have := Lib.bitLen_shift 56 x.toNat (by omega) (by omega)
          rw [show x.toNat / 2 ^ 56 = (x / 4294967296 / 65536 / 256).toNat by omega] at this
          exact this
        clear e1
        go_enter Tryd.func64, Tryd.ntmps64
        go_wp2
        go_ret
        exact ⟨by rw [S.out, Int.natCast_add, ← E.out]; rfl, rfl⟩

end Go.Proofs.YtgcaemhcdpddiaaDoor

/- Floats of whole numbers: impl.FloatOf, spec.FloatOf, spec.l1In. -/
namespace Go.Proofs.YtgcaemhcdpddiaaDoor
open Go.RowKit

theorem i64_or_nat (x y : Int) (X Y : Nat) (hx : x % 18446744073709551616 = X) (hy : y % 18446744073709551616 = Y) : bits .or .i64 x y = IntKind.i64.wrap ((X ||| Y : Nat) : Int) := by
  show IntKind.i64.wrap ((BitVec.ofInt 64 x ||| BitVec.ofInt 64 y).toNat : Int) = _
  rw [BitVec.toNat_or, BitVec.toNat_ofInt, BitVec.toNat_ofInt]
  have e1 : (x % ((2 ^ 64 : Nat) : Int)).toNat = X := by omega
  have e2 : (y % ((2 ^ 64 : Nat) : Int)).toNat = Y := by omega
  rw [e1, e2]
theorem fwrap_small {x : Int} (h0 : -9223372036854775808 ≤ x) (h1 : x ≤ 9223372036854775807) : IntKind.i64.wrap x = x := by rw [IntKind.wrap_i64]; omega
theorem wrap64_small {x : Int} (h0 : -9223372036854775808 ≤ x) (h1 : x ≤ 9223372036854775807) : wrap64 x = x := by unfold wrap64; omega

/-- The bits joined. -/
theorem or_join {t : Nat} {z : Int} (ht : t ≤ 53) (z0 : 0 ≤ z) (z1 : z < 4503599627370496) : bits .or .i64 ((1023 + (t : Int)) * 4503599627370496) z = (1023 + (t : Int)) * 4503599627370496 + z := by
  obtain ⟨y, rfl⟩ := Int.eq_ofNat_of_zero_le z0
  rw [i64_or_nat _ _ ((1023 + t) * 4503599627370496) y (by omega) (by omega), nat_join 52 _ _ (by omega) (by omega)]
  rw [fwrap_small (by omega) (by omega)]
  omega
theorem or_sign {x : Int} (h0 : 0 ≤ x) (h1 : x ≤ 9223372036854775807) : bits .or .i64 x (-9223372036854775808) = x - 9223372036854775808 := by
  obtain ⟨y, rfl⟩ := Int.eq_ofNat_of_zero_le h0
  rw [i64_or_nat _ _ y 9223372036854775808 (by omega) (by decide), Nat.or_comm, nat_join 63 _ _ (by decide) (by omega), IntKind.wrap_i64]
  omega
theorem fltA_bd {m : Int} (h0 : 0 < m) (h1 : m ≤ 9007199254740992) : 0 ≤ fltA m (tp m) ∧ fltA m (tp m) ≤ 9223372036854775807 := by
  obtain ⟨a, b, _⟩ := tp_spec h0 (by omega)
  have ht := tp_le h0 h1
  obtain ⟨z, z0, z1, _, e⟩ := fltA_eq ht a b h1
  rw [e]; omega

set_option maxHeartbeats 400000 in
theorem l1InC (x a b : Int) (w : World) :
    Calls Tryd.prog 29 #[.int .i64 x, .int .i64 a, .int .i64 b] w fun e w' => e = .returned (.bool (decide (a ≤ x) && decide (x ≤ b))) ∧ w' = w := by
  by_cases h1 : a ≤ x
  · by_cases h2 : x ≤ b
    · go_enter Tryd.func29, Tryd.ntmps29
      go_wp2
      go_ret
      exact ⟨by simp [h1, h2], rfl⟩
    · go_enter Tryd.func29, Tryd.ntmps29
      go_wp2
      go_ret
      exact ⟨by simp [h2], rfl⟩
  · go_enter Tryd.func29, Tryd.ntmps29
    go_wp2
    go_ret
    exact ⟨by rw [decide_eq_false (show ¬ a ≤ x by omega)]; rfl, rfl⟩

theorem low_spec {t : Nat} {z : Int} (ht : t ≤ 53) (z0 : 0 ≤ z) (z1 : z < 4503599627370496) (g : Int) (hg : g = 0 ∨ g = 9223372036854775808) :
    wrap64 (bits .or .u64 (bits .or .u64 g ((1023 + (t : Int)) * 4503599627370496)) z) = (1023 + (t : Int)) * 4503599627370496 + z - g := by
  obtain ⟨y, rfl⟩ := Int.eq_ofNat_of_zero_le z0
  have e1 : bits .or .u64 g ((1023 + (t : Int)) * 4503599627370496) = (((if g = 0 then 0 else 9223372036854775808) + (1023 + t) * 4503599627370496 : Nat) : Int) := by
    rcases hg with rfl | rfl
    · rw [u64_or 0 _ (by decide) (by decide) (by omega) (by omega)]; simp; omega
    · rw [u64_or _ _ (by decide) (by decide) (by omega) (by omega), nat_join 63 _ _ (by decide) (by omega)]; simp; omega
  rw [e1, u64_or_nat _ _ (by split <;> omega) (by omega), nat_join 52 _ _ (by split <;> omega) (by omega)]
  unfold wrap64
  rcases hg with rfl | rfl
  · simp; omega
  · simp; omega
end Go.Proofs.YtgcaemhcdpddiaaDoor

/- Floats of whole numbers: spec.FloatOf. -/
namespace Go.Proofs.YtgcaemhcdpddiaaDoor
open Go.RowKit

theorem shr_pos {m : Int} {j t : Nat} (a : (2 : Int) ^ t ≤ m) (h : j < t) : 0 < m / 2 ^ (j + 1) := by
  have h1 := two_le (show j + 1 ≤ t by omega)
  have h2 := two_pos (j + 1)
  exact Int.lt_of_lt_of_le (by decide : (0 : Int) < 1) (Int.le_ediv_of_mul_le h2 (by omega))
theorem shr_zero {m : Int} {t : Nat} (h0 : 0 < m) (b : m < 2 ^ (t + 1)) : m / 2 ^ (t + 1) = 0 := Int.ediv_eq_zero_of_lt (by omega) b

end Go.Proofs.YtgcaemhcdpddiaaDoor
