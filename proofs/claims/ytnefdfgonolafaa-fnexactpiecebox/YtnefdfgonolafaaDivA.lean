/- Bits of limbs: the arithmetic of dividing bit by bit. No program is named here. -/
import Derived.Test.YtnefdfgonolafaaMulA
import Derived.Laws.BitsAllLaws
namespace Go.Proofs.Ytnefdfgonolafaa
open Go.RowKit

theorem p2_pos (k : Nat) : (0 : Int) < 2 ^ k := by
  induction k with
  | zero => simp
  | succ k ih => rw [Int.pow_succ]; omega
theorem div_div {x y z : Int} (h : 0 ≤ y) : x / y / z = x / (y * z) := by
  rw [Int.ediv_ediv, if_neg (by omega), Int.sub_zero]
theorem p2_32 : (2 : Int) ^ 32 = 4294967296 := by decide
theorem even_mod (y z : Int) : (y + 2 * z) % 2 = y % 2 := by omega

/-- A bit of a number is one of its limbs'. -/
theorem bit_at : ∀ (xs : List Int) (i : Nat), Lim xs → val xs / 2 ^ i % 2 = (xs[i / 32]?.getD 0) / 2 ^ (i % 32) % 2
  | [], i, _ => by simp [val]
  | x :: r, i, h => by
    obtain ⟨hx, hr⟩ := h.cons
    by_cases hi : i < 32
    · rw [Nat.div_eq_of_lt hi, Nat.mod_eq_of_lt hi]
      simp only [val, List.getElem?_cons_zero, Option.getD_some]
      have e : (4294967296 : Int) = 2 ^ i * (2 * 2 ^ (31 - i)) := by
        rw [← p2_32, show 32 = i + (1 + (31 - i)) by omega, Int.pow_add, Int.pow_add]
        rfl
      rw [e, Int.mul_assoc, Int.add_mul_ediv_left _ _ (by have := p2_pos i; omega), Int.mul_assoc, even_mod]
    · have ih := bit_at r (i - 32) hr
      have e : (2 : Int) ^ i = 4294967296 * 2 ^ (i - 32) := by
        rw [← p2_32, ← Int.pow_add, show 32 + (i - 32) = i by omega]
      have e2 : val (x :: r) / 4294967296 = val r := by simp only [val]; omega
      rw [e, ← div_div (by decide), e2, ih]
      have e3 : i / 32 = (i - 32) / 32 + 1 := by omega
      have e4 : i % 32 = (i - 32) % 32 := by omega
      rw [e3, e4, List.getElem?_cons_succ]

/-- One bit more of what is divided. -/
theorem bit_more (v : Int) (i : Nat) : v / 2 ^ i = 2 * (v / 2 ^ (i + 1)) + v / 2 ^ i % 2 := by
  have e : v / 2 ^ (i + 1) = v / 2 ^ i / 2 := by rw [Int.pow_succ, ← div_div (by have := p2_pos i; omega)]
  rw [e]; omega

/-- Shifted by one: a limb. -/
theorem shl_limb (x bit : Int) (_hx : 0 ≤ x ∧ x < 4294967296) (_hb : 0 ≤ bit ∧ bit ≤ 1) : x * 2 % 4294967296 + bit < 4294967296 ∧ 0 ≤ x * 2 % 4294967296 + bit ∧ x * 2 % 4294967296 + bit + 4294967296 * (x / 2147483648) = 2 * x + bit := by omega

theorem shl_round {ws rs : List Int} {j : Nat} {bit x v0 : Int} (hw : ws.length = j) (h : val ws + 4294967296 ^ j * bit = 2 * val (rs.take j) + v0) (hx : x + 4294967296 * (rs[j]?.getD 0 / 2147483648) = 2 * (rs[j]?.getD 0) + bit) :
    val (ws ++ [x]) + 4294967296 ^ (j + 1) * (rs[j]?.getD 0 / 2147483648) = 2 * val (rs.take (j + 1)) + v0 := by
  rw [val_snoc, hw, val_take_succ, Int.pow_succ]
  have e1 : (4294967296 : Int) ^ j * (x + 4294967296 * (rs[j]?.getD 0 / 2147483648)) = 4294967296 ^ j * (2 * (rs[j]?.getD 0) + bit) := by rw [hx]
  rw [Int.mul_add, Int.mul_add, ← Int.mul_assoc, ← Int.mul_assoc] at e1
  rw [Int.mul_add 2, ← Int.mul_assoc 2, Int.mul_comm 2 (4294967296 ^ j)]
  omega
theorem place_bit (i : Nat) : (4294967296 : Int) ^ (i / 32) * 2 ^ (i % 32) = 2 ^ i := by
  rw [← p2_32, ← Int.pow_mul, ← Int.pow_add, Nat.div_add_mod]

/-- A bit that was not there. -/
theorem nat_or_bit (x k : Nat) (h : x / 2 ^ k % 2 = 0) : x ||| 2 ^ k = x + 2 ^ k := by
  have hp : 0 < 2 ^ k := Nat.two_pow_pos k
  have h1 : (x - x % 2 ^ k) % 2 ^ (k + 1) = 0 := by
    have e : x - x % 2 ^ k = 2 ^ (k + 1) * (x / 2 ^ k / 2) := by
      have e1 := Nat.div_add_mod x (2 ^ k)
      have e2 : x / 2 ^ k = 2 * (x / 2 ^ k / 2) := by omega
      rw [Nat.pow_succ, Nat.mul_assoc, ← e2]
      omega
    rw [e]; exact Nat.mul_mod_right _ _
  have hlo : x % 2 ^ k < 2 ^ k := Nat.mod_lt _ hp
  have h2 : x = (x - x % 2 ^ k) ||| x % 2 ^ k := by
    rw [nat_join (k + 1) _ _ h1 (by rw [Nat.pow_succ]; omega)]
    have := Nat.mod_le x (2 ^ k)
    omega
  have h3 : x % 2 ^ k ||| 2 ^ k = 2 ^ k + x % 2 ^ k := by rw [Nat.or_comm]; exact nat_join k _ _ (Nat.mod_self _) hlo
  have h4 : x ||| 2 ^ k = (x - x % 2 ^ k) ||| (2 ^ k + x % 2 ^ k) := by
    rw [← h3, ← Nat.or_assoc, ← h2]
  rw [h4, nat_join (k + 1) _ _ h1 (by rw [Nat.pow_succ]; omega)]
  have := Nat.mod_le x (2 ^ k)
  omega

theorem or_bit32 {x : Int} {k : Nat} (hx : 0 ≤ x ∧ x < 4294967296) (hk : k < 32) (h : x / 2 ^ k % 2 = 0) : bits BinOp.or IntKind.u32 x (2 ^ k) = x + 2 ^ k := by
  have hp : (2 : Int) ^ k < 4294967296 := by
    have e : (4294967296 : Int) = 2 ^ k * (2 * 2 ^ (31 - k)) := by
      rw [← p2_32, show 32 = k + (1 + (31 - k)) by omega, Int.pow_add, Int.pow_add]; rfl
    have h1 := p2_pos k
    have h2 := p2_pos (31 - k)
    have : (2 : Int) ^ k * 2 ≤ 2 ^ k * (2 * 2 ^ (31 - k)) := Int.mul_le_mul_of_nonneg_left (by omega) (by omega)
    omega
  have hq := p2_pos k
  rw [u32_or x (2 ^ k) hx.1 hx.2 (by omega) hp]
  obtain ⟨n, rfl⟩ := Int.eq_ofNat_of_zero_le hx.1
  have e2 : ((2 : Int) ^ k).toNat = 2 ^ k := by
    have : ((2 : Int) ^ k) = ((2 ^ k : Nat) : Int) := by simp
    rw [this]; exact Int.toNat_natCast _
  have h' : n / 2 ^ k % 2 = 0 := by
    have : ((n / 2 ^ k % 2 : Nat) : Int) = 0 := by
      rw [Int.natCast_emod, Int.natCast_ediv, Int.natCast_pow]; exact h
    omega
  rw [e2, Int.toNat_natCast, nat_or_bit n k h', Int.natCast_add, Int.natCast_pow]
  rfl
theorem or_bit_lt {x : Int} {k : Nat} (hx : 0 ≤ x ∧ x < 4294967296) (hk : k < 32) (h : x / 2 ^ k % 2 = 0) : 0 ≤ x + 2 ^ k ∧ x + 2 ^ k < 4294967296 := by
  have hq := p2_pos k
  refine ⟨by omega, ?_⟩
  have hp : (2 : Int) ^ k < 4294967296 := by
    have e : (4294967296 : Int) = 2 ^ k * (2 * 2 ^ (31 - k)) := by
      rw [← p2_32, show 32 = k + (1 + (31 - k)) by omega, Int.pow_add, Int.pow_add]; rfl
    have h2 := p2_pos (31 - k)
    have : (2 : Int) ^ k * 2 ≤ 2 ^ k * (2 * 2 ^ (31 - k)) := Int.mul_le_mul_of_nonneg_left (by omega) (by omega)
    omega
  rw [← or_bit32 hx hk h, u32_or x (2 ^ k) hx.1 hx.2 (by omega) hp]
  have : x.toNat ||| ((2 : Int) ^ k).toNat < 2 ^ 32 := Nat.or_lt_two_pow (by omega) (by omega)
  omega
theorem p2_mod {k : Nat} (hk : k < 32) : (2 : Int) ^ k % 4294967296 = 2 ^ k := by
  have hq := p2_pos k
  refine Int.emod_eq_of_lt (by omega) ?_
  have e : (4294967296 : Int) = 2 ^ k * (2 * 2 ^ (31 - k)) := by
    rw [← p2_32, show 32 = k + (1 + (31 - k)) by omega, Int.pow_add, Int.pow_add]; rfl
  have h2 := p2_pos (31 - k)
  have : (2 : Int) ^ k * 2 ≤ 2 ^ k * (2 * 2 ^ (31 - k)) := Int.mul_le_mul_of_nonneg_left (by omega) (by omega)
  omega
theorem or_bit_walk {x : Int} {k : Nat} (hx : 0 ≤ x ∧ x < 4294967296) (hk : k < 32) (h : x / 2 ^ k % 2 = 0) : bits BinOp.or IntKind.u32 x (2 ^ k % 4294967296) = x + 2 ^ k := by
  rw [p2_mod hk]; exact or_bit32 hx hk h
theorem set_bit {qs : List Int} {i : Nat} (hi : i / 32 < qs.length) : val (qs.set (i / 32) (qs[i / 32]?.getD 0 + 2 ^ (i % 32))) = val qs + 2 ^ i := by
  rw [val_set hi, Int.add_comm (qs[i / 32]?.getD 0), Int.add_sub_cancel, place_bit]
theorem or_low32 {x b : Int} (hx : 0 ≤ x ∧ x < 4294967296) (h2 : x % 2 = 0) (hb : 0 ≤ b ∧ b ≤ 1) : bits BinOp.or IntKind.u32 x b = x + b := by
  rw [u32_or x b hx.1 hx.2 hb.1 (by omega), nat_join 1 _ _ (by omega) (by omega)]
  omega
theorem and_one32 {x : Int} (hx : 0 ≤ x ∧ x < 4294967296) : bits BinOp.and IntKind.u32 x 1 = x % 2 := by
  rw [u32_and x 1 hx.1 hx.2 (by decide) (by decide)]
  have : x.toNat &&& (1 : Int).toNat = x.toNat % 2 := nat_mask1 _
  rw [this]
  omega

/-- What holds with t bits still to come: the quotient's bits from t on, and the rest. -/
def DivAt (A b : Int) (t : Nat) (q r : Int) : Prop := q = 2 ^ t * (A / 2 ^ t / b) ∧ r = A / 2 ^ t % b
theorem DivAt.start {A b : Int} {t : Nat} (h0 : 0 ≤ A) (h : A < 2 ^ t) : DivAt A b t 0 0 := by
  have : A / 2 ^ t = 0 := Int.ediv_eq_zero_of_lt h0 h
  exact ⟨by rw [this]; simp, by rw [this]; simp⟩
theorem DivAt.free {A b q r : Int} {t : Nat} (h : DivAt A b (t + 1) q r) : q / 2 ^ t % 2 = 0 := by
  have hp := p2_pos t
  rw [h.1, Int.pow_succ, Int.mul_assoc, Int.mul_ediv_cancel_left _ (by omega)]
  omega
theorem DivAt.yes {A b q r : Int} {t : Nat} (hb : 0 < b) (h : DivAt A b (t + 1) q r) (hr : b ≤ 2 * r + A / 2 ^ t % 2) : DivAt A b t (q + 2 ^ t) (2 * r + A / 2 ^ t % 2 - b) := by
  have hm := bit_more A t
  have hd := Int.mul_ediv_add_emod (A / 2 ^ (t + 1)) b
  have hlt := Int.emod_lt_of_pos (A / 2 ^ (t + 1)) hb
  have hge := Int.emod_nonneg (A / 2 ^ (t + 1)) (show b ≠ 0 by omega)
  have hbit := Int.emod_two_eq (A / 2 ^ t)
  obtain ⟨h1, h2⟩ := h
  have key : A / 2 ^ t / b = 2 * (A / 2 ^ (t + 1) / b) + 1 ∧ A / 2 ^ t % b = 2 * r + A / 2 ^ t % 2 - b := by
    rw [Int.ediv_emod_unique hb]
    refine ⟨?_, by omega, by omega⟩
    rw [Int.mul_add, Int.mul_one, ← Int.mul_assoc, Int.mul_comm b 2, Int.mul_assoc]
    omega
  refine ⟨?_, key.2.symm⟩
  rw [key.1, h1, Int.pow_succ, Int.mul_add, Int.mul_one, Int.mul_assoc]
theorem DivAt.no {A b q r : Int} {t : Nat} (hb : 0 < b) (h : DivAt A b (t + 1) q r) (hr : ¬ b ≤ 2 * r + A / 2 ^ t % 2) : DivAt A b t q (2 * r + A / 2 ^ t % 2) := by
  have hm := bit_more A t
  have hd := Int.mul_ediv_add_emod (A / 2 ^ (t + 1)) b
  have hge := Int.emod_nonneg (A / 2 ^ (t + 1)) (show b ≠ 0 by omega)
  have hbit := Int.emod_two_eq (A / 2 ^ t)
  obtain ⟨h1, h2⟩ := h
  have key : A / 2 ^ t / b = 2 * (A / 2 ^ (t + 1) / b) ∧ A / 2 ^ t % b = 2 * r + A / 2 ^ t % 2 := by
    rw [Int.ediv_emod_unique hb]
    refine ⟨?_, by omega, by omega⟩
    rw [← Int.mul_assoc, Int.mul_comm b 2, Int.mul_assoc]
    omega
  refine ⟨?_, key.2.symm⟩
  rw [key.1, h1, Int.pow_succ, Int.mul_assoc]
theorem DivAt.bound {A b q r : Int} {t : Nat} (hb : 0 < b) (h : DivAt A b t q r) : 0 ≤ r ∧ r < b := by
  rw [h.2]; exact ⟨Int.emod_nonneg _ (by omega), Int.emod_lt_of_pos _ hb⟩
theorem DivAt.done {A b q r : Int} (h : DivAt A b 0 q r) : q = A / b ∧ r = A % b := by
  obtain ⟨h1, h2⟩ := h
  simp at h1 h2
  exact ⟨h1, h2⟩
end Go.Proofs.Ytnefdfgonolafaa
