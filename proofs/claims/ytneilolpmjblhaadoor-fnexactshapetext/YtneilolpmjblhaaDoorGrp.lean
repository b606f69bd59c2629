/- Groups of nine digits, the lowest first, and a number's text by its groups. No program is named here. -/
import Derived.Test.YtneilolpmjblhaaDoorBase
import Derived.Lib.ItoaNum
namespace Go.Proofs.YtneilolpmjblhaaDoor
open Go.RowKit

/-- The groups of nine digits of a number, the lowest first; none of 0. -/
def grp (n : Nat) : List Int := if h : n = 0 then [] else ((n % 1000000000 : Nat) : Int) :: grp (n / 1000000000)
termination_by n
decreasing_by omega

theorem grp_zero : grp 0 = [] := by rw [grp]; simp
theorem grp_pos {n : Nat} (h : 0 < n) : grp n = ((n % 1000000000 : Nat) : Int) :: grp (n / 1000000000) := by rw [grp, dif_neg (by omega)]
theorem grp_ne {n : Nat} (h : 0 < n) : grp n ≠ [] := by rw [grp_pos h]; simp
theorem grp_get : ∀ (i n : Nat), (grp n)[i]?.getD 0 = ((n / 1000000000 ^ i % 1000000000 : Nat) : Int)
  | 0, n => by
    rcases Nat.eq_zero_or_pos n with rfl | h
    · rw [grp_zero]; simp
    · rw [grp_pos h]; simp
  | i + 1, n => by
    rcases Nat.eq_zero_or_pos n with rfl | h
    · rw [grp_zero]; simp
    · rw [grp_pos h, List.getElem?_cons_succ, grp_get i, Nat.pow_succ, Nat.mul_comm, ← Nat.div_div_eq_div_mul]
theorem grp_len : ∀ (k n : Nat), n < 1000000000 ^ k → (grp n).length ≤ k := by
  intro k
  induction k with
  | zero => intro n h; obtain rfl : n = 0 := by simpa using h
            rw [grp_zero]; simp
  | succ k ih =>
    intro n h
    rcases Nat.eq_zero_or_pos n with rfl | h0
    · rw [grp_zero]; simp
    · rw [grp_pos h0, List.length_cons]
      have := ih (n / 1000000000) (by rw [Nat.pow_succ] at h; omega)
      omega
/-- The topmost group is the number without the groups below. -/
theorem grp_top (n : Nat) (h : 0 < n) : 0 < n / 1000000000 ^ ((grp n).length - 1) ∧ n / 1000000000 ^ ((grp n).length - 1) < 1000000000 := by
  induction n using Nat.strongRecOn with
  | _ n ih =>
    rcases Nat.eq_zero_or_pos (n / 1000000000) with h0 | h1
    · rw [grp_pos h, h0, grp_zero]
      simp
      omega
    · have t := ih _ (by omega) h1
      have hl : 0 < (grp (n / 1000000000)).length := List.length_pos_iff.2 (grp_ne h1)
      obtain ⟨k, hk⟩ : ∃ k, (grp (n / 1000000000)).length = k + 1 := ⟨(grp (n / 1000000000)).length - 1, by omega⟩
      rw [hk, Nat.add_sub_cancel] at t
      rw [grp_pos h, List.length_cons, Nat.add_sub_cancel, hk, Nat.pow_succ, Nat.mul_comm, ← Nat.div_div_eq_div_mul]
      exact t

/-- Groups taken off one after another. -/
def GrpAt (V : Int) (gs : List Int) (v : Int) : Prop := 0 ≤ v ∧ gs ++ grp v.toNat = grp V.toNat
theorem GrpAt.start {V : Int} (h : 0 ≤ V) : GrpAt V [] V := ⟨h, by simp⟩
theorem GrpAt.step {V v : Int} {gs : List Int} (h : GrpAt V gs v) (h0 : 0 < v) : GrpAt V (gs ++ [v % 1000000000]) (v / 1000000000) := by
  refine ⟨by omega, ?_⟩
  rw [← h.2, List.append_assoc]
  congr 1
  rw [grp_pos (show 0 < v.toNat by omega)]
  simp only [List.singleton_append]
  have e1 : ((v.toNat % 1000000000 : Nat) : Int) = v % 1000000000 := by omega
  have e2 : v.toNat / 1000000000 = (v / 1000000000).toNat := by omega
  rw [e1, e2]
theorem GrpAt.done {V : Int} {gs : List Int} (h : GrpAt V gs 0) : gs = grp V.toNat := by
  have := h.2
  simp only [Int.toNat_zero, grp_zero, List.append_nil] at this
  exact this
theorem GrpAt.len {V v : Int} {gs : List Int} {k : Nat} (h : GrpAt V gs v) (hV : V.toNat < 1000000000 ^ k) : gs.length ≤ k := by
  have := grp_len k _ hV
  rw [← h.2, List.length_append] at this
  omega
theorem p_groups : (4294967296 : Int) ^ 24 < (1000000000 : Int) ^ 26 := by decide
theorem val_groups {xs : List Int} (hl : Lim xs) (h : xs.length ≤ 24) : (val xs).toNat < 1000000000 ^ 26 := by
  have h1 := val_lt hl
  have h2 := p_mono xs.length (24 - xs.length)
  rw [show xs.length + (24 - xs.length) = 24 by omega] at h2
  have h3 := p_groups
  have h4 := val_nonneg hl
  have h5 : val xs < (1000000000 : Int) ^ 26 := by omega
  have e : ((1000000000 ^ 26 : Nat) : Int) = (1000000000 : Int) ^ 26 := by decide
  have : ((val xs).toNat : Int) < ((1000000000 ^ 26 : Nat) : Int) := by rw [e]; omega
  exact Int.ofNat_lt.1 this

/-! ### The text -/
/-- The lowest k digits, noughts ahead. -/
def pad : Nat → Nat → List UInt8
  | 0, _ => []
  | k + 1, r => pad k (r / 10) ++ [UInt8.ofNat (48 + r % 10)]
theorem dec_pad : ∀ (k q r : Nat), 1 ≤ q → r < 10 ^ k → Lib.decDigits (q * 10 ^ k + r) = Lib.decDigits q ++ pad k r
  | 0, q, r, _, hr => by
    obtain rfl : r = 0 := by simpa using hr
    simp [pad]
  | k + 1, q, r, hq, hr => by
    have hp : 1 ≤ 10 ^ k := Nat.one_le_pow _ _ (by decide)
    have hr' : r / 10 < 10 ^ k := by rw [Nat.pow_succ] at hr; omega
    have e : q * 10 ^ (k + 1) = 10 * (q * 10 ^ k) := by rw [Nat.pow_succ, ← Nat.mul_assoc, Nat.mul_comm]
    have hge : 1 ≤ q * 10 ^ k := Nat.mul_pos hq hp
    have ih := dec_pad k q (r / 10) hq hr'
    rw [e]
    generalize q * 10 ^ k = m at *
    rw [Lib.decDigits, dif_neg (by omega), show (10 * m + r) / 10 = m + r / 10 by omega, show (10 * m + r) % 10 = r % 10 by omega, ih, pad, List.append_assoc]
theorem dec_step {q r : Nat} (hq : 1 ≤ q) (hr : r < 1000000000) : Lib.decDigits (q * 1000000000 + r) = Lib.decDigits q ++ (Lib.decDigits (1000000000 + r)).drop 1 := by
  have h1 := dec_pad 9 q r hq hr
  have h2 := dec_pad 9 1 r (Nat.le_refl _) hr
  have h3 : Lib.decDigits 1 = [49] := Lib.decDigits_one (by decide)
  rw [h3] at h2
  simp only [Nat.reducePow, Nat.one_mul] at h1 h2
  rw [h1, h2]
  rfl
theorem dec_digB (n : Nat) (h : 0 < n) : Lib.decDigits n = (digB n).reverse.map (fun x => UInt8.ofNat x.toNat) := by
  induction n using Nat.strongRecOn with
  | _ n ih =>
    by_cases h10 : n < 10
    · rw [Lib.decDigits_one h10, digB_pos h, show n / 10 = 0 by omega, digB_zero]
      simp only [List.reverse_cons, List.reverse_nil, List.nil_append, List.map_cons, List.map_nil, List.cons.injEq, and_true]
      congr 1
      omega
    · rw [Lib.decDigits, dif_neg h10, digB_pos h, ih (n / 10) (by omega) (by omega)]
      simp only [List.reverse_cons, List.map_append, List.map_cons, List.map_nil]
      congr 3
/-- The sign's bytes. -/
def sgB (g : Bool) : List UInt8 := if g then [45] else []
theorem numT_dec {g : Bool} {V : Nat} (h : 0 < V) : numT (sg g V) = ⟨(sgB g ++ Lib.decDigits V).toArray⟩ := by
  unfold numT numB strB sg sgB
  rw [dec_digB V h]
  cases g
  · simp only [Bool.false_eq_true, if_false]
    rw [if_neg (by omega), if_neg (by omega)]
    simp
  · simp only [if_true]
    rw [if_neg (by omega), if_pos (by omega), show (-(V : Int)).natAbs = V by omega]
    simp
/-- One group more. -/
theorem dec_group {V k : Nat} (h : 0 < V / 1000000000 ^ (k + 1)) : Lib.decDigits (V / 1000000000 ^ k) = Lib.decDigits (V / 1000000000 ^ (k + 1)) ++ (Lib.decDigits (1000000000 + V / 1000000000 ^ k % 1000000000)).drop 1 := by
  have e : V / 1000000000 ^ (k + 1) = V / 1000000000 ^ k / 1000000000 := by rw [Nat.pow_succ, Nat.div_div_eq_div_mul]
  rw [e] at h ⊢
  generalize V / 1000000000 ^ k = m at *
  rw [← dec_step (by omega) (Nat.mod_lt _ (by decide))]
  congr 1
  omega
end Go.Proofs.YtneilolpmjblhaaDoor
