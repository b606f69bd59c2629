import Derived.Test.YtccdihglpobnmaaDoorBase
import Derived.Test.YtccdihglpobnmaaDoorDigs
/- A text's bytes, the number of its digits; a tenth's inverse limb by limb. No program is named here. -/
namespace Go.Proofs.YtccdihglpobnmaaDoor
open Go.RowKit

/-- A text's bytes, as numbers. -/
def bl (s : ByteArray) : List Int := s.data.toList.map (fun b => (b.toNat : Int))
theorem bl_len (s : ByteArray) : (bl s).length = s.size := by simp [bl]
theorem bl_at {s : ByteArray} {k : Nat} (h : k < s.size) : (bl s)[k]?.getD 0 = (s[k].toNat : Int) := by
  have h' : k < s.data.toList.length := by simpa using h
  unfold bl
  rw [List.getElem?_map, List.getElem?_eq_getElem h']
  rfl
theorem bl_byte (s : ByteArray) (k : Nat) : 0 ≤ (bl s)[k]?.getD 0 ∧ (bl s)[k]?.getD 0 < 256 := by
  by_cases h : k < s.size
  · rw [bl_at h]
    have := s[k].toNat_lt
    omega
  · rw [List.getElem?_eq_none (by rw [bl_len]; omega)]
    simp
theorem bl_tail (s : ByteArray) : bl (s.extract 1 s.size) = (bl s).drop 1 := by
  unfold bl
  rw [ByteArray.data_extract, ← List.map_drop]
  congr 1
  rw [Array.toList_extract]
  simp only [List.extract]
  exact List.take_of_length_le (by simp)
theorem at_drop (ds : List Int) (k : Nat) : (ds.drop 1)[k]?.getD 0 = ds[k + 1]?.getD 0 := by rw [List.getElem?_drop, Nat.add_comm]

def isD (x : Int) : Bool := decide (48 ≤ x) && decide (x ≤ 57)
theorem isD_true {x : Int} (h : isD x = true) : 48 ≤ x ∧ x ≤ 57 := by
  unfold isD at h
  simpa using h
/-- The number of the first j digits. -/
def pv (ds : List Int) : Nat → Int
  | 0 => 0
  | j + 1 => pv ds j * 10 + (ds[j]?.getD 0 - 48)
/-- The first j are digits. -/
def dOk (ds : List Int) (j : Nat) : Bool := (ds.take j).all isD
theorem dOk_zero (ds : List Int) : dOk ds 0 = true := by simp [dOk]
theorem dOk_step {ds : List Int} {j : Nat} (h : dOk ds j = true) (hj : j < ds.length) (k : isD (ds[j]?.getD 0) = true) : dOk ds (j + 1) = true := by
  unfold dOk at *
  rw [List.take_succ_eq_append_getElem hj, List.all_append, h]
  rw [List.getElem?_eq_getElem hj] at k
  simpa using k
theorem dOk_all {ds : List Int} (h : dOk ds ds.length = true) : ds.all isD = true := by
  unfold dOk at h
  rwa [List.take_length] at h
theorem dOk_bad {ds : List Int} {j : Nat} (hj : j < ds.length) (k : isD (ds[j]?.getD 0) = false) : ds.all isD = false := by
  rw [List.all_eq_false]
  refine ⟨ds[j], List.getElem_mem hj, ?_⟩
  rw [List.getElem?_eq_getElem hj] at k
  simpa using k
theorem dOk_at {ds : List Int} {j i : Nat} (h : dOk ds j = true) (hi : i < j) (hj : j ≤ ds.length) : isD (ds[i]?.getD 0) = true := by
  unfold dOk at h
  rw [List.all_eq_true] at h
  have hl : i < (ds.take j).length := by simp; omega
  have := h (ds.take j)[i] (List.getElem_mem hl)
  rw [List.getElem_take] at this
  rw [List.getElem?_eq_getElem (by omega)]
  exact this
theorem pv_bound (ds : List Int) : ∀ j, j ≤ ds.length → dOk ds j = true → 0 ≤ pv ds j ∧ pv ds j < 10 ^ j
  | 0, _, _ => by simp [pv]
  | j + 1, hj, h => by
    have h1 : dOk ds j = true := by
      unfold dOk at *
      rw [List.take_succ_eq_append_getElem (by omega), List.all_append] at h
      simp only [Bool.and_eq_true] at h
      exact h.1
    obtain ⟨a, b⟩ := pv_bound ds j (by omega) h1
    obtain ⟨c, d⟩ := isD_true (dOk_at h (Nat.lt_succ_self j) hj)
    simp only [pv]
    rw [Int.pow_succ]
    omega
theorem pv_pos (ds : List Int) (h0 : ds[0]?.getD 0 ≠ 48) : ∀ j, 0 < j → j ≤ ds.length → dOk ds j = true → 0 < pv ds j
  | 0, h, _, _ => absurd h (Nat.lt_irrefl 0)
  | 1, _, hj, h => by
    obtain ⟨c, d⟩ := isD_true (dOk_at h (Nat.lt_succ_self 0) hj)
    simp only [pv]
    omega
  | j + 2, _, hj, h => by
    have h1 : dOk ds (j + 1) = true := by
      unfold dOk at *
      rw [List.take_succ_eq_append_getElem (by omega), List.all_append] at h
      simp only [Bool.and_eq_true] at h
      exact h.1
    have h2 := pv_pos ds h0 (j + 1) (by omega) (by omega) h1
    obtain ⟨c, d⟩ := isD_true (dOk_at h (Nat.lt_succ_self (j + 1)) hj)
    simp only [pv] at h2 ⊢
    omega
theorem pv_len {ds : List Int} {j : Nat} (hj : j ≤ ds.length) (h : dOk ds j = true) : pv ds j < 4294967296 ^ j := by
  have := (pv_bound ds j hj h).2
  have h2 : (10 : Int) ^ j ≤ 4294967296 ^ j := by
    have : ((10 ^ j : Nat) : Int) ≤ ((4294967296 ^ j : Nat) : Int) := by
      have := Nat.pow_le_pow_left (show 10 ≤ 4294967296 by decide) j
      omega
    simpa using this
  omega

/-- The sign, and the digits, of a text. -/
def mnB (s : ByteArray) : Bool := decide (0 < s.size) && decide ((bl s)[0]?.getD 0 = 45)
def pd (s : ByteArray) : List Int := if mnB s = true then (bl s).drop 1 else bl s
/-- Whether they are a number's. -/
def pOk (g : Bool) (ds : List Int) : Bool := decide (ds.length ≠ 0) && decide (ds.length ≤ 300) && ds.all isD && !(decide (ds[0]?.getD 0 = 48) && (g || decide (1 < ds.length)))
def pZ (g : Bool) (ds : List Int) : Int := if pOk g ds = true then sg g (pv ds ds.length) else 0
theorem pOk_bad {g : Bool} {ds : List Int} {j : Nat} (hj : j < ds.length) (k : isD (ds[j]?.getD 0) = false) : pOk g ds = false := by
  unfold pOk
  rw [dOk_bad hj k]
  simp
theorem pZ_bad {g : Bool} {ds : List Int} (h : pOk g ds = false) : pZ g ds = 0 := by unfold pZ; rw [h]; rfl

/-! ### Ten times, limb by limb -/
structure Tf (xs : List Int) (d : Int) (i : Nat) (m : Int) (zs : List Int) : Prop where
  le : i ≤ xs.length
  len : zs.length = xs.length
  high : zs.drop i = xs.drop i
  eq : val (zs.take i) + 4294967296 ^ i * m = 10 * val (xs.take i) + d
  m0 : 0 ≤ m
  m1 : m < 10
  lim : Lim zs
theorem Tf.start {xs : List Int} {d : Int} (h : Lim xs) (h0 : 0 ≤ d) (h1 : d < 10) : Tf xs d 0 d xs := ⟨Nat.zero_le _, rfl, rfl, by simp [val], h0, h1, h⟩
theorem Tf.get {xs zs : List Int} {d m : Int} {i : Nat} (h : Tf xs d i m zs) : zs[i]?.getD 0 = xs[i]?.getD 0 := by
  have e : (zs.drop i)[0]? = (xs.drop i)[0]? := by rw [h.high]
  rw [List.getElem?_drop, List.getElem?_drop] at e
  simp only [Nat.add_zero] at e
  rw [e]
theorem take_val {xs : List Int} {t : Nat} (h : t < xs.length) : val (xs.take (t + 1)) = val (xs.take t) + 4294967296 ^ t * (xs[t]?.getD 0) := by
  rw [List.take_succ_eq_append_getElem h, val_append, List.getElem?_eq_getElem h]
  have : (xs.take t).length = t := by simp; omega
  rw [this]
  simp [val]
theorem Tf.step {xs zs : List Int} {d m x : Int} {i : Nat} (h : Tf xs d i m zs) (hi : i < xs.length) (hx : xs[i]?.getD 0 = x) (hl : 0 ≤ x ∧ x < 4294967296) :
    Tf xs d (i + 1) ((m + x * 10) / 4294967296) (zs.set i ((m + x * 10) % 4294967296)) := by
  have hz : i < zs.length := by rw [h.len]; exact hi
  have m0 := h.m0
  have m1 := h.m1
  refine ⟨hi, by rw [List.length_set]; exact h.len, ?_, ?_, by omega, by omega, ?_⟩
  · rw [List.drop_set_of_lt (by omega)]
    have e : (zs.drop i).drop 1 = (xs.drop i).drop 1 := by rw [h.high]
    rw [List.drop_drop, List.drop_drop] at e
    exact e
  · rw [take_val hi, hx, take_val (xs := zs.set i _) (by rw [List.length_set]; exact hz)]
    rw [List.getElem?_set_self hz, List.take_set_of_le (Nat.le_refl _)]
    simp only [Option.getD_some]
    have e := h.eq
    rw [Int.pow_succ]
    have e2 : 4294967296 ^ i * ((m + x * 10) % 4294967296) + 4294967296 ^ i * 4294967296 * ((m + x * 10) / 4294967296) = 4294967296 ^ i * (m + x * 10) := by
      rw [Int.mul_assoc, ← Int.mul_add]
      congr 1
      omega
    have e3 : 4294967296 ^ i * (m + x * 10) = 4294967296 ^ i * m + 10 * (4294967296 ^ i * x) := by grind
    omega
  · intro y hy
    rcases List.mem_or_eq_of_mem_set hy with hy | rfl
    · exact h.lim y hy
    · omega
theorem Tf.done {xs zs : List Int} {d m : Int} (h : Tf xs d xs.length m zs) : val zs + 4294967296 ^ zs.length * m = 10 * val xs + d := by
  have e := h.eq
  rw [List.take_length] at e
  rw [List.take_of_length_le (Nat.le_of_eq h.len)] at e
  rw [h.len]
  exact e
end Go.Proofs.YtccdihglpobnmaaDoor

/- A number's text, read again: mathematics alone. -/
namespace Go.Proofs.YtccdihglpobnmaaDoor
open Go.RowKit

theorem bl_strB {ds : List Int} (h : ∀ x ∈ ds, 0 ≤ x ∧ x < 256) : bl (strB ds) = ds := by
  unfold bl strB
  simp only [List.map_map]
  have : ∀ x ∈ ds, ((fun b : UInt8 => (b.toNat : Int)) ∘ fun x : Int => UInt8.ofNat x.toNat) x = x := by
    intro x hx
    obtain ⟨h0, h1⟩ := h x hx
    simp only [Function.comp]
    rw [UInt8.toNat_ofNat_of_lt' (by simp [UInt8.size]; omega)]
    omega
  calc ds.map _ = ds.map id := List.map_congr_left (fun x hx => by simpa using this x hx)
    _ = ds := List.map_id ds
theorem pv_append (as bs : List Int) : ∀ j, j ≤ as.length → pv (as ++ bs) j = pv as j
  | 0, _ => rfl
  | j + 1, h => by
    simp only [pv]
    rw [pv_append as bs j (by omega), List.getElem?_append_left (by omega)]
theorem pv_snoc (as : List Int) (x : Int) : pv (as ++ [x]) (as ++ [x]).length = 10 * pv as as.length + (x - 48) := by
  rw [List.length_append, List.length_singleton]
  simp only [pv]
  rw [pv_append as [x] as.length (Nat.le_refl _)]
  simp
  omega
theorem pv_digB : ∀ n : Nat, pv (digB n).reverse (digB n).reverse.length = n := by
  intro n
  induction n using Nat.strongRecOn with
  | ind n ih =>
    rcases Nat.eq_zero_or_pos n with rfl | h
    · rw [digB_zero]; rfl
    · rw [digB_pos h, List.reverse_cons, pv_snoc, ih (n / 10) (by omega)]
      omega
theorem digB_isD (n : Nat) : (digB n).reverse.all isD = true := by
  rw [List.all_reverse, List.all_eq_true]
  intro x hx
  simp only [digB, List.mem_map] at hx
  obtain ⟨d, hd, rfl⟩ := hx
  have := digs_lt n d hd
  simp only [chr, isD, Bool.and_eq_true]
  exact ⟨decide_eq_true (by omega), decide_eq_true (by omega)⟩
theorem digB_head : ∀ n : Nat, 0 < n → (48 : Int) < ((digB n).reverse[0]?).getD (0 : Int) ∧ ((digB n).reverse[0]?).getD (0 : Int) ≤ 57 := by
  intro n
  induction n using Nat.strongRecOn with
  | ind n ih =>
    intro h
    rw [digB_pos h, List.reverse_cons]
    rcases Nat.eq_zero_or_pos (n / 10) with h0 | h1
    · rw [h0, digB_zero]
      simp only [List.reverse_nil, List.nil_append, List.getElem?_cons_zero, Option.getD_some]
      omega
    · have hl : 0 < (digB (n / 10)).reverse.length := by rw [List.length_reverse, digB_pos h1]; simp
      simp only [List.getElem?_append_left hl]
      exact ih (n / 10) (by omega) h1
theorem digB_pLen {n : Nat} (h : 0 < n) : (digB n).reverse.length ≠ 0 := by rw [List.length_reverse, digB_pos h]; simp
theorem pOk_digB {n : Nat} {g : Bool} (h : 0 < n) (hn : n < 10 ^ 232) : pOk g (digB n).reverse = true := by
  have h1 := digB_head n h
  have h2 := digB_pLen h
  have h3 : (digB n).reverse.length ≤ 232 := by rw [List.length_reverse]; exact digB_len hn
  unfold pOk
  rw [digB_isD, decide_eq_true h2, decide_eq_true (show (digB n).reverse.length ≤ 300 by omega), decide_eq_false (show ¬ (digB n).reverse[0]?.getD 0 = 48 by omega)]
  rfl
theorem parse_numT (z : Int) (hz : z.natAbs < 10 ^ 232) : pOk (mnB (numT z)) (pd (numT z)) = true ∧ pZ (mnB (numT z)) (pd (numT z)) = z ∧ (numT z).size ≤ 300 := by
  have hb : bl (numT z) = numB z := bl_strB (numB_byte z)
  have hs : (numT z).size = (numB z).length := by rw [← bl_len, hb]
  by_cases h0 : z = 0
  · subst h0
    have e : numB 0 = [48] := rfl
    rw [e] at hb hs
    have hm : mnB (numT 0) = false := by unfold mnB; rw [hb]; rfl
    have hd : pd (numT 0) = [48] := by unfold pd; rw [hm, hb]; rfl
    rw [hm, hd, hs]
    exact ⟨by decide, by decide, by decide⟩
  · have hp : 0 < z.natAbs := by omega
    have hh := digB_head z.natAbs hp
    have hl := digB_pLen hp
    have h3 : (digB z.natAbs).reverse.length ≤ 232 := by rw [List.length_reverse]; exact digB_len hz
    by_cases hn : z < 0
    · have e : numB z = 45 :: (digB z.natAbs).reverse := by unfold numB; rw [if_neg h0, if_pos hn]; simp
      rw [e] at hb hs
      have hm : mnB (numT z) = true := by unfold mnB; rw [hb, hs]; simp
      have hd : pd (numT z) = (digB z.natAbs).reverse := by unfold pd; rw [hm, hb]; rfl
      rw [hm, hd, hs]
      refine ⟨pOk_digB hp hz, ?_, by simp only [List.length_cons]; omega⟩
      unfold pZ
      rw [pOk_digB hp hz, if_pos rfl, pv_digB]
      simp only [sg, if_true]
      omega
    · have e : numB z = (digB z.natAbs).reverse := by unfold numB; rw [if_neg h0, if_neg hn]; simp
      rw [e] at hb hs
      have hm : mnB (numT z) = false := by unfold mnB; rw [hb, decide_eq_false (show ¬ (digB z.natAbs).reverse[0]?.getD 0 = 45 by omega)]; simp
      have hd : pd (numT z) = (digB z.natAbs).reverse := by unfold pd; rw [hm, hb]; rfl
      rw [hm, hd, hs]
      refine ⟨pOk_digB hp hz, ?_, by omega⟩
      unfold pZ
      rw [pOk_digB hp hz, if_pos rfl, pv_digB]
      simp [sg]
      omega
theorem nat_digits {z : Int} (h : -(4294967296 ^ 24) < z ∧ z < 4294967296 ^ 24) : z.natAbs < 10 ^ 232 := by
  have := p_digits
  have e : ((10 ^ 232 : Nat) : Int) = (10 : Int) ^ 232 := by simp
  omega
end Go.Proofs.YtccdihglpobnmaaDoor
