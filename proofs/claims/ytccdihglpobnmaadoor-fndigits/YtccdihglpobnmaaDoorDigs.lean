import Derived.Test.YtccdihglpobnmaaDoorBase
import Derived.Lib.ItoaNum
/- A number's digits, the lowest first; one limb after another divided by ten. No program is named here. -/
namespace Go.Proofs.YtccdihglpobnmaaDoor
open Go.RowKit

/-- The digits of a number, the lowest first; none of 0. -/
def digs (n : Nat) : List Nat := if h : n = 0 then [] else n % 10 :: digs (n / 10)
termination_by n
decreasing_by omega

theorem digs_zero : digs 0 = [] := by rw [digs]; simp
theorem digs_pos {n : Nat} (h : 0 < n) : digs n = n % 10 :: digs (n / 10) := by rw [digs, dif_neg (by omega)]
theorem digs_ne {n : Nat} (h : 0 < n) : digs n ≠ [] := by rw [digs_pos h]; simp
theorem digs_lt : ∀ (n : Nat), ∀ d ∈ digs n, d < 10 := by
  intro n
  induction n using Nat.strongRecOn with
  | _ n ih =>
    intro d hd
    rcases Nat.eq_zero_or_pos n with rfl | h
    · rw [digs_zero] at hd; cases hd
    · rw [digs_pos h] at hd
      rcases List.mem_cons.1 hd with rfl | hd
      · omega
      · exact ih (n / 10) (by omega) d hd
theorem digs_len : ∀ (k n : Nat), n < 10 ^ k → (digs n).length ≤ k := by
  intro k
  induction k with
  | zero => intro n h; obtain rfl : n = 0 := by simpa using h
            rw [digs_zero]; simp
  | succ k ih =>
    intro n h
    rcases Nat.eq_zero_or_pos n with rfl | h0
    · rw [digs_zero]; simp
    · rw [digs_pos h0, List.length_cons]
      have := ih (n / 10) (by rw [Nat.pow_succ] at h; omega)
      omega

/-- The byte of a digit. -/
def chr (d : Nat) : Int := 48 + d
/-- The bytes of a number's digits as whole numbers, the lowest first. -/
def digB (n : Nat) : List Int := (digs n).map chr
theorem digB_zero : digB 0 = [] := by simp [digB, digs_zero]
theorem digB_pos {n : Nat} (h : 0 < n) : digB n = (48 + ((n % 10 : Nat) : Int)) :: digB (n / 10) := by simp [digB, digs_pos h, chr]
theorem digB_byte (n : Nat) : ∀ x ∈ digB n, 0 ≤ x ∧ x < 256 := by
  intro x hx
  simp only [digB, List.mem_map] at hx
  obtain ⟨d, hd, rfl⟩ := hx
  have := digs_lt n d hd
  unfold chr; omega
theorem digB_len {k n : Nat} (h : n < 10 ^ k) : (digB n).length ≤ k := by simpa [digB] using digs_len k n h

/-- The text of a whole number, as bytes that are whole numbers. -/
def numB (z : Int) : List Int := if z = 0 then [48] else (digB z.natAbs ++ if z < 0 then [45] else []).reverse
/-- .. as bytes. -/
def strB (ds : List Int) : ByteArray := ⟨(ds.map (fun x : Int => UInt8.ofNat x.toNat)).toArray⟩
def numT (z : Int) : ByteArray := strB (numB z)
theorem numB_byte (z : Int) : ∀ x ∈ numB z, 0 ≤ x ∧ x < 256 := by
  intro x hx
  unfold numB at hx
  split at hx
  · simp at hx; omega
  · simp only [List.mem_reverse, List.mem_append] at hx
    rcases hx with hx | hx
    · exact digB_byte _ x hx
    · split at hx
      · simp at hx; omega
      · cases hx

/-! ### Divided by ten, limb by limb -/
/-- Of limbs xs those from place t on are divided by ten already: zs is what stands there, r the rest. -/
structure T10 (xs : List Int) (t : Nat) (r : Int) (zs : List Int) : Prop where
  le : t ≤ xs.length
  len : zs.length = xs.length
  low : zs.take t = xs.take t
  eq : val (zs.drop t) * 10 + r = val (xs.drop t)
  r0 : 0 ≤ r
  r1 : r < 10
  lim : Lim zs

theorem T10.start {xs : List Int} (h : Lim xs) : T10 xs xs.length 0 xs :=
  ⟨Nat.le_refl _, rfl, rfl, by simp [val], by decide, by decide, h⟩
theorem T10.get {xs zs : List Int} {t : Nat} {r : Int} (h : T10 xs (t + 1) r zs) : zs[t]?.getD 0 = xs[t]?.getD 0 := by
  have e : (zs.take (t + 1))[t]? = (xs.take (t + 1))[t]? := by rw [h.low]
  rw [List.getElem?_take, List.getElem?_take, if_pos (by omega), if_pos (by omega)] at e
  rw [e]
theorem drop_val {xs : List Int} {t : Nat} (h : t < xs.length) : val (xs.drop t) = xs[t]?.getD 0 + 4294967296 * val (xs.drop (t + 1)) := by
  rw [List.drop_eq_getElem_cons h, val, List.getElem?_eq_getElem h]; rfl
theorem T10.step {xs zs : List Int} {t : Nat} {r x : Int} (h : T10 xs (t + 1) r zs) (hx : xs[t]?.getD 0 = x) (hl : 0 ≤ x ∧ x < 4294967296) :
    T10 xs t ((r * 4294967296 + x) % 10) (zs.set t ((r * 4294967296 + x) / 10)) := by
  have ht : t < xs.length := h.le
  have hz : t < zs.length := by rw [h.len]; exact ht
  have hr0 := h.r0
  have hr1 := h.r1
  refine ⟨by omega, by rw [List.length_set]; exact h.len, ?_, ?_, by omega, by omega, ?_⟩
  · rw [List.take_set_of_le (Nat.le_refl _)]
    have e : (zs.take (t + 1)).take t = (xs.take (t + 1)).take t := by rw [h.low]
    rw [List.take_take, List.take_take, Nat.min_eq_left (by omega)] at e
    exact e
  · rw [drop_val (xs := xs) ht, hx, ← h.eq, drop_val (xs := zs.set t _) (by rw [List.length_set]; exact hz)]
    rw [List.getElem?_set_self (by exact hz), List.drop_set_of_lt (by omega)]
    simp only [Option.getD_some]
    omega
  · intro y hy
    rcases List.mem_or_eq_of_mem_set hy with hy | rfl
    · exact h.lim y hy
    · omega
theorem T10.done {xs zs : List Int} {r : Int} (h : T10 xs 0 r zs) : val zs = val xs / 10 ∧ r = val xs % 10 := by
  have e := h.eq
  have hr0 := h.r0
  have hr1 := h.r1
  simp only [List.drop_zero] at e
  omega

/-! ### The digits so far -/
/-- ds are the digits of V up to what is left, v. -/
def DigAt (V : Int) (ds : List Int) (v : Int) : Prop := 0 ≤ v ∧ ds ++ digB v.toNat = digB V.toNat
theorem DigAt.start {V : Int} (h : 0 ≤ V) : DigAt V [] V := ⟨h, by simp⟩
theorem DigAt.step {V v : Int} {ds : List Int} (h : DigAt V ds v) (h0 : 0 < v) : DigAt V (ds ++ [48 + v % 10]) (v / 10) := by
  refine ⟨by omega, ?_⟩
  rw [← h.2, List.append_assoc]
  congr 1
  rw [digB_pos (show 0 < v.toNat by omega)]
  simp only [List.singleton_append]
  have e1 : (48 + ((v.toNat % 10 : Nat) : Int)) = 48 + v % 10 := by omega
  have e2 : v.toNat / 10 = (v / 10).toNat := by omega
  rw [e1, e2]
theorem DigAt.done {V : Int} {ds : List Int} (h : DigAt V ds 0) : ds = digB V.toNat := by
  have := h.2
  simp only [Int.toNat_zero, digB_zero, List.append_nil] at this
  exact this
theorem DigAt.len {V v : Int} {ds : List Int} {k : Nat} (h : DigAt V ds v) (hV : V.toNat < 10 ^ k) : ds.length ≤ k := by
  have := digB_len hV
  rw [← h.2, List.length_append] at this
  omega

theorem p_digits : (4294967296 : Int) ^ 24 < (10 : Int) ^ 232 := by decide
theorem val_digits {xs : List Int} (hl : Lim xs) (h : xs.length ≤ 24) : (val xs).toNat < 10 ^ 232 := by
  have h1 := val_lt hl
  have h2 := p_mono xs.length (24 - xs.length)
  rw [show xs.length + (24 - xs.length) = 24 by omega] at h2
  have h3 := Int.lt_trans (Int.lt_of_lt_of_le h1 h2) p_digits
  have h4 : ((10 ^ 232 : Nat) : Int) = (10 : Int) ^ 232 := by simp
  rw [← h4] at h3
  generalize 10 ^ 232 = N at *
  omega

/-! ### Turned around in place -/
/-- The first k and the last k have changed places. -/
structure Flip (ds : List Int) (k : Nat) (zs : List Int) : Prop where
  len : zs.length = ds.length
  at' : ∀ i, i < ds.length → zs[i]?.getD 0 = if i < k ∨ ds.length - k ≤ i then ds[ds.length - 1 - i]?.getD 0 else ds[i]?.getD 0
theorem Flip.start (ds : List Int) : Flip ds 0 ds := ⟨rfl, fun i h => by rw [if_neg (by omega)]⟩
theorem set_at (zs : List Int) (j i : Nat) (v : Int) (h : j < zs.length) : (zs.set j v)[i]?.getD 0 = if i = j then v else zs[i]?.getD 0 := by
  rw [List.getElem?_set]
  by_cases e : j = i
  · subst e; simp [h]
  · rw [if_neg e, if_neg (Ne.symm e)]
theorem Flip.step {ds zs : List Int} {k : Nat} (h : Flip ds k zs) (hk : k < ds.length / 2) {x y : Int} (hx : zs[k]?.getD 0 = x) (hy : zs[ds.length - 1 - k]?.getD 0 = y) :
    Flip ds (k + 1) ((zs.set k y).set (ds.length - 1 - k) x) := by
  have hl := h.len
  refine ⟨by simp [hl], fun i hi => ?_⟩
  rw [set_at _ _ _ _ (by rw [List.length_set]; omega), set_at _ _ _ _ (by omega)]
  by_cases e1 : i = ds.length - 1 - k
  · rw [if_pos e1, if_pos (by omega), ← hx, h.at' k (by omega), if_neg (by omega)]
    congr 2; omega
  · rw [if_neg e1]
    by_cases e2 : i = k
    · rw [if_pos e2, if_pos (by omega), ← hy, h.at' _ (by omega), if_neg (by omega)]
      congr 2; omega
    · rw [if_neg e2, h.at' i hi]
      by_cases e3 : i < k ∨ ds.length - k ≤ i
      · rw [if_pos e3, if_pos (by omega)]
      · rw [if_neg e3, if_neg (by omega)]
theorem Flip.done {ds zs : List Int} {k : Nat} (h : Flip ds k zs) (hk : k = ds.length / 2) : zs = ds.reverse := by
  subst hk
  have hl := h.len
  refine List.ext_getElem (by simp [hl]) (fun i h1 h2 => ?_)
  have hi : i < ds.length := by omega
  have e := h.at' i hi
  rw [List.getElem?_eq_getElem h1] at e
  rw [List.getElem_reverse]
  simp only [Option.getD_some] at e
  rw [e]
  split
  · rw [List.getElem?_eq_getElem (by omega)]; rfl
  · have : i = ds.length - 1 - i := by omega
    rw [List.getElem?_eq_getElem hi]
    simp only [Option.getD_some]
    congr 1
end Go.Proofs.YtccdihglpobnmaaDoor

/- Groups of nine digits, the lowest first, and a number's text by its groups. No program is named here. -/
namespace Go.Proofs.YtccdihglpobnmaaDoor
open Go.RowKit

/-- The groups of nine digits of a number, the lowest first; none of 0. -/
def grp (n : Nat) : List Int := if h : n = 0 then [] else ((n % 1000000000 : Nat) : Int) :: grp (n / 1000000000)
termination_by n
decreasing_by omega

theorem grp_zero : grp 0 = [] := by rw [grp]; simp
theorem grp_pos {n : Nat} (h : 0 < n) : grp n = ((n % 1000000000 : Nat) : Int) :: grp (n / 1000000000) := by rw [grp, dif_neg (by omega)]
theorem grp_ne {n : Nat} (h : 0 < n) : grp n ≠ [] := by rw [grp_pos h]; simp
theorem grp_get : ∀ (i n : Nat), (grp n)[i]?.getD 0 = ((n / 1000000000 ^ i % 1000000000 : Nat) : Int)
  | 0, n => by
    rcases Nat.eq_zero_or_pos n with rfl | h
    · rw [grp_zero]; simp
    · rw [grp_pos h]; simp
  | i + 1, n => by
    rcases Nat.eq_zero_or_pos n with rfl | h
    · rw [grp_zero]; simp
    · rw [grp_pos h, List.getElem?_cons_succ, grp_get i, Nat.pow_succ, Nat.mul_comm, ← Nat.div_div_eq_div_mul]
theorem grp_len : ∀ (k n : Nat), n < 1000000000 ^ k → (grp n).length ≤ k := by
  intro k
  induction k with
  | zero => intro n h; obtain rfl : n = 0 := by simpa using h
            rw [grp_zero]; simp
  | succ k ih =>
    intro n h
    rcases Nat.eq_zero_or_pos n with rfl | h0
    · rw [grp_zero]; simp
    · rw [grp_pos h0, List.length_cons]
      have := ih (n / 1000000000) (by rw [Nat.pow_succ] at h; omega)
      omega
/-- The topmost group is the number without the groups below. -/
theorem grp_top (n : Nat) (h : 0 < n) : 0 < n / 1000000000 ^ ((grp n).length - 1) ∧ n / 1000000000 ^ ((grp n).length - 1) < 1000000000 := by
  induction n using Nat.strongRecOn with
  | _ n ih =>
    rcases Nat.eq_zero_or_pos (n / 1000000000) with h0 | h1
    · rw [grp_pos h, h0, grp_zero]
      simp
      omega
    · have t := ih _ (by omega) h1
      have hl : 0 < (grp (n / 1000000000)).length := List.length_pos_iff.2 (grp_ne h1)
      obtain ⟨k, hk⟩ : ∃ k, (grp (n / 1000000000)).length = k + 1 := ⟨(grp (n / 1000000000)).length - 1, by omega⟩
      rw [hk, Nat.add_sub_cancel] at t
      rw [grp_pos h, List.length_cons, Nat.add_sub_cancel, hk, Nat.pow_succ, Nat.mul_comm, ← Nat.div_div_eq_div_mul]
      exact t

/-- Groups taken off one after another. -/
def GrpAt (V : Int) (gs : List Int) (v : Int) : Prop := 0 ≤ v ∧ gs ++ grp v.toNat = grp V.toNat
theorem GrpAt.start {V : Int} (h : 0 ≤ V) : GrpAt V [] V := ⟨h, by simp⟩
theorem GrpAt.step {V v : Int} {gs : List Int} (h : GrpAt V gs v) (h0 : 0 < v) : GrpAt V (gs ++ [v % 1000000000]) (v / 1000000000) := by
  refine ⟨by omega, ?_⟩
  rw [← h.2, List.append_assoc]
  congr 1
  rw [grp_pos (show 0 < v.toNat by omega)]
  simp only [List.singleton_append]
  have e1 : ((v.toNat % 1000000000 : Nat) : Int) = v % 1000000000 := by omega
  have e2 : v.toNat / 1000000000 = (v / 1000000000).toNat := by omega
  rw [e1, e2]
theorem GrpAt.done {V : Int} {gs : List Int} (h : GrpAt V gs 0) : gs = grp V.toNat := by
  have := h.2
  simp only [Int.toNat_zero, grp_zero, List.append_nil] at this
  exact this
theorem GrpAt.len {V v : Int} {gs : List Int} {k : Nat} (h : GrpAt V gs v) (hV : V.toNat < 1000000000 ^ k) : gs.length ≤ k := by
  have := grp_len k _ hV
  rw [← h.2, List.length_append] at this
  omega
theorem p_groups : (4294967296 : Int) ^ 24 < (1000000000 : Int) ^ 26 := by decide
theorem val_groups {xs : List Int} (hl : Lim xs) (h : xs.length ≤ 24) : (val xs).toNat < 1000000000 ^ 26 := by
  have h1 := val_lt hl
  have h2 := p_mono xs.length (24 - xs.length)
  rw [show xs.length + (24 - xs.length) = 24 by omega] at h2
  have h3 := p_groups
  have h4 := val_nonneg hl
  have h5 : val xs < (1000000000 : Int) ^ 26 := by omega
  have e : ((1000000000 ^ 26 : Nat) : Int) = (1000000000 : Int) ^ 26 := by decide
  have : ((val xs).toNat : Int) < ((1000000000 ^ 26 : Nat) : Int) := by rw [e]; omega
  exact Int.ofNat_lt.1 this

/-! ### The text -/
/-- The lowest k digits, noughts ahead. -/
def pad : Nat → Nat → List UInt8
  | 0, _ => []
  | k + 1, r => pad k (r / 10) ++ [UInt8.ofNat (48 + r % 10)]
theorem dec_pad : ∀ (k q r : Nat), 1 ≤ q → r < 10 ^ k → Lib.decDigits (q * 10 ^ k + r) = Lib.decDigits q ++ pad k r
  | 0, q, r, _, hr => by
    obtain rfl : r = 0 := by simpa using hr
    simp [pad]
  | k + 1, q, r, hq, hr => by
    have hp : 1 ≤ 10 ^ k := Nat.one_le_pow _ _ (by decide)
    have hr' : r / 10 < 10 ^ k := by rw [Nat.pow_succ] at hr; omega
    have e : q * 10 ^ (k + 1) = 10 * (q * 10 ^ k) := by rw [Nat.pow_succ, ← Nat.mul_assoc, Nat.mul_comm]
    have hge : 1 ≤ q * 10 ^ k := Nat.mul_pos hq hp
    have ih := dec_pad k q (r / 10) hq hr'
    rw [e]
    generalize q * 10 ^ k = m at *
    rw [Lib.decDigits, dif_neg (by omega), show (10 * m + r) / 10 = m + r / 10 by omega, show (10 * m + r) % 10 = r % 10 by omega, ih, pad, List.append_assoc]
theorem dec_step {q r : Nat} (hq : 1 ≤ q) (hr : r < 1000000000) : Lib.decDigits (q * 1000000000 + r) = Lib.decDigits q ++ (Lib.decDigits (1000000000 + r)).drop 1 := by
  have h1 := dec_pad 9 q r hq hr
  have h2 := dec_pad 9 1 r (Nat.le_refl _) hr
  have h3 : Lib.decDigits 1 = [49] := Lib.decDigits_one (by decide)
  rw [h3] at h2
  simp only [Nat.reducePow, Nat.one_mul] at h1 h2
  rw [h1, h2]
  rfl
theorem dec_digB (n : Nat) (h : 0 < n) : Lib.decDigits n = (digB n).reverse.map (fun x => UInt8.ofNat x.toNat) := by
  induction n using Nat.strongRecOn with
  | _ n ih =>
    by_cases h10 : n < 10
    · rw [Lib.decDigits_one h10, digB_pos h, show n / 10 = 0 by omega, digB_zero]
      simp only [List.reverse_cons, List.reverse_nil, List.nil_append, List.map_cons, List.map_nil, List.cons.injEq, and_true]
      congr 1
      omega
    · rw [Lib.decDigits, dif_neg h10, digB_pos h, ih (n / 10) (by omega) (by omega)]
      simp only [List.reverse_cons, List.map_append, List.map_cons, List.map_nil]
      congr 3
/-- The sign's bytes. -/
def sgB (g : Bool) : List UInt8 := if g then [45] else []
theorem numT_dec {g : Bool} {V : Nat} (h : 0 < V) : numT (sg g V) = ⟨(sgB g ++ Lib.decDigits V).toArray⟩ := by
  unfold numT numB strB sg sgB
  rw [dec_digB V h]
  cases g
  · simp only [Bool.false_eq_true, if_false]
    rw [if_neg (by omega), if_neg (by omega)]
    simp
  · simp only [if_true]
    rw [if_neg (by omega), if_pos (by omega), show (-(V : Int)).natAbs = V by omega]
    simp
/-- One group more. -/
theorem dec_group {V k : Nat} (h : 0 < V / 1000000000 ^ (k + 1)) : Lib.decDigits (V / 1000000000 ^ k) = Lib.decDigits (V / 1000000000 ^ (k + 1)) ++ (Lib.decDigits (1000000000 + V / 1000000000 ^ k % 1000000000)).drop 1 := by
  have e : V / 1000000000 ^ (k + 1) = V / 1000000000 ^ k / 1000000000 := by rw [Nat.pow_succ, Nat.div_div_eq_div_mul]
  rw [e] at h ⊢
  generalize V / 1000000000 ^ k = m at *
  rw [← dec_step (by omega) (Nat.mod_lt _ (by decide))]
  congr 1
  omega
end Go.Proofs.YtccdihglpobnmaaDoor
