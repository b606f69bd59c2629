import Derived.Test.YthafhfdhahbdoaaProg
import Derived.Test.YthafhfdhahbdoaaBase
import Derived.WalkKit
import Derived.WalkSpells
import Derived.WalkLawsBesides
import Derived.BigQuiet
import Derived.Deep.QuietTactic
import Derived.Laws.AppendOwnNone
import Derived.Laws.CopyOwn
import Derived.Maps.AppendAt
import Derived.Laws.IdiomStrings
import Derived.Deep.LoopGhost
/- The laws' helpers on slices of limbs: two that read the same are told to be equal; marking a slice and asking for the marks. -/
namespace Go.Proofs.Ythafhfdhahbdoaa
open Go.RowKit

end Go.Proofs.Ythafhfdhahbdoaa

/- The laws' helpers on numbers: their copies, their sizes, whether two are equal, their marks. -/
namespace Go.Proofs.Ythafhfdhahbdoaa
open Go.RowKit

theorem infoU : (Try.prog.info? 141).map (fun i => (i.zero, i.size, i.bytes)) = some (some (.int .u32 0), 1, 4) := by kernel_rfl

end Go.Proofs.Ythafhfdhahbdoaa

/- The specification's l1Num: noughts on top are cut off, what is left is copied. -/
namespace Go.Proofs.Ythafhfdhahbdoaa
open Go.RowKit

end Go.Proofs.Ythafhfdhahbdoaa

/- Limb by limb: the arithmetic of sums, of differences, of comparing. No program is named here. -/
namespace Go.Proofs.Ythafhfdhahbdoaa
open Go.RowKit

theorem val_snoc (ws : List Int) (x : Int) : val (ws ++ [x]) = val ws + 4294967296 ^ ws.length * x := by
  rw [val_append]; simp [val]
theorem val_take_succ (xs : List Int) (j : Nat) : val (xs.take (j + 1)) = val (xs.take j) + 4294967296 ^ j * (xs[j]?.getD 0) := by
  by_cases h : j < xs.length
  · rw [List.take_succ_eq_append_getElem h, val_snoc, List.getElem?_eq_getElem h]
    have : (xs.take j).length = j := by simp; omega
    rw [this]; rfl
  · rw [List.take_of_length_le (by omega), List.take_of_length_le (by omega), List.getElem?_eq_none (by omega)]
    simp
theorem digit_step (P t : Int) : P * (t % 4294967296) + P * 4294967296 * (t / 4294967296) = P * t := by
  rw [Int.mul_assoc, ← Int.mul_add, Int.add_comm, Int.mul_ediv_add_emod]
theorem Lim.snoc {ws : List Int} (h : Lim ws) {x : Int} (hx : 0 ≤ x ∧ x < 4294967296) : Lim (ws ++ [x]) := h.append (Lim.mk hx Lim.nil)
theorem row_step {ws us : List Int} {j : Nat} (hw : ws.length = j) (hj : j < us.length) (x : Int) : (ws ++ us.drop j).set j x = (ws ++ [x]) ++ us.drop (j + 1) := by
  rw [List.set_append, if_neg (by omega), hw, Nat.sub_self, List.append_assoc, List.drop_eq_getElem_cons hj, List.set_cons_zero]
  rfl
theorem row_length {ws us : List Int} {j : Nat} (hw : ws.length = j) (hj : j ≤ us.length) : (ws ++ us.drop j).length = us.length := by simp; omega
theorem row_get {ws us : List Int} {j : Nat} (hw : ws.length = j) (_hj : j < us.length) : (ws ++ us.drop j)[j]?.getD 0 = us[j]?.getD 0 := by
  rw [List.getElem?_append_right (by omega), hw, Nat.sub_self, List.getElem?_drop, Nat.add_zero]

/-- One limb of a sum. -/
theorem add_round {ws us ys : List Int} {j : Nat} {cr : Int} (hw : ws.length = j) (h : val ws + 4294967296 ^ j * cr = val (us.take j) + val (ys.take j)) :
    val (ws ++ [(cr + us[j]?.getD 0 + ys[j]?.getD 0) % 4294967296]) + 4294967296 ^ (j + 1) * ((cr + us[j]?.getD 0 + ys[j]?.getD 0) / 4294967296) = val (us.take (j + 1)) + val (ys.take (j + 1)) := by
  rw [val_snoc, hw, val_take_succ, val_take_succ, Int.pow_succ]
  have := digit_step (4294967296 ^ j) (cr + us[j]?.getD 0 + ys[j]?.getD 0)
  rw [Int.mul_add, Int.mul_add] at this
  omega

/-- One limb of a difference: so often as 't' says. -/
theorem sub_round {ws us ys : List Int} {j : Nat} {ow t x : Int} (hw : ws.length = j) (h : val ws - 4294967296 ^ j * ow = val (us.take j) - t * val (ys.take j))
    {q : Int} (hx : x - 4294967296 * q = us[j]?.getD 0 - (ow + t * (ys[j]?.getD 0))) :
    val (ws ++ [x]) - 4294967296 ^ (j + 1) * q = val (us.take (j + 1)) - t * val (ys.take (j + 1)) := by
  rw [val_snoc, hw, val_take_succ, val_take_succ, Int.pow_succ]
  have e1 : (4294967296 : Int) ^ j * (x - 4294967296 * q) = 4294967296 ^ j * (us[j]?.getD 0 - (ow + t * (ys[j]?.getD 0))) := by rw [hx]
  rw [Int.mul_sub, Int.mul_sub, Int.mul_add, ← Int.mul_assoc, ← Int.mul_assoc] at e1
  rw [Int.mul_add, ← Int.mul_assoc t, Int.mul_comm t (4294967296 ^ j)]
  omega

theorem Own.of_heap {w : World} {base g : Nat} {e : TypeId} {xs : List Int} (h : w.heap[g]? = some (.cells (xs.map (Value.int .u32)).toArray e (0, 0))) (hl : Lim xs) (hm : xs.length ≤ maxLen) (hb : base ≤ g) :
    Own base w (some ⟨g, 0, none⟩) xs.length xs :=
  (Own.of_row (n := xs.length) ⟨by simp, .inr ⟨g, xs.length, _, rfl, hb, h, Nat.le_refl _, hm, by simp, by simp [List.take_of_length_le]⟩⟩ hl).1
theorem heap_of_made {w : World} {base e g n : Nat} {z : Value} (h : w.ownsRow base e 1 (.slice (some ⟨g, 0, none⟩) n n) n (List.replicate n z)) : w.heap[g]? = some (.cells (List.replicate n z).toArray e (0, 0)) := by
  obtain ⟨_, h2⟩ := h
  rcases h2 with ⟨h2, _⟩ | ⟨g', cap', cur, hv, hb, hh, hc, hm, hs, ht⟩
  · cases h2
  simp only [Value.slice.injEq, Option.some.injEq, Addr.mk.injEq, and_true] at hv
  obtain ⟨rfl, _, rfl⟩ := hv
  rw [hh]
  have : cur.toList = List.replicate n z := by
    rw [← ht, List.take_of_length_le]
    simpa using Nat.le_of_eq hs
  rw [← this]
/-- A copy laid over noughts. -/
theorem splice_front (xs : List Int) (n : Nat) (_h : xs.length ≤ n) : splice (List.replicate n (Value.int .u32 0)) 0 (xs.map (Value.int .u32)) = (xs ++ List.replicate (n - xs.length) 0).map (Value.int .u32) := by
  simp [splice, List.map_append, List.drop_replicate]
theorem val_zeros (n : Nat) : val (List.replicate n 0) = 0 := by
  induction n with
  | zero => rfl
  | succ n ih => simp [List.replicate_succ, val, ih]

/-! ### Comparing -/
/-- -1, 0 or 1. -/
def cmpZ (a b : Int) : Int := if a < b then -1 else if a = b then 0 else 1
theorem cmp_at {xs ys : List Int} {j : Nat} (hx : Lim xs) (hy : Lim ys) (hl : xs.length = ys.length) (hj : j < xs.length) (he : xs.drop (j + 1) = ys.drop (j + 1)) (hlt : xs[j]?.getD 0 < ys[j]?.getD 0) : val xs < val ys := by
  have e1 : val xs = val (xs.take (j + 1)) + 4294967296 ^ (j + 1) * val (xs.drop (j + 1)) := by
    have := val_append (xs.take (j + 1)) (xs.drop (j + 1))
    rw [List.take_append_drop] at this
    rw [this, List.length_take, Nat.min_eq_left (by omega)]
  have e2 : val ys = val (ys.take (j + 1)) + 4294967296 ^ (j + 1) * val (xs.drop (j + 1)) := by
    have := val_append (ys.take (j + 1)) (ys.drop (j + 1))
    rw [List.take_append_drop] at this
    rw [this, List.length_take, Nat.min_eq_left (by omega), he]
  rw [val_take_succ] at e1 e2
  have b1 := val_lt (hx.take j)
  have b2 := val_nonneg (hy.take j)
  rw [List.length_take, Nat.min_eq_left (by omega)] at b1
  have hp := p_pos j
  have hm : (4294967296 : Int) ^ j * (xs[j]?.getD 0 + 1) ≤ 4294967296 ^ j * (ys[j]?.getD 0) := Int.mul_le_mul_of_nonneg_left (by omega) (Int.le_of_lt hp)
  rw [Int.mul_add, Int.mul_one] at hm
  omega
theorem cmp_len {xs ys : List Int} (hx : Lim xs) (hy : Lim ys) (ny : Nrm ys) (hl : xs.length < ys.length) : val xs < val ys := by
  have hne : ys ≠ [] := by intro e; simp [e] at hl
  have h1 := val_lt hx
  have h2 := val_ge hy ny hne
  have h3 := p_mono xs.length (ys.length - 1 - xs.length)
  rw [show xs.length + (ys.length - 1 - xs.length) = ys.length - 1 by omega] at h3
  omega
theorem drop_step {xs ys : List Int} {j : Nat} (hl : xs.length = ys.length) (he : xs.drop (j + 1) = ys.drop (j + 1)) (h : xs[j]?.getD 0 = ys[j]?.getD 0) : xs.drop j = ys.drop j := by
  by_cases hj : j < xs.length
  · have hj' : j < ys.length := by omega
    rw [List.drop_eq_getElem_cons hj, List.drop_eq_getElem_cons hj', he]
    rw [List.getElem?_eq_getElem hj, List.getElem?_eq_getElem hj'] at h
    simp only [Option.getD_some] at h
    rw [h]
  · rw [List.drop_eq_nil_of_le (by omega), List.drop_eq_nil_of_le (by omega)]

end Go.Proofs.Ythafhfdhahbdoaa

/- The specification's sums, differences and comparing of limbs: l1AddMag, l1SubMag, l1CmpMag. -/
namespace Go.Proofs.Ythafhfdhahbdoaa
open Go.RowKit

theorem one_new (w : World) (e : TypeId) (y : Int) : ∀ j u, ([y].map (Value.int .u32))[j]? = some u → (w.alloc (.cells #[.int .u32 y] e)).cell? ((⟨w.heap.size, 0, none⟩ : Addr).add j) = some u := by
  intro j u hu
  cases j with
  | zero =>
    simp at hu
    subst hu
    exact cell_new w #[.int .u32 y] e 0 rfl
  | succ j => simp at hu

theorem ownsRow_snoc {w : World} {base e n : Nat} {v : Value} {ws : List Int} {y : Int} (h : w.ownsRow base e 1 v n (ws.map (Value.int .u32) ++ [y].map (Value.int .u32))) : w.ownsRow base e 1 v n ((ws ++ [y]).map (Value.int .u32)) := by
  rw [List.map_append]; exact h

theorem Own.of_owns {w : World} {base e n : Nat} {v : Value} {xs : List Int} (h : w.ownsRow base e 1 v n (xs.map (Value.int .u32))) (hl : Lim xs) :
    ∃ a cap, v = .slice a xs.length cap ∧ Own base w a cap xs := by
  rcases Nat.eq_zero_or_pos n with h0 | h0
  · have h1 : xs.length = 0 := by have := h.1; simp at this; omega
    obtain rfl : xs = [] := List.eq_nil_of_length_eq_zero h1
    rcases h.2 with ⟨rfl, _⟩ | ⟨g, cap, cur, rfl, _, _, _, hm, _⟩
    · exact ⟨none, 0, rfl, Own.nil _ _⟩
    · subst h0
      exact ⟨_, cap, rfl, ⟨⟨Lim.nil, by simp, hm, fun h => absurd rfl h⟩, .inr ⟨_, _, rfl⟩⟩, fun _ _ _ h => absurd rfl h⟩
  · obtain ⟨g, cap, hv, ho⟩ := Own.of_append h hl h0
    exact ⟨_, cap, hv, ho⟩

end Go.Proofs.Ythafhfdhahbdoaa

/- Which numbers are right: the program's NumOk and the specification's. -/
namespace Go.Proofs.Ythafhfdhahbdoaa
open Go.RowKit

/-- Right, by a number's sign and its limbs. -/
def okB (g : Bool) (xs : List Int) : Bool := if xs.length = 0 then !g else decide (xs.length ≤ 24) && (xs[xs.length - 1]?.getD 0 != 0)

theorem Sees.last {w : World} {a : Option Addr} {c : Nat} {xs : List Int} (h : Sees w a c xs) (hn : ¬ xs.length = 0) :
    ∃ b off, a = some ⟨b, off, none⟩ ∧ b < w.heap.size ∧ w.cell? ⟨b, off + (xs.length - 1), none⟩ = some (.int .u32 (xs[xs.length - 1]?.getD 0)) := by
  have hne : xs ≠ [] := by intro e; simp [e] at hn
  obtain ⟨b, off, ha, hc⟩ := h.cells hne
  exact ⟨b, off, ha, h.lt ha hne, hc _ (by omega)⟩

end Go.Proofs.Ythafhfdhahbdoaa

/- What a number is taken as: impl.taken, spec.l1Mag. -/
namespace Go.Proofs.Ythafhfdhahbdoaa
open Go.RowKit

/-- The sign, and the limbs, that are taken. -/
def tkG (g : Bool) (xs : List Int) : Bool := okB g xs && g
def tkL (g : Bool) (xs : List Int) : List Int := if okB g xs = true then xs else []
/-- The number that is taken. -/
def tk (g : Bool) (xs : List Int) : Int := sg (tkG g xs) (val (tkL g xs))

theorem tk_facts (g : Bool) (xs : List Int) (hl : Lim xs) : Lim (tkL g xs) ∧ Nrm (tkL g xs) ∧ (tkL g xs).length ≤ 24 ∧ (tkL g xs = [] → tkG g xs = false) := by
  unfold tkL tkG
  by_cases hk : okB g xs = true
  · rw [if_pos hk, hk]
    unfold okB at hk
    by_cases h0 : xs.length = 0
    · rw [if_pos h0] at hk
      obtain rfl : xs = [] := List.eq_nil_of_length_eq_zero h0
      exact ⟨Lim.nil, trivial, by simp, fun _ => by simpa using hk⟩
    · rw [if_neg h0] at hk
      simp only [Bool.and_eq_true, decide_eq_true_eq, bne_iff_ne] at hk
      refine ⟨hl, ?_, hk.1, fun e => absurd (by simp [e]) h0⟩
      have := Nrm_take (xs := xs) (j := xs.length) (by omega) (Nat.le_refl _) hk.2
      rwa [List.take_length] at this
  · rw [if_neg hk]
    have : okB g xs = false := by simpa using hk
    rw [this]
    exact ⟨Lim.nil, trivial, by simp, fun _ => rfl⟩

end Go.Proofs.Ythafhfdhahbdoaa

/- A number's digits, the lowest first; one limb after another divided by ten. No program is named here. -/
namespace Go.Proofs.Ythafhfdhahbdoaa
open Go.RowKit

/-- The digits of a number, the lowest first; none of 0. -/
def digs (n : Nat) : List Nat := if h : n = 0 then [] else n % 10 :: digs (n / 10)
termination_by n
decreasing_by omega

theorem digs_zero : digs 0 = [] := by rw [digs]; simp
theorem digs_pos {n : Nat} (h : 0 < n) : digs n = n % 10 :: digs (n / 10) := by rw [digs, dif_neg (by omega)]
theorem digs_ne {n : Nat} (h : 0 < n) : digs n ≠ [] := by rw [digs_pos h]; simp
theorem digs_lt : ∀ (n : Nat), ∀ d ∈ digs n, d < 10 := by
  intro n
  induction n using Nat.strongRecOn with
  | _ n ih =>
    intro d hd
    rcases Nat.eq_zero_or_pos n with rfl | h
    · rw [digs_zero] at hd; cases hd
    · rw [digs_pos h] at hd
      rcases List.mem_cons.1 hd with rfl | hd
      · omega
      · exact ih (n / 10) (by omega) d hd
theorem digs_len : ∀ (k n : Nat), n < 10 ^ k → (digs n).length ≤ k := by
  intro k
  induction k with
  | zero => intro n h; obtain rfl : n = 0 := by simpa using h
            rw [digs_zero]; simp
  | succ k ih =>
    intro n h
    rcases Nat.eq_zero_or_pos n with rfl | h0
    · rw [digs_zero]; simp
    · rw [digs_pos h0, List.length_cons]
      have := ih (n / 10) (by rw [Nat.pow_succ] at h; omega)
      omega

/-- The byte of a digit. -/
def chr (d : Nat) : Int := 48 + d
/-- The bytes of a number's digits as whole numbers, the lowest first. -/
def digB (n : Nat) : List Int := (digs n).map chr
theorem digB_zero : digB 0 = [] := by simp [digB, digs_zero]
theorem digB_pos {n : Nat} (h : 0 < n) : digB n = (48 + ((n % 10 : Nat) : Int)) :: digB (n / 10) := by simp [digB, digs_pos h, chr]
theorem digB_byte (n : Nat) : ∀ x ∈ digB n, 0 ≤ x ∧ x < 256 := by
  intro x hx
  simp only [digB, List.mem_map] at hx
  obtain ⟨d, hd, rfl⟩ := hx
  have := digs_lt n d hd
  unfold chr; omega
theorem digB_len {k n : Nat} (h : n < 10 ^ k) : (digB n).length ≤ k := by simpa [digB] using digs_len k n h

/-- The text of a whole number, as bytes that are whole numbers. -/
def numB (z : Int) : List Int := if z = 0 then [48] else (digB z.natAbs ++ if z < 0 then [45] else []).reverse
/-- .. as bytes. -/
def strB (ds : List Int) : ByteArray := ⟨(ds.map (fun x : Int => UInt8.ofNat x.toNat)).toArray⟩
def numT (z : Int) : ByteArray := strB (numB z)
theorem numB_byte (z : Int) : ∀ x ∈ numB z, 0 ≤ x ∧ x < 256 := by
  intro x hx
  unfold numB at hx
  split at hx
  · simp at hx; omega
  · simp only [List.mem_reverse, List.mem_append] at hx
    rcases hx with hx | hx
    · exact digB_byte _ x hx
    · split at hx
      · simp at hx; omega
      · cases hx

/-! ### Divided by ten, limb by limb -/
/-- Of limbs xs those from place t on are divided by ten already: zs is what stands there, r the rest. -/
structure T10 (xs : List Int) (t : Nat) (r : Int) (zs : List Int) : Prop where
  le : t ≤ xs.length
  len : zs.length = xs.length
  low : zs.take t = xs.take t
  eq : val (zs.drop t) * 10 + r = val (xs.drop t)
  r0 : 0 ≤ r
  r1 : r < 10
  lim : Lim zs

theorem T10.start {xs : List Int} (h : Lim xs) : T10 xs xs.length 0 xs :=
  ⟨Nat.le_refl _, rfl, rfl, by simp [val], by decide, by decide, h⟩
theorem T10.get {xs zs : List Int} {t : Nat} {r : Int} (h : T10 xs (t + 1) r zs) : zs[t]?.getD 0 = xs[t]?.getD 0 := by
  have e : (zs.take (t + 1))[t]? = (xs.take (t + 1))[t]? := by rw [h.low]
  rw [List.getElem?_take, List.getElem?_take, if_pos (by omega), if_pos (by omega)] at e
  rw [e]
theorem drop_val {xs : List Int} {t : Nat} (h : t < xs.length) : val (xs.drop t) = xs[t]?.getD 0 + 4294967296 * val (xs.drop (t + 1)) := by
  rw [List.drop_eq_getElem_cons h, val, List.getElem?_eq_getElem h]; rfl
theorem T10.step {xs zs : List Int} {t : Nat} {r x : Int} (h : T10 xs (t + 1) r zs) (hx : xs[t]?.getD 0 = x) (hl : 0 ≤ x ∧ x < 4294967296) :
    T10 xs t ((r * 4294967296 + x) % 10) (zs.set t ((r * 4294967296 + x) / 10)) := by
  have ht : t < xs.length := h.le
  have hz : t < zs.length := by rw [h.len]; exact ht
  have hr0 := h.r0
  have hr1 := h.r1
  refine ⟨by omega, by rw [List.length_set]; exact h.len, ?_, ?_, by omega, by omega, ?_⟩
  · rw [List.take_set_of_le (Nat.le_refl _)]
    have e : (zs.take (t + 1)).take t = (xs.take (t + 1)).take t := by rw [h.low]
    rw [List.take_take, List.take_take, Nat.min_eq_left (by omega)] at e
    exact e
  · rw [drop_val (xs := xs) ht, hx, ← h.eq, drop_val (xs := zs.set t _) (by rw [List.length_set]; exact hz)]
    rw [List.getElem?_set_self (by exact hz), List.drop_set_of_lt (by omega)]
    simp only [Option.getD_some]
    omega
  · intro y hy
    rcases List.mem_or_eq_of_mem_set hy with hy | rfl
    · exact h.lim y hy
    · omega
theorem T10.done {xs zs : List Int} {r : Int} (h : T10 xs 0 r zs) : val zs = val xs / 10 ∧ r = val xs % 10 := by
  have e := h.eq
  have hr0 := h.r0
  have hr1 := h.r1
  simp only [List.drop_zero] at e
  omega

/-! ### The digits so far -/
/-- ds are the digits of V up to what is left, v. -/
def DigAt (V : Int) (ds : List Int) (v : Int) : Prop := 0 ≤ v ∧ ds ++ digB v.toNat = digB V.toNat
theorem DigAt.start {V : Int} (h : 0 ≤ V) : DigAt V [] V := ⟨h, by simp⟩
theorem DigAt.step {V v : Int} {ds : List Int} (h : DigAt V ds v) (h0 : 0 < v) : DigAt V (ds ++ [48 + v % 10]) (v / 10) := by
  refine ⟨by omega, ?_⟩
  rw [← h.2, List.append_assoc]
  congr 1
  rw [digB_pos (show 0 < v.toNat by omega)]
  simp only [List.singleton_append]
  have e1 : (48 + ((v.toNat % 10 : Nat) : Int)) = 48 + v % 10 := by omega
  have e2 : v.toNat / 10 = (v / 10).toNat := by omega
  rw [e1, e2]
theorem DigAt.done {V : Int} {ds : List Int} (h : DigAt V ds 0) : ds = digB V.toNat := by
  have := h.2
  simp only [Int.toNat_zero, digB_zero, List.append_nil] at this
  exact this
theorem DigAt.len {V v : Int} {ds : List Int} {k : Nat} (h : DigAt V ds v) (hV : V.toNat < 10 ^ k) : ds.length ≤ k := by
  have := digB_len hV
  rw [← h.2, List.length_append] at this
  omega

theorem p_digits : (4294967296 : Int) ^ 24 < (10 : Int) ^ 232 := by decide
theorem val_digits {xs : List Int} (hl : Lim xs) (h : xs.length ≤ 24) : (val xs).toNat < 10 ^ 232 := by
  have h1 := val_lt hl
  have h2 := p_mono xs.length (24 - xs.length)
  rw [show xs.length + (24 - xs.length) = 24 by omega] at h2
  have h3 := Int.lt_trans (Int.lt_of_lt_of_le h1 h2) p_digits
  have h4 : ((10 ^ 232 : Nat) : Int) = (10 : Int) ^ 232 := by simp
  rw [← h4] at h3
  generalize 10 ^ 232 = N at *
  omega

/-! ### Turned around in place -/
/-- The first k and the last k have changed places. -/
structure Flip (ds : List Int) (k : Nat) (zs : List Int) : Prop where
  len : zs.length = ds.length
  at' : ∀ i, i < ds.length → zs[i]?.getD 0 = if i < k ∨ ds.length - k ≤ i then ds[ds.length - 1 - i]?.getD 0 else ds[i]?.getD 0
theorem Flip.start (ds : List Int) : Flip ds 0 ds := ⟨rfl, fun i h => by rw [if_neg (by omega)]⟩
theorem set_at (zs : List Int) (j i : Nat) (v : Int) (h : j < zs.length) : (zs.set j v)[i]?.getD 0 = if i = j then v else zs[i]?.getD 0 := by
  rw [List.getElem?_set]
  by_cases e : j = i
  · subst e; simp [h]
  · rw [if_neg e, if_neg (Ne.symm e)]
theorem Flip.step {ds zs : List Int} {k : Nat} (h : Flip ds k zs) (hk : k < ds.length / 2) {x y : Int} (hx : zs[k]?.getD 0 = x) (hy : zs[ds.length - 1 - k]?.getD 0 = y) :
    Flip ds (k + 1) ((zs.set k y).set (ds.length - 1 - k) x) := by
  have hl := h.len
  refine ⟨by simp [hl], fun i hi => ?_⟩
  rw [set_at _ _ _ _ (by rw [List.length_set]; omega), set_at _ _ _ _ (by omega)]
  by_cases e1 : i = ds.length - 1 - k
  · rw [if_pos e1, if_pos (by omega), ← hx, h.at' k (by omega), if_neg (by omega)]
    congr 2; omega
  · rw [if_neg e1]
    by_cases e2 : i = k
    · rw [if_pos e2, if_pos (by omega), ← hy, h.at' _ (by omega), if_neg (by omega)]
      congr 2; omega
    · rw [if_neg e2, h.at' i hi]
      by_cases e3 : i < k ∨ ds.length - k ≤ i
      · rw [if_pos e3, if_pos (by omega)]
      · rw [if_neg e3, if_neg (by omega)]
theorem Flip.done {ds zs : List Int} {k : Nat} (h : Flip ds k zs) (hk : k = ds.length / 2) : zs = ds.reverse := by
  subst hk
  have hl := h.len
  refine List.ext_getElem (by simp [hl]) (fun i h1 h2 => ?_)
  have hi : i < ds.length := by omega
  have e := h.at' i hi
  rw [List.getElem?_eq_getElem h1] at e
  rw [List.getElem_reverse]
  simp only [Option.getD_some] at e
  rw [e]
  split
  · rw [List.getElem?_eq_getElem (by omega)]; rfl
  · have : i = ds.length - 1 - i := by omega
    rw [List.getElem?_eq_getElem hi]
    simp only [Option.getD_some]
    congr 1
end Go.Proofs.Ythafhfdhahbdoaa

/- Rows of a call's own stay where nothing old is written. -/
namespace Go.Proofs.Ythafhfdhahbdoaa
open Go.RowKit

theorem grown_of_below {w w' : World} (h : Below w.heap.size w w') : w.grownBy w' none := ⟨h.os, h.tape, h.output, h.size, fun i hi _ => h.block i hi⟩
theorem owns_below {w w' : World} {base e size n : Nat} {v : Value} {xs : List Value} (h : w.ownsRow base e size v n xs) (hb : Below w.heap.size w w') : w'.ownsRow base e size v n xs := by
  refine h.kept (grown_of_below hb) ?_
  cases e : v.ownBlock with
  | none => exact .inl rfl
  | some k => exact .inr (by simp)

theorem wp_append_at {P : Program} {w : World} {o : Oper} {a : Act} {K : Act → World → Prop} {Q : Exit → Act → World → Prop} (s x : Operand) (t : TypeId)
    (ho : o.op = .call { callee := .builtin .append, args := #[s, x], argTypes := #[t, t] })
    (base : Nat) (e : TypeId) (i : TypeInfo) (z : Value) (size bytes : Nat) (ht : P.underlying t = some (.slice e)) (hi : P.info? e = some i) (hz : i.zero = some z)
    (hsize : i.size = size) (hby : i.bytes = bytes) (hzs : z.cells.size = size) (hsz : 0 < size)
    (v : Value) (n : Nat) (xs : List Value) (hs : a.eval s = v) (hown : w.ownsRow base e size v n xs)
    (ad : Addr) (m c : Nat) (news : List Value) (hx : a.eval x = .slice (some ad) m c) (hl : news.length = m * size) (hnews : ∀ j u, news[j]? = some u → w.cell? (ad.add j) = some u) (h1 : ∀ u ∈ news, u.oneCell' = true)
    (h63 : n + m ≤ maxLen) (hbytes : (n + m) * bytes ≤ 140737488355328) (hbase : base ≤ w.heap.size)
    (h : ∀ v' w', w'.ownsRow base e size v' (n + m) (xs ++ news) → w.grownBy w' v.ownBlock → (v'.ownBlock = v.ownBlock ∨ v'.ownBlock = some w.heap.size) → K (a.put o.dst v') w') : o.wp P a w K Q := by
  obtain ⟨v', w', hr, h2, h3, _, h5⟩ := run_append_own_at (P := P) w base t o.type e i z size bytes ht hi hz hsize hby hzs hsz v n xs hown ad m c news hl hnews h1 h63 hbytes hbase
  unfold Oper.wp execOp
  simp only [ho, resolve, invoke, builtin, Sem.run_bind, Sem.run_pure, Result.andThen_ok, List.map_toArray, List.map_cons, List.map_nil, hs, hx, hr]
  exact h v' w' h2 h3 h5
theorem row_base {w : World} {base base' : Nat} {e : TypeId} {size : Nat} {v : Value} {n : Nat} {xs : List Value} (h : w.ownsRow base e size v n xs) (hb : base' ≤ base) : w.ownsRow base' e size v n xs := by
  obtain ⟨h1, h2⟩ := h
  refine ⟨h1, ?_⟩
  rcases h2 with h2 | ⟨q, cap, cur, hv, hb', r⟩
  · exact .inl h2
  · exact .inr ⟨q, cap, cur, hv, Nat.le_trans hb hb', r⟩
end Go.Proofs.Ythafhfdhahbdoaa

/- Bytes in a row of a call's own. -/
namespace Go.Proofs.Ythafhfdhahbdoaa
open Go.RowKit

theorem infoB : (Try.prog.info? 5).map (fun i => (i.zero, i.size, i.bytes)) = some (some (.int .u8 0), 1, 1) := by kernel_rfl
/-- Bytes in a row of the call's own. -/
def RowB (base : Nat) (w : World) (v : Value) (ds : List Int) : Prop := w.ownsRow base 5 1 v ds.length (ds.map (Value.int .u8))
theorem ones8 (ys : List Int) : ∀ u ∈ ys.map (Value.int .u8), u.oneCell' = true := by
  intro u hu
  obtain ⟨y, _, rfl⟩ := List.mem_map.1 hu
  rfl
theorem one_new8 (w : World) (e : TypeId) (y : Int) : ∀ j u, ([y].map (Value.int .u8))[j]? = some u → (w.alloc (.cells #[.int .u8 y] e)).cell? ((⟨w.heap.size, 0, none⟩ : Addr).add j) = some u := by
  intro j u hu
  cases j with
  | zero =>
    simp at hu
    subst hu
    exact cell_new w #[.int .u8 y] e 0 rfl
  | succ j => simp at hu
theorem RowB.snoc {base n : Nat} {w : World} {v : Value} {ds : List Int} {y : Int} (h : w.ownsRow base 5 1 v (ds.length + 1) (ds.map (Value.int .u8) ++ [y].map (Value.int .u8))) (_ : n = 0) : RowB base w v (ds ++ [y]) := by
  unfold RowB
  rw [List.map_append, List.length_append]
  exact h
theorem RowB.shape {base : Nat} {w : World} {v : Value} {ds : List Int} (h : RowB base w v ds) (hn : ds ≠ []) : ∃ q cap, v = .slice (some ⟨q, 0, none⟩) ds.length cap ∧ base ≤ q ∧ q < w.heap.size := by
  have hp : 0 < ds.length := List.length_pos_iff.2 hn
  rcases h.2 with ⟨_, h0⟩ | ⟨q, cap, cur, hv, hb, hh, _⟩
  · omega
  · refine ⟨q, cap, hv, hb, ?_⟩
    rcases Nat.lt_or_ge q w.heap.size with h1 | h1
    · exact h1
    · rw [Array.getElem?_eq_none h1] at hh; cases hh
theorem RowB.at' {base q cap : Nat} {w : World} {ds : List Int} (h : RowB base w (.slice (some ⟨q, 0, none⟩) ds.length cap) ds) {j : Nat} (hj : j < ds.length) : w.cell? ⟨q, j, none⟩ = some (.int .u8 (ds[j]?.getD 0)) := by
  rw [h.cellAt j (by omega), List.getElem?_map, List.getElem?_eq_getElem hj]
  rfl
theorem RowB.put {base q cap : Nat} {w : World} {ds : List Int} (h : RowB base w (.slice (some ⟨q, 0, none⟩) ds.length cap) ds) (j : Nat) (x : Int) : RowB base (w.setCell ⟨q, j, none⟩ (.int .u8 x)) (.slice (some ⟨q, 0, none⟩) (ds.set j x).length cap) (ds.set j x) := by
  have := (h.stored j (.int .u8 x)).1
  unfold RowB
  rw [List.length_set, List.map_set]
  exact this
theorem RowB.below {base : Nat} {w w' : World} {v : Value} {ds : List Int} (h : RowB base w v ds) (hb : Below w.heap.size w w') : RowB base w' v ds := owns_below h hb
theorem RowB.app {base : Nat} {w : World} {v : Value} {ds es : List Int} (h : w.ownsRow base 5 1 v (ds.length + es.length) (ds.map (Value.int .u8) ++ es.map (Value.int .u8))) : RowB base w v (ds ++ es) := by
  unfold RowB
  rw [List.map_append, List.length_append]
  exact h
theorem RowB.shape' {base : Nat} {w : World} {v : Value} {ds : List Int} (h : RowB base w v ds) : ∃ a cap, v = .slice a ds.length cap ∧ ds.length ≤ cap ∧ cap ≤ maxLen := by
  rcases h.2 with ⟨hv, h0⟩ | ⟨q, cap, cur, hv, _, _, hf, hm, _⟩
  · exact ⟨none, 0, by rw [hv, h0], by omega, by simp [maxLen]⟩
  · exact ⟨_, cap, hv, hf, hm⟩
theorem RowB.nil (base : Nat) (w : World) : RowB base w (.slice none 0 0) [] := ⟨rfl, .inl ⟨rfl, rfl⟩⟩
theorem RowB.empty (w : World) {base : Nat} (h : base ≤ w.heap.size) : RowB base (w.alloc (.cells #[] 5)) (.slice (some ⟨w.heap.size, 0, none⟩) 0 0) [] :=
  ⟨rfl, .inr ⟨w.heap.size, 0, #[], rfl, h, heap_alloc_new _ _, Nat.le_refl _, by simp [maxLen], rfl, rfl⟩⟩
theorem RowB.one (w : World) {base : Nat} (h : base ≤ w.heap.size) (x : Int) : RowB base (w.alloc (.cells #[.int .u8 x] 5)) (.slice (some ⟨w.heap.size, 0, none⟩) 1 1) [x] :=
  ⟨rfl, .inr ⟨w.heap.size, 1, #[.int .u8 x], rfl, h, heap_alloc_new _ _, Nat.le_refl _, by simp [maxLen], rfl, rfl⟩⟩
theorem RowB.at2 {base : Nat} {w : World} {a : Option Addr} {c : Nat} {ds : List Int} (h : RowB base w (.slice a ds.length c) ds) {j : Nat} (hj : j < ds.length) : ∃ q, a = some ⟨q, 0, none⟩ ∧ w.cell? ⟨q, j, none⟩ = some (.int .u8 (ds[j]?.getD 0)) ∧ base ≤ q := by
  obtain ⟨q, cap, e, hb, _⟩ := h.shape (by intro e; rw [e] at hj; simp at hj)
  injection e with e1 e2 e3
  subst e1 e3
  exact ⟨q, rfl, h.at' hj, hb⟩
theorem RowB.caps {base : Nat} {w : World} {a : Option Addr} {c : Nat} {ds : List Int} (h : RowB base w (.slice a ds.length c) ds) : ds.length ≤ c ∧ c ≤ maxLen := by
  obtain ⟨a', c', e, h1, h2⟩ := h.shape'
  injection e with e1 e2 e3
  subst e3
  exact ⟨h1, h2⟩
/-- Bytes in a row of the call's own, in a block of any type. -/
def RowE (t : TypeId) (base : Nat) (w : World) (v : Value) (ds : List Int) : Prop := w.ownsRow base t 1 v ds.length (ds.map (Value.int .u8))
theorem RowE.shape {t : TypeId} {base : Nat} {w : World} {v : Value} {ds : List Int} (h : RowE t base w v ds) (hn : ds ≠ []) : ∃ q cap, v = .slice (some ⟨q, 0, none⟩) ds.length cap ∧ base ≤ q ∧ q < w.heap.size := by
  have hp : 0 < ds.length := List.length_pos_iff.2 hn
  rcases h.2 with ⟨_, h0⟩ | ⟨q, cap, cur, hv, hb, hh, _⟩
  · omega
  · refine ⟨q, cap, hv, hb, ?_⟩
    rcases Nat.lt_or_ge q w.heap.size with h1 | h1
    · exact h1
    · rw [Array.getElem?_eq_none h1] at hh; cases hh
theorem RowE.at' {t : TypeId} {base q cap : Nat} {w : World} {ds : List Int} (h : RowE t base w (.slice (some ⟨q, 0, none⟩) ds.length cap) ds) {j : Nat} (hj : j < ds.length) : w.cell? ⟨q, j, none⟩ = some (.int .u8 (ds[j]?.getD 0)) := by
  rw [h.cellAt j (by omega), List.getElem?_map, List.getElem?_eq_getElem hj]
  rfl
theorem RowE.put {t : TypeId} {base q cap : Nat} {w : World} {ds : List Int} (h : RowE t base w (.slice (some ⟨q, 0, none⟩) ds.length cap) ds) (j : Nat) (x : Int) : RowE t base (w.setCell ⟨q, j, none⟩ (.int .u8 x)) (.slice (some ⟨q, 0, none⟩) (ds.set j x).length cap) (ds.set j x) := by
  have := (h.stored j (.int .u8 x)).1
  unfold RowE
  rw [List.length_set, List.map_set]
  exact this
theorem RowE.below {t : TypeId} {base : Nat} {w w' : World} {v : Value} {ds : List Int} (h : RowE t base w v ds) (hb : Below w.heap.size w w') : RowE t base w' v ds := owns_below h hb
theorem RowE.shape' {t : TypeId} {base : Nat} {w : World} {v : Value} {ds : List Int} (h : RowE t base w v ds) : ∃ a cap, v = .slice a ds.length cap ∧ ds.length ≤ cap ∧ cap ≤ maxLen := by
  rcases h.2 with ⟨hv, h0⟩ | ⟨q, cap, cur, hv, _, _, hf, hm, _⟩
  · exact ⟨none, 0, by rw [hv, h0], by omega, by simp [maxLen]⟩
  · exact ⟨_, cap, hv, hf, hm⟩
theorem RowE.at2 {t : TypeId} {base : Nat} {w : World} {a : Option Addr} {c : Nat} {ds : List Int} (h : RowE t base w (.slice a ds.length c) ds) {j : Nat} (hj : j < ds.length) : ∃ q, a = some ⟨q, 0, none⟩ ∧ w.cell? ⟨q, j, none⟩ = some (.int .u8 (ds[j]?.getD 0)) ∧ base ≤ q := by
  obtain ⟨q, cap, e, hb, _⟩ := h.shape (by intro e; rw [e] at hj; simp at hj)
  injection e with e1 e2 e3
  subst e1 e3
  exact ⟨q, rfl, h.at' hj, hb⟩
theorem RowE.caps {t : TypeId} {base : Nat} {w : World} {a : Option Addr} {c : Nat} {ds : List Int} (h : RowE t base w (.slice a ds.length c) ds) : ds.length ≤ c ∧ c ≤ maxLen := by
  obtain ⟨a', c', e, h1, h2⟩ := h.shape'
  injection e with e1 e2 e3
  subst e3
  exact ⟨h1, h2⟩
end Go.Proofs.Ythafhfdhahbdoaa

/- The specification's text of a number: spec.NumText. -/
namespace Go.Proofs.Ythafhfdhahbdoaa
open Go.RowKit

theorem okB_of {g : Bool} {xs : List Int} (h : tkL g xs ≠ []) : tkG g xs = g ∧ tkL g xs = xs := by
  unfold tkL at h ⊢
  unfold tkG
  by_cases k : okB g xs = true
  · rw [if_pos k, k]; simp
  · rw [if_neg k] at h; exact absurd rfl h

theorem Sees.allNews {w : World} {b off c : Nat} {xs : List Int} (h : Sees w (some ⟨b, off, none⟩) c xs) : ∀ j u, (xs.map (Value.int .u32))[j]? = some u → w.cell? ((⟨b, off, none⟩ : Addr).add j) = some u := by
  have := h.toCame.news (Nat.le_refl xs.length)
  rwa [List.take_length] at this

theorem ret_str {a b : ByteArray} (h : a = b) : Ending.returned (.string a) = .returned (.string b) := by rw [h]
end Go.Proofs.Ythafhfdhahbdoaa
