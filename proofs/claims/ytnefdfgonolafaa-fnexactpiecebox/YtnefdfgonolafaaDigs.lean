import Derived.Test.YtnefdfgonolafaaBase
import Derived.Laws.AppendOwnNone
import Derived.Maps.AppendAt
import Derived.Test.YtnefdfgonolafaaProg
import Derived.Test.YtnefdfgonolafaaSNum
import Derived.Test.YtnefdfgonolafaaSMag
import Derived.Test.YtnefdfgonolafaaTaken
import Derived.Laws.IdiomStrings
import Derived.Deep.LoopGhost
import Derived.Test.YtnefdfgonolafaaBoxP
/- A number's digits, the lowest first; one limb after another divided by ten. No program is named here. -/
namespace Go.Proofs.Ytnefdfgonolafaa
open Go.RowKit

/-- The digits of a number, the lowest first; none of 0. -/
def digs (n : Nat) : List Nat := if h : n = 0 then [] else n % 10 :: digs (n / 10)
termination_by n
decreasing_by omega

theorem digs_zero : digs 0 = [] := by rw [digs]; simp
theorem digs_pos {n : Nat} (h : 0 < n) : digs n = n % 10 :: digs (n / 10) := by rw [digs, dif_neg (by omega)]
theorem digs_ne {n : Nat} (h : 0 < n) : digs n ≠ [] := by rw [digs_pos h]; simp
theorem digs_lt : ∀ (n : Nat), ∀ d ∈ digs n, d < 10 := by
  intro n
  induction n using Nat.strongRecOn with
  | _ n ih =>
    intro d hd
    rcases Nat.eq_zero_or_pos n with rfl | h
    · rw [digs_zero] at hd; cases hd
    · rw [digs_pos h] at hd
      rcases List.mem_cons.1 hd with rfl | hd
      · omega
      · exact ih (n / 10) (by omega) d hd
theorem digs_len : ∀ (k n : Nat), n < 10 ^ k → (digs n).length ≤ k := by
  intro k
  induction k with
  | zero => intro n h; obtain rfl : n = 0 := by simpa using h
            rw [digs_zero]; simp
  | succ k ih =>
    intro n h
    rcases Nat.eq_zero_or_pos n with rfl | h0
    · rw [digs_zero]; simp
    · rw [digs_pos h0, List.length_cons]
      have := ih (n / 10) (by rw [Nat.pow_succ] at h; omega)
      omega

/-- The byte of a digit. -/
def chr (d : Nat) : Int := 48 + d
/-- The bytes of a number's digits as whole numbers, the lowest first. -/
def digB (n : Nat) : List Int := (digs n).map chr
theorem digB_zero : digB 0 = [] := by simp [digB, digs_zero]
theorem digB_pos {n : Nat} (h : 0 < n) : digB n = (48 + ((n % 10 : Nat) : Int)) :: digB (n / 10) := by simp [digB, digs_pos h, chr]
theorem digB_byte (n : Nat) : ∀ x ∈ digB n, 0 ≤ x ∧ x < 256 := by
  intro x hx
  simp only [digB, List.mem_map] at hx
  obtain ⟨d, hd, rfl⟩ := hx
  have := digs_lt n d hd
  unfold chr; omega
theorem digB_len {k n : Nat} (h : n < 10 ^ k) : (digB n).length ≤ k := by simpa [digB] using digs_len k n h

/-- The text of a whole number, as bytes that are whole numbers. -/
def numB (z : Int) : List Int := if z = 0 then [48] else (digB z.natAbs ++ if z < 0 then [45] else []).reverse
/-- .. as bytes. -/
def strB (ds : List Int) : ByteArray := ⟨(ds.map (fun x : Int => UInt8.ofNat x.toNat)).toArray⟩
def numT (z : Int) : ByteArray := strB (numB z)
theorem numB_byte (z : Int) : ∀ x ∈ numB z, 0 ≤ x ∧ x < 256 := by
  intro x hx
  unfold numB at hx
  split at hx
  · simp at hx; omega
  · simp only [List.mem_reverse, List.mem_append] at hx
    rcases hx with hx | hx
    · exact digB_byte _ x hx
    · split at hx
      · simp at hx; omega
      · cases hx

/-! ### Divided by ten, limb by limb -/
/-- Of limbs xs those from place t on are divided by ten already: zs is what stands there, r the rest. -/
structure T10 (xs : List Int) (t : Nat) (r : Int) (zs : List Int) : Prop where
  le : t ≤ xs.length
  len : zs.length = xs.length
  low : zs.take t = xs.take t
  eq : val (zs.drop t) * 10 + r = val (xs.drop t)
  r0 : 0 ≤ r
  r1 : r < 10
  lim : Lim zs

theorem T10.start {xs : List Int} (h : Lim xs) : T10 xs xs.length 0 xs :=
  ⟨Nat.le_refl _, rfl, rfl, by simp [val], by decide, by decide, h⟩
theorem T10.get {xs zs : List Int} {t : Nat} {r : Int} (h : T10 xs (t + 1) r zs) : zs[t]?.getD 0 = xs[t]?.getD 0 := by
  have e : (zs.take (t + 1))[t]? = (xs.take (t + 1))[t]? := by rw [h.low]
  rw [List.getElem?_take, List.getElem?_take, if_pos (by omega), if_pos (by omega)] at e
  rw [e]
theorem drop_val {xs : List Int} {t : Nat} (h : t < xs.length) : val (xs.drop t) = xs[t]?.getD 0 + 4294967296 * val (xs.drop (t + 1)) := by
  rw [List.drop_eq_getElem_cons h, val, List.getElem?_eq_getElem h]; rfl
theorem T10.step {xs zs : List Int} {t : Nat} {r x : Int} (h : T10 xs (t + 1) r zs) (hx : xs[t]?.getD 0 = x) (hl : 0 ≤ x ∧ x < 4294967296) :
    T10 xs t ((r * 4294967296 + x) % 10) (zs.set t ((r * 4294967296 + x) / 10)) := by
  have ht : t < xs.length := h.le
  have hz : t < zs.length := by rw [h.len]; exact ht
  have hr0 := h.r0
  have hr1 := h.r1
  refine ⟨by omega, by rw [List.length_set]; exact h.len, ?_, ?_, by omega, by omega, ?_⟩
  · rw [List.take_set_of_le (Nat.le_refl _)]
    have e : (zs.take (t + 1)).take t = (xs.take (t + 1)).take t := by rw [h.low]
    rw [List.take_take, List.take_take, Nat.min_eq_left (by omega)] at e
    exact e
  · rw [drop_val (xs := xs) ht, hx, ← h.eq, drop_val (xs := zs.set t _) (by rw [List.length_set]; exact hz)]
    rw [List.getElem?_set_self (by exact hz), List.drop_set_of_lt (by omega)]
    simp only [Option.getD_some]
    omega
  · intro y hy
    rcases List.mem_or_eq_of_mem_set hy with hy | rfl
    · exact h.lim y hy
    · omega
theorem T10.done {xs zs : List Int} {r : Int} (h : T10 xs 0 r zs) : val zs = val xs / 10 ∧ r = val xs % 10 := by
  have e := h.eq
  have hr0 := h.r0
  have hr1 := h.r1
  simp only [List.drop_zero] at e
  omega

/-! ### The digits so far -/
/-- ds are the digits of V up to what is left, v. -/
def DigAt (V : Int) (ds : List Int) (v : Int) : Prop := 0 ≤ v ∧ ds ++ digB v.toNat = digB V.toNat
theorem DigAt.start {V : Int} (h : 0 ≤ V) : DigAt V [] V := ⟨h, by simp⟩
theorem DigAt.step {V v : Int} {ds : List Int} (h : DigAt V ds v) (h0 : 0 < v) : DigAt V (ds ++ [48 + v % 10]) (v / 10) := by
  refine ⟨by omega, ?_⟩
  rw [← h.2, List.append_assoc]
  congr 1
  rw [digB_pos (show 0 < v.toNat by omega)]
  simp only [List.singleton_append]
  have e1 : (48 + ((v.toNat % 10 : Nat) : Int)) = 48 + v % 10 := by omega
  have e2 : v.toNat / 10 = (v / 10).toNat := by omega
  rw [e1, e2]
theorem DigAt.done {V : Int} {ds : List Int} (h : DigAt V ds 0) : ds = digB V.toNat := by
  have := h.2
  simp only [Int.toNat_zero, digB_zero, List.append_nil] at this
  exact this
theorem DigAt.len {V v : Int} {ds : List Int} {k : Nat} (h : DigAt V ds v) (hV : V.toNat < 10 ^ k) : ds.length ≤ k := by
  have := digB_len hV
  rw [← h.2, List.length_append] at this
  omega

theorem p_digits : (4294967296 : Int) ^ 24 < (10 : Int) ^ 232 := by decide
theorem val_digits {xs : List Int} (hl : Lim xs) (h : xs.length ≤ 24) : (val xs).toNat < 10 ^ 232 := by
  have h1 := val_lt hl
  have h2 := p_mono xs.length (24 - xs.length)
  rw [show xs.length + (24 - xs.length) = 24 by omega] at h2
  have h3 := Int.lt_trans (Int.lt_of_lt_of_le h1 h2) p_digits
  have h4 : ((10 ^ 232 : Nat) : Int) = (10 : Int) ^ 232 := by simp
  rw [← h4] at h3
  generalize 10 ^ 232 = N at *
  omega

/-! ### Turned around in place -/
/-- The first k and the last k have changed places. -/
structure Flip (ds : List Int) (k : Nat) (zs : List Int) : Prop where
  len : zs.length = ds.length
  at' : ∀ i, i < ds.length → zs[i]?.getD 0 = if i < k ∨ ds.length - k ≤ i then ds[ds.length - 1 - i]?.getD 0 else ds[i]?.getD 0
theorem Flip.start (ds : List Int) : Flip ds 0 ds := ⟨rfl, fun i h => by rw [if_neg (by omega)]⟩
theorem set_at (zs : List Int) (j i : Nat) (v : Int) (h : j < zs.length) : (zs.set j v)[i]?.getD 0 = if i = j then v else zs[i]?.getD 0 := by
  rw [List.getElem?_set]
  by_cases e : j = i
  · subst e; simp [h]
  · rw [if_neg e, if_neg (Ne.symm e)]
theorem Flip.step {ds zs : List Int} {k : Nat} (h : Flip ds k zs) (hk : k < ds.length / 2) {x y : Int} (hx : zs[k]?.getD 0 = x) (hy : zs[ds.length - 1 - k]?.getD 0 = y) :
    Flip ds (k + 1) ((zs.set k y).set (ds.length - 1 - k) x) := by
  have hl := h.len
  refine ⟨by simp [hl], fun i hi => ?_⟩
  rw [set_at _ _ _ _ (by rw [List.length_set]; omega), set_at _ _ _ _ (by omega)]
  by_cases e1 : i = ds.length - 1 - k
  · rw [if_pos e1, if_pos (by omega), ← hx, h.at' k (by omega), if_neg (by omega)]
    congr 2; omega
  · rw [if_neg e1]
    by_cases e2 : i = k
    · rw [if_pos e2, if_pos (by omega), ← hy, h.at' _ (by omega), if_neg (by omega)]
      congr 2; omega
    · rw [if_neg e2, h.at' i hi]
      by_cases e3 : i < k ∨ ds.length - k ≤ i
      · rw [if_pos e3, if_pos (by omega)]
      · rw [if_neg e3, if_neg (by omega)]
theorem Flip.done {ds zs : List Int} {k : Nat} (h : Flip ds k zs) (hk : k = ds.length / 2) : zs = ds.reverse := by
  subst hk
  have hl := h.len
  refine List.ext_getElem (by simp [hl]) (fun i h1 h2 => ?_)
  have hi : i < ds.length := by omega
  have e := h.at' i hi
  rw [List.getElem?_eq_getElem h1] at e
  rw [List.getElem_reverse]
  simp only [Option.getD_some] at e
  rw [e]
  split
  · rw [List.getElem?_eq_getElem (by omega)]; rfl
  · have : i = ds.length - 1 - i := by omega
    rw [List.getElem?_eq_getElem hi]
    simp only [Option.getD_some]
    congr 1
end Go.Proofs.Ytnefdfgonolafaa

/- Rows of a call's own stay where nothing old is written. -/
namespace Go.Proofs.Ytnefdfgonolafaa
open Go.RowKit

theorem grown_of_below {w w' : World} (h : Below w.heap.size w w') : w.grownBy w' none := ⟨h.os, h.tape, h.output, h.size, fun i hi _ => h.block i hi⟩
theorem owns_below {w w' : World} {base e size n : Nat} {v : Value} {xs : List Value} (h : w.ownsRow base e size v n xs) (hb : Below w.heap.size w w') : w'.ownsRow base e size v n xs := by
  refine h.kept (grown_of_below hb) ?_
  cases e : v.ownBlock with
  | none => exact .inl rfl
  | some k => exact .inr (by simp)

theorem wp_append_at {P : Program} {w : World} {o : Oper} {a : Act} {K : Act → World → Prop} {Q : Exit → Act → World → Prop} (s x : Operand) (t : TypeId)
    (ho : o.op = .call { callee := .builtin .append, args := #[s, x], argTypes := #[t, t] })
    (base : Nat) (e : TypeId) (i : TypeInfo) (z : Value) (size bytes : Nat) (ht : P.underlying t = some (.slice e)) (hi : P.info? e = some i) (hz : i.zero = some z)
    (hsize : i.size = size) (hby : i.bytes = bytes) (hzs : z.cells.size = size) (hsz : 0 < size)
    (v : Value) (n : Nat) (xs : List Value) (hs : a.eval s = v) (hown : w.ownsRow base e size v n xs)
    (ad : Addr) (m c : Nat) (news : List Value) (hx : a.eval x = .slice (some ad) m c) (hl : news.length = m * size) (hnews : ∀ j u, news[j]? = some u → w.cell? (ad.add j) = some u) (h1 : ∀ u ∈ news, u.oneCell' = true)
    (h63 : n + m ≤ maxLen) (hbytes : (n + m) * bytes ≤ 140737488355328) (hbase : base ≤ w.heap.size)
    (h : ∀ v' w', w'.ownsRow base e size v' (n + m) (xs ++ news) → w.grownBy w' v.ownBlock → (v'.ownBlock = v.ownBlock ∨ v'.ownBlock = some w.heap.size) → K (a.put o.dst v') w') : o.wp P a w K Q := by
  obtain ⟨v', w', hr, h2, h3, _, h5⟩ := run_append_own_at (P := P) w base t o.type e i z size bytes ht hi hz hsize hby hzs hsz v n xs hown ad m c news hl hnews h1 h63 hbytes hbase
  unfold Oper.wp execOp
  simp only [ho, resolve, invoke, builtin, Sem.run_bind, Sem.run_pure, Result.andThen_ok, List.map_toArray, List.map_cons, List.map_nil, hs, hx, hr]
  exact h v' w' h2 h3 h5
theorem row_base {w : World} {base base' : Nat} {e : TypeId} {size : Nat} {v : Value} {n : Nat} {xs : List Value} (h : w.ownsRow base e size v n xs) (hb : base' ≤ base) : w.ownsRow base' e size v n xs := by
  obtain ⟨h1, h2⟩ := h
  refine ⟨h1, ?_⟩
  rcases h2 with h2 | ⟨q, cap, cur, hv, hb', r⟩
  · exact .inl h2
  · exact .inr ⟨q, cap, cur, hv, Nat.le_trans hb hb', r⟩
end Go.Proofs.Ytnefdfgonolafaa

/- Bytes in a row of a call's own. -/
namespace Go.Proofs.Ytnefdfgonolafaa
open Go.RowKit

theorem infoB : (Try.prog.info? 5).map (fun i => (i.zero, i.size, i.bytes)) = some (some (.int .u8 0), 1, 1) := by kernel_rfl
/-- Bytes in a row of the call's own. -/
def RowB (base : Nat) (w : World) (v : Value) (ds : List Int) : Prop := w.ownsRow base 5 1 v ds.length (ds.map (Value.int .u8))
theorem ones8 (ys : List Int) : ∀ u ∈ ys.map (Value.int .u8), u.oneCell' = true := by
  intro u hu
  obtain ⟨y, _, rfl⟩ := List.mem_map.1 hu
  rfl
theorem one_new8 (w : World) (e : TypeId) (y : Int) : ∀ j u, ([y].map (Value.int .u8))[j]? = some u → (w.alloc (.cells #[.int .u8 y] e)).cell? ((⟨w.heap.size, 0, none⟩ : Addr).add j) = some u := by
  intro j u hu
  cases j with
  | zero =>
    simp at hu
    subst hu
    exact cell_new w #[.int .u8 y] e 0 rfl
  | succ j => simp at hu
theorem RowB.snoc {base n : Nat} {w : World} {v : Value} {ds : List Int} {y : Int} (h : w.ownsRow base 5 1 v (ds.length + 1) (ds.map (Value.int .u8) ++ [y].map (Value.int .u8))) (_ : n = 0) : RowB base w v (ds ++ [y]) := by
  unfold RowB
  rw [List.map_append, List.length_append]
  exact h
theorem RowB.shape {base : Nat} {w : World} {v : Value} {ds : List Int} (h : RowB base w v ds) (hn : ds ≠ []) : ∃ q cap, v = .slice (some ⟨q, 0, none⟩) ds.length cap ∧ base ≤ q ∧ q < w.heap.size := by
  have hp : 0 < ds.length := List.length_pos_iff.2 hn
  rcases h.2 with ⟨_, h0⟩ | ⟨q, cap, cur, hv, hb, hh, _⟩
  · omega
  · refine ⟨q, cap, hv, hb, ?_⟩
    rcases Nat.lt_or_ge q w.heap.size with h1 | h1
    · exact h1
    · rw [Array.getElem?_eq_none h1] at hh; cases hh
theorem RowB.at' {base q cap : Nat} {w : World} {ds : List Int} (h : RowB base w (.slice (some ⟨q, 0, none⟩) ds.length cap) ds) {j : Nat} (hj : j < ds.length) : w.cell? ⟨q, j, none⟩ = some (.int .u8 (ds[j]?.getD 0)) := by
  rw [h.cellAt j (by omega), List.getElem?_map, List.getElem?_eq_getElem hj]
  rfl
theorem RowB.put {base q cap : Nat} {w : World} {ds : List Int} (h : RowB base w (.slice (some ⟨q, 0, none⟩) ds.length cap) ds) (j : Nat) (x : Int) : RowB base (w.setCell ⟨q, j, none⟩ (.int .u8 x)) (.slice (some ⟨q, 0, none⟩) (ds.set j x).length cap) (ds.set j x) := by
  have := (h.stored j (.int .u8 x)).1
  unfold RowB
  rw [List.length_set, List.map_set]
  exact this
theorem RowB.below {base : Nat} {w w' : World} {v : Value} {ds : List Int} (h : RowB base w v ds) (hb : Below w.heap.size w w') : RowB base w' v ds := owns_below h hb
theorem RowB.app {base : Nat} {w : World} {v : Value} {ds es : List Int} (h : w.ownsRow base 5 1 v (ds.length + es.length) (ds.map (Value.int .u8) ++ es.map (Value.int .u8))) : RowB base w v (ds ++ es) := by
  unfold RowB
  rw [List.map_append, List.length_append]
  exact h
theorem RowB.shape' {base : Nat} {w : World} {v : Value} {ds : List Int} (h : RowB base w v ds) : ∃ a cap, v = .slice a ds.length cap ∧ ds.length ≤ cap ∧ cap ≤ maxLen := by
  rcases h.2 with ⟨hv, h0⟩ | ⟨q, cap, cur, hv, _, _, hf, hm, _⟩
  · exact ⟨none, 0, by rw [hv, h0], by omega, by simp [maxLen]⟩
  · exact ⟨_, cap, hv, hf, hm⟩
theorem RowB.nil (base : Nat) (w : World) : RowB base w (.slice none 0 0) [] := ⟨rfl, .inl ⟨rfl, rfl⟩⟩
theorem RowB.empty (w : World) {base : Nat} (h : base ≤ w.heap.size) : RowB base (w.alloc (.cells #[] 5)) (.slice (some ⟨w.heap.size, 0, none⟩) 0 0) [] :=
  ⟨rfl, .inr ⟨w.heap.size, 0, #[], rfl, h, heap_alloc_new _ _, Nat.le_refl _, by simp [maxLen], rfl, rfl⟩⟩
theorem RowB.one (w : World) {base : Nat} (h : base ≤ w.heap.size) (x : Int) : RowB base (w.alloc (.cells #[.int .u8 x] 5)) (.slice (some ⟨w.heap.size, 0, none⟩) 1 1) [x] :=
  ⟨rfl, .inr ⟨w.heap.size, 1, #[.int .u8 x], rfl, h, heap_alloc_new _ _, Nat.le_refl _, by simp [maxLen], rfl, rfl⟩⟩
theorem RowB.at2 {base : Nat} {w : World} {a : Option Addr} {c : Nat} {ds : List Int} (h : RowB base w (.slice a ds.length c) ds) {j : Nat} (hj : j < ds.length) : ∃ q, a = some ⟨q, 0, none⟩ ∧ w.cell? ⟨q, j, none⟩ = some (.int .u8 (ds[j]?.getD 0)) ∧ base ≤ q := by
  obtain ⟨q, cap, e, hb, _⟩ := h.shape (by intro e; rw [e] at hj; simp at hj)
  injection e with e1 e2 e3
  subst e1 e3
  exact ⟨q, rfl, h.at' hj, hb⟩
theorem RowB.caps {base : Nat} {w : World} {a : Option Addr} {c : Nat} {ds : List Int} (h : RowB base w (.slice a ds.length c) ds) : ds.length ≤ c ∧ c ≤ maxLen := by
  obtain ⟨a', c', e, h1, h2⟩ := h.shape'
  injection e with e1 e2 e3
  subst e3
  exact ⟨h1, h2⟩
/-- Bytes in a row of the call's own, in a block of any type. -/
def RowE (t : TypeId) (base : Nat) (w : World) (v : Value) (ds : List Int) : Prop := w.ownsRow base t 1 v ds.length (ds.map (Value.int .u8))
theorem RowE.shape {t : TypeId} {base : Nat} {w : World} {v : Value} {ds : List Int} (h : RowE t base w v ds) (hn : ds ≠ []) : ∃ q cap, v = .slice (some ⟨q, 0, none⟩) ds.length cap ∧ base ≤ q ∧ q < w.heap.size := by
  have hp : 0 < ds.length := List.length_pos_iff.2 hn
  rcases h.2 with ⟨_, h0⟩ | ⟨q, cap, cur, hv, hb, hh, _⟩
  · omega
  · refine ⟨q, cap, hv, hb, ?_⟩
    rcases Nat.lt_or_ge q w.heap.size with h1 | h1
    · exact h1
    · rw [Array.getElem?_eq_none h1] at hh; cases hh
theorem RowE.at' {t : TypeId} {base q cap : Nat} {w : World} {ds : List Int} (h : RowE t base w (.slice (some ⟨q, 0, none⟩) ds.length cap) ds) {j : Nat} (hj : j < ds.length) : w.cell? ⟨q, j, none⟩ = some (.int .u8 (ds[j]?.getD 0)) := by
  rw [h.cellAt j (by omega), List.getElem?_map, List.getElem?_eq_getElem hj]
  rfl
theorem RowE.put {t : TypeId} {base q cap : Nat} {w : World} {ds : List Int} (h : RowE t base w (.slice (some ⟨q, 0, none⟩) ds.length cap) ds) (j : Nat) (x : Int) : RowE t base (w.setCell ⟨q, j, none⟩ (.int .u8 x)) (.slice (some ⟨q, 0, none⟩) (ds.set j x).length cap) (ds.set j x) := by
  have := (h.stored j (.int .u8 x)).1
  unfold RowE
  rw [List.length_set, List.map_set]
  exact this
theorem RowE.below {t : TypeId} {base : Nat} {w w' : World} {v : Value} {ds : List Int} (h : RowE t base w v ds) (hb : Below w.heap.size w w') : RowE t base w' v ds := owns_below h hb
theorem RowE.shape' {t : TypeId} {base : Nat} {w : World} {v : Value} {ds : List Int} (h : RowE t base w v ds) : ∃ a cap, v = .slice a ds.length cap ∧ ds.length ≤ cap ∧ cap ≤ maxLen := by
  rcases h.2 with ⟨hv, h0⟩ | ⟨q, cap, cur, hv, _, _, hf, hm, _⟩
  · exact ⟨none, 0, by rw [hv, h0], by omega, by simp [maxLen]⟩
  · exact ⟨_, cap, hv, hf, hm⟩
theorem RowE.at2 {t : TypeId} {base : Nat} {w : World} {a : Option Addr} {c : Nat} {ds : List Int} (h : RowE t base w (.slice a ds.length c) ds) {j : Nat} (hj : j < ds.length) : ∃ q, a = some ⟨q, 0, none⟩ ∧ w.cell? ⟨q, j, none⟩ = some (.int .u8 (ds[j]?.getD 0)) ∧ base ≤ q := by
  obtain ⟨q, cap, e, hb, _⟩ := h.shape (by intro e; rw [e] at hj; simp at hj)
  injection e with e1 e2 e3
  subst e1 e3
  exact ⟨q, rfl, h.at' hj, hb⟩
theorem RowE.caps {t : TypeId} {base : Nat} {w : World} {a : Option Addr} {c : Nat} {ds : List Int} (h : RowE t base w (.slice a ds.length c) ds) : ds.length ≤ c ∧ c ≤ maxLen := by
  obtain ⟨a', c', e, h1, h2⟩ := h.shape'
  injection e with e1 e2 e3
  subst e3
  exact ⟨h1, h2⟩
end Go.Proofs.Ytnefdfgonolafaa

/- The specification's text of a number: spec.NumText. -/
namespace Go.Proofs.Ytnefdfgonolafaa
open Go.RowKit

theorem field_magT (w : World) (g : Bool) (a : Option Addr) (n c : Nat) : Sem.run Try.prog (Instr.field 36 (Value.agg #[Value.bool g, Value.slice a n c]) 1) w = .ok (.slice a n c) w := by kernel_rfl


theorem okB_of {g : Bool} {xs : List Int} (h : tkL g xs ≠ []) : tkG g xs = g ∧ tkL g xs = xs := by
  unfold tkL at h ⊢
  unfold tkG
  by_cases k : okB g xs = true
  · rw [if_pos k, k]; simp
  · rw [if_neg k] at h; exact absurd rfl h

theorem Sees.allNews {w : World} {b off c : Nat} {xs : List Int} (h : Sees w (some ⟨b, off, none⟩) c xs) : ∀ j u, (xs.map (Value.int .u32))[j]? = some u → w.cell? ((⟨b, off, none⟩ : Addr).add j) = some u := by
  have := h.toCame.news (Nat.le_refl xs.length)
  rwa [List.take_length] at this

theorem ret_str {a b : ByteArray} (h : a = b) : Ending.returned (.string a) = .returned (.string b) := by rw [h]
end Go.Proofs.Ytnefdfgonolafaa

/- A row of points that a call owns; a point more behind it. -/
namespace Go.Proofs.Ytnefdfgonolafaa
open Go.RowKit

theorem infoPt : (Try.prog.info? 31).map (fun i => (i.zero, i.size, i.bytes)) = some (some (.agg #[.int .i64 0, .int .i64 0]), 2, 16) := by kernel_rfl
def ptC (ps : List (Int × Int)) : List Value := ps.flatMap fun p => [.int .i64 p.1, .int .i64 p.2]
theorem ptC_len (ps : List (Int × Int)) : (ptC ps).length = ps.length * 2 := by
  induction ps with
  | nil => rfl
  | cons p r ih => simp only [ptC, List.flatMap_cons, List.length_append, List.length_cons, List.length_nil] at *; omega
theorem ptC_append (ps qs : List (Int × Int)) : ptC (ps ++ qs) = ptC ps ++ ptC qs := by simp [ptC]
theorem ptC_at : ∀ (ps : List (Int × Int)) (j : Nat), j < ps.length → (ptC ps)[j * 2]? = some (.int .i64 (ps[j]?.getD (0, 0)).1) ∧ (ptC ps)[j * 2 + 1]? = some (.int .i64 (ps[j]?.getD (0, 0)).2)
  | [], j, h => absurd h (by simp)
  | p :: r, 0, _ => ⟨rfl, rfl⟩
  | p :: r, j + 1, h => by
    have ih := ptC_at r j (by simpa using h)
    have e : ptC (p :: r) = [.int .i64 p.1, .int .i64 p.2] ++ ptC r := rfl
    rw [e, show (j + 1) * 2 = 2 + j * 2 by omega, show 2 + j * 2 + 1 = 2 + (j * 2 + 1) by omega, List.getElem?_append_right (by simp), List.getElem?_append_right (by simp)]
    simpa using ih
theorem ptC_ones (ps : List (Int × Int)) : ∀ u ∈ ptC ps, u.oneCell' = true := by
  intro u hu
  simp only [ptC, List.mem_flatMap] at hu
  obtain ⟨p, _, h⟩ := hu
  simp only [List.mem_cons, List.not_mem_nil, or_false] at h
  rcases h with rfl | rfl <;> rfl
/-- Points in a row of their own. -/
def RowPt (base : Nat) (w : World) (v : Value) (ps : List (Int × Int)) : Prop := w.ownsRow base 31 2 v ps.length (ptC ps)
theorem RowPt.nil (base : Nat) (w : World) : RowPt base w (.slice none 0 0) [] := ⟨rfl, .inl ⟨rfl, rfl⟩⟩
theorem RowPt.empty (w : World) {base : Nat} (h : base ≤ w.heap.size) : RowPt base (w.alloc (.cells #[] 31)) (.slice (some ⟨w.heap.size, 0, none⟩) 0 0) [] :=
  ⟨rfl, .inr ⟨w.heap.size, 0, #[], rfl, h, heap_alloc_new _ _, Nat.le_refl _, by simp [maxLen], rfl, rfl⟩⟩
theorem RowPt.below {base : Nat} {w w' : World} {v : Value} {ps : List (Int × Int)} (h : RowPt base w v ps) (hb : Below w.heap.size w w') : RowPt base w' v ps := owns_below h hb
theorem RowPt.shape {base : Nat} {w : World} {v : Value} {ps : List (Int × Int)} (h : RowPt base w v ps) : ∃ a cap, v = .slice a ps.length cap ∧ ps.length ≤ cap ∧ cap ≤ maxLen := by
  rcases h.2 with ⟨hv, h0⟩ | ⟨q, cap, cur, hv, _, _, hf, hm, _⟩
  · exact ⟨none, 0, by rw [hv, h0], by omega, by simp [maxLen]⟩
  · exact ⟨_, cap, hv, hf, hm⟩
theorem RowPt.seesP {base : Nat} {w : World} {a : Option Addr} {cap : Nat} {ps : List (Int × Int)} (h : RowPt base w (.slice a ps.length cap) ps) : SeesP w a cap ps := by
  rcases h.2 with ⟨hv, h0⟩ | ⟨q, cap', cur, hv, hb, hh, hf, hm, hs, ht⟩
  · injection hv with h1 h2 h3
    subst h1 h3
    exact ⟨by omega, by simp [maxLen], fun hn => absurd (List.eq_nil_of_length_eq_zero h0) hn⟩
  · injection hv with h1 h2 h3
    subst h1 h3
    refine ⟨hf, hm, fun _ => ⟨q, 0, rfl, fun i hi => ?_⟩⟩
    have c : ∀ k u, (ptC ps)[k]? = some u → w.cell? ⟨q, 0 + k, none⟩ = some u := by
      intro k u hk
      rw [← ht] at hk
      have hk2 : k < ps.length * 2 := by
        have := (List.getElem?_eq_some_iff.mp hk).1
        rw [List.length_take] at this
        omega
      rw [List.getElem?_take_of_lt hk2] at hk
      rw [Nat.zero_add]
      exact (cell_of_row w q k _ _ _ hh).trans (by simpa using hk)
    obtain ⟨c1, c2⟩ := ptC_at ps i hi
    exact ⟨c _ _ c1, by have := c _ _ c2; rwa [← Nat.add_assoc] at this⟩
theorem RowPt.lo {base q cap : Nat} {w : World} {ps : List (Int × Int)} (h : RowPt base w (.slice (some ⟨q, 0, none⟩) ps.length cap) ps) : base ≤ q ∧ q < w.heap.size := World.ownsRow.lt h q rfl
theorem pt_new (w : World) (e : TypeId) (x y : Int) : ∀ j u, (ptC [(x, y)])[j]? = some u → (w.alloc (.cells #[.int .i64 x, .int .i64 y] e)).cell? ((⟨w.heap.size, 0, none⟩ : Addr).add j) = some u := by
  intro j u hu
  rcases j with _ | _ | j
  · simp [ptC] at hu; subst hu; exact cell_new w #[.int .i64 x, .int .i64 y] e 0 rfl
  · simp [ptC] at hu; subst hu; exact cell_new w #[.int .i64 x, .int .i64 y] e 1 rfl
  · simp [ptC] at hu
theorem RowPt.snoc {base : Nat} {w : World} {v : Value} {ps : List (Int × Int)} {x y : Int} (h : w.ownsRow base 31 2 v (ps.length + 1) (ptC ps ++ ptC [(x, y)])) : RowPt base w v (ps ++ [(x, y)]) := by
  unfold RowPt
  rw [ptC_append, List.length_append]
  exact h
end Go.Proofs.Ytnefdfgonolafaa
