/- Limb by limb: the arithmetic of sums, of differences, of comparing. No program is named here. -/
import Derived.Test.YtnefdfgonolafaaBase
import Derived.Laws.CopyOwn
namespace Go.Proofs.Ytnefdfgonolafaa
open Go.RowKit

theorem val_snoc (ws : List Int) (x : Int) : val (ws ++ [x]) = val ws + 4294967296 ^ ws.length * x := by
  rw [val_append]; simp [val]
theorem val_take_succ (xs : List Int) (j : Nat) : val (xs.take (j + 1)) = val (xs.take j) + 4294967296 ^ j * (xs[j]?.getD 0) := by
  by_cases h : j < xs.length
  · rw [List.take_succ_eq_append_getElem h, val_snoc, List.getElem?_eq_getElem h]
    have : (xs.take j).length = j := by simp; omega
    rw [this]; rfl
  · rw [List.take_of_length_le (by omega), List.take_of_length_le (by omega), List.getElem?_eq_none (by omega)]
    simp
theorem digit_step (P t : Int) : P * (t % 4294967296) + P * 4294967296 * (t / 4294967296) = P * t := by
  rw [Int.mul_assoc, ← Int.mul_add, Int.add_comm, Int.mul_ediv_add_emod]
theorem Lim.snoc {ws : List Int} (h : Lim ws) {x : Int} (hx : 0 ≤ x ∧ x < 4294967296) : Lim (ws ++ [x]) := h.append (Lim.mk hx Lim.nil)
theorem row_step {ws us : List Int} {j : Nat} (hw : ws.length = j) (hj : j < us.length) (x : Int) : (ws ++ us.drop j).set j x = (ws ++ [x]) ++ us.drop (j + 1) := by
  rw [List.set_append, if_neg (by omega), hw, Nat.sub_self, List.append_assoc, List.drop_eq_getElem_cons hj, List.set_cons_zero]
  rfl
theorem row_length {ws us : List Int} {j : Nat} (hw : ws.length = j) (hj : j ≤ us.length) : (ws ++ us.drop j).length = us.length := by simp; omega
theorem row_get {ws us : List Int} {j : Nat} (hw : ws.length = j) (_hj : j < us.length) : (ws ++ us.drop j)[j]?.getD 0 = us[j]?.getD 0 := by
  rw [List.getElem?_append_right (by omega), hw, Nat.sub_self, List.getElem?_drop, Nat.add_zero]

/-- One limb of a sum. -/
theorem add_round {ws us ys : List Int} {j : Nat} {cr : Int} (hw : ws.length = j) (h : val ws + 4294967296 ^ j * cr = val (us.take j) + val (ys.take j)) :
    val (ws ++ [(cr + us[j]?.getD 0 + ys[j]?.getD 0) % 4294967296]) + 4294967296 ^ (j + 1) * ((cr + us[j]?.getD 0 + ys[j]?.getD 0) / 4294967296) = val (us.take (j + 1)) + val (ys.take (j + 1)) := by
  rw [val_snoc, hw, val_take_succ, val_take_succ, Int.pow_succ]
  have := digit_step (4294967296 ^ j) (cr + us[j]?.getD 0 + ys[j]?.getD 0)
  rw [Int.mul_add, Int.mul_add] at this
  omega

/-- One limb of a difference: so often as 't' says. -/
theorem sub_round {ws us ys : List Int} {j : Nat} {ow t x : Int} (hw : ws.length = j) (h : val ws - 4294967296 ^ j * ow = val (us.take j) - t * val (ys.take j))
    {q : Int} (hx : x - 4294967296 * q = us[j]?.getD 0 - (ow + t * (ys[j]?.getD 0))) :
    val (ws ++ [x]) - 4294967296 ^ (j + 1) * q = val (us.take (j + 1)) - t * val (ys.take (j + 1)) := by
  rw [val_snoc, hw, val_take_succ, val_take_succ, Int.pow_succ]
  have e1 : (4294967296 : Int) ^ j * (x - 4294967296 * q) = 4294967296 ^ j * (us[j]?.getD 0 - (ow + t * (ys[j]?.getD 0))) := by rw [hx]
  rw [Int.mul_sub, Int.mul_sub, Int.mul_add, ← Int.mul_assoc, ← Int.mul_assoc] at e1
  rw [Int.mul_add, ← Int.mul_assoc t, Int.mul_comm t (4294967296 ^ j)]
  omega

theorem Own.of_heap {w : World} {base g : Nat} {e : TypeId} {xs : List Int} (h : w.heap[g]? = some (.cells (xs.map (Value.int .u32)).toArray e (0, 0))) (hl : Lim xs) (hm : xs.length ≤ maxLen) (hb : base ≤ g) :
    Own base w (some ⟨g, 0, none⟩) xs.length xs :=
  (Own.of_row (n := xs.length) ⟨by simp, .inr ⟨g, xs.length, _, rfl, hb, h, Nat.le_refl _, hm, by simp, by simp [List.take_of_length_le]⟩⟩ hl).1
theorem heap_of_made {w : World} {base e g n : Nat} {z : Value} (h : w.ownsRow base e 1 (.slice (some ⟨g, 0, none⟩) n n) n (List.replicate n z)) : w.heap[g]? = some (.cells (List.replicate n z).toArray e (0, 0)) := by
  obtain ⟨_, h2⟩ := h
  rcases h2 with ⟨h2, _⟩ | ⟨g', cap', cur, hv, hb, hh, hc, hm, hs, ht⟩
  · cases h2
  simp only [Value.slice.injEq, Option.some.injEq, Addr.mk.injEq, and_true] at hv
  obtain ⟨rfl, _, rfl⟩ := hv
  rw [hh]
  have : cur.toList = List.replicate n z := by
    rw [← ht, List.take_of_length_le]
    simpa using Nat.le_of_eq hs
  rw [← this]
/-- A copy laid over noughts. -/
theorem splice_front (xs : List Int) (n : Nat) (_h : xs.length ≤ n) : splice (List.replicate n (Value.int .u32 0)) 0 (xs.map (Value.int .u32)) = (xs ++ List.replicate (n - xs.length) 0).map (Value.int .u32) := by
  simp [splice, List.map_append, List.drop_replicate]
theorem val_zeros (n : Nat) : val (List.replicate n 0) = 0 := by
  induction n with
  | zero => rfl
  | succ n ih => simp [List.replicate_succ, val, ih]

/-! ### Comparing -/
/-- -1, 0 or 1. -/
def cmpZ (a b : Int) : Int := if a < b then -1 else if a = b then 0 else 1
theorem cmp_at {xs ys : List Int} {j : Nat} (hx : Lim xs) (hy : Lim ys) (hl : xs.length = ys.length) (hj : j < xs.length) (he : xs.drop (j + 1) = ys.drop (j + 1)) (hlt : xs[j]?.getD 0 < ys[j]?.getD 0) : val xs < val ys := by
  have e1 : val xs = val (xs.take (j + 1)) + 4294967296 ^ (j + 1) * val (xs.drop (j + 1)) := by
    have := val_append (xs.take (j + 1)) (xs.drop (j + 1))
    rw [List.take_append_drop] at this
    rw [this, List.length_take, Nat.min_eq_left (by omega)]
  have e2 : val ys = val (ys.take (j + 1)) + 4294967296 ^ (j + 1) * val (xs.drop (j + 1)) := by
    have := val_append (ys.take (j + 1)) (ys.drop (j + 1))
    rw [List.take_append_drop] at this
    rw [this, List.length_take, Nat.min_eq_left (by omega), he]
  rw [val_take_succ] at e1 e2
  have b1 := val_lt (hx.take j)
  have b2 := val_nonneg (hy.take j)
  rw [List.length_take, Nat.min_eq_left (by omega)] at b1
  have hp := p_pos j
  have hm : (4294967296 : Int) ^ j * (xs[j]?.getD 0 + 1) ≤ 4294967296 ^ j * (ys[j]?.getD 0) := Int.mul_le_mul_of_nonneg_left (by omega) (Int.le_of_lt hp)
  rw [Int.mul_add, Int.mul_one] at hm
  omega
theorem cmp_len {xs ys : List Int} (hx : Lim xs) (hy : Lim ys) (ny : Nrm ys) (hl : xs.length < ys.length) : val xs < val ys := by
  have hne : ys ≠ [] := by intro e; simp [e] at hl
  have h1 := val_lt hx
  have h2 := val_ge hy ny hne
  have h3 := p_mono xs.length (ys.length - 1 - xs.length)
  rw [show xs.length + (ys.length - 1 - xs.length) = ys.length - 1 by omega] at h3
  omega
theorem drop_step {xs ys : List Int} {j : Nat} (hl : xs.length = ys.length) (he : xs.drop (j + 1) = ys.drop (j + 1)) (h : xs[j]?.getD 0 = ys[j]?.getD 0) : xs.drop j = ys.drop j := by
  by_cases hj : j < xs.length
  · have hj' : j < ys.length := by omega
    rw [List.drop_eq_getElem_cons hj, List.drop_eq_getElem_cons hj', he]
    rw [List.getElem?_eq_getElem hj, List.getElem?_eq_getElem hj'] at h
    simp only [Option.getD_some] at h
    rw [h]
  · rw [List.drop_eq_nil_of_le (by omega), List.drop_eq_nil_of_le (by omega)]

end Go.Proofs.Ytnefdfgonolafaa
