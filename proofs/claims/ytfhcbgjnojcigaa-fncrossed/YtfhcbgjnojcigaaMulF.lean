/- MulFrac: the program's and the specification's. -/
import Derived.Test.YtfhcbgjnojcigaaMulW
import Derived.Test.YtfhcbgjnojcigaaL2Mul
import Derived.Test.YtfhcbgjnojcigaaSLow
import Derived.Test.YtfhcbgjnojcigaaFTakeO
import Derived.Test.YtfhcbgjnojcigaaBase
import Derived.Test.YtfhcbgjnojcigaaHeldQ
namespace Go.Proofs.Ytfhcbgjnojcigaa
open Go.RowKit

theorem prod_sg (n m : Int) : sg (decide (n < 0) != decide (m < 0)) (mg n * mg m) = n * m := by
  unfold sg mg
  by_cases h : n < 0 <;> by_cases k : m < 0 <;> simp [h, k, Int.neg_mul, Int.mul_neg]
theorem mg_mul_pos {n m : Int} (h : 0 < n) (k : 0 < m) : decide (n * m < 0) = false ∧ mg (n * m) = n * m := by
  have := Int.mul_pos h k
  refine ⟨decide_eq_false (by omega), ?_⟩
  unfold mg; rw [if_neg (by omega)]
theorem prod_len {n m : Int} {xs ys zs : List Int} (hx : Lim xs) (hy : Lim ys) (v1 : val xs = mg n) (v2 : val ys = mg m) (l1 : xs.length ≤ 24) (l2 : ys.length ≤ 24) (lz : Lim zs) (nz : Nrm zs) (vz : val zs = mg (n * m)) : zs.length ≤ 48 := by
  refine len_le lz nz ?_
  have e : mg (n * m) = mg n * mg m := by
    unfold mg
    rcases Int.lt_trichotomy n 0 with h | h | h <;> rcases Int.lt_trichotomy m 0 with k | k | k
    · have := Int.mul_pos (a := -n) (b := -m) (by omega) (by omega); rw [Int.neg_mul_neg] at this
      rw [if_neg (by omega), if_pos h, if_pos k, Int.neg_mul_neg]
    · subst k; simp
    · have := Int.mul_pos (a := -n) (b := m) (by omega) (by omega); rw [Int.neg_mul] at this
      rw [if_pos (by omega), if_pos h, if_neg (by omega), Int.neg_mul]
    · subst h; simp
    · subst h; simp
    · subst h; simp
    · have := Int.mul_pos (a := n) (b := -m) (by omega) (by omega); rw [Int.mul_neg] at this
      rw [if_pos (by omega), if_neg (by omega), if_pos k, Int.mul_neg]
    · subst k; simp
    · have := Int.mul_pos h k
      rw [if_neg (by omega), if_neg (by omega), if_neg (by omega)]
  rw [vz, e, ← v1, ← v2]
  have b1 := val_lt hx
  have b2 := val_lt hy
  have p1 := val_nonneg hx
  have p2 := val_nonneg hy
  have m1 := p_mono xs.length (24 - xs.length)
  have m2 := p_mono ys.length (24 - ys.length)
  rw [show xs.length + (24 - xs.length) = 24 by omega] at m1
  rw [show ys.length + (24 - ys.length) = 24 by omega] at m2
  have hp := p_pos 24
  have h1 : val xs * val ys ≤ val xs * 4294967296 ^ 24 := Int.mul_le_mul_of_nonneg_left (by omega) p1
  have h2 : val xs * 4294967296 ^ 24 < 4294967296 ^ 24 * 4294967296 ^ 24 := Int.mul_lt_mul_of_pos_right (by omega) hp
  have e48 : (4294967296 : Int) ^ 48 = 4294967296 ^ 24 * 4294967296 ^ 24 := by rw [← Int.pow_add]
  omega

theorem fD_pos (g : Bool) (xs : List Int) (h : Bool) (ys : List Int) : 0 < fD g xs h ys := by
  unfold fD
  split
  · next e =>
    unfold fOk at e
    simp only [Bool.and_eq_true, decide_eq_true_eq] at e
    have := e.2
    unfold cmpZ at this
    split at this
    · omega
    · split at this <;> omega
  · decide
theorem gcd_mgs (x y : Int) : Int.gcd (mg x) (mg y) = Int.gcd x y := by unfold mg; split <;> split <;> simp
/-- The parts in lowest terms. -/
def qN (n d : Int) : Int := n / (Int.gcd n d : Int)
def qD (n d : Int) : Int := d / (Int.gcd n d : Int)
/-- A fraction of parts z and y that was cut at the limit: the limbs of its parts are zs and ts. -/
def CutF (base : Nat) (w : World) (v : Value) (z y : Int) : Prop :=
  ∃ zs ts, Lim zs ∧ Nrm zs ∧ val zs = mg z ∧ Lim ts ∧ Nrm ts ∧ val ts = mg y ∧ IsFrac base w v (fN (decide (z < 0)) zs (decide (y < 0)) ts) (fD (decide (z < 0)) zs (decide (y < 0)) ts)
theorem CutF.below {base : Nat} {w w' : World} {v : Value} {z y : Int} (h : CutF base w v z y) (hb : Below w.heap.size w w') : CutF base w' v z y := by
  obtain ⟨zs, ts, l1, n1, v1, l2, n2, v2, hI⟩ := h
  exact ⟨zs, ts, l1, n1, v1, l2, n2, v2, hI.below hb⟩

theorem fboxes (s t s' t' : Bool) (a b a' b' : Option Addr) (c e c' e' : Nat) (ns ds ns' ds' : List Int) (w : World) :
    (((w.alloc (.cells #[.bool s, .slice a ns.length c, .bool t, .slice b ds.length e] 32)).alloc (.cells #[.bool s', .slice a' ns'.length c', .bool t', .slice b' ds'.length e'] 32)).alloc (.cells #[.bool false, .slice none 0 0, .bool false, .slice none 0 0] 32)).cell? ⟨w.heap.size, 0, none⟩ = some (.bool s) ∧ (((w.alloc (.cells #[.bool s, .slice a ns.length c, .bool t, .slice b ds.length e] 32)).alloc (.cells #[.bool s', .slice a' ns'.length c', .bool t', .slice b' ds'.length e'] 32)).alloc (.cells #[.bool false, .slice none 0 0, .bool false, .slice none 0 0] 32)).cell? ⟨w.heap.size, 1, none⟩ = some (.slice a ns.length c) ∧ (((w.alloc (.cells #[.bool s, .slice a ns.length c, .bool t, .slice b ds.length e] 32)).alloc (.cells #[.bool s', .slice a' ns'.length c', .bool t', .slice b' ds'.length e'] 32)).alloc (.cells #[.bool false, .slice none 0 0, .bool false, .slice none 0 0] 32)).cell? ⟨w.heap.size, 2, none⟩ = some (.bool t) ∧ (((w.alloc (.cells #[.bool s, .slice a ns.length c, .bool t, .slice b ds.length e] 32)).alloc (.cells #[.bool s', .slice a' ns'.length c', .bool t', .slice b' ds'.length e'] 32)).alloc (.cells #[.bool false, .slice none 0 0, .bool false, .slice none 0 0] 32)).cell? ⟨w.heap.size, 3, none⟩ = some (.slice b ds.length e) ∧ (((w.alloc (.cells #[.bool s, .slice a ns.length c, .bool t, .slice b ds.length e] 32)).alloc (.cells #[.bool s', .slice a' ns'.length c', .bool t', .slice b' ds'.length e'] 32)).alloc (.cells #[.bool false, .slice none 0 0, .bool false, .slice none 0 0] 32)).cell? ⟨w.heap.size + 1, 0, none⟩ = some (.bool s') ∧ (((w.alloc (.cells #[.bool s, .slice a ns.length c, .bool t, .slice b ds.length e] 32)).alloc (.cells #[.bool s', .slice a' ns'.length c', .bool t', .slice b' ds'.length e'] 32)).alloc (.cells #[.bool false, .slice none 0 0, .bool false, .slice none 0 0] 32)).cell? ⟨w.heap.size + 1, 1, none⟩ = some (.slice a' ns'.length c') ∧ (((w.alloc (.cells #[.bool s, .slice a ns.length c, .bool t, .slice b ds.length e] 32)).alloc (.cells #[.bool s', .slice a' ns'.length c', .bool t', .slice b' ds'.length e'] 32)).alloc (.cells #[.bool false, .slice none 0 0, .bool false, .slice none 0 0] 32)).cell? ⟨w.heap.size + 1, 2, none⟩ = some (.bool t') ∧ (((w.alloc (.cells #[.bool s, .slice a ns.length c, .bool t, .slice b ds.length e] 32)).alloc (.cells #[.bool s', .slice a' ns'.length c', .bool t', .slice b' ds'.length e'] 32)).alloc (.cells #[.bool false, .slice none 0 0, .bool false, .slice none 0 0] 32)).cell? ⟨w.heap.size + 1, 3, none⟩ = some (.slice b' ds'.length e') ∧ Box4 w.heap.size (((w.alloc (.cells #[.bool s, .slice a ns.length c, .bool t, .slice b ds.length e] 32)).alloc (.cells #[.bool s', .slice a' ns'.length c', .bool t', .slice b' ds'.length e'] 32)).alloc (.cells #[.bool false, .slice none 0 0, .bool false, .slice none 0 0] 32)) (w.heap.size + 1 + 1) (.bool false) (.slice none 0 0) (.bool false) (.slice none 0 0) ∧ Below w.heap.size w (((w.alloc (.cells #[.bool s, .slice a ns.length c, .bool t, .slice b ds.length e] 32)).alloc (.cells #[.bool s', .slice a' ns'.length c', .bool t', .slice b' ds'.length e'] 32)).alloc (.cells #[.bool false, .slice none 0 0, .bool false, .slice none 0 0] 32)) := by
  refine ⟨by simp [go_sem], by simp [go_sem], by simp [go_sem], by simp [go_sem], by simp [go_sem], by simp [go_sem], by simp [go_sem], by simp [go_sem], ?_, below3 _ _ _ _⟩
  have := Box4.new ((w.alloc (.cells #[.bool s, .slice a ns.length c, .bool t, .slice b ds.length e] 32)).alloc (.cells #[.bool s', .slice a' ns'.length c', .bool t', .slice b' ds'.length e'] 32)) (lo := w.heap.size) (by simp; omega) (.bool false) (.slice none 0 0) (.bool false) (.slice none 0 0) 32
  rwa [World.size_alloc, World.size_alloc] at this

end Go.Proofs.Ytfhcbgjnojcigaa
