/- A fraction that is held as limbs; what is written into its two rows; the bound of a quotient. -/
import Derived.Test.YtfhcbgjnojcigaaLow
import Derived.Test.YtfhcbgjnojcigaaEq
namespace Go.Proofs.Ytfhcbgjnojcigaa
open Go.RowKit

theorem below_two {base : Nat} {w wm w' : World} {a b : Option Addr} {c d : Nat} {xs ys : List Int} (h1 : Own base w a c xs) (h2 : Own base w b d ys) (g1 : w.grownBy wm (rowOf a xs)) (g2 : wm.grownBy w' (rowOf b ys)) (hb : base ≤ w.heap.size) : Below base w w' :=
  (below_of_grown h1 g1 hb).trans ⟨g2.os, g2.tape, g2.output, g2.size, fun i hi => g2.block i (Nat.lt_of_lt_of_le hi (Nat.le_trans hb g1.size)) (row_ne_low h2 hi)⟩
theorem IsFrac.as {b : Nat} {w : World} {v : Value} {n d : Int} (h : IsFrac b w v n d) {zs ts : List Int} (hh : Lim zs ∧ Nrm zs ∧ val zs = mg n ∧ Lim ts ∧ Nrm ts ∧ val ts = mg d) :
    ∃ a c a' c', v = .agg #[.bool (decide (n < 0)), .slice a zs.length c, .bool (decide (d < 0)), .slice a' ts.length c'] ∧ Own b w a c zs ∧ Own b w a' c' ts ∧ Apart a zs a' ts := by
  obtain ⟨a1, c1, qs, a2, c2, rs, e, o1, o2, n1, n2, v1, v2, ap⟩ := h
  obtain ⟨l1, m1, w1, l2, m2, w2⟩ := hh
  obtain rfl : zs = qs := val_inj l1 o1.lim m1 n1 (w1.trans v1.symm)
  obtain rfl : ts = rs := val_inj l2 o2.lim m2 n2 (w2.trans v2.symm)
  exact ⟨a1, c1, a2, c2, e, o1, o2, ap⟩
theorem quot_le {n m : Int} (hm : 0 < m) : mg (n / m) ≤ mg n := by
  have e := Int.mul_ediv_add_emod n m
  have r0 := Int.emod_nonneg n (show m ≠ 0 by omega)
  have r1 := Int.emod_lt_of_pos n hm
  by_cases hn : 0 ≤ n
  · have q0 := Int.ediv_nonneg hn (show 0 ≤ m by omega)
    have q1 := Int.ediv_le_self m hn
    unfold mg
    rw [if_neg (by omega), if_neg (by omega)]
    exact q1
  · have hq : n / m < 0 := Int.ediv_neg_of_neg_of_pos (by omega) hm
    have h11 : n < m * (n / m + 1) := by rw [Int.mul_add, Int.mul_one]; omega
    have h12 : m * (n / m + 1) ≤ 1 * (n / m + 1) := Int.mul_le_mul_of_nonpos_right (by omega) (by omega)
    unfold mg
    rw [if_pos hq, if_pos (by omega)]
    omega
end Go.Proofs.Ytfhcbgjnojcigaa
