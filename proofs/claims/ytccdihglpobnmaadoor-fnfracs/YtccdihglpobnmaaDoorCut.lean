/- Limbs of a number; a fraction that was cut at the limit, by the limbs of its parts. -/
import Derived.Test.YtccdihglpobnmaaDoorMulF
import Derived.Test.YtccdihglpobnmaaDoorFracA
import Derived.Test.YtccdihglpobnmaaDoorBase
namespace Go.Proofs.YtccdihglpobnmaaDoor
open Go.RowKit

theorem CutF.as {b : Nat} {w : World} {v : Value} {z y : Int} (h : CutF b w v z y) {zs ts : List Int} (hh : Lim zs ∧ Nrm zs ∧ val zs = mg z ∧ Lim ts ∧ Nrm ts ∧ val ts = mg y) :
    IsFrac b w v (fN (decide (z < 0)) zs (decide (y < 0)) ts) (fD (decide (z < 0)) zs (decide (y < 0)) ts) := by
  obtain ⟨zs', ts', l1, n1, v1, l2, n2, v2, hI⟩ := h
  obtain ⟨m1, k1, w1, m2, k2, w2⟩ := hh
  obtain rfl : zs = zs' := val_inj m1 l1 k1 n1 (w1.trans v1.symm)
  obtain rfl : ts = ts' := val_inj m2 l2 k2 n2 (w2.trans v2.symm)
  exact hI
theorem cut_len {g h : Bool} {xs ys zs ts : List Int} (hx : Lim xs) (hy : Lim ys) (hz : Lim zs ∧ Nrm zs ∧ val zs = mg (fN g xs h ys) ∧ Lim ts ∧ Nrm ts ∧ val ts = mg (fD g xs h ys)) : zs.length ≤ 25 ∧ ts.length ≤ 25 := by
  have h5 := p_pos 24
  have b1 : mg (fN g xs h ys) < 4294967296 ^ 24 := by
    unfold fN
    split
    · have := tk_bounds g xs hx
      unfold mg
      split <;> omega
    · unfold mg; simp only [Int.lt_irrefl, if_false]; omega
  have b2 : mg (fD g xs h ys) < 4294967296 ^ 24 := by
    unfold fD
    split
    · have := tk_bounds h ys hy
      unfold mg
      split <;> omega
    · show (1 : Int) < _
      exact (by decide : (1 : Int) < 4294967296 ^ 24)
  obtain ⟨l1, n1, v1, l2, n2, v2⟩ := hz
  exact ⟨Nat.le_trans (len_le l1 n1 (k := 24) (by rw [v1]; exact b1)) (by decide), Nat.le_trans (len_le l2 n2 (k := 24) (by rw [v2]; exact b2)) (by decide)⟩
end Go.Proofs.YtccdihglpobnmaaDoor
