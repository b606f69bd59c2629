/- AddFrac: the program's and the specification's. -/
import Derived.Test.YtfhcbgjnojcigaaMulF
import Derived.Test.YtfhcbgjnojcigaaAddI
import Derived.Deep.DeepCutAuto
import Derived.Test.YtfhcbgjnojcigaaSAdd
namespace Go.Proofs.Ytfhcbgjnojcigaa
open Go.RowKit

theorem sg_of_mg' (z : Int) : sg (decide (z < 0)) (mg z) = z := by
  unfold sg mg
  by_cases h : z < 0 <;> simp [h]
theorem sum_len {z1 z2 : Int} {us vs zs : List Int} (hu : Lim us) (hv : Lim vs) (v1 : val us = mg z1) (v2 : val vs = mg z2) (l1 : us.length ≤ 48) (l2 : vs.length ≤ 48) (lz : Lim zs) (nz : Nrm zs) (vz : val zs = mg (z1 + z2)) : zs.length ≤ 49 := by
  refine len_le lz nz ?_
  have b1 := val_lt hu
  have b2 := val_lt hv
  have m1 := p_mono us.length (48 - us.length)
  have m2 := p_mono vs.length (48 - vs.length)
  rw [show us.length + (48 - us.length) = 48 by omega] at m1
  rw [show vs.length + (48 - vs.length) = 48 by omega] at m2
  have hp := p_pos 48
  have e : mg (z1 + z2) ≤ mg z1 + mg z2 := by unfold mg; split <;> split <;> split <;> omega
  have e49 : (4294967296 : Int) ^ 49 = 4294967296 ^ 48 * 4294967296 := Int.pow_succ ..
  rw [vz, e49]
  omega

end Go.Proofs.Ytfhcbgjnojcigaa
