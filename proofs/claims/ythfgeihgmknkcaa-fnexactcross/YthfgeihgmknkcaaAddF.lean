/- AddFrac: the program's and the specification's. -/
import Derived.Test.YthfgeihgmknkcaaMulF
import Derived.Test.YthfgeihgmknkcaaAddI
import Derived.Deep.DeepCutAuto
import Derived.Test.YthfgeihgmknkcaaSAdd
namespace Go.Proofs.Ythfgeihgmknkcaa
open Go.RowKit

theorem l2AddC (g g' : Bool) (a b : Option Addr) (c d : Nat) (xs ys : List Int) (w : World) (h : Sees w a c xs) (k : Sees w b d ys) (nx : Nrm xs) (ny : Nrm ys) (hx : xs.length ≤ 1048576) (hy : ys.length ≤ 1048576) :
    Calls Try.prog 32 #[.agg #[.bool g, .slice a xs.length c], .agg #[.bool g', .slice b ys.length d]] w fun e w' => ∃ v, e = .returned v ∧ IsNum w.heap.size w' v (sg g (val xs) + sg g' (val ys)) ∧ Below w.heap.size w w' := by
  have HX : Hid (xs.length ≤ 1048576 ∧ ys.length ≤ 1048576 ∧ Nrm xs ∧ Nrm ys) := ⟨hx, hy, nx, ny⟩
  clear hx hy nx ny
  go_enter Try.func32, Try.ntmps32
  go_wp2_with fail
  refine (l1AddC g g' a b c d xs ys _ (h.below (below3 _ _ _ _)) (k.below (below3 _ _ _ _)) HX.out.2.2.1 HX.out.2.2.2 HX.out.1 HX.out.2.1).mono ?_
  rintro e w1 ⟨v, rfl, hI, hb⟩
  obtain ⟨q1, q2⟩ := at_block hb (b := w.heap.size + 1 + 1) (by simp)
  have z1 : w.heap.size + 1 + 1 < w1.heap.size := by have := hb.size; simp at this; omega
  have B1 := (below3 w _ _ _).trans (hb.mono (by simp; omega))
  simp only [World.size_alloc] at hI
  obtain ⟨g5, a5, l5, c5, rfl⟩ := hI.shape
  clear hb
  go_wp2
  exact bodyPost_ret (v := .agg #[.bool g5, .slice a5 l5 c5]) (by simp [results, Try.results32, go_sem, q1]) rfl ⟨_, rfl, hI.put' (by omega) (by omega), below_put' B1 (by omega) _ _⟩

theorem sg_of_mg' (z : Int) : sg (decide (z < 0)) (mg z) = z := by
  unfold sg mg
  by_cases h : z < 0 <;> simp [h]
theorem sum_len {z1 z2 : Int} {us vs zs : List Int} (hu : Lim us) (hv : Lim vs) (v1 : val us = mg z1) (v2 : val vs = mg z2) (l1 : us.length ≤ 48) (l2 : vs.length ≤ 48) (lz : Lim zs) (nz : Nrm zs) (vz : val zs = mg (z1 + z2)) : zs.length ≤ 49 := by
  refine len_le lz nz ?_
  have b1 := val_lt hu
  have b2 := val_lt hv
  have m1 := p_mono us.length (48 - us.length)
  have m2 := p_mono vs.length (48 - vs.length)
  rw [show us.length + (48 - us.length) = 48 by omega] at m1
  rw [show vs.length + (48 - vs.length) = 48 by omega] at m2
  have hp := p_pos 48
  have e : mg (z1 + z2) ≤ mg z1 + mg z2 := by unfold mg; split <;> split <;> split <;> omega
  have e49 : (4294967296 : Int) ^ 49 = 4294967296 ^ 48 * 4294967296 := Int.pow_succ ..
  rw [vz, e49]
  omega

end Go.Proofs.Ythfgeihgmknkcaa
