/- What Cross answers, of points that are taken: mathematics. -/
import Derived.Test.YtfhcbgjnojcigaaShr
import Derived.Test.YtfhcbgjnojcigaaPartW
namespace Go.Proofs.Ytfhcbgjnojcigaa
open Go.RowKit

def crX (x1 y1 x2 y2 x3 y3 x4 y4 : Int) : Int := x1 * allW x1 y1 x2 y2 x3 y3 x4 y4 + (x2 - x1) * partW x1 y1 x3 y3 x4 y4
def crY (x1 y1 x2 y2 x3 y3 x4 y4 : Int) : Int := y1 * allW x1 y1 x2 y2 x3 y3 x4 y4 + (y2 - y1) * partW x1 y1 x3 y3 x4 y4
/-- The kind, and the two fractions' parts. -/
def crV (x1 y1 x2 y2 x3 y3 x4 y4 : Int) : Int × Int × Int × Int × Int :=
  if metI x1 y1 x2 y2 x3 y3 x4 y4 = true then
    if (shared x1 y1 x2 y2 x3 y3 x4 y4).length = 0 then (1, cN (crX x1 y1 x2 y2 x3 y3 x4 y4) (allW x1 y1 x2 y2 x3 y3 x4 y4), cD (crX x1 y1 x2 y2 x3 y3 x4 y4) (allW x1 y1 x2 y2 x3 y3 x4 y4), cN (crY x1 y1 x2 y2 x3 y3 x4 y4) (allW x1 y1 x2 y2 x3 y3 x4 y4), cD (crY x1 y1 x2 y2 x3 y3 x4 y4) (allW x1 y1 x2 y2 x3 y3 x4 y4))
    else if (shared x1 y1 x2 y2 x3 y3 x4 y4).length = 1 then (1, (oneOf x1 y1 x2 y2 x3 y3 x4 y4).1, 1, (oneOf x1 y1 x2 y2 x3 y3 x4 y4).2, 1)
    else (2, 0, 1, 0, 1)
  else (0, 0, 1, 0, 1)
theorem shL_shared (x1 y1 x2 y2 x3 y3 x4 y4 : Int) : shL x1 y1 x2 y2 x3 y3 x4 y4 [(x1, y1), (x2, y2), (x3, y3), (x4, y4)] = shared x1 y1 x2 y2 x3 y3 x4 y4 := rfl
theorem shO_one (x1 y1 x2 y2 x3 y3 x4 y4 : Int) : shO x1 y1 x2 y2 x3 y3 x4 y4 [(x1, y1), (x2, y2), (x3, y3), (x4, y4)] = oneOf x1 y1 x2 y2 x3 y3 x4 y4 := rfl
theorem gcd_mg2 (x y : Int) : Int.gcd (mg x) (mg y) = Int.gcd x y := by unfold mg; split <;> split <;> simp
theorem neg_div_gcd {n : Int} {g : Int} (h : g ∣ n) : -n / g = n / -g := by rw [Int.ediv_neg, Int.neg_ediv_of_dvd h]
theorem one_crd {x1 y1 x2 y2 x3 y3 x4 y4 : Int} (c1 : Crd x1) (d1 : Crd y1) (c2 : Crd x2) (d2 : Crd y2) (c3 : Crd x3) (d3 : Crd y3) (c4 : Crd x4) (d4 : Crd y4) : Crd (oneOf x1 y1 x2 y2 x3 y3 x4 y4).1 ∧ Crd (oneOf x1 y1 x2 y2 x3 y3 x4 y4).2 := by
  have z : Crd 0 ∧ Crd 0 := ⟨⟨by decide, by decide⟩, ⟨by decide, by decide⟩⟩
  have st : ∀ (o p : Int × Int) (b : Bool), (Crd o.1 ∧ Crd o.2) → (Crd p.1 ∧ Crd p.2) → Crd (lastP o p b).1 ∧ Crd (lastP o p b).2 := by
    intro o p b ho hp
    unfold lastP
    split
    · exact hp
    · exact ho
  unfold oneOf
  exact st _ _ _ (st _ _ _ (st _ _ _ (st _ _ _ z ⟨c1, d1⟩) ⟨c2, d2⟩) ⟨c3, d3⟩) ⟨c4, d4⟩
theorem sg_mgD (z : Int) : sg (decide (z < 0)) (mg z) = z := by unfold sg mg; by_cases h : z < 0 <;> simp [h]
theorem low_pos {n a : Int} {z w : List Int} (vz : val z = mg n) (vw : val w = mg a) (h : ¬ a < 0) : sg (decide (n < 0)) (val z) / (Int.gcd (val z) (val w) : Int) = cN n a ∧ val w / (Int.gcd (val z) (val w) : Int) = cD n a := by
  have ea : mg a = a := by unfold mg; rw [if_neg h]
  unfold cN cD
  rw [if_neg h, if_neg h, vz, vw, sg_mgD, gcd_mg2, ea]
  exact ⟨rfl, rfl⟩
theorem low_neg {n a : Int} {z w : List Int} (vz : val z = mg (-n)) (vw : val w = mg (-a)) (h : a < 0) : sg (decide (-n < 0)) (val z) / (Int.gcd (val z) (val w) : Int) = cN n a ∧ val w / (Int.gcd (val z) (val w) : Int) = cD n a := by
  have ea : mg (-a) = -a := by unfold mg; rw [if_neg (by omega)]
  have eg : Int.gcd (-n) (-a) = Int.gcd n a := by simp
  unfold cN cD
  rw [if_pos h, if_pos h, vz, vw, sg_mgD, gcd_mg2, ea, eg, neg_div_gcd (Int.gcd_dvd_left n a), neg_div_gcd (Int.gcd_dvd_right n a)]
  exact ⟨rfl, rfl⟩
theorem nrm_ne0 {ds : List Int} {z : Int} (hv : val ds = mg z) (hz : z ≠ 0) : ds ≠ [] := by
  intro e
  rw [e] at hv
  have : mg z = 0 := hv.symm
  unfold mg at this
  split at this <;> omega
end Go.Proofs.Ytfhcbgjnojcigaa
