/- Rings of points: their edges, twice their area; the specification's l5Edge, l5Twice, TwiceArea. -/
import Derived.Test.YtbdpnfdpnaoicaaPtX
import Derived.BigRegion
namespace Go.Proofs.Ytbdpnfdpnaoicaa
open Go.RowKit

/-- A point of a row. -/
def ptA (ps : List (Int × Int)) (i : Nat) : Int × Int := ps[i]?.getD (0, 0)
/-- The place behind a place, around. -/
def nx (n i : Nat) : Nat := (i + 1) % n
theorem nx_lt {n i : Nat} (h : i < n) : nx n i < n := Nat.mod_lt _ (by omega)
/-- What an edge adds to twice the area. -/
def term (ps : List (Int × Int)) (i : Nat) : Int := (ptA ps i).1 * (ptA ps (nx ps.length i)).2 - (ptA ps i).2 * (ptA ps (nx ps.length i)).1
def tw (ps : List (Int × Int)) : Nat → Int
  | 0 => 0
  | j + 1 => tw ps j + term ps j
theorem okL_at {ps : List (Int × Int)} (h : okL ps = true) {i : Nat} (hi : i < ps.length) : Crd (ptA ps i).1 ∧ Crd (ptA ps i).2 := by
  unfold okL at h
  rw [List.all_eq_true] at h
  have := h ps[i] (List.getElem_mem hi)
  unfold ptA
  rw [List.getElem?_eq_getElem hi]
  unfold ptOk at this
  simp only [Bool.and_eq_true, inB_true] at this
  exact this
theorem mul_crd {x y : Int} (hx : Crd x) (hy : Crd y) : -100000000000000 ≤ x * y ∧ x * y ≤ 100000000000000 := by
  obtain ⟨x0, x1⟩ := hx
  obtain ⟨y0, y1⟩ := hy
  have h : (x * y).natAbs ≤ 10000000 * 10000000 := by rw [Int.natAbs_mul]; exact Nat.mul_le_mul (by omega) (by omega)
  omega
theorem term_bound {ps : List (Int × Int)} (h : okL ps = true) {i : Nat} (hi : i < ps.length) : -200000000000000 ≤ term ps i ∧ term ps i ≤ 200000000000000 := by
  obtain ⟨a, b⟩ := okL_at h hi
  obtain ⟨c, d⟩ := okL_at h (nx_lt hi)
  have h1 := mul_crd a d
  have h2 := mul_crd b c
  unfold term
  omega
theorem tw_bound {ps : List (Int × Int)} (h : okL ps = true) : ∀ j, j ≤ ps.length → -(200000000000000 * (j : Int)) ≤ tw ps j ∧ tw ps j ≤ 200000000000000 * (j : Int)
  | 0, _ => by simp [tw]
  | j + 1, hj => by
    have h1 := tw_bound h j (by omega)
    have h2 := term_bound h (show j < ps.length by omega)
    simp only [tw]
    omega
/-- Twice the area, as it is answered. -/
def twA (ps : List (Int × Int)) : Int := if ps.length ≤ 60 ∧ okL ps = true then tw ps ps.length else 0

end Go.Proofs.Ytbdpnfdpnaoicaa
