/- Which shapes of a map meet a shape: the mathematics. -/
import Derived.Test.YtecjeomcbcpfiaaGreatChL
import Derived.Test.YtecjeomcbcpfiaaGreatMeetM
import Derived.Test.YtecjeomcbcpfiaaGreatBxShM
namespace Go.Proofs.YtecjeomcbcpfiaaGreat
open Go.RowKit

/-- The Ids of the first entries of which this holds. -/
def idsP (P : En → Bool) (es : List En) : Nat → List Int
  | 0 => []
  | j + 1 => idsP P es j ++ (if P (enA es j) then [(enA es j).1] else [])
theorem idsP_le (P : En → Bool) (es : List En) : ∀ j, (idsP P es j).length ≤ j
  | 0 => Nat.le_refl _
  | j + 1 => by
    have := idsP_le P es j
    simp only [idsP, List.length_append]
    split <;> simp <;> omega
theorem idsP_no (P : En → Bool) (es : List En) (h : ∀ e, P e = false) : ∀ j, idsP P es j = []
  | 0 => rfl
  | j + 1 => by simp [idsP, idsP_no P es h j, h]
theorem mpB_good {es : List En} (h : mpB es = true) {j : Nat} (hj : j < es.length) : goodB (enA es j).2.1 (enA es j).2.2 = true := by
  cases g : goodB (enA es j).2.1 (enA es j).2.2
  · have h1 : atE es j = false := by unfold atE; rw [g, Bool.and_false, Bool.and_false]
    unfold mpB at h
    rw [mpTo_no hj h1, Bool.and_false] at h
    cases h
  · rfl
theorem mpB_few {es : List En} (h : mpB es = true) : es.length ≤ 500 := by
  unfold mpB at h
  rw [Bool.and_eq_true] at h
  exact of_decide_eq_true h.1
/-- Whether an entry's shape meets this one. -/
def mtP (k : Int) (rs : List (List (Int × Int))) (e : En) : Bool := meetS e.2.1 e.2.2 k rs
/-- The Ids of a map's shapes that meet a shape. -/
def mtV (k : Int) (rs : List (List (Int × Int))) (es : List En) : List Int := if (mpB es && goodB k rs) = true then idsP (mtP k rs) es es.length else []
theorem mtV_few (k : Int) (rs : List (List (Int × Int))) (es : List En) : (mtV k rs es).length ≤ 500 := by
  unfold mtV
  split
  · rename_i h
    rw [Bool.and_eq_true] at h
    have := mpB_few h.1
    have := idsP_le (mtP k rs) es es.length
    omega
  · exact Nat.zero_le _
theorem mtV_off {k : Int} {rs : List (List (Int × Int))} {es : List En} (h : mpB es = false ∨ goodB k rs = false) : mtV k rs es = [] := by
  unfold mtV
  rw [if_neg]
  rcases h with h | h <;> simp [h]
theorem mtV_on {k : Int} {rs : List (List (Int × Int))} {es : List En} (h1 : mpB es = true) (h2 : goodB k rs = true) : mtV k rs es = idsP (mtP k rs) es es.length := by
  unfold mtV
  rw [h1, h2]
  rfl
/-- The Ids of a map's shapes that meet a box. -/
def wnV (a b c d : Int) (es : List En) : List Int := if boxOk a b c d = true then mtV (bxK a b c d) (bxR a b c d) es else []
theorem wnV_few (a b c d : Int) (es : List En) : (wnV a b c d es).length ≤ 500 := by
  unfold wnV
  split
  · exact mtV_few _ _ _
  · exact Nat.zero_le _
end Go.Proofs.YtecjeomcbcpfiaaGreat
