/- Where a point lies by an area: of the specification (l6Area, l6Locate, Locate); and the program's Locate. -/
import Derived.Test.YthafgldgidmnlaaGreatLocI
namespace Go.Proofs.YthafgldgidmnlaaGreat
open Go.RowKit

set_option maxRecDepth 20000 in
theorem l6Area_any (n : Int) (a : Option Addr) (c : Nat) (rs : List (List (Int × Int))) (w : World) (h : SeesS w a c rs) :
    Calls Tryz.prog 14 #[.agg #[.int .i64 n, .slice a rs.length c]] w fun e w' => e = .returned (.bool (decide (n = 5) && goodB n rs)) ∧ Below w.heap.size w w' := by
  have B := below1 w (.cells #[.int .i64 n, .slice a rs.length c] 35)
  have V := Box2.new w (lo := w.heap.size) (Nat.le_refl _) (.int .i64 n) (.slice a rs.length c) 35
  obtain ⟨k0, k1, _, _⟩ := id V
  by_cases h5 : n = 5
  · subst h5
    rw [decide_eq_true rfl, Bool.true_and]
    go_enter Tryz.func14, Tryz.ntmps14
    go_wp2_with fail
    refine (l5Good_any 5 a c rs _ (h.below B)).mono ?_
    rintro e w1 ⟨rfl, hb⟩
    replace B := B.trans (hb.mono B.size)
    clear hb k0 k1
    go_wp2
    go_ret
    exact ⟨rfl, B⟩
  · rw [decide_eq_false h5, Bool.false_and]
    have b5 : (n == 5) = false := by simp [h5]
    go_enter Tryz.func14, Tryz.ntmps14
    go_wp2
    go_ret
    exact ⟨rfl, B⟩
theorem inV_cases (q : List (Int × Int)) (px py : Int) : inV q px py = 0 ∨ inV q px py = 1 ∨ inV q px py = 2 := by
  unfold inV
  split
  · exact .inr (.inl rfl)
  · split
    · exact .inr (.inr rfl)
    · exact .inl rfl
theorem keepL5 {W W' : World} {p q : Nat} {b off : Nat} {v0 v1 v2 v3 v4 : Value} (k : W.cell? ⟨p, 0, none⟩ = some v0 ∧ W.cell? ⟨p, 1, none⟩ = some v1 ∧ W.cell? ⟨q, 0, none⟩ = some v2 ∧ W.cell? ⟨q, 1, none⟩ = some v3 ∧ W.cell? ⟨b, off, none⟩ = some v4) (hb : Below W.heap.size W W') :
    W'.cell? ⟨p, 0, none⟩ = some v0 ∧ W'.cell? ⟨p, 1, none⟩ = some v1 ∧ W'.cell? ⟨q, 0, none⟩ = some v2 ∧ W'.cell? ⟨q, 1, none⟩ = some v3 ∧ W'.cell? ⟨b, off, none⟩ = some v4 :=
  ⟨bat hb k.1, bat hb k.2.1, bat hb k.2.2.1, bat hb k.2.2.2.1, bat hb k.2.2.2.2⟩

/-- Where a point lies by a shape; 0 by one that is no good area, and for a point out of the bounds. -/
def locV (n : Int) (rs : List (List (Int × Int))) (px py : Int) : Int := if ptOk px py && (decide (n = 5) && goodB n rs) then locI rs (px, py) else 0
theorem keepL4 {W W' : World} {p q : Nat} {v0 v1 v2 v3 : Value} (k : W.cell? ⟨p, 0, none⟩ = some v0 ∧ W.cell? ⟨p, 1, none⟩ = some v1 ∧ W.cell? ⟨q, 0, none⟩ = some v2 ∧ W.cell? ⟨q, 1, none⟩ = some v3) (hb : Below W.heap.size W W') :
    W'.cell? ⟨p, 0, none⟩ = some v0 ∧ W'.cell? ⟨p, 1, none⟩ = some v1 ∧ W'.cell? ⟨q, 0, none⟩ = some v2 ∧ W'.cell? ⟨q, 1, none⟩ = some v3 :=
  ⟨bat hb k.1, bat hb k.2.1, bat hb k.2.2.1, bat hb k.2.2.2⟩
theorem ptOk_crd {x y : Int} (h : ptOk x y = true) : Crd x ∧ Crd y := by
  unfold ptOk at h
  rw [Bool.and_eq_true, inB_true, inB_true] at h
  exact h
theorem goodA_rows {rs : List (List (Int × Int))} (h : goodB 5 rs = true) : ∀ i, i < rs.length → okL (rowA rs i) = true := by
  have hf : formB 5 rs = true := by
    unfold goodB goodTo at h
    rw [Bool.and_eq_true] at h
    exact h.1
  exact fun i hi => (area_row hf i hi).1

end Go.Proofs.YthafgldgidmnlaaGreat
