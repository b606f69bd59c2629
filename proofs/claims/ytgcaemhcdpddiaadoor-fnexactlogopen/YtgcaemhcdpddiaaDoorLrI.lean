/- The room behind a log's end, the program's side. -/
import Derived.Test.YtgcaemhcdpddiaaDoorTrim
import Derived.Test.YtgcaemhcdpddiaaDoorCmp
import Derived.Test.YtgcaemhcdpddiaaDoorQuR
import Derived.Deep.DeepCutAuto
namespace Go.Proofs.YtgcaemhcdpddiaaDoor
open Go.RowKit

/-- A variable of eight cells. -/
structure Box8 (lo : Nat) (w : World) (p : Nat) (x0 x1 x2 x3 x4 x5 x6 x7 : Value) : Prop where
  c0 : w.cell? ⟨p, 0, none⟩ = some x0
  c1 : w.cell? ⟨p, 1, none⟩ = some x1
  c2 : w.cell? ⟨p, 2, none⟩ = some x2
  c3 : w.cell? ⟨p, 3, none⟩ = some x3
  c4 : w.cell? ⟨p, 4, none⟩ = some x4
  c5 : w.cell? ⟨p, 5, none⟩ = some x5
  c6 : w.cell? ⟨p, 6, none⟩ = some x6
  c7 : w.cell? ⟨p, 7, none⟩ = some x7
  lo : lo ≤ p
theorem Box8.new (w : World) {lo : Nat} (h : lo ≤ w.heap.size) (x0 x1 x2 x3 x4 x5 x6 x7 : Value) (t : TypeId) : Box8 lo (w.alloc (.cells #[x0, x1, x2, x3, x4, x5, x6, x7] t)) w.heap.size x0 x1 x2 x3 x4 x5 x6 x7 :=
  ⟨cell_new w _ t 0 rfl, cell_new w _ t 1 rfl, cell_new w _ t 2 rfl, cell_new w _ t 3 rfl, cell_new w _ t 4 rfl, cell_new w _ t 5 rfl, cell_new w _ t 6 rfl, cell_new w _ t 7 rfl, h⟩
theorem Box8.lt {lo p : Nat} {w : World} {x0 x1 x2 x3 x4 x5 x6 x7 : Value} (h : Box8 lo w p x0 x1 x2 x3 x4 x5 x6 x7) : p < w.heap.size := World.block_lt_of_cell? _ _ h.c0
theorem Box8.below {lo p : Nat} {w w' : World} {x0 x1 x2 x3 x4 x5 x6 x7 : Value} (h : Box8 lo w p x0 x1 x2 x3 x4 x5 x6 x7) (hb : Below w.heap.size w w') : Box8 lo w' p x0 x1 x2 x3 x4 x5 x6 x7 :=
  ⟨bat hb h.c0, bat hb h.c1, bat hb h.c2, bat hb h.c3, bat hb h.c4, bat hb h.c5, bat hb h.c6, bat hb h.c7, h.lo⟩
theorem Box8.old {lo p q : Nat} {w : World} {x0 x1 x2 x3 x4 x5 x6 x7 : Value} (_ : Box8 lo w q x0 x1 x2 x3 x4 x5 x6 x7) (_ : q ≠ p) (_ _ : Value) : True := trivial

theorem Parts.four {w : World} {pb c0 c1 c2 c3 L : Nat} {g0 g1 g2 g3 : Bool} {a0 a1 a2 a3 : Option Addr} {x0 x1 x2 x3 : List Int} {lo : Nat}
    (h : Box8 lo w pb (.bool g0) (.slice a0 x0.length c0) (.bool g1) (.slice a1 x1.length c1) (.bool g2) (.slice a2 x2.length c2) (.bool g3) (.slice a3 x3.length c3))
    (s0 : Sees w a0 c0 x0) (s1 : Sees w a1 c1 x1) (s2 : Sees w a2 c2 x2) (s3 : Sees w a3 c3 x3) (n0 : Nrm x0) (n1 : Nrm x1) (n2 : Nrm x2) (n3 : Nrm x3) (l0 : x0.length ≤ L) (l1 : x1.length ≤ L) (l2 : x2.length ≤ L) (l3 : x3.length ≤ L) :
    Parts w pb 4 L (fun j => if j = 0 then g0 else if j = 1 then g1 else if j = 2 then g2 else g3) (fun j => if j = 0 then a0 else if j = 1 then a1 else if j = 2 then a2 else a3) (fun j => if j = 0 then c0 else if j = 1 then c1 else if j = 2 then c2 else c3) (fun j => if j = 0 then x0 else if j = 1 then x1 else if j = 2 then x2 else x3) := by
  refine ⟨fun j hj => ?_, fun j hj => ?_, fun j hj => ?_, fun j hj => ?_, fun j hj => ?_⟩
  all_goals
    have : j = 0 ∨ j = 1 ∨ j = 2 ∨ j = 3 := by omega
    rcases this with rfl | rfl | rfl | rfl
  · exact h.c0
  · exact h.c2
  · exact h.c4
  · exact h.c6
  · exact h.c1
  · exact h.c3
  · exact h.c5
  · exact h.c7
  · exact s0
  · exact s1
  · exact s2
  · exact s3
  · exact n0
  · exact n1
  · exact n2
  · exact n3
  · exact l0
  · exact l1
  · exact l2
  · exact l3
theorem psum_four (g0 g1 g2 g3 : Bool) (x0 x1 x2 x3 : List Int) : psum (fun j => if j = 0 then g0 else if j = 1 then g1 else if j = 2 then g2 else g3) (fun j => if j = 0 then x0 else if j = 1 then x1 else if j = 2 then x2 else x3) 4 = sg g0 (val x0) + sg g1 (val x1) + sg g2 (val x2) + sg g3 (val x3) := by simp [psum]
theorem sg_back (z : Int) : sg (decide (z < 0)) (mg z) = z := by
  unfold sg mg
  by_cases h : z < 0 <;> simp [h]
theorem neg_back {z : Int} {xs : List Int} (h : val xs = mg z) : sg (!decide (z < 0) && decide (0 < xs.length)) (val xs) = -z := by
  rw [neg_flag, h, sg_back]
  rintro rfl
  have : z = 0 := by simp only [val] at h; unfold mg at h; split at h <;> omega
  subst this
  rfl
theorem small_len {z : Int} {xs : List Int} (hl : Lim xs) (hn : Nrm xs) (h : val xs = mg z) (h1 : -9223372036854775808 ≤ z) (h2 : z ≤ 9223372036854775807) : xs.length ≤ 2 := by
  refine len_le hl hn ?_
  rw [h]
  unfold mg
  split <;> omega

end Go.Proofs.YtgcaemhcdpddiaaDoor
