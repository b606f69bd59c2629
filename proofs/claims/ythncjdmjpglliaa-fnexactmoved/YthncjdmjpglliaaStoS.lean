/- A point of a shape of the call's own is written anew; every point of it, one by one. -/
import Derived.Test.YthncjdmjpglliaaCpyS
namespace Go.Proofs.Ythncjdmjpglliaa
open Go.RowKit

/-- The point i of the row r, as it lies in memory. -/
theorem ShR.at2 {lo : Nat} {w : World} {va : Option Addr} {n vc : Nat} {vs : List Value} {X : List (List (Int × Int))} (h : ShR lo w (.slice va n vc) vs X) {r i : Nat} (hr : r < X.length) (hi : i < (rowA X r).length) : ∃ g g' c', va = some ⟨g, 0, none⟩ ∧ vs[r]? = some (.slice (some ⟨g', 0, none⟩) (rowA X r).length c') ∧ w.cell? ⟨g, r, none⟩ = some (.slice (some ⟨g', 0, none⟩) (rowA X r).length c') ∧ RowPt lo w (.slice (some ⟨g', 0, none⟩) (rowA X r).length c') (rowA X r) ∧ g ≠ g' ∧ (rowA X r).length ≤ c' ∧ c' ≤ maxLen := by
  obtain ⟨g, c, a', c', e, hv, hc, R⟩ := h.at' hr
  injection e with e1 e2 e3
  subst e1
  obtain ⟨_, _, e, f1, f2⟩ := R.shape
  injection e with _ _ e4
  subst e4
  obtain ⟨g', e'⟩ : ∃ g', a' = some ⟨g', 0, none⟩ := by
    rcases R.2 with ⟨_, h0⟩ | ⟨q, cap, cur, hv, _⟩
    · omega
    · injection hv with hv
      exact ⟨q, hv⟩
  subst e'
  refine ⟨g, g', c', rfl, hv, hc, R, fun q => ?_, f1, f2⟩
  exact h.ne _ (List.mem_of_getElem? hv) g' rfl (by rw [← q]; rfl)
theorem RowPt.cellsAt {lo g n c : Nat} {w : World} {ps : List (Int × Int)} (h : RowPt lo w (.slice (some ⟨g, 0, none⟩) n c) ps) {i : Nat} (hi : i < ps.length) : w.cell? ⟨g, i * 2, none⟩ = some (.int .i64 (ps[i]?.getD (0, 0)).1) ∧ w.cell? ⟨g, i * 2 + 1, none⟩ = some (.int .i64 (ps[i]?.getD (0, 0)).2) ∧ ∀ o, w.frozen? ⟨g, o, none⟩ = false := by
  obtain ⟨_, _, e, _, _⟩ := h.shape
  injection e with _ e2 _
  subst e2
  obtain ⟨p0, p1⟩ := ptC_at ps i hi
  exact ⟨(World.ownsRow.cellAt h (i * 2) (by omega)).trans p0, (World.ownsRow.cellAt h (i * 2 + 1) (by omega)).trans p1, World.ownsRow.frozenAt h⟩
theorem ShR.store {lo g' n c' : Nat} {w : World} {v : Value} {vs : List Value} {X : List (List (Int × Int))} (h : ShR lo w v vs X) {r : Nat} (hr : r < X.length) (hv : vs[r]? = some (.slice (some ⟨g', 0, none⟩) n c')) (R : RowPt lo w (.slice (some ⟨g', 0, none⟩) n c') (rowA X r)) (i : Nat) (x y : Int) :
    ShR lo ((w.setCell ⟨g', i * 2, none⟩ (.int .i64 x)).setCell ⟨g', i * 2 + 1, none⟩ (.int .i64 y)) v vs (X.set r ((rowA X r).set i (x, y))) := by
  obtain ⟨S1, S2⟩ := R.setAt i x y
  exact h.set hr hv S1 S2

theorem Box2.under {lo p b : Nat} {w w' : World} {x0 x1 : Value} (h : Box2 lo w p x0 x1) (hb : Below b w w') (hp : p < b) : Box2 lo w' p x0 x1 :=
  ⟨(hb.cell (p := ⟨p, 0, none⟩) hp).trans h.c0, (hb.cell (p := ⟨p, 1, none⟩) hp).trans h.c1, fun o => (hb.frozen (p := ⟨p, o, none⟩) hp).trans (h.fr o), h.lo⟩

/-- The first i points are changed. -/
def mixP (f : Int × Int → Int × Int) (ps : List (Int × Int)) (i : Nat) : List (Int × Int) := (ps.take i).map f ++ ps.drop i
theorem mixP_zero (f : Int × Int → Int × Int) (ps : List (Int × Int)) : mixP f ps 0 = ps := by simp [mixP]
theorem mixP_all (f : Int × Int → Int × Int) (ps : List (Int × Int)) : mixP f ps ps.length = ps.map f := by simp [mixP]
theorem mixP_len (f : Int × Int → Int × Int) {ps : List (Int × Int)} {i : Nat} : (mixP f ps i).length = ps.length := by simp [mixP]; omega
theorem mixP_at (f : Int × Int → Int × Int) {ps : List (Int × Int)} {i : Nat} (h : i < ps.length) : (mixP f ps i)[i]?.getD (0, 0) = ps[i]?.getD (0, 0) := by
  unfold mixP
  rw [List.getElem?_append_right (by simp; omega)]
  simp
  congr 2
  omega
theorem mixP_step (f : Int × Int → Int × Int) {ps : List (Int × Int)} {i : Nat} (h : i < ps.length) : (mixP f ps i).set i (f (ps[i]?.getD (0, 0))) = mixP f ps (i + 1) := by
  unfold mixP
  have hl : ((ps.take i).map f).length = i := by simp; omega
  rw [List.set_append_right _ _ (by omega), hl, Nat.sub_self, List.drop_eq_getElem_cons h, List.set_cons_zero, List.take_add_one, List.map_append, List.getElem?_eq_getElem h, List.append_assoc]
  rfl
/-- The first r rows are changed. -/
def mixR (f : Int × Int → Int × Int) (X : List (List (Int × Int))) (r : Nat) : List (List (Int × Int)) := (X.take r).map (·.map f) ++ X.drop r
theorem mixR_zero (f : Int × Int → Int × Int) (X : List (List (Int × Int))) : mixR f X 0 = X := by simp [mixR]
theorem mixR_all (f : Int × Int → Int × Int) (X : List (List (Int × Int))) : mixR f X X.length = X.map (·.map f) := by simp [mixR]
theorem mixR_len (f : Int × Int → Int × Int) {X : List (List (Int × Int))} {r : Nat} : (mixR f X r).length = X.length := by simp [mixR]; omega
theorem mixR_at (f : Int × Int → Int × Int) {X : List (List (Int × Int))} {r : Nat} (h : r < X.length) : rowA (mixR f X r) r = rowA X r := by
  unfold mixR rowA
  rw [List.getElem?_append_right (by simp; omega)]
  simp
  congr 2
  omega
theorem mixR_step (f : Int × Int → Int × Int) {X : List (List (Int × Int))} {r : Nat} (h : r < X.length) : (mixR f X r).set r ((rowA X r).map f) = mixR f X (r + 1) := by
  unfold mixR
  have hl : ((X.take r).map (·.map f)).length = r := by simp; omega
  rw [List.set_append_right _ _ (by omega), hl, Nat.sub_self, List.drop_eq_getElem_cons h, List.set_cons_zero, List.take_add_one, List.map_append, List.getElem?_eq_getElem h, List.append_assoc]
  unfold rowA
  rw [List.getElem?_eq_getElem h]
  rfl
theorem set_rowA {X : List (List (Int × Int))} {r : Nat} (h : r < X.length) : X.set r (rowA X r) = X := by
  unfold rowA
  rw [List.getElem?_eq_getElem h]
  simp
/-- The first r rows are changed, and of the row r the first i points. -/
def mixI (f : Int × Int → Int × Int) (X : List (List (Int × Int))) (r i : Nat) : List (List (Int × Int)) := (mixR f X r).set r (mixP f (rowA X r) i)
theorem mixI_zero (f : Int × Int → Int × Int) {X : List (List (Int × Int))} {r : Nat} (h : r < X.length) : mixI f X r 0 = mixR f X r := by
  unfold mixI
  rw [mixP_zero, ← mixR_at f h, set_rowA (by rw [mixR_len]; exact h)]
theorem mixI_all (f : Int × Int → Int × Int) {X : List (List (Int × Int))} {r : Nat} (h : r < X.length) : mixI f X r (rowA X r).length = mixR f X (r + 1) := by
  unfold mixI
  rw [mixP_all, mixR_step f h]
theorem mixI_len (f : Int × Int → Int × Int) {X : List (List (Int × Int))} {r i : Nat} : (mixI f X r i).length = X.length := by unfold mixI; rw [List.length_set, mixR_len]
theorem mixI_row (f : Int × Int → Int × Int) {X : List (List (Int × Int))} {r i : Nat} (h : r < X.length) : rowA (mixI f X r i) r = mixP f (rowA X r) i := by
  unfold mixI
  rw [rowA_set_same (by rw [mixR_len]; exact h)]
theorem mixI_step (f : Int × Int → Int × Int) {X : List (List (Int × Int))} {r i : Nat} (h : r < X.length) (hi : i < (rowA X r).length) : (mixI f X r i).set r ((rowA (mixI f X r i) r).set i (f ((rowA X r)[i]?.getD (0, 0)))) = mixI f X r (i + 1) := by
  rw [mixI_row f h, mixP_step f hi]
  unfold mixI
  rw [List.set_set]
end Go.Proofs.Ythncjdmjpglliaa
