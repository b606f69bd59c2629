/- A shape of a call's own is marked, and the marks are read again. -/
import Derived.Test.YtbdpnfdpnaoicaaShR
namespace Go.Proofs.Ytbdpnfdpnaoicaa
open Go.RowKit

def mkRow (k : Int) (m : Nat) : List (Int × Int) := (List.range m).map fun (i : Nat) => (k + 2 * (i : Int), k + 2 * (i : Int) + 1)
theorem mkRow_len (k : Int) (m : Nat) : (mkRow k m).length = m := by simp [mkRow]
theorem mkRow_at (k : Int) {m i : Nat} (h : i < m) : (mkRow k m)[i]?.getD (0, 0) = (k + 2 * (i : Int), k + 2 * (i : Int) + 1) := by simp [mkRow, h]
/-- The first j points are marked. -/
def mkTo (k : Int) (ps : List (Int × Int)) (j : Nat) : List (Int × Int) := mkRow k j ++ ps.drop j
theorem mkTo_len (k : Int) {ps : List (Int × Int)} {j : Nat} (h : j ≤ ps.length) : (mkTo k ps j).length = ps.length := by simp [mkTo, mkRow_len]; omega
theorem mkTo_zero (k : Int) (ps : List (Int × Int)) : mkTo k ps 0 = ps := by simp [mkTo, mkRow]
theorem mkTo_all (k : Int) (ps : List (Int × Int)) : mkTo k ps ps.length = mkRow k ps.length := by simp [mkTo]
theorem mkTo_step (k : Int) {ps : List (Int × Int)} {j : Nat} (h : j < ps.length) : (mkTo k ps j).set j (k + 2 * (j : Int), k + 2 * (j : Int) + 1) = mkTo k ps (j + 1) := by
  unfold mkTo
  have e : mkRow k (j + 1) = mkRow k j ++ [(k + 2 * (j : Int), k + 2 * (j : Int) + 1)] := by simp [mkRow, List.range_succ]
  rw [List.set_append_right _ _ (by rw [mkRow_len]; exact Nat.le_refl _), mkRow_len, Nat.sub_self, e, List.drop_eq_getElem_cons h, List.set_cons_zero, List.append_assoc]
  rfl

/-- The mark of the row j's first number. -/
def kOf (rs : List (List (Int × Int))) (j : Nat) : Int := 1 + 2 * ((upto rs j : Int) - (rs.length : Int))
theorem kOf_zero (rs : List (List (Int × Int))) : kOf rs 0 = 1 := by simp [kOf, upto]
theorem kOf_succ (rs : List (List (Int × Int))) (j : Nat) : kOf rs (j + 1) = kOf rs j + 2 * ((rowA rs j).length : Int) := by simp only [kOf, upto]; push_cast; omega
theorem kOf_bd {rs : List (List (Int × Int))} (hs : upto rs rs.length ≤ 1048576) {j : Nat} (hj : j ≤ rs.length) : 0 ≤ kOf rs j ∧ kOf rs j ≤ 1000000000000 := by
  have h1 := upto_le rs j (rs.length - j)
  rw [show j + (rs.length - j) = rs.length by omega] at h1
  have h2 := upto_le rs 0 j
  simp only [upto, Nat.zero_add] at h2
  unfold kOf
  omega
/-- The first j rows are marked. -/
def mkRs (rs : List (List (Int × Int))) : Nat → List (List (Int × Int))
  | 0 => rs
  | j + 1 => (mkRs rs j).set j (mkRow (kOf rs j) (rowA rs j).length)
theorem mkRs_len (rs : List (List (Int × Int))) (j : Nat) : (mkRs rs j).length = rs.length := by
  induction j with
  | zero => rfl
  | succ j ih => simp only [mkRs, List.length_set, ih]
theorem mkRs_old (rs : List (List (Int × Int))) {j i : Nat} (h : j ≤ i) : rowA (mkRs rs j) i = rowA rs i := by
  induction j with
  | zero => rfl
  | succ j ih => simp only [mkRs]; rw [rowA_set_other (by omega)]; exact ih (by omega)
theorem mkRs_new (rs : List (List (Int × Int))) {j i : Nat} (h : i < j) (hj : j ≤ rs.length) : rowA (mkRs rs j) i = mkRow (kOf rs i) (rowA rs i).length := by
  induction j with
  | zero => omega
  | succ j ih =>
    simp only [mkRs]
    by_cases e : j = i
    · subst e
      rw [rowA_set_same (by rw [mkRs_len]; omega)]
    · rw [rowA_set_other e]
      exact ih (by omega) (by omega)

/-- Nothing of another block was written. -/
def KeptBut (vs : List Value) (w w' : World) : Prop := w.heap.size ≤ w'.heap.size ∧ ∀ b, b < w.heap.size → (∀ u ∈ vs, u.ownBlock ≠ some b) → w'.heap[b]? = w.heap[b]?
theorem Box2.but {lo p : Nat} {w w' : World} {x0 x1 : Value} {vs : List Value} (h : Box2 lo w p x0 x1) (k : KeptBut vs w w') (ne : ∀ u ∈ vs, u.ownBlock ≠ some p) : Box2 lo w' p x0 x1 := by
  have hb := k.2 p h.lt ne
  exact ⟨(World.cell?_of_block (a := ⟨p, 0, none⟩) hb).trans h.c0, (World.cell?_of_block (a := ⟨p, 1, none⟩) hb).trans h.c1, fun o => (World.frozen?_of_block (a := ⟨p, o, none⟩) hb).trans (h.fr o), h.lo⟩
theorem ShR.under {lo b : Nat} {w w' : World} {v : Value} {vs : List Value} {rs : List (List (Int × Int))} (h : ShR lo w v vs rs) (hb : Below b w w') (nv : ∀ k, v.ownBlock = some k → k < b) (nr : ∀ u ∈ vs, ∀ k, u.ownBlock = some k → k < b) : ShR lo w' v vs rs := by
  have keep : ∀ {e size n : Nat} {u : Value} {xs : List Value}, w.ownsRow lo e size u n xs → (∀ k, u.ownBlock = some k → k < b) → w'.ownsRow lo e size u n xs := by
    intro e size n u xs q nu
    refine ⟨q.1, ?_⟩
    rcases q.2 with q2 | ⟨g, cap, cur, hv, q3, q4, q5⟩
    · exact .inl q2
    · exact .inr ⟨g, cap, cur, hv, q3, (hb.block g (nu g (by rw [hv]; rfl))).trans q4, q5⟩
  exact ⟨keep h.own nv, h.len, fun i u hu => keep (h.rows i u hu) (nr u (List.mem_of_getElem? hu)), h.ne, h.apart⟩

end Go.Proofs.Ytbdpnfdpnaoicaa
