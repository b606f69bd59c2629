import Derived.Test.YthafgldgidmnlaaGreatGoodS
import Derived.Test.YthafgldgidmnlaaGreatFigI
import Derived.Test.YthafgldgidmnlaaGreatSeg
import Derived.Test.YthafgldgidmnlaaGreatRing
/- What is known of a good shape: its kind, how many rows and points, its points. -/
namespace Go.Proofs.YthafgldgidmnlaaGreat
open Go.RowKit

theorem goodS_rows {k : Int} {rs : List (List (Int × Int))} (h : goodB k rs = true) : (1 ≤ k ∧ k ≤ 5) ∧ rs.length ≤ 12 ∧ ∀ i, i < rs.length → leastN k ≤ (rowA rs i).length ∧ 0 < (rowA rs i).length ∧ (rowA rs i).length ≤ 60 := by
  have hf : formB k rs = true := by
    unfold goodB goodTo at h
    rw [Bool.and_eq_true] at h
    exact h.1
  have hk : 1 ≤ k ∧ k ≤ 5 := by
    rcases Classical.em (1 ≤ k ∧ k ≤ 5) with c | c
    · exact c
    · have e : mostN k = -1 := by
        unfold mostN
        rw [if_neg (by omega), if_neg (by omega), if_neg (by omega), if_neg (by omega), if_neg (by omega)]
      unfold formB at hf
      rw [e] at hf
      simp at hf
  refine ⟨hk, ?_, fun i hi => ?_⟩
  · have e := hf
    unfold formB at e
    cases c : inB rs.length 1 12
    · rw [c] at e
      simp at e
    · have := inB_true.1 c
      omega
  · obtain ⟨h1, _⟩ := form_row hf hi
    have h2 := inB_true.1 h1
    have h3 : 1 ≤ leastN k ∧ mostN k ≤ 60 := by rcases kinds hk with rfl | rfl | rfl | rfl | rfl <;> decide
    omega
theorem goodS_ok {k : Int} {rs : List (List (Int × Int))} (h : goodB k rs = true) {i : Nat} (hi : i < rs.length) : okL (rowA rs i) = true := by
  have hf : formB k rs = true := by
    unfold goodB goodTo at h
    rw [Bool.and_eq_true] at h
    exact h.1
  exact (form_row hf hi).2
theorem goodS_some {k : Int} {rs : List (List (Int × Int))} (h : goodB k rs = true) : 0 < rs.length := by
  have hf : formB k rs = true := by
    unfold goodB goodTo at h
    rw [Bool.and_eq_true] at h
    exact h.1
  unfold formB at hf
  cases c : inB rs.length 1 12
  · rw [c] at hf
    simp at hf
  · have := inB_true.1 c
    omega
end Go.Proofs.YthafgldgidmnlaaGreat

/- The segments of a shape: of the specification (l5Segs, Segments). -/
namespace Go.Proofs.YthafgldgidmnlaaGreat
open Go.RowKit

/-- The segments of a row, by the shape's kind. -/
def sgR (k : Int) (ps : List (Int × Int)) : List Sg := if k ≤ 2 then ps.map (fun p => (p, p)) else if k = 5 then edL ps else (edL ps).take (ps.length - 1)
def segL (k : Int) (rs : List (List (Int × Int))) : List Sg := (rs.map (sgR k)).flatten
theorem segL_step {k : Int} {rs : List (List (Int × Int))} {j : Nat} (h : j < rs.length) : segL k (rs.take (j + 1)) = segL k (rs.take j) ++ sgR k (rowA rs j) := by
  unfold segL
  rw [List.take_add_one, List.getElem?_eq_getElem h, List.map_append, List.flatten_append]
  unfold rowA
  rw [List.getElem?_eq_getElem h]
  simp
theorem sgR_le (k : Int) (ps : List (Int × Int)) : (sgR k ps).length ≤ ps.length := by
  unfold sgR
  split
  · simp
  · split
    · rw [edL_len]; exact Nat.le_refl _
    · rw [List.length_take, edL_len]; omega
theorem segL_le {k : Int} {rs : List (List (Int × Int))} (hl : ∀ i, i < rs.length → (rowA rs i).length ≤ 60) : ∀ j, j ≤ rs.length → (segL k (rs.take j)).length ≤ 60 * j
  | 0, _ => by simp [segL]
  | j + 1, h => by
    have h1 := segL_le (k := k) hl j (by omega)
    have h2 := sgR_le k (rowA rs j)
    have h3 := hl j (by omega)
    rw [segL_step (by omega), List.length_append]
    omega
theorem take_more {es : List Sg} {i : Nat} (h : i < es.length) : es.take (i + 1) = es.take i ++ [sgA es i] := by
  rw [List.take_add_one, List.getElem?_eq_getElem h]
  unfold sgA
  rw [List.getElem?_eq_getElem h]
  rfl
theorem sgR_point {k : Int} (h : k ≤ 2) {ps : List (Int × Int)} {i : Nat} (hi : i < ps.length) : (sgR k ps).take (i + 1) = (sgR k ps).take i ++ [(ptA ps i, ptA ps i)] := by
  have e : sgR k ps = ps.map (fun p => (p, p)) := by unfold sgR; rw [if_pos h]
  rw [e, take_more (by rw [List.length_map]; exact hi)]
  congr 2
  unfold sgA ptA
  rw [List.getElem?_map, List.getElem?_eq_getElem hi]
  rfl
theorem nx_next {n i : Nat} (h : i + 1 < n) : nx n i = i + 1 := by unfold nx; exact Nat.mod_eq_of_lt h
theorem nx_last {n i : Nat} (h : i + 1 = n) : nx n i = 0 := by unfold nx; rw [h, Nat.mod_self]
theorem sgR_line {k : Int} (h : ¬ k ≤ 2) {ps : List (Int × Int)} {i : Nat} (hi : i + 1 < ps.length) : (sgR k ps).take (i + 1) = (sgR k ps).take i ++ [(ptA ps i, ptA ps (i + 1))] := by
  have e1 : (edL ps).take (i + 1) = (edL ps).take i ++ [(ptA ps i, ptA ps (i + 1))] := by rw [take_more (by rw [edL_len]; omega), edL_at (by omega), nx_next hi]
  unfold sgR
  rw [if_neg h]
  split
  · exact e1
  · rw [List.take_take, List.take_take, Nat.min_eq_left (by omega), Nat.min_eq_left (by omega)]
    exact e1
theorem sgR_last {ps : List (Int × Int)} {i : Nat} (hi : i + 1 = ps.length) : (sgR 5 ps).take (i + 1) = (sgR 5 ps).take i ++ [(ptA ps i, ptA ps 0)] := by
  have e : sgR 5 ps = edL ps := by unfold sgR; rw [if_neg (by omega), if_pos rfl]
  rw [e, take_more (by rw [edL_len]; omega), edL_at (by omega), nx_last hi]
theorem sgR_end {k : Int} (h : ¬ k ≤ 2) (h5 : k ≠ 5) {ps : List (Int × Int)} {i : Nat} (hi : i + 1 = ps.length) : (sgR k ps).take (i + 1) = (sgR k ps).take i := by
  unfold sgR
  rw [if_neg h, if_neg h5, List.take_take, List.take_take, Nat.min_eq_right (by omega), Nat.min_eq_left (by omega)]
  congr 1
  omega
theorem sg_new (w : World) (e : TypeId) (x y u v : Int) : ∀ j z, (sgC [((x, y), (u, v))])[j]? = some z → (w.alloc (.cells #[.int .i64 x, .int .i64 y, .int .i64 u, .int .i64 v] e)).cell? ((⟨w.heap.size, 0, none⟩ : Addr).add j) = some z := by
  intro j z hz
  rcases j with _ | _ | _ | _ | j
  · simp [sgC] at hz; subst hz; exact cell_new w #[.int .i64 x, .int .i64 y, .int .i64 u, .int .i64 v] e 0 rfl
  · simp [sgC] at hz; subst hz; exact cell_new w #[.int .i64 x, .int .i64 y, .int .i64 u, .int .i64 v] e 1 rfl
  · simp [sgC] at hz; subst hz; exact cell_new w #[.int .i64 x, .int .i64 y, .int .i64 u, .int .i64 v] e 2 rfl
  · simp [sgC] at hz; subst hz; exact cell_new w #[.int .i64 x, .int .i64 y, .int .i64 u, .int .i64 v] e 3 rfl
  · simp [sgC] at hz
theorem RowQ.empty (w : World) {base : Nat} (h : base ≤ w.heap.size) : RowQ base (w.alloc (.cells #[] 106)) (.slice (some ⟨w.heap.size, 0, none⟩) 0 0) [] :=
  ⟨rfl, .inr ⟨w.heap.size, 0, #[], rfl, h, heap_alloc_new _ _, Nat.le_refl _, by simp [maxLen], rfl, rfl⟩⟩

/-- The segments of a shape. -/
def segsB (k : Int) (rs : List (List (Int × Int))) : List Sg := if goodB k rs then segL k rs else []
end Go.Proofs.YthafgldgidmnlaaGreat
