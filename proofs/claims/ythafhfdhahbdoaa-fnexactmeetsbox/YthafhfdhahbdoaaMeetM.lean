/- Whether two good shapes meet: the program asks one point of each part, the specification all: the same. Mathematics. -/
import Derived.Test.YthafhfdhahbdoaaLocM
namespace Go.Proofs.Ythafhfdhahbdoaa

theorem mtS_comm (e f : Sg) : mtS e f = mtS f e := by
  unfold mtS
  rw [Bool.eq_iff_iff, metI_iff, metI_iff]
  exact ⟨MT.other, MT.other⟩
theorem anyQ_comm (es fs : List Sg) : anyQ es fs = anyQ fs es := by
  rw [Bool.eq_iff_iff]
  unfold anyQ anyE
  simp only [List.any_eq_true]
  constructor
  · rintro ⟨e, he, f, hf, m⟩
    exact ⟨f, hf, e, he, by rw [mtS_comm]; exact m⟩
  · rintro ⟨e, he, f, hf, m⟩
    exact ⟨f, hf, e, he, by rw [mtS_comm]; exact m⟩
theorem anyQ_none {es fs : List Sg} (h : anyQ es fs = false) {e f : Sg} (he : e ∈ es) (hf : f ∈ fs) : mtS e f = false := by
  cases c : mtS e f
  · rfl
  · have : anyQ es fs = true := by
      unfold anyQ anyE
      simp only [List.any_eq_true]
      exact ⟨e, he, f, hf, c⟩
    rw [this] at h
    cases h
/-- Between points that no edge of an area parts, nothing changes. -/
theorem loc_along {rs : List (List (Int × Int))} (A : AreaR rs) {p q : Int × Int} (h : ∀ r, r < rs.length → freeR (rowA rs r) p q) : locI rs p = locI rs q := by
  have off : ∀ z : Int × Int, (∀ r, r < rs.length → onR (rowA rs r) z.1 z.2 (rowA rs r).length = false) → ∀ n, n ≤ rs.length → onA rs z n = false := by
    intro z hz n
    induction n with
    | zero => intro _; rfl
    | succ n ih =>
      intro hn
      simp only [onA]
      rw [ih (by omega), hz n (by omega)]
      rfl
  have hp : ∀ r, r < rs.length → onR (rowA rs r) p.1 p.2 (rowA rs r).length = false := by
    intro r hr
    cases e : onR (rowA rs r) p.1 p.2 (rowA rs r).length
    · rfl
    · obtain ⟨i, hi, on⟩ := onI_of e
      exact absurd (MT_of_on q.1 q.2 on) (h r hr i hi)
  have hq : ∀ r, r < rs.length → onR (rowA rs r) q.1 q.2 (rowA rs r).length = false := by
    intro r hr
    cases e : onR (rowA rs r) q.1 q.2 (rowA rs r).length
    · rfl
    · obtain ⟨i, hi, on⟩ := onI_of e
      exact absurd (MT_of_on p.1 p.2 on).flip (h r hr i hi)
  have hx : ∀ n, n ≤ rs.length → xrR rs p n = xrR rs q n := by
    intro n
    induction n with
    | zero => intro _; rfl
    | succ n ih =>
      intro hn
      simp only [xrR]
      rw [ih (by omega), arQ_parR (A.len n (by omega)) (hp n (by omega)), arQ_parR (A.len n (by omega)) (hq n (by omega)), parR_along (A.len n (by omega)) (h n (by omega))]
  unfold locI
  rw [off p hp _ (Nat.le_refl _), off q hq _ (Nat.le_refl _), hx _ (Nat.le_refl _)]
theorem rowA_mem {rs : List (List (Int × Int))} {r : Nat} (h : r < rs.length) : rowA rs r ∈ rs := by
  unfold rowA
  rw [List.getElem?_eq_getElem h]
  exact List.getElem_mem h
theorem sgR_mem {k : Int} {rs : List (List (Int × Int))} {r : Nat} (h : r < rs.length) {e : Sg} (he : e ∈ sgR k (rowA rs r)) : e ∈ segL k rs := by
  unfold segL
  rw [List.mem_flatten]
  exact ⟨_, List.mem_map.mpr ⟨_, rowA_mem h, rfl⟩, he⟩
theorem edL_mem {ps : List (Int × Int)} {i : Nat} (h : i < ps.length) : (ptA ps i, ptA ps (nx ps.length i)) ∈ edL ps := by
  unfold edL
  exact List.mem_map.mpr ⟨i, List.mem_range.mpr h, rfl⟩
theorem area_mem {rs : List (List (Int × Int))} {r i : Nat} (h : r < rs.length) (hi : i < (rowA rs r).length) : (ptA (rowA rs r) i, ptA (rowA rs r) (nx (rowA rs r).length i)) ∈ segL 5 rs := by
  refine sgR_mem h ?_
  rw [show sgR 5 (rowA rs r) = edL (rowA rs r) by unfold sgR; rw [if_neg (by omega), if_pos rfl]]
  exact edL_mem hi
/-- The segments between neighbours, of lines and of areas. -/
theorem next_mem {k : Int} (hk : 3 ≤ k) {rs : List (List (Int × Int))} {r i : Nat} (h : r < rs.length) (hi : i + 1 < (rowA rs r).length) : (ptA (rowA rs r) i, ptA (rowA rs r) (i + 1)) ∈ segL k rs := by
  refine sgR_mem h ?_
  have m := edL_mem (ps := rowA rs r) (i := i) (by omega)
  rw [nx_next hi] at m
  unfold sgR
  rw [if_neg (by omega)]
  split
  · exact m
  · have e : sgA (edL (rowA rs r)) i = (ptA (rowA rs r) i, ptA (rowA rs r) (i + 1)) := by rw [edL_at (by omega), nx_next hi]
    have hl : i < ((edL (rowA rs r)).take ((rowA rs r).length - 1)).length := by rw [List.length_take, edL_len]; omega
    have : ((edL (rowA rs r)).take ((rowA rs r).length - 1))[i] = (ptA (rowA rs r) i, ptA (rowA rs r) (i + 1)) := by
      rw [List.getElem_take, ← e]
      unfold sgA
      rw [List.getElem?_eq_getElem (by rw [edL_len]; omega)]
      rfl
    rw [← this]
    exact List.getElem_mem hl
theorem free_of {es : List Sg} {rs : List (List (Int × Int))} (h : anyQ es (segL 5 rs) = false) {e : Sg} (he : e ∈ es) : ∀ r, r < rs.length → freeR (rowA rs r) e.1 e.2 := by
  intro r hr i hi m
  have := anyQ_none h he (area_mem hr hi)
  unfold mtS at this
  rw [metI_iff.2 m.other] at this
  cases this
/-- Where no segments meet, all points of a row lie as its first one does. -/
theorem loc_row {k : Int} (hk : 3 ≤ k) {rs ts : List (List (Int × Int))} (A : AreaR rs) (h : anyQ (segL k ts) (segL 5 rs) = false) {j : Nat} (hj : j < ts.length) : ∀ i, i < (rowA ts j).length → locI rs (ptA (rowA ts j) i) = locI rs (ptA (rowA ts j) 0)
  | 0, _ => rfl
  | i + 1, hi => by
    rw [← loc_row hk A h hj i (by omega)]
    exact (loc_along A (free_of h (next_mem hk hj hi))).symm

/-- A point of each part of a shape. -/
def stL (k : Int) (rs : List (List (Int × Int))) : List (Int × Int) := if k ≤ 2 then rowA rs 0 else rs.map fun r => ptA r 0
/-- The area has one of some points. -/
def hasL (rs : List (List (Int × Int))) (l : List (Int × Int)) : Bool := l.any fun p => decide (locI rs p ≠ 0)
theorem ptA_mem {ps : List (Int × Int)} {i : Nat} (h : i < ps.length) : ptA ps i ∈ ps := by
  unfold ptA
  rw [List.getElem?_eq_getElem h]
  exact List.getElem_mem h
/-- One point of each part tells, where no segments meet. -/
theorem has_same {k : Int} (hk : 1 ≤ k ∧ k ≤ 5) {rs ts : List (List (Int × Int))} (A : AreaR rs) (hl : ∀ i, i < ts.length → 0 < (rowA ts i).length) (h1 : k ≤ 2 → ts.length = 1) (h : anyQ (segL k ts) (segL 5 rs) = false) : hasL rs ts.flatten = hasL rs (stL k ts) := by
  by_cases h2 : k ≤ 2
  · have e1 := h1 h2
    unfold stL
    rw [if_pos h2]
    cases ts with
    | nil => simp at e1
    | cons q t =>
      have : t = [] := by simpa using e1
      subst this
      simp [rowA]
  · unfold stL
    rw [if_neg h2, Bool.eq_iff_iff]
    unfold hasL
    simp only [List.any_eq_true, List.mem_flatten, List.mem_map]
    constructor
    · rintro ⟨p, ⟨q, hq, hp⟩, e⟩
      obtain ⟨j, hj, rfl⟩ := List.mem_iff_getElem.mp hq
      have er : rowA ts j = ts[j] := by unfold rowA; rw [List.getElem?_eq_getElem hj]; rfl
      obtain ⟨i, hi, rfl⟩ := List.mem_iff_getElem.mp hp
      refine ⟨ptA (ts[j]) 0, ⟨_, hq, rfl⟩, ?_⟩
      have ep : ptA (ts[j]) i = (ts[j])[i] := by unfold ptA; rw [List.getElem?_eq_getElem hi]; rfl
      have := loc_row (by omega) A h hj i (by rw [er]; exact hi)
      rw [er, ep] at this
      rw [← this]
      exact e
    · rintro ⟨p, ⟨q, hq, rfl⟩, e⟩
      obtain ⟨j, hj, rfl⟩ := List.mem_iff_getElem.mp hq
      have er : rowA ts j = ts[j] := by unfold rowA; rw [List.getElem?_eq_getElem hj]; rfl
      exact ⟨_, ⟨_, hq, ptA_mem (by have := hl j hj; rwa [er] at this)⟩, e⟩
/-- What the specification answers. -/
def meetS (k1 : Int) (rs : List (List (Int × Int))) (k2 : Int) (ts : List (List (Int × Int))) : Bool :=
  anyQ (segL k1 rs) (segL k2 ts) || ((decide (k2 = 5) && hasL ts rs.flatten) || (decide (k1 = 5) && hasL rs ts.flatten))
/-- What the program answers. -/
def meetI (k1 : Int) (rs : List (List (Int × Int))) (k2 : Int) (ts : List (List (Int × Int))) : Bool :=
  if k1 = 5 then
    if k2 = 5 then (anyQ (segL k1 rs) (segL k2 ts) || hasL rs (stL k2 ts)) || hasL ts (stL k1 rs) else anyQ (segL k1 rs) (segL k2 ts) || hasL rs (stL k2 ts)
  else if k2 = 5 then anyQ (segL k2 ts) (segL k1 rs) || hasL ts (stL k1 rs)
  else if k1 ≤ 2 ∧ k2 ≤ 2 then (stL k1 rs).any (fun p => (stL k2 ts).any (fun q => decide (p = q)))
  else anyQ (segL k1 rs) (segL k2 ts)
theorem one_row {k : Int} {rs : List (List (Int × Int))} (h : goodB k rs = true) (hk : k ≤ 2) : rs.length = 1 := by
  obtain ⟨hk', hle, _⟩ := goodS_rows h
  have hf : formB k rs = true := by
    unfold goodB goodTo at h
    rw [Bool.and_eq_true] at h
    exact h.1
  rw [formB_kind hk'] at hf
  have hl : limR k = 1 := by
    have : k = 1 ∨ k = 2 := by omega
    rcases this with rfl | rfl <;> rfl
  rw [hl] at hf
  have h1 : ¬ rs.length = 0 := by
    intro e
    rw [decide_eq_true e] at hf
    simp at hf
  have h2 : ¬ ((1 : Int) < rs.length) := by
    intro e
    rw [decide_eq_true e] at hf
    simp at hf
  omega
theorem seg_points {k : Int} (hk : k ≤ 2) {rs : List (List (Int × Int))} (h : rs.length = 1) : segL k rs = (rowA rs 0).map fun p => (p, p) := by
  cases rs with
  | nil => simp at h
  | cons q t =>
    have : t = [] := by simpa using h
    subst this
    unfold segL
    simp only [List.map_cons, List.map_nil, List.flatten_cons, List.flatten_nil, List.append_nil]
    unfold sgR
    rw [if_pos hk]
    rfl
theorem mtS_point (p q : Int × Int) : mtS (p, p) (q, q) = decide (p = q) := by
  unfold mtS
  dsimp only
  rw [met_point, Bool.eq_iff_iff, onB_iff, decide_eq_true_eq]
  constructor
  · rintro ⟨_, h2, h3⟩
    have g1 := between_of h2
    have g2 := between_of h3
    obtain ⟨px, py⟩ := p
    obtain ⟨qx, qy⟩ := q
    dsimp only at g1 g2
    rw [Prod.mk.injEq]
    omega
  · rintro rfl
    exact on_end
theorem meet_same {k1 k2 : Int} {rs ts : List (List (Int × Int))} (h1 : goodB k1 rs = true) (h2 : goodB k2 ts = true) : meetI k1 rs k2 ts = meetS k1 rs k2 ts := by
  obtain ⟨K1, _, L1⟩ := goodS_rows h1
  obtain ⟨K2, _, L2⟩ := goodS_rows h2
  have l1 : ∀ i, i < rs.length → 0 < (rowA rs i).length := fun i hi => (L1 i hi).2.1
  have l2 : ∀ i, i < ts.length → 0 < (rowA ts i).length := fun i hi => (L2 i hi).2.1
  unfold meetI meetS
  by_cases e1 : k1 = 5
  · subst e1
    have A1 := areaR_of h1
    rw [if_pos rfl, decide_eq_true (p := (5 : Int) = 5) rfl, Bool.true_and]
    by_cases e2 : k2 = 5
    · subst e2
      have A2 := areaR_of h2
      rw [if_pos rfl, decide_eq_true (p := (5 : Int) = 5) rfl, Bool.true_and]
      cases c : anyQ (segL 5 rs) (segL 5 ts)
      · rw [has_same K2 A1 l2 (by omega) (by rw [anyQ_comm]; exact c), has_same K1 A2 l1 (by omega) c, Bool.false_or, Bool.false_or, Bool.or_comm]
      · rfl
    · rw [if_neg e2, decide_eq_false e2, Bool.false_and, Bool.false_or]
      cases c : anyQ (segL 5 rs) (segL k2 ts)
      · rw [has_same K2 A1 l2 (one_row h2) (by rw [anyQ_comm]; exact c)]
      · rfl
  · rw [if_neg e1, decide_eq_false e1, Bool.false_and, Bool.or_false]
    by_cases e2 : k2 = 5
    · subst e2
      have A2 := areaR_of h2
      rw [if_pos rfl, decide_eq_true (p := (5 : Int) = 5) rfl, Bool.true_and, anyQ_comm]
      cases c : anyQ (segL k1 rs) (segL 5 ts)
      · rw [has_same K1 A2 l1 (one_row h1) c]
      · rfl
    · rw [if_neg e2, decide_eq_false e2, Bool.false_and, Bool.or_false]
      by_cases e3 : k1 ≤ 2 ∧ k2 ≤ 2
      · rw [if_pos e3, seg_points e3.1 (one_row h1 e3.1), seg_points e3.2 (one_row h2 e3.2)]
        unfold stL anyQ anyE
        rw [if_pos e3.1, if_pos e3.2, List.any_map]
        apply any_congr
        intro p _
        rw [Function.comp_apply, List.any_map]
        apply any_congr
        intro q _
        exact (mtS_point p q).symm
      · rw [if_neg e3]
end Go.Proofs.Ythafhfdhahbdoaa
