/- The program and the specification call the same areas good. Mathematics. -/
import Derived.Test.YthafhfdhahbdoaaFaultI
import Derived.Test.YthafhfdhahbdoaaGoodS
namespace Go.Proofs.Ythafhfdhahbdoaa

theorem mtR_any (ps qs : List (Int × Int)) (i : Nat) : ∀ k, mtR ps qs i k = (List.range k).any (mtE ps qs i)
  | 0 => rfl
  | k + 1 => by
    simp only [mtR]
    rw [mtR_any ps qs i k, List.range_succ, List.any_append]
    simp
theorem tch_any (ps qs : List (Int × Int)) : ∀ i, tch ps qs i = (List.range i).any (fun i => mtR ps qs i qs.length)
  | 0 => rfl
  | i + 1 => by
    simp only [tch]
    rw [tch_any ps qs i, List.range_succ, List.any_append]
    simp
theorem any_congr {α : Type} {f g : α → Bool} : ∀ {l : List α}, (∀ x ∈ l, f x = g x) → l.any f = l.any g
  | [], _ => rfl
  | a :: l, h => by
    rw [List.any_cons, List.any_cons, h a (by simp), any_congr (fun x hx => h x (by simp [hx]))]
/-- A ring touches another one, of both. -/
theorem tch_same (ps qs : List (Int × Int)) : tch ps qs ps.length = anyQ (edL ps) (edL qs) := by
  rw [tch_any]
  unfold anyQ edL
  rw [List.any_map]
  apply any_congr
  intro i _
  rw [mtR_any]
  unfold anyE
  rw [Function.comp_apply, List.any_map]
  rfl
theorem onR_some {ps : List (Int × Int)} {px py : Int} : ∀ {n : Nat}, onR ps px py n = true → ∃ i, i < n ∧ onE ps px py i = true
  | 0, h => by cases h
  | n + 1, h => by
    simp only [onR, Bool.or_eq_true] at h
    rcases h with h | h
    · obtain ⟨i, hi, hh⟩ := onR_some h
      exact ⟨i, by omega, hh⟩
    · exact ⟨n, by omega, h⟩
theorem tch_of {ps qs : List (Int × Int)} {i k : Nat} (hi : i < ps.length) (hk : k < qs.length) (h : mtE ps qs i k = true) : tch ps qs ps.length = true := by
  rw [tch_any, List.any_eq_true]
  refine ⟨i, List.mem_range.mpr hi, ?_⟩
  rw [mtR_any, List.any_eq_true]
  exact ⟨k, List.mem_range.mpr hk, h⟩
/-- The first point of one ring is on the other one: they touch. -/
theorem touch_first {ps q : List (Int × Int)} (h0 : 0 < ps.length) (h : tch ps q ps.length = false) : onR q (ptA ps 0).1 (ptA ps 0).2 q.length = false := by
  cases e : onR q (ptA ps 0).1 (ptA ps 0).2 q.length
  · rfl
  · exfalso
    obtain ⟨i, hi, ho⟩ := onR_some e
    have hm : mtE ps q 0 i = true := by
      unfold onE at ho
      unfold mtE
      exact metI_iff.2 (MT_of_on _ _ (onB_iff.1 ho)).other
    rw [tch_of h0 hi hm] at h
    cases h
theorem touch_other {ps q : List (Int × Int)} (h0 : 0 < q.length) (h : tch ps q ps.length = false) : onR ps (ptA q 0).1 (ptA q 0).2 ps.length = false := by
  cases e : onR ps (ptA q 0).1 (ptA q 0).2 ps.length
  · rfl
  · exfalso
    obtain ⟨i, hi, ho⟩ := onR_some e
    have hm : mtE ps q i 0 = true := by
      unfold onE at ho
      unfold mtE
      exact metI_iff.2 (MT_of_on _ _ (onB_iff.1 ho))
    rw [tch_of hi h0 hm] at h
    cases h
theorem onR_at {ps : List (Int × Int)} {px py : Int} {n i : Nat} (h : onR ps px py n = false) (hi : i < n) : onE ps px py i = false := by
  cases e : onE ps px py i
  · rfl
  · have : onR ps px py (i + 1) = true := by simp only [onR]; rw [e, Bool.or_true]
    rw [onR_mono (show i + 1 ≤ n by omega) this] at h
    cases h
/-- Where a point is on no edge, both ways tell the same. -/
theorem in_both {q : List (Int × Int)} {p : Int × Int} (h0 : 0 < q.length) (h : onR q p.1 p.2 q.length = false) : decide (inV q p.1 p.2 = 2) = arQ (edL q) p := by
  have e := in_same (X := fun i => (ptA q i).1) (Y := fun i => (ptA q i).2) (px := p.1) (py := p.2) h0 (fun i hi => onR_at h hi)
  have e2 : arQ (edL q) p = par (fun i => hitI (ptA q i).1 (ptA q i).2 (ptA q ((i + 1) % q.length)).1 (ptA q ((i + 1) % q.length)).2 p.1 p.2) q.length := by
    unfold arQ
    rw [edL_len]
    apply par_congr
    intro i hi
    unfold hqE
    rw [edL_at hi]
    rfl
  rw [e2, ← e]
  unfold inV
  rw [h]
  show decide ((if par (hsE q p.1 p.2) q.length = true then (2 : Int) else 0) = 2) = par (hsE q p.1 p.2) q.length
  cases par (hsE q p.1 p.2) q.length <;> rfl
/-- A hole and an elder one, of the specification. -/
def nstQ (ps q : List (Int × Int)) : Bool := tch ps q ps.length || decide (inV q (ptA ps 0).1 (ptA ps 0).2 = 2) || decide (inV ps (ptA q 0).1 (ptA q 0).2 = 2)
theorem nstQ_free {ps q : List (Int × Int)} (hp : 0 < ps.length) (hq : 0 < q.length) (h : tch ps q ps.length = false) : nstQ ps q = nestI ps q := by
  unfold nstQ nestI
  rw [h, Bool.false_or, in_both hq (touch_first hp h), in_both hp (touch_other hq h)]
theorem any_tch (ps : List (Int × Int)) (t : List (List (Int × Int))) : t.any (fun q => tch ps q ps.length) = anyQ (edL ps) (t.map edL).flatten := by
  rw [Bool.eq_iff_iff]
  unfold anyQ anyE
  simp only [List.any_eq_true, List.mem_flatten, List.mem_map]
  constructor
  · rintro ⟨q, hq, h⟩
    rw [tch_same] at h
    unfold anyQ anyE at h
    simp only [List.any_eq_true] at h
    obtain ⟨e, he, f, hf, hm⟩ := h
    exact ⟨e, he, f, ⟨_, ⟨q, hq, rfl⟩, hf⟩, hm⟩
  · rintro ⟨e, he, f, ⟨_, ⟨q, hq, rfl⟩, hf⟩, hm⟩
    refine ⟨q, hq, ?_⟩
    rw [tch_same]
    unfold anyQ anyE
    simp only [List.any_eq_true]
    exact ⟨e, he, f, hf, hm⟩
theorem nest_same {ps : List (Int × Int)} {t : List (List (Int × Int))} (hp : 0 < ps.length) (ht : ∀ q ∈ t, 0 < q.length) : t.any (nstQ ps) = (anyQ (edL ps) (t.map edL).flatten || t.any (nestI ps)) := by
  rw [← any_tch]
  cases e : t.any (fun q => tch ps q ps.length)
  · rw [Bool.false_or]
    apply any_congr
    intro q hq
    refine nstQ_free hp (ht q hq) ?_
    cases c : tch ps q ps.length
    · rfl
    · rw [List.any_eq_true.mpr ⟨q, hq, c⟩] at e
      cases e
  · rw [Bool.true_or]
    obtain ⟨q, hq, c⟩ := List.any_eq_true.mp e
    refine List.any_eq_true.mpr ⟨q, hq, ?_⟩
    unfold nstQ
    rw [c]
    rfl
/-- The rows from the second on, up to k. -/
theorem nst_any {q : List (Int × Int)} {rs : List (List (Int × Int))} {r : Nat} : ∀ k, k ≤ rs.length → nst (q :: rs) r (k + 1) = (rs.take k).any (nstQ (rowA (q :: rs) r))
  | 0, _ => by
    simp only [nst]
    simp
  | k + 1, h => by
    have ih := nst_any (q := q) (rs := rs) (r := r) k (by omega)
    have hk : k < rs.length := by omega
    rw [show nst (q :: rs) r (k + 1 + 1) = (nst (q :: rs) r (k + 1) || (decide (1 ≤ k + 1) && nstE (q :: rs) r (k + 1))) from rfl, ih, List.take_add_one, List.getElem?_eq_getElem hk, List.any_append, decide_eq_true (by omega), Bool.true_and]
    congr 1
    have e : rowA (q :: rs) (k + 1) = rs[k] := by unfold rowA; rw [List.getElem?_cons_succ, List.getElem?_eq_getElem hk]; rfl
    unfold nstE
    rw [e]
    simp only [Option.toList_some, List.any_cons, List.any_nil, Bool.or_false]
    rfl
theorem ring_same {rs : List (List (Int × Int))} {r : Nat} (hr : r < rs.length) (ok : ∀ i, i < rs.length → 0 < (rowA rs i).length) : ringI rs r = ringB rs r := by
  unfold ringI ringB
  by_cases h0 : r = 0
  · subst h0
    rw [if_pos rfl]
    unfold turnI firstB
    rw [if_pos rfl]
    rw [List.take_zero, show holeI (rowA rs 0) [] = true from rfl, Bool.and_true]
  · rw [if_neg h0]
    unfold turnI holeB
    rw [if_neg h0]
    congr 2
    have hp := ok r hr
    have hq := ok 0 (by omega)
    cases rs with
    | nil => simp at hr
    | cons q t =>
      obtain ⟨m, rfl⟩ : ∃ m, r = m + 1 := ⟨r - 1, by omega⟩
      rw [List.length_cons] at hr
      have e0 : rowA (q :: t) 0 = q := rfl
      rw [e0] at hq ⊢
      rw [List.take_succ_cons, nst_any m (by omega)]
      have ht : ∀ s ∈ t.take m, 0 < s.length := by
        intro s hs
        obtain ⟨i, hi, e⟩ := List.mem_iff_getElem.mp (List.mem_of_mem_take hs)
        have := ok (i + 1) (by rw [List.length_cons]; omega)
        rw [show rowA (q :: t) (i + 1) = t[i] by unfold rowA; rw [List.getElem?_cons_succ, List.getElem?_eq_getElem hi]; rfl, e] at this
        exact this
      generalize rowA (q :: t) (m + 1) = ps at *
      rw [nest_same hp ht]
      show (!anyQ (edL ps) (edL q) && (arQ (edL q) (ptA ps 0) && (!anyQ (edL ps) ((t.take m).map edL).flatten && !(t.take m).any (nestI ps)))) = _
      rw [Bool.not_or, tch_same]
      cases hc : anyQ (edL ps) (edL q)
      · rw [← tch_same] at hc
        rw [in_both hq (touch_first hp hc)]
      · rfl
theorem rings_same {rs : List (List (Int × Int))} (ok : ∀ i, i < rs.length → 0 < (rowA rs i).length) : ∀ j, j ≤ rs.length → ringsI rs j = ringsB rs j
  | 0, _ => rfl
  | j + 1, h => by
    simp only [ringsI, ringsB]
    rw [rings_same ok j (by omega), ring_same (by omega) ok]
end Go.Proofs.Ythafhfdhahbdoaa
