/- Cross from the other end: the same answer; the point that it tells lies between the ends of both segments. Mathematics. -/
import Derived.Test.YtfhcbgjnojcigaaCrossD
namespace Go.Proofs.Ytfhcbgjnojcigaa
open Go.RowKit

theorem met_other (ax ay bx bz cx cy dx dy : Int) : metI cx cy dx dy ax ay bx bz = metI ax ay bx bz cx cy dx dy := by
  rw [Bool.eq_iff_iff, metI_iff, metI_iff]
  exact ⟨fun h => h.other, fun h => h.other⟩
theorem met_rev (ax ay bx bz cx cy dx dy : Int) : metI dx dy cx cy bx bz ax ay = metI ax ay bx bz cx cy dx dy := by
  rw [Bool.eq_iff_iff, metI_iff, metI_iff]
  exact ⟨fun h => h.flip.other.flip, fun h => h.other.flip.other.flip.other⟩
theorem onB_rev (ax ay bx bz px py : Int) : onB bx bz ax ay px py = onB ax ay bx bz px py := by
  rw [Bool.eq_iff_iff, onB_iff, onB_iff]
  unfold ON
  rw [ar_swap]
  constructor
  · rintro ⟨h1, h2, h3⟩
    exact ⟨by omega, by rw [Int.mul_comm]; exact h2, by rw [Int.mul_comm]; exact h3⟩
  · rintro ⟨h1, h2, h3⟩
    exact ⟨by omega, by rw [Int.mul_comm]; exact h2, by rw [Int.mul_comm]; exact h3⟩
theorem shr_rev (ax ay bx bz cx cy dx dy px py : Int) : shr dx dy cx cy bx bz ax ay px py = shr ax ay bx bz cx cy dx dy px py := by
  unfold shr
  rw [onB_rev cx cy dx dy, onB_rev ax ay bx bz, Bool.and_comm]

/-- A list without doubles that lies in another one is not longer. -/
theorem nodup_le : ∀ (l m : List (Int × Int)), l.Nodup → (∀ x ∈ l, x ∈ m) → l.length ≤ m.length
  | [], m, _, _ => Nat.zero_le _
  | x :: r, m, hn, hs => by
    rw [List.nodup_cons] at hn
    have hx : x ∈ m := hs x List.mem_cons_self
    have ih := nodup_le r (m.erase x) hn.2 (fun y hy => by
      have hne : y ≠ x := by intro e; rw [e] at hy; exact hn.1 hy
      exact (List.mem_erase_of_ne hne).2 (hs y (List.mem_cons_of_mem _ hy)))
    have hl := List.length_erase_of_mem hx
    have hp : 0 < m.length := List.length_pos_of_mem hx
    rw [List.length_cons]
    omega
theorem addP_iff (l : List (Int × Int)) (p q : Int × Int) (b : Bool) : q ∈ addP l p b ↔ q ∈ l ∨ (q = p ∧ b = true) := by
  unfold addP
  cases b
  · simp
  · by_cases h : p ∈ l
    · simp only [List.contains_iff_mem.2 h, Bool.not_true, Bool.and_false, Bool.false_eq_true, if_false]
      constructor
      · exact .inl
      · rintro (h1 | ⟨h1, _⟩)
        · exact h1
        · rw [h1]; exact h
    · simp [h]
theorem addP_nodup {l : List (Int × Int)} (h : l.Nodup) (p : Int × Int) (b : Bool) : (addP l p b).Nodup := by
  unfold addP
  split
  · rename_i hb
    simp only [Bool.and_eq_true, Bool.not_eq_true'] at hb
    have hp : p ∉ l := by
      intro hm
      rw [List.contains_iff_mem.2 hm] at hb
      exact absurd hb.2 (by simp)
    exact List.nodup_append.2 ⟨h, by simp, fun x hx y hy e => by
      rw [List.mem_singleton] at hy
      subst hy
      subst e
      exact hp hx⟩
  · exact h
theorem shared_nodup (ax ay bx bz cx cy dx dy : Int) : (shared ax ay bx bz cx cy dx dy).Nodup :=
  addP_nodup (addP_nodup (addP_nodup (addP_nodup List.nodup_nil _ _) _ _) _ _) _ _
theorem mem_shared (ax ay bx bz cx cy dx dy : Int) (q : Int × Int) : q ∈ shared ax ay bx bz cx cy dx dy ↔ (q = (ax, ay) ∨ q = (bx, bz) ∨ q = (cx, cy) ∨ q = (dx, dy)) ∧ shr ax ay bx bz cx cy dx dy q.1 q.2 = true := by
  unfold shared
  rw [addP_iff, addP_iff, addP_iff, addP_iff]
  constructor
  · rintro ((((h | ⟨rfl, h⟩) | ⟨rfl, h⟩) | ⟨rfl, h⟩) | ⟨rfl, h⟩)
    · cases h
    · exact ⟨.inl rfl, h⟩
    · exact ⟨.inr (.inl rfl), h⟩
    · exact ⟨.inr (.inr (.inl rfl)), h⟩
    · exact ⟨.inr (.inr (.inr rfl)), h⟩
  · rintro ⟨rfl | rfl | rfl | rfl, h⟩
    · exact .inl (.inl (.inl (.inr ⟨rfl, h⟩)))
    · exact .inl (.inl (.inr ⟨rfl, h⟩))
    · exact .inl (.inr ⟨rfl, h⟩)
    · exact .inr ⟨rfl, h⟩
theorem mem_rev (ax ay bx bz cx cy dx dy : Int) (q : Int × Int) : q ∈ shared dx dy cx cy bx bz ax ay ↔ q ∈ shared ax ay bx bz cx cy dx dy := by
  rw [mem_shared, mem_shared, shr_rev]
  constructor
  · rintro ⟨h | h | h | h, k⟩ <;> exact ⟨by simp [h], k⟩
  · rintro ⟨h | h | h | h, k⟩ <;> exact ⟨by simp [h], k⟩
theorem shared_rev (ax ay bx bz cx cy dx dy : Int) : (shared dx dy cx cy bx bz ax ay).length = (shared ax ay bx bz cx cy dx dy).length :=
  Nat.le_antisymm (nodup_le _ _ (shared_nodup _ _ _ _ _ _ _ _) (fun x h => (mem_rev _ _ _ _ _ _ _ _ x).1 h)) (nodup_le _ _ (shared_nodup _ _ _ _ _ _ _ _) (fun x h => (mem_rev _ _ _ _ _ _ _ _ x).2 h))
theorem one_rev {ax ay bx bz cx cy dx dy : Int} (h : (shared ax ay bx bz cx cy dx dy).length = 1) : oneOf dx dy cx cy bx bz ax ay = oneOf ax ay bx bz cx cy dx dy := by
  have h1 := oneOf_is h
  have h2 := oneOf_is ((shared_rev ax ay bx bz cx cy dx dy).trans h)
  have m := (mem_rev ax ay bx bz cx cy dx dy (oneOf dx dy cx cy bx bz ax ay)).1 (by rw [h2]; exact List.mem_singleton.2 rfl)
  rw [h1, List.mem_singleton] at m
  exact m
theorem allW_rev (ax ay bx bz cx cy dx dy : Int) : allW dx dy cx cy bx bz ax ay = -allW ax ay bx bz cx cy dx dy := by unfold allW; grind
theorem crX_rev (ax ay bx bz cx cy dx dy : Int) : crX dx dy cx cy bx bz ax ay = -crX ax ay bx bz cx cy dx dy := by unfold crX allW partW; grind
theorem crY_rev (ax ay bx bz cx cy dx dy : Int) : crY dx dy cx cy bx bz ax ay = -crY ax ay bx bz cx cy dx dy := by unfold crY allW partW; grind
theorem cN_neg {n d : Int} (h : d ≠ 0) : cN (-n) (-d) = cN n d := by
  have eg : Int.gcd (-n) (-d) = Int.gcd n d := by simp
  unfold cN
  rw [eg]
  by_cases hd : d < 0
  · rw [if_neg (by omega), if_pos hd, neg_div_gcd (Int.gcd_dvd_left n d)]
  · rw [if_pos (by omega), if_neg hd]
    have := neg_div_gcd (n := -n) (g := (Int.gcd n d : Int)) (Int.dvd_neg.2 (Int.gcd_dvd_left n d))
    rw [← this, Int.neg_neg]
theorem cD_neg {n d : Int} (h : d ≠ 0) : cD (-n) (-d) = cD n d := by
  have eg : Int.gcd (-n) (-d) = Int.gcd n d := by simp
  unfold cD
  rw [eg]
  by_cases hd : d < 0
  · rw [if_neg (by omega), if_pos hd, neg_div_gcd (Int.gcd_dvd_right n d)]
  · rw [if_pos (by omega), if_neg hd]
    have := neg_div_gcd (n := -d) (g := (Int.gcd n d : Int)) (Int.dvd_neg.2 (Int.gcd_dvd_right n d))
    rw [← this, Int.neg_neg]
/-- Either way around Cross is the same. -/
theorem crV_rev (ax ay bx bz cx cy dx dy : Int) : crV dx dy cx cy bx bz ax ay = crV ax ay bx bz cx cy dx dy := by
  unfold crV
  rw [met_rev, shared_rev]
  by_cases hm : metI ax ay bx bz cx cy dx dy = true
  · rw [if_pos hm, if_pos hm]
    by_cases h0 : (shared ax ay bx bz cx cy dx dy).length = 0
    · have hA := allW_ne hm (List.eq_nil_of_length_eq_zero h0)
      rw [if_pos h0, if_pos h0, crX_rev, crY_rev, allW_rev, cN_neg hA, cD_neg hA, cN_neg hA, cD_neg hA]
    · rw [if_neg h0, if_neg h0]
      by_cases h1 : (shared ax ay bx bz cx cy dx dy).length = 1
      · rw [if_pos h1, if_pos h1, one_rev h1]
      · rw [if_neg h1, if_neg h1]
  · rw [if_neg hm, if_neg hm]
/-- It tells of no meeting just where the segments do not meet. -/
theorem crV_kind (ax ay bx bz cx cy dx dy : Int) : ((crV ax ay bx bz cx cy dx dy).1 != 0) = metI ax ay bx bz cx cy dx dy := by
  unfold crV
  by_cases hm : metI ax ay bx bz cx cy dx dy = true
  · rw [if_pos hm, hm]
    split
    · rfl
    · split <;> rfl
  · rw [if_neg hm]
    have : metI ax ay bx bz cx cy dx dy = false := by simpa using hm
    rw [this]
    rfl
/-- In lowest terms, with what is below above 0. -/
theorem c_parts {n d : Int} (hd : d ≠ 0) : 0 < cD n d ∧ ∃ k : Int, k ≠ 0 ∧ n = cN n d * k ∧ d = cD n d * k := by
  have g0 : 0 < Int.gcd n d := by
    apply Nat.pos_of_ne_zero
    intro h
    exact hd (Int.gcd_eq_zero_iff.mp h).2
  have e1 := Int.ediv_mul_cancel (Int.gcd_dvd_left n d)
  have e2 := Int.ediv_mul_cancel (Int.gcd_dvd_right n d)
  unfold cN cD
  by_cases h : d < 0
  · rw [if_pos h, if_pos h, Int.ediv_neg, Int.ediv_neg]
    refine ⟨?_, -(Int.gcd n d : Int), by omega, by rw [Int.neg_mul_neg]; exact e1.symm, by rw [Int.neg_mul_neg]; exact e2.symm⟩
    apply Int.pos_of_mul_pos_left (b := (Int.gcd n d : Int))
    · rw [Int.neg_mul, e2]; omega
    · omega
  · rw [if_neg h, if_neg h]
    refine ⟨?_, (Int.gcd n d : Int), by omega, e1.symm, e2.symm⟩
    apply Int.pos_of_mul_pos_left (b := (Int.gcd n d : Int))
    · rw [e2]; omega
    · omega
theorem between_of {n d k N D a b : Int} (hk : k ≠ 0) (en : N = n * k) (ed : D = d * k) (h : (N - a * D) * (N - b * D) ≤ 0) : (n - a * d) * (n - b * d) ≤ 0 := by
  have hp : 0 < k * k := sq_pos hk
  refine nonpos_of_pos_mul hp ?_
  subst en
  subst ed
  have e : k * k * ((n - a * d) * (n - b * d)) = (n * k - a * (d * k)) * (n * k - b * (d * k)) := by grind
  omega
/-- The point lies between the ends of the first segment. -/
theorem crV_between {ax ay bx bz cx cy dx dy n1 d1 n2 d2 : Int} (h : crV ax ay bx bz cx cy dx dy = (1, n1, d1, n2, d2)) :
    0 < d1 ∧ 0 < d2 ∧ (n1 - ax * d1) * (n1 - bx * d1) ≤ 0 ∧ (n2 - ay * d2) * (n2 - bz * d2) ≤ 0 := by
  unfold crV at h
  by_cases hm : metI ax ay bx bz cx cy dx dy = true
  · rw [if_pos hm] at h
    by_cases h0 : (shared ax ay bx bz cx cy dx dy).length = 0
    · have hA := allW_ne hm (List.eq_nil_of_length_eq_zero h0)
      rw [if_pos h0] at h
      simp only [Prod.mk.injEq] at h
      obtain ⟨_, rfl, rfl, rfl, rfl⟩ := h
      obtain ⟨p1, k1, hk1, en1, ed1⟩ := c_parts (n := crX ax ay bx bz cx cy dx dy) hA
      obtain ⟨p2, k2, hk2, en2, ed2⟩ := c_parts (n := crY ax ay bx bz cx cy dx dy) hA
      have hPQ := (metI_iff.1 hm).2.2.2
      have eA := allW_is ax ay bx bz cx cy dx dy
      have eP := partW_is ax ay cx cy dx dy
      refine ⟨p1, p2, between_of hk1 en1 ed1 ?_, between_of hk2 en2 ed2 ?_⟩
      · have e : (crX ax ay bx bz cx cy dx dy - ax * allW ax ay bx bz cx cy dx dy) * (crX ax ay bx bz cx cy dx dy - bx * allW ax ay bx bz cx cy dx dy) = (bx - ax) * (bx - ax) * (ar cx cy dx dy ax ay * ar cx cy dx dy bx bz) := by
          unfold crX
          rw [← eA, ← eP]
          grind
        rw [e]
        have := Int.mul_nonneg (sq_nonneg (bx - ax)) (show 0 ≤ -(ar cx cy dx dy ax ay * ar cx cy dx dy bx bz) by omega)
        rw [Int.mul_neg] at this
        omega
      · have e : (crY ax ay bx bz cx cy dx dy - ay * allW ax ay bx bz cx cy dx dy) * (crY ax ay bx bz cx cy dx dy - bz * allW ax ay bx bz cx cy dx dy) = (bz - ay) * (bz - ay) * (ar cx cy dx dy ax ay * ar cx cy dx dy bx bz) := by
          unfold crY
          rw [← eA, ← eP]
          grind
        rw [e]
        have := Int.mul_nonneg (sq_nonneg (bz - ay)) (show 0 ≤ -(ar cx cy dx dy ax ay * ar cx cy dx dy bx bz) by omega)
        rw [Int.mul_neg] at this
        omega
    · rw [if_neg h0] at h
      by_cases h1 : (shared ax ay bx bz cx cy dx dy).length = 1
      · rw [if_pos h1] at h
        simp only [Prod.mk.injEq] at h
        obtain ⟨_, rfl, rfl, rfl, rfl⟩ := h
        have hi := oneOf_is h1
        have hs := ((mem_shared ax ay bx bz cx cy dx dy (oneOf ax ay bx bz cx cy dx dy)).1 (by rw [hi]; exact List.mem_singleton.2 rfl)).2
        unfold shr at hs
        simp only [Bool.and_eq_true] at hs
        obtain ⟨_, q1, q2⟩ := onB_iff.1 hs.1
        refine ⟨by decide, by decide, ?_, ?_⟩
        · have e : ((oneOf ax ay bx bz cx cy dx dy).1 - ax * 1) * ((oneOf ax ay bx bz cx cy dx dy).1 - bx * 1) = (ax - (oneOf ax ay bx bz cx cy dx dy).1) * (bx - (oneOf ax ay bx bz cx cy dx dy).1) := by grind
          omega
        · have e : ((oneOf ax ay bx bz cx cy dx dy).2 - ay * 1) * ((oneOf ax ay bx bz cx cy dx dy).2 - bz * 1) = (ay - (oneOf ax ay bx bz cx cy dx dy).2) * (bz - (oneOf ax ay bx bz cx cy dx dy).2) := by grind
          omega
      · rw [if_neg h1] at h
        simp only [Prod.mk.injEq] at h
        exact absurd h.1 (by decide)
  · rw [if_neg hm] at h
    simp only [Prod.mk.injEq] at h
    exact absurd h.1 (by decide)
theorem crV_pos {ax ay bx bz cx cy dx dy kk n1 d1 n2 d2 : Int} (h : crV ax ay bx bz cx cy dx dy = (kk, n1, d1, n2, d2)) : 0 < d1 ∧ 0 < d2 := by
  unfold crV at h
  by_cases hm : metI ax ay bx bz cx cy dx dy = true
  · rw [if_pos hm] at h
    by_cases h0 : (shared ax ay bx bz cx cy dx dy).length = 0
    · have hA := allW_ne hm (List.eq_nil_of_length_eq_zero h0)
      rw [if_pos h0] at h
      simp only [Prod.mk.injEq] at h
      obtain ⟨_, rfl, rfl, rfl, rfl⟩ := h
      exact ⟨(c_parts hA).1, (c_parts hA).1⟩
    · rw [if_neg h0] at h
      split at h
      · simp only [Prod.mk.injEq] at h
        obtain ⟨_, _, rfl, _, rfl⟩ := h
        exact ⟨by decide, by decide⟩
      · simp only [Prod.mk.injEq] at h
        obtain ⟨_, _, rfl, _, rfl⟩ := h
        exact ⟨by decide, by decide⟩
  · rw [if_neg hm] at h
    simp only [Prod.mk.injEq] at h
    obtain ⟨_, _, rfl, _, rfl⟩ := h
    exact ⟨by decide, by decide⟩
/-- Held against the ends, as the law does. -/
theorem cmpZ_between {n d a b : Int} (h : (n - a * d) * (n - b * d) ≤ 0) : cmpZ (n * 1) (a * d) * cmpZ (n * 1) (b * d) ≤ 0 := by
  rw [Int.mul_one]
  generalize a * d = p at *
  generalize b * d = q at *
  have c : ∀ x y : Int, (cmpZ x y = 1 ∧ 0 < x - y) ∨ (cmpZ x y = 0 ∧ x - y = 0) ∨ (cmpZ x y = -1 ∧ x - y < 0) := by
    intro x y
    unfold cmpZ
    split
    · right; right; exact ⟨rfl, by omega⟩
    · split
      · right; left; exact ⟨rfl, by omega⟩
      · left; exact ⟨rfl, by omega⟩
  rcases c n p with ⟨e1, h1⟩ | ⟨e1, h1⟩ | ⟨e1, h1⟩ <;> rcases c n q with ⟨e2, h2⟩ | ⟨e2, h2⟩ | ⟨e2, h2⟩ <;> rw [e1, e2] <;> (try decide)
  · exact absurd (Int.mul_pos h1 h2) (by omega)
  · have := Int.mul_pos_of_neg_of_neg h1 h2
    omega
end Go.Proofs.Ytfhcbgjnojcigaa
