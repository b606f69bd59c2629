/- The shape of a box: the mathematics (it is good). -/
import Derived.Test.YthafhfdhahbdoaaHasW
import Derived.Test.YthafhfdhahbdoaaPtG
namespace Go.Proofs.Ythafhfdhahbdoaa
open Go.RowKit

theorem onB_off {ax ay bx bz px py : Int} (h : btw ax bx px = false ∨ btw ay bz py = false) : onB ax ay bx bz px py = false := by
  unfold onB
  rcases h with h | h <;> rw [h] <;> simp
theorem metI_off {ax ay bx bz cx cy dx dy : Int} (h : rng ax bx cx dx = false ∨ rng ay bz cy dy = false) : metI ax ay bx bz cx cy dx dy = false := by
  unfold metI
  rcases h with h | h <;> rw [h] <;> simp
theorem btw_off {a x : Int} (h : a ≠ x) : btw a a x = false := by
  unfold btw inB
  simp
  omega
theorem rng_off {a x : Int} (h : a ≠ x) : rng a a x x = false := by
  unfold rng
  simp
  omega
/-- The kind and the rows of the shape that a box is. -/
def bxK (a b c d : Int) : Int := if a = c ∧ b = d then 1 else if a = c ∨ b = d then 3 else 5
def bxR (a b c d : Int) : List (List (Int × Int)) := if a = c ∧ b = d then [[(a, b)]] else if a = c ∨ b = d then [[(a, b), (c, d)]] else [[(a, b), (c, b), (c, d), (a, d)]]
theorem good_line {a b c d : Int} (h1 : ptOk a b = true) (h2 : ptOk c d = true) (h : ¬ (a = c ∧ b = d)) : goodB 3 [[(a, b), (c, d)]] = true := by
  rw [good_form (by decide)]
  simp [formB, rowsBad, rowF, rowBad, ptBad, sameAt, rowA, ptA, mostN, leastN, sevN, inB, h1, h2]
  omega
theorem ptOk_iff {x y : Int} : ptOk x y = true ↔ Crd x ∧ Crd y := by
  constructor
  · exact ptOk_crd
  · rintro ⟨h1, h2⟩
    unfold Crd at h1 h2
    simp [ptOk, inB]
    omega
theorem slf_box {a b c d : Int} (h1 : a ≠ c) (h2 : b ≠ d) : slf [(a, b), (c, b), (c, d), (a, d)] 4 = false := by
  have e1 : onB a b c b c d = false := onB_off (.inr (btw_off h2))
  have e2 : onB c b c d a b = false := onB_off (.inl (btw_off h1.symm))
  have e3 : metI a b c b c d a d = false := metI_off (.inr (rng_off h2))
  have e4 : onB a b c b a d = false := onB_off (.inr (btw_off h2))
  have e5 : onB a d a b c b = false := onB_off (.inl (btw_off h1))
  have e6 : onB c b c d a d = false := onB_off (.inl (btw_off h1.symm))
  have e7 : onB c d a d c b = false := onB_off (.inr (btw_off h2.symm))
  have e8 : metI c b c d a d a b = false := metI_off (.inl (rng_off h1.symm))
  have e9 : onB c d a d a b = false := onB_off (.inr (btw_off h2.symm))
  have e10 : onB a d a b c d = false := onB_off (.inl (btw_off h1))
  simp [slf, slfE, badE, ptA, nx, e1, e2, e3, e4, e5, e6, e7, e8, e9, e10]
theorem tw_box {a b c d : Int} : tw [(a, b), (c, b), (c, d), (a, d)] 4 = 2 * ((c - a) * (d - b)) := by
  simp [tw, term, ptA, nx]
  grind
theorem good_ring {a b c d : Int} (o1 : ptOk a b = true) (o2 : ptOk c d = true) (h1 : a < c) (h2 : b < d) : goodB 5 [[(a, b), (c, b), (c, d), (a, d)]] = true := by
  obtain ⟨ca, cb⟩ := ptOk_iff.1 o1
  obtain ⟨cc, cd⟩ := ptOk_iff.1 o2
  have o3 : ptOk c b = true := ptOk_iff.2 ⟨cc, cb⟩
  have o4 : ptOk a d = true := ptOk_iff.2 ⟨ca, cd⟩
  have hp : 0 < (c - a) * (d - b) := Int.mul_pos (by omega) (by omega)
  have hf : formB 5 [[(a, b), (c, b), (c, d), (a, d)]] = true := by
    simp [formB, rowsBad, rowF, rowBad, ptBad, sameAt, rowA, ptA, mostN, leastN, sevN, inB, o1, o2, o3, o4]
    omega
  have hr : ringsB [[(a, b), (c, b), (c, d), (a, d)]] 1 = true := by
    have e : ringsB [[(a, b), (c, b), (c, d), (a, d)]] 1 = firstB [(a, b), (c, b), (c, d), (a, d)] := by simp [ringsB, ringB, rowA]
    have g : firstB [(a, b), (c, b), (c, d), (a, d)] = (!slf [(a, b), (c, b), (c, d), (a, d)] 4 && decide (0 < tw [(a, b), (c, b), (c, d), (a, d)] 4)) := rfl
    rw [e, g, slf_box (by omega) (by omega), tw_box, decide_eq_true (by omega)]
    rfl
  have g : goodB 5 [[(a, b), (c, b), (c, d), (a, d)]] = (formB 5 [[(a, b), (c, b), (c, d), (a, d)]] && (!decide ((5 : Int) = 5) || ringsB [[(a, b), (c, b), (c, d), (a, d)]] 1)) := rfl
  rw [g, hf, hr]
  rfl
theorem good_box {a b c d : Int} (h : boxOk a b c d = true) : goodB (bxK a b c d) (bxR a b c d) = true := by
  unfold boxOk at h
  simp only [Bool.and_eq_true, decide_eq_true_eq] at h
  obtain ⟨o1, o2, l1, l2⟩ := h
  unfold bxK bxR
  by_cases e : a = c ∧ b = d
  · rw [if_pos e, if_pos e, good_pt]
    exact o1
  · rw [if_neg e, if_neg e]
    by_cases f : a = c ∨ b = d
    · rw [if_pos f, if_pos f]
      exact good_line o1 o2 e
    · rw [if_neg f, if_neg f]
      exact good_ring o1 o2 (by omega) (by omega)
/-- What MeetsBox answers. -/
def mbV (n : Int) (rs : List (List (Int × Int))) (a b c d : Int) : Bool := (goodB n rs && boxOk a b c d) && meetS n rs (bxK a b c d) (bxR a b c d)
theorem mb_same (n : Int) (rs : List (List (Int × Int))) {a b c d : Int} (h : boxOk a b c d = true) : smV n rs (bxK a b c d) (bxR a b c d) = mbV n rs a b c d := by
  unfold smV mbV
  rw [good_box h, h]
theorem mb_off (n : Int) (rs : List (List (Int × Int))) {a b c d : Int} (h : boxOk a b c d = false) : mbV n rs a b c d = false := by
  unfold mbV
  rw [h, Bool.and_false]
  rfl
end Go.Proofs.Ythafhfdhahbdoaa
