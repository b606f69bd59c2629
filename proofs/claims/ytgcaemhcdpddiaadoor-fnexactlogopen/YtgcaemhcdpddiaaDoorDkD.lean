/- Sectors behind a crash and behind a sync: mathematics. -/
import Derived.Test.YtgcaemhcdpddiaaDoorDkRd
import Derived.Test.YtgcaemhcdpddiaaDoorStoI
import Derived.Test.YtgcaemhcdpddiaaDoorDkK
namespace Go.Proofs.YtgcaemhcdpddiaaDoor
open Go.RowKit

theorem secN_over {bs ds : List Int} {x k : Nat} (hd : ds.length = 64) (hx : (x + 1) * 64 ≤ bs.length) (hk : (k + 1) * 64 ≤ bs.length) : secN (over bs (x * 64) ds) k = if x = k then ds else secN bs k := by
  apply List.ext_getElem?
  intro i
  have hl : (over bs (x * 64) ds).length = bs.length := over_len (by omega)
  have at' : ∀ (l : List Int), l.length = bs.length → (secN l k)[i]? = if i < 64 then l[k * 64 + i]? else none := fun l hl => by
    unfold secN
    by_cases h : i < 64
    · rw [List.getElem?_take_of_lt h, List.getElem?_drop, if_pos h]
    · rw [if_neg h, List.getElem?_eq_none (by simp; omega)]
  rw [at' _ hl]
  by_cases e : x = k
  · subst e
    rw [if_pos rfl]
    by_cases h : i < 64
    · rw [if_pos h]
      unfold over
      rw [List.append_assoc, List.getElem?_append_right (by rw [List.length_take]; omega), List.getElem?_append_left (by simp; omega)]
      congr 1
      simp
      omega
    · rw [if_neg h, List.getElem?_eq_none (by omega)]
  · rw [if_neg e, at' bs rfl]
    by_cases h : i < 64
    · rw [if_pos h, if_pos h]
      unfold over
      by_cases lt : k < x
      · rw [List.append_assoc, List.getElem?_append_left (by simp; omega), List.getElem?_take_of_lt (by omega)]
      · rw [List.getElem?_append_right (by simp; omega), List.getElem?_drop]
        congr 1
        simp
        omega
    · rw [if_neg h, if_neg h]
theorem wr_in {bs : List Int} {qs : List Wr} (h : DkOk bs qs) {j : Nat} (hj : j < qs.length) : ∃ x : Nat, (wrN qs j).1 = (x : Int) ∧ (wrN qs j).1.toNat = x ∧ (x + 1) * 64 ≤ bs.length ∧ (wrN qs j).2.length = 64 := by
  have ok := h.2.2.2 j hj
  refine ⟨(wrN qs j).1.toNat, by have := ok.1; omega, rfl, ?_, ok.2.2⟩
  have := ok.1
  have := ok.2.1
  omega
/-- Each sector is the elder one or a write's. -/
theorem skN_known {K : Nat → Bool} {bs : List Int} {qs : List Wr} (h : DkOk bs qs) {k : Nat} (hk : (k + 1) * 64 ≤ bs.length) : ∀ j, j ≤ qs.length → secN (skN K bs qs j) k = secN bs k ∨ ∃ i, i < j ∧ (wrN qs i).1 = (k : Int) ∧ secN (skN K bs qs j) k = (wrN qs i).2
  | 0, _ => .inl rfl
  | j + 1, hj => by
    have ih := skN_known (K := K) h hk j (by omega)
    obtain ⟨x, hx, hxn, hxl, hd⟩ := wr_in h (show j < qs.length by omega)
    have e : skN K bs qs (j + 1) = if K j = true then over (skN K bs qs j) ((wrN qs j).1.toNat * 64) (wrN qs j).2 else skN K bs qs j := rfl
    rw [e]
    by_cases hK : K j = true
    · have hl := skN_len (K := K) h j (by omega)
      rw [if_pos hK, hxn, secN_over hd (by rw [hl]; exact hxl) (by rw [hl]; exact hk)]
      by_cases ex : x = k
      · rw [if_pos ex]
        exact .inr ⟨j, by omega, by rw [hx, ex], rfl⟩
      · rw [if_neg ex]
        rcases ih with ih | ⟨i, hi, h1, h2⟩
        · exact .inl ih
        · exact .inr ⟨i, by omega, h1, h2⟩
    · rw [if_neg hK]
      rcases ih with ih | ⟨i, hi, h1, h2⟩
      · exact .inl ih
      · exact .inr ⟨i, by omega, h1, h2⟩
/-- What is read is what stands there behind a sync. -/
theorem rsN_sync {bs : List Int} {qs : List Wr} (h : DkOk bs qs) {k : Nat} (hk : (k + 1) * 64 ≤ bs.length) : ∀ j, j ≤ qs.length → rsN bs qs k j = secN (syN bs qs j) k
  | 0, _ => rfl
  | j + 1, hj => by
    have ih := rsN_sync h hk j (by omega)
    obtain ⟨x, hx, hxn, hxl, hd⟩ := wr_in h (show j < qs.length by omega)
    have hl := syN_len h j (by omega)
    show (if (wrN qs j).1 = (k : Int) then (wrN qs j).2 else rsN bs qs k j) = secN (over (syN bs qs j) ((wrN qs j).1.toNat * 64) (wrN qs j).2) k
    rw [hxn, secN_over hd (by rw [hl]; exact hxl) (by rw [hl]; exact hk), ih, hx]
    by_cases ex : x = k
    · rw [if_pos ex, if_pos (by omega)]
    · rw [if_neg ex, if_neg (by omega)]
theorem coin255 : ∀ j, j < 24 → coin [255, 255, 255] j = true := by
  have h : ∀ j : Fin 24, coin [255, 255, 255] j.val = true := by decide +kernel
  exact fun j hj => h ⟨j, hj⟩
theorem DkOk.none {bs : List Int} {qs : List Wr} (h : DkOk bs qs) {bs' : List Int} (hl : bs'.length = bs.length) : DkOk bs' [] := by
  refine ⟨by rw [hl]; exact h.1, by rw [hl]; exact h.2.1, by rw [hl]; exact h.2.2.1, fun i hi => by simp at hi⟩
end Go.Proofs.YtgcaemhcdpddiaaDoor
