/- laws.sameBytes. -/
import Derived.Test.YtfdfcgjdigpofaaDoorBytL
namespace Go.Proofs.YtfdfcgjdigpofaaDoor
open Go.RowKit

set_option maxRecDepth 20000 in
set_option maxHeartbeats 2000000 in
theorem sameBytes_any (a b : Option Addr) (c d : Nat) (xs ys : List Int) (w : World) (h : SeesB w a c xs) (k : SeesB w b d ys) :
    Calls Tryd.prog 9 #[.slice a xs.length c, .slice b ys.length d] w fun e w' => ∃ r : Bool, e = .returned (.bool r) ∧ Hid (r = true ↔ xs = ys) ∧ Below w.heap.size w w' := by
  have hm := h.max
  have hf := h.fits
  have km := k.max
  have kf := k.fits
  unfold maxLen at hm km
  have HH : Hid (SeesB w a c xs) := h
  have HK : Hid (SeesB w b d ys) := k
  clear h k
  by_cases hl : xs.length = ys.length
  · have hne : ((xs.length : Int) != (ys.length : Int)) = false := by rw [hl]; simp
    go_enter Tryd.func9, Tryd.ntmps9
    go_wp2
    go_loopw [5] (fun i wr => ∃ j : Nat, j ≤ xs.length ∧ i = .int .i64 j ∧ Hid (∀ i, i < j → xs[i]?.getD 0 = ys[i]?.getD 0) ∧ Below w.heap.size w wr) (fun i _ => xs.length - (intOf i).toNat)
    case atStart => exact ⟨0, Nat.zero_le _, rfl, (fun i hi => absurd hi (by omega)), Below.refl _ _⟩
    case round =>
      obtain ⟨j, hj, rfl, hs, B⟩ := hrel
      rename World => wr
      by_cases hlt : j < xs.length
      · obtain ⟨q, o1, rfl, hc1⟩ := (HH.out.below B).cells (by intro e; rw [e] at hlt; simp at hlt)
        obtain ⟨p, o2, rfl, hc2⟩ := (HK.out.below B).cells (by intro e; have q : ys.length = 0 := (by rw [e]; rfl); omega)
        have g1 := hc1 j hlt
        have g2 := hc2 j (by omega)
        have GO : Hid (xs[j]?.getD 0 = ys[j]?.getD 0 → ∀ i, i < j + 1 → xs[i]?.getD 0 = ys[i]?.getD 0) := fun q i hi => by
          by_cases e : i = j
          · subst e; exact q
          · exact hs.out i (by omega)
        have NO : Hid (xs[j]?.getD 0 ≠ ys[j]?.getD 0 → xs ≠ ys) := fun q e => q (by rw [e])
        clear hs hc1 hc2
        generalize xs[j]?.getD 0 = x at *
        generalize ys[j]?.getD 0 = y at *
        by_cases hxy : x = y
        · have hb1 : (x != y) = false := by simpa using hxy
          have HG := GO.out hxy
          have HG2 : Hid (∀ i, i < j + 1 → xs[i]?.getD 0 = ys[i]?.getD 0) := HG
          clear GO NO HG
          subst hxy
          go_wp2_with fail
          go_region
          go_wp2
          go_roundw
          case rel => exact ⟨j + 1, by omega, by go_num, HG2, B.drew⟩
          case measure => simp [intOf]; omega
        · have hb1 : (x != y) = true := by simpa using hxy
          have HN : Hid (xs ≠ ys) := NO.out hxy
          clear GO NO
          go_wp2_with fail
          go_region
          go_wp2
          go_ret
          exact ⟨false, rfl, (show _ ↔ _ from ⟨fun e => (by cases e), fun e => absurd e HN.out⟩), B.drew⟩
      · obtain rfl : j = xs.length := by omega
        have HE : Hid (xs = ys) := by
          apply List.ext_getElem hl
          intro i h1 h2
          have := hs.out i h1
          rw [List.getElem?_eq_getElem h1, List.getElem?_eq_getElem h2] at this
          exact this
        clear hs
        go_wp2
        go_ret
        exact ⟨true, rfl, (show _ ↔ _ from ⟨fun _ => HE.out, fun _ => rfl⟩), B⟩
  · have hne : ((xs.length : Int) != (ys.length : Int)) = true := by simp; omega
    go_enter Tryd.func9, Tryd.ntmps9
    go_wp2
    go_ret
    exact ⟨false, rfl, (show _ ↔ _ from ⟨fun e => (by cases e), fun e => absurd (congrArg List.length e) hl⟩), Below.refl _ _⟩
end Go.Proofs.YtfdfcgjdigpofaaDoor
