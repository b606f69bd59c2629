/- The whole number below: spec.FloorFrac. -/
import Derived.Test.YtlpdenaiclocfakSDivM
import Derived.Test.YtlpdenaiclocfakTwoF
import Derived.Test.YtlpdenaiclocfakFTake
import Derived.Test.YtlpdenaiclocfakFracL
namespace Go.Proofs.Ytlpdenaiclocfak
open Go.RowKit

theorem tk_of {us : List Int} {n : Int} (hl : Lim us) (hn : Nrm us) (l : us.length ≤ 24) (hv : val us = mg n) : tk (decide (n < 0)) us = n := by
  have hk : okB (decide (n < 0)) us = true := by
    unfold okB
    by_cases h0 : us.length = 0
    · rw [if_pos h0]
      obtain rfl : us = [] := List.eq_nil_of_length_eq_zero h0
      have : mg n = 0 := by rw [← hv]; rfl
      unfold mg at this
      simp
      split at this <;> omega
    · rw [if_neg h0]
      have hlast : us.getLast? = some (us[us.length - 1]?.getD 0) := by
        rw [List.getLast?_eq_getElem?, List.getElem?_eq_getElem (by omega)]
        rfl
      have := last_of_Nrm hn _ hlast
      simp [l, this]
  unfold tk tkG tkL
  rw [hk, if_pos rfl, Bool.true_and, hv]
  unfold sg mg
  by_cases h : n < 0 <;> simp [h]

set_option maxRecDepth 20000 in
set_option maxHeartbeats 2000000 in
theorem specFloorFrac (g h : Bool) (a b : Option Addr) (c d : Nat) (xs ys : List Int) (w : World) (hx : Sees w a c xs) (hy : Sees w b d ys) :
    Calls Try.prog 15 #[.agg #[.bool g, .slice a xs.length c, .bool h, .slice b ys.length d]] w fun e w' => ∃ v, e = .returned v ∧ IsNum w.heap.size w' v (fN g xs h ys / fD g xs h ys) ∧ Below w.heap.size w w' := by
  have B0 := below2 w (.cells #[.bool g, .slice a xs.length c, .bool h, .slice b ys.length d] 30) (.cells #[.bool false, .slice none 0 0] 28)
  obtain ⟨n1, hn1⟩ : ∃ n, fN g xs h ys = n := ⟨_, rfl⟩
  obtain ⟨d1, hd1⟩ : ∃ n, fD g xs h ys = n := ⟨_, rfl⟩
  have HN : Hid (fN g xs h ys = n1 ∧ fD g xs h ys = d1) := ⟨hn1, hd1⟩
  rw [hn1, hd1]
  clear hn1 hd1
  go_enter Try.func15, Try.ntmps15
  go_wp2_with fail
  refine (l2RightC g h a b c d xs ys _ (hx.below B0) (hy.below B0)).mono ?_
  rintro e w1 ⟨v, rfl, hI, hb1⟩
  rw [HN.out.1, HN.out.2] at hI
  obtain ⟨p1, q1, u1, p2, q2, u2, rfl, s1, s2, e1, e2, v1, v2, l1, l2⟩ := hI
  have t1 := tk_of s1.lim e1 l1 v1
  have t2 := tk_of s2.lim e2 l2 v2
  obtain ⟨k1, r1⟩ := at_block hb1 (b := w.heap.size + 1) (by simp)
  have hz : w.heap.size + 1 < w1.heap.size := by have := hb1.size; simp at this; omega
  have B1 := B0.trans (hb1.mono (by simp; omega))
  obtain ⟨sd1, hsd1⟩ : ∃ x, decide (n1 < 0) = x := ⟨_, rfl⟩
  obtain ⟨sd2, hsd2⟩ : ∃ x, decide (d1 < 0) = x := ⟨_, rfl⟩
  rw [hsd1] at t1
  rw [hsd2] at t2
  rw [hsd1, hsd2]
  have hbx := below1 w1 (.cells #[.bool sd1, .slice p1 u1.length q1, .bool sd2, .slice p2 u2.length q2] 30)
  have HQ : Hid (∀ W, Below w1.heap.size w1 W → Calls Try.prog 30 #[.agg #[.bool sd1, .slice p1 u1.length q1], .agg #[.bool sd2, .slice p2 u2.length q2]] W fun e w' => ∃ vq vr, e = .returned (.tuple #[vq, vr, .bool (decide (d1 ≠ 0))]) ∧ IsTwo W.heap.size w' vq vr (n1 / d1) (rz n1 d1) ∧ Below W.heap.size W w') := by
    intro W hW
    have := specDivMod sd1 sd2 p1 p2 q1 q2 u1 u2 W (s1.below hW) (s2.below hW)
    rw [t1, t2] at this
    exact this
  clear hb1 s1 s2 e1 e2 v1 v2 hx hy t1 t2 hsd1 hsd2
  go_wp2_with fail
  refine Calls.mono (HQ.out _ hbx) ?_
  rintro e w2 ⟨vq, vr, rfl, hT, hb2⟩
  obtain ⟨hI, gr, ar, nr, cr, rfl⟩ := hT.first
  have hJ := hI.base_le (show w.heap.size + 2 ≤ (w1.alloc (.cells #[.bool sd1, .slice p1 u1.length q1, .bool sd2, .slice p2 u2.length q2] 30)).heap.size by rw [World.size_alloc]; omega)
  obtain ⟨g5, a5, l5, c5, rfl⟩ := hI.shape
  have hbb := hbx.trans (hb2.mono hbx.size)
  have k2 := fun o => (hbb.cell (p := ⟨w.heap.size + 1, o, none⟩) hz).trans (k1 o)
  have r2 := fun o => (hbb.frozen (p := ⟨w.heap.size + 1, o, none⟩) hz).trans (r1 o)
  have B2 := B1.trans (hbb.mono B1.size)
  have hz2 : w.heap.size + 1 < w2.heap.size := Nat.lt_of_lt_of_le hz hbb.size
  have hz0 : w.heap.size < w2.heap.size := by omega
  clear hb2 hI k1 r1 HQ hT hbb hbx B1
  go_wp2
  have JP := hJ.put' (b := w.heap.size + 1) (b0 := w.heap.size) (u0 := .bool g5) (u1 := .slice a5 l5 c5) (by omega) (by omega)
  have BP := below_put' (b := w.heap.size + 1) B2 (by omega) (.bool g5) (.slice a5 l5 c5)
  exact bodyPost_ret (v := .agg #[.bool g5, .slice a5 l5 c5]) (by simp [results, Try.results15, go_sem, k2, hz2, hz0]) rfl ⟨_, rfl, JP.below (below2 _ _ _), BP.trans ((below2 _ _ _).mono BP.size)⟩
end Go.Proofs.Ytlpdenaiclocfak
