/- Fractions that are held against one another; the laws' whole number. -/
import Derived.Test.YtmdbndooigcflaaFCmpI
import Derived.Test.YtmdbndooigcflaaPtH
namespace Go.Proofs.Ytmdbndooigcflaa
open Go.RowKit

theorem tk_is {us : List Int} {n : Int} (hl : Lim us) (hn : Nrm us) (l : us.length ≤ 24) (hv : val us = mg n) : tk (decide (n < 0)) us = n := by
  have hk : okB (decide (n < 0)) us = true := by
    unfold okB
    by_cases h0 : us.length = 0
    · rw [if_pos h0]
      obtain rfl : us = [] := List.eq_nil_of_length_eq_zero h0
      have : mg n = 0 := by rw [← hv]; rfl
      unfold mg at this
      simp
      split at this <;> omega
    · rw [if_neg h0]
      have hlast : us.getLast? = some (us[us.length - 1]?.getD 0) := by
        rw [List.getLast?_eq_getElem?, List.getElem?_eq_getElem (by omega)]
        rfl
      have := last_of_Nrm hn _ hlast
      simp [l, this]
  unfold tk tkG tkL
  rw [hk, if_pos rfl, Bool.true_and, hv]
  unfold sg mg
  by_cases h : n < 0 <;> simp [h]
theorem okB_is {us : List Int} {n : Int} (hn : Nrm us) (l : us.length ≤ 24) (hv : val us = mg n) : okB (decide (n < 0)) us = true := by
  unfold okB
  by_cases h0 : us.length = 0
  · rw [if_pos h0]
    obtain rfl : us = [] := List.eq_nil_of_length_eq_zero h0
    have : mg n = 0 := by rw [← hv]; rfl
    unfold mg at this
    simp
    split at this <;> omega
  · rw [if_neg h0]
    have hlast : us.getLast? = some (us[us.length - 1]?.getD 0) := by
      rw [List.getLast?_eq_getElem?, List.getElem?_eq_getElem (by omega)]
      rfl
    have := last_of_Nrm hn _ hlast
    simp [l, this]
theorem fND_is {zs ts : List Int} {n d : Int} (l1 : Lim zs) (n1 : Nrm zs) (s1 : zs.length ≤ 24) (v1 : val zs = mg n) (l2 : Lim ts) (n2 : Nrm ts) (s2 : ts.length ≤ 24) (v2 : val ts = mg d) (hd : 0 < d) :
    fN (decide (n < 0)) zs (decide (d < 0)) ts = n ∧ fD (decide (n < 0)) zs (decide (d < 0)) ts = d := by
  have t1 := tk_is l1 n1 s1 v1
  have t2 := tk_is l2 n2 s2 v2
  have e : fOk (decide (n < 0)) zs (decide (d < 0)) ts = true := by
    unfold fOk
    rw [okB_is n1 s1 v1, okB_is n2 s2 v2, t2]
    unfold cmpZ
    rw [if_neg (by omega), if_neg (by omega)]
    rfl
  unfold fN fD
  rw [if_pos e, if_pos e]
  exact ⟨t1, t2⟩
theorem cmpFrac_is (n d n' d' : Int) (a b a' b' : Option Addr) (c e c' e' : Nat) (zs ts zs' ts' : List Int) (w : World) (h1 : Sees w a c zs) (h2 : Sees w b e ts) (h3 : Sees w a' c' zs') (h4 : Sees w b' e' ts')
    (k1 : Nrm zs ∧ zs.length ≤ 24 ∧ val zs = mg n) (k2 : Nrm ts ∧ ts.length ≤ 24 ∧ val ts = mg d) (k3 : Nrm zs' ∧ zs'.length ≤ 24 ∧ val zs' = mg n') (k4 : Nrm ts' ∧ ts'.length ≤ 24 ∧ val ts' = mg d') (p1 : 0 < d) (p2 : 0 < d') :
    Calls Try.prog 14 #[.agg #[.bool (decide (n < 0)), .slice a zs.length c, .bool (decide (d < 0)), .slice b ts.length e], .agg #[.bool (decide (n' < 0)), .slice a' zs'.length c', .bool (decide (d' < 0)), .slice b' ts'.length e']] w fun e w' => e = .returned (.int .i64 (cmpZ (n * d') (n' * d))) ∧ Below w.heap.size w w' := by
  obtain ⟨q1, q2⟩ := fND_is h1.lim k1.1 k1.2.1 k1.2.2 h2.lim k2.1 k2.2.1 k2.2.2 p1
  obtain ⟨q3, q4⟩ := fND_is h3.lim k3.1 k3.2.1 k3.2.2 h4.lim k4.1 k4.2.1 k4.2.2 p2
  have := implCmpFrac (decide (n < 0)) (decide (d < 0)) (decide (n' < 0)) (decide (d' < 0)) a b a' b' c e c' e' zs ts zs' ts' w h1 h2 h3 h4
  rw [q1, q2, q3, q4] at this
  exact this

set_option maxHeartbeats 1000000 in
theorem lawWhole (n : Int) (w : World) (h1 : -9223372036854775808 ≤ n) (h2 : n ≤ 9223372036854775807) :
    Calls Try.prog 13 #[.int .i64 n] w fun e w' => ∃ v, e = .returned v ∧ IsFrac w.heap.size w' v n 1 ∧ Below w.heap.size w w' := by
  have B0 := below1 w (.cells #[.bool false, .slice none 0 0, .bool false, .slice none 0 0] 28)
  have HN : Hid (-9223372036854775808 ≤ n ∧ n ≤ 9223372036854775807) := ⟨h1, h2⟩
  clear h1 h2
  obtain ⟨f, hf⟩ : ∃ f, Hid (decide (n < 0) = f) := ⟨_, rfl⟩
  go_enter Try.func13, Try.ntmps13
  go_wp2_with fail
  refine (specOf n _ HN.out.1 HN.out.2).mono ?_
  rintro e w1 ⟨v, rfl, hI, hb1⟩
  obtain ⟨a1, c1, xs, rfl, o1, n1, v1⟩ := hI
  rw [hf.out]
  go_wp2_with fail
  refine (specOf 1 _ (by decide) (by decide)).mono ?_
  rintro e w2 ⟨v, rfl, hI, hb2⟩
  obtain ⟨a2, c2, ys, rfl, o2, n2, v2⟩ := hI
  obtain ⟨q1, r1⟩ := at_block hb1 (b := w.heap.size) (by simp)
  have z1 : w.heap.size < w1.heap.size := by have := hb1.size; simp at this; omega
  have q2 := fun o => (hb2.cell (p := ⟨w.heap.size, o, none⟩) z1).trans (q1 o)
  have r2 := fun o => (hb2.frozen (p := ⟨w.heap.size, o, none⟩) z1).trans (r1 o)
  have z2 := Nat.lt_of_lt_of_le z1 hb2.size
  have B1 := (B0.trans (hb1.mono (by simp)))
  have B2 := B1.trans (hb2.mono B1.size)
  have hJ := (IsFrac.two o1 n1 v1 hb2 o2 n2 v2 hb1.size).base_le (show w.heap.size + 1 ≤ _ by simp)
  rw [hf.out] at hJ
  have JP := hJ.put (b := w.heap.size) (b0 := w.heap.size) (by omega) (by omega) (.bool f) (.slice a1 xs.length c1) (.bool false) (.slice a2 ys.length c2)
  have BP := below_put4 (b := w.heap.size) B2 (by omega) (.bool f) (.slice a1 xs.length c1) (.bool false) (.slice a2 ys.length c2)
  clear hb1 hb2 o1 o2 q1 r1 B0 B1 B2 hJ
  go_wp2
  exact bodyPost_ret (v := .agg #[.bool f, .slice a1 xs.length c1, .bool false, .slice a2 ys.length c2]) (by simp [results, Try.results13, go_sem, q2]) rfl ⟨_, rfl, JP, BP⟩

theorem big_any (a : Option Addr) (n cap : Nat) (w : World) :
    Calls Try.prog 11 #[.slice a n cap] w fun e w' => e = .returned (.bool (decide (1048576 < (n : Int)))) ∧ w' = w := by
  go_enter Try.func11, Try.ntmps11
  go_wp2
  go_ret
  exact ⟨rfl, rfl⟩
end Go.Proofs.Ytmdbndooigcflaa
