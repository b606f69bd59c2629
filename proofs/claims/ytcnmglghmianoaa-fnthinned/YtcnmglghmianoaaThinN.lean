/- What goes of a row that is thinned is near to what is left. No program is named here. -/
import Derived.Test.YtcnmglghmianoaaThinM
namespace Go.Proofs.Ytcnmglghmianoaa

/-- A point is no farther from a segment than a square tells. -/
def nearP (sq : Int) (p a b : Int × Int) : Prop := gN (b.1 - a.1) (b.2 - a.2) (p.1 - a.1) (p.2 - a.2) ≤ sq * gD (b.1 - a.1) (b.2 - a.2) (p.1 - a.1) (p.2 - a.2)
theorem farL_max {G : Nat → Int × Int} (hG : ∀ i, 0 ≤ (G i).1 ∧ 0 < (G i).2) (f : Nat) : ∀ j i, i < j → (G (f + 1 + i)).1 * (farL G f j).2.2 ≤ (farL G f j).2.1 * (G (f + 1 + i)).2
  | 0, _, h => absurd h (by omega)
  | j + 1, i, h => by
    obtain ⟨n0, d0, _⟩ := farL_pos hG f j
    have gj := hG (f + 1 + j)
    have gi := hG (f + 1 + i)
    simp only [farL]
    split
    · rename_i c
      dsimp only
      by_cases e : i = j
      · subst e
        exact Int.le_refl _
      · have ih := farL_max hG f j i (by omega)
        exact Int.le_of_lt (fr_le_lt (c := (farL G f j).2.1) (d := (farL G f j).2.2) gi.2 d0 gj.2 ih c)
    · rename_i c
      by_cases e : i = j
      · subst e
        omega
      · exact farL_max hG f j i (by omega)
theorem near_ends {sq : Int} (hs : 0 ≤ sq) (a b : Int × Int) : nearP sq a a b ∧ nearP sq b a b := by
  have z : gN (b.1 - a.1) (b.2 - a.2) 0 0 = 0 ∧ gD (b.1 - a.1) (b.2 - a.2) 0 0 = 1 := by
    unfold gN gD
    simp [sqq]
  have y : gN (b.1 - a.1) (b.2 - a.2) (b.1 - a.1) (b.2 - a.2) = 0 ∧ gD (b.1 - a.1) (b.2 - a.2) (b.1 - a.1) (b.2 - a.2) = 1 := by
    generalize b.1 - a.1 = x
    generalize b.2 - a.2 = y
    have h1 := sq_nn x
    have h2 := sq_nn y
    unfold gN gD
    by_cases h : x * x + y * y ≤ 0
    · rw [if_pos h, if_pos h]
      refine ⟨?_, rfl⟩
      unfold sqq
      omega
    · rw [if_neg h, if_neg h, if_pos (by unfold sqq; omega), if_pos (by unfold sqq; omega)]
      simp [sqq]
  unfold nearP
  refine ⟨?_, ?_⟩
  · rw [show a.1 - a.1 = 0 by omega, show a.2 - a.2 = 0 by omega, z.1, z.2]
    omega
  · rw [y.1, y.2]
    omega
theorem near_of {ps : List (Int × Int)} {sq : Int} {f t i : Nat} (h : (gR ps f t i).1 ≤ sq * (gR ps f t i).2) : nearP sq (ptA ps i) (ptA ps f) (ptA ps t) := by
  obtain ⟨e, p⟩ := gL_same ps f t i
  have q := (gR_pos ps f t i).2
  have r : (gL ps f t i).1 * 1 ≤ sq * (gL ps f t i).2 := fr_le_le (c := (gR ps f t i).1) (d := (gR ps f t i).2) p q (by decide) (by omega) (by omega)
  unfold nearP
  have r' : (gL ps f t i).1 ≤ sq * (gL ps f t i).2 := by omega
  exact r'
theorem near_mid {ps : List (Int × Int)} {sq : Int} (hs : 0 ≤ sq) {f t i : Nat} (hc : (farL (gR ps f t) f (t - f - 1)).2.1 ≤ sq * (farL (gR ps f t) f (t - f - 1)).2.2) (h1 : f ≤ i) (h2 : i ≤ t) : nearP sq (ptA ps i) (ptA ps f) (ptA ps t) := by
  by_cases e1 : i = f
  · subst e1
    exact (near_ends hs _ _).1
  · by_cases e2 : i = t
    · subst e2
      exact (near_ends hs _ _).2
    · have m := farL_max (gR_pos ps f t) f (t - f - 1) (i - f - 1) (by omega)
      rw [show f + 1 + (i - f - 1) = i by omega] at m
      obtain ⟨n0, d0, _⟩ := farL_pos (gR_pos ps f t) f (t - f - 1)
      have q := (gR_pos ps f t i).2
      have r : (gR ps f t i).1 * 1 ≤ sq * (gR ps f t i).2 := fr_le_le (c := (farL (gR ps f t) f (t - f - 1)).2.1) (d := (farL (gR ps f t) f (t - f - 1)).2.2) q d0 (by decide) m (by omega)
      exact near_of (by omega)
theorem ptA_left {L M : List (Int × Int)} {j : Nat} (h : j < L.length) : ptA (L ++ M) j = ptA L j := by
  unfold ptA
  rw [List.getElem?_append_left h]
theorem ptA_right {L M : List (Int × Int)} {j : Nat} : ptA (L ++ M) (L.length + j) = ptA M j := by
  unfold ptA
  rw [List.getElem?_append_right (by omega)]
  congr 2
  omega
theorem mid_near (ps : List (Int × Int)) {sq : Int} (hs : 0 ≤ sq) : ∀ k f t, f < t → t - f ≤ k + 1 → ∀ i, f ≤ i → i ≤ t → ∃ j, j + 1 < (ptA ps f :: (mid ps sq k f t ++ [ptA ps t])).length ∧ nearP sq (ptA ps i) (ptA (ptA ps f :: (mid ps sq k f t ++ [ptA ps t])) j) (ptA (ptA ps f :: (mid ps sq k f t ++ [ptA ps t])) (j + 1))
  | 0, f, t, h1, h2, i, h3, h4 => by
    refine ⟨0, by simp [mid], ?_⟩
    have e : t - f - 1 = 0 := by omega
    exact near_mid hs (by rw [e]; simp [farL]; exact hs) h3 h4
  | k + 1, f, t, h1, h2, i, h3, h4 => by
    by_cases hc : (farL (gR ps f t) f (t - f - 1)).2.1 ≤ sq * (farL (gR ps f t) f (t - f - 1)).2.2
    · have e : mid ps sq (k + 1) f t = [] := by simp only [mid]; rw [if_pos hc]
      rw [e]
      exact ⟨0, by simp, near_mid hs hc h3 h4⟩
    · obtain ⟨b1, b2⟩ := far_in hs hc
      have e : mid ps sq (k + 1) f t = mid ps sq k f (farL (gR ps f t) f (t - f - 1)).1 ++ ptA ps (farL (gR ps f t) f (t - f - 1)).1 :: mid ps sq k (farL (gR ps f t) f (t - f - 1)).1 t := by rw [mid, if_neg hc]
      rw [e]
      generalize (farL (gR ps f t) f (t - f - 1)).1 = b at *
      by_cases hib : i ≤ b
      · obtain ⟨j, j1, j2⟩ := mid_near ps hs k f b b1 (by omega) i h3 hib
        have e2 : ptA ps f :: (mid ps sq k f b ++ ptA ps b :: mid ps sq k b t ++ [ptA ps t]) = (ptA ps f :: (mid ps sq k f b ++ [ptA ps b])) ++ (mid ps sq k b t ++ [ptA ps t]) := by simp
        rw [e2]
        refine ⟨j, by rw [List.length_append]; omega, ?_⟩
        rw [ptA_left (by omega), ptA_left j1]
        exact j2
      · obtain ⟨j, j1, j2⟩ := mid_near ps hs k b t b2 (by omega) i (by omega) h4
        have e2 : ptA ps f :: (mid ps sq k f b ++ ptA ps b :: mid ps sq k b t ++ [ptA ps t]) = (ptA ps f :: mid ps sq k f b) ++ (ptA ps b :: (mid ps sq k b t ++ [ptA ps t])) := by simp
        rw [e2]
        refine ⟨(ptA ps f :: mid ps sq k f b).length + j, by rw [List.length_append]; omega, ?_⟩
        rw [Nat.add_assoc, ptA_right, ptA_right]
        exact j2
end Go.Proofs.Ytcnmglghmianoaa
