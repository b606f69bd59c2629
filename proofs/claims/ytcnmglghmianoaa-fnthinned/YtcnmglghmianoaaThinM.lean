/- A row that is thinned: which points are left. No program is named here. -/
import Derived.Test.YtcnmglghmianoaaPtG
import Derived.Test.YtcnmglghmianoaaRing
namespace Go.Proofs.Ytcnmglghmianoaa

theorem fr_le_lt {a b c d e f : Int} (hb : 0 < b) (hd : 0 < d) (hf : 0 < f) (h1 : a * d ≤ c * b) (h2 : c * f < e * d) : a * f < e * b := by
  have p1 : a * d * f ≤ c * b * f := Int.mul_le_mul_of_nonneg_right h1 (by omega)
  have p2 : c * f * b < e * d * b := Int.mul_lt_mul_of_pos_right h2 hb
  have e1 : a * f * d = a * d * f := by grind
  have e2 : c * b * f = c * f * b := by grind
  have e3 : e * d * b = e * b * d := by grind
  exact Int.lt_of_mul_lt_mul_right (a := d) (by rw [e1, ← e3]; omega) (by omega)
theorem fr_le_le {a b c d e f : Int} (hb : 0 < b) (hd : 0 < d) (hf : 0 < f) (h1 : a * d ≤ c * b) (h2 : c * f ≤ e * d) : a * f ≤ e * b := by
  have p1 : a * d * f ≤ c * b * f := Int.mul_le_mul_of_nonneg_right h1 (by omega)
  have p2 : c * f * b ≤ e * d * b := Int.mul_le_mul_of_nonneg_right h2 (by omega)
  have e1 : a * f * d = a * d * f := by grind
  have e2 : c * b * f = c * f * b := by grind
  have e3 : e * d * b = e * b * d := by grind
  exact Int.le_of_mul_le_mul_right (a := d) (by rw [e1, ← e3]; omega) hd
theorem fr_lt_le' {a b c d e f : Int} (hb : 0 < b) (hd : 0 < d) (hf : 0 < f) (h1 : a * d < c * b) (h2 : c * f ≤ e * d) : a * f < e * b := by
  have p1 : a * d * f < c * b * f := Int.mul_lt_mul_of_pos_right h1 hf
  have p2 : c * f * b ≤ e * d * b := Int.mul_le_mul_of_nonneg_right h2 (by omega)
  have e1 : a * f * d = a * d * f := by grind
  have e2 : c * b * f = c * f * b := by grind
  have e3 : e * d * b = e * b * d := by grind
  exact Int.lt_of_mul_lt_mul_right (a := d) (by rw [e1, ← e3]; omega) (by omega)
theorem fr_lt_lt {a b c d e f : Int} (hb : 0 < b) (hd : 0 < d) (hf : 0 < f) (h1 : a * d < c * b) (h2 : c * f < e * d) : a * f < e * b := fr_lt_le' hb hd hf h1 (by omega)
/-- Which of the points behind f is the farthest one, of the first j; how far it is. -/
def farL (G : Nat → Int × Int) (f : Nat) : Nat → Nat × (Int × Int)
  | 0 => (f, (0, 1))
  | j + 1 => if (farL G f j).2.1 * (G (f + 1 + j)).2 < (G (f + 1 + j)).1 * (farL G f j).2.2 then (f + 1 + j, G (f + 1 + j)) else farL G f j
/-- The same, from a square on. -/
def bstL (H : Nat → Int × Int) (sq : Int) : Nat → Int × (Int × Int)
  | 0 => (-1, (sq, 1))
  | j + 1 => if (bstL H sq j).2.1 * (H (1 + j)).2 < (H (1 + j)).1 * (bstL H sq j).2.2 then (((1 + j : Nat) : Int), H (1 + j)) else bstL H sq j
theorem farL_pos {G : Nat → Int × Int} (hG : ∀ i, 0 ≤ (G i).1 ∧ 0 < (G i).2) (f : Nat) : ∀ j, 0 ≤ (farL G f j).2.1 ∧ 0 < (farL G f j).2.2 ∧ f ≤ (farL G f j).1 ∧ (farL G f j).1 ≤ f + j ∧ ((farL G f j).1 = f → (farL G f j).2 = (0, 1)) ∧ ((farL G f j).2 = (0, 1) ∨ (farL G f j).2 = G (farL G f j).1)
  | 0 => by simp [farL]
  | j + 1 => by
    obtain ⟨h1, h2, h3, h4, h5, h6⟩ := farL_pos hG f j
    simp only [farL]
    split
    · exact ⟨(hG _).1, (hG _).2, by dsimp only; omega, by dsimp only; omega, fun e => by dsimp only at e; omega, .inr rfl⟩
    · exact ⟨h1, h2, h3, by omega, h5, h6⟩
theorem bstL_pos {H : Nat → Int × Int} (hH : ∀ i, 0 < (H i).2) (sq : Int) : ∀ j, 0 < (bstL H sq j).2.2
  | 0 => by simp [bstL]
  | j + 1 => by
    simp only [bstL]
    split
    · exact hH _
    · exact bstL_pos hH sq j
/-- Both find the same point. -/
theorem far_same {G H : Nat → Int × Int} {f : Nat} {sq : Int} (hG : ∀ i, 0 ≤ (G i).1 ∧ 0 < (G i).2) (hH : ∀ i, 0 < (H i).2) {m : Nat} (he : ∀ i, i ≤ m → (G (f + i)).1 * (H i).2 = (H i).1 * (G (f + i)).2) (hs : 0 ≤ sq) : ∀ j, j ≤ m →
    ((bstL H sq j).1 = -1 ∧ (bstL H sq j).2 = (sq, 1) ∧ (farL G f j).2.1 ≤ sq * (farL G f j).2.2) ∨
    ((bstL H sq j).1 = ((farL G f j).1 : Int) - f ∧ (farL G f j).2.1 * (bstL H sq j).2.2 = (bstL H sq j).2.1 * (farL G f j).2.2 ∧ sq * (farL G f j).2.2 < (farL G f j).2.1 ∧ f < (farL G f j).1)
  | 0, _ => .inl ⟨rfl, rfl, by simp [farL]; exact hs⟩
  | j + 1, hj => by
    obtain ⟨n0, d0, _, _, _, _⟩ := farL_pos hG f j
    have b0 := bstL_pos hH sq j
    obtain ⟨gn, gd⟩ := hG (f + 1 + j)
    have hd := hH (1 + j)
    have ee : (G (f + 1 + j)).1 * (H (1 + j)).2 = (H (1 + j)).1 * (G (f + 1 + j)).2 := by have := he (1 + j) (by omega); rwa [← Nat.add_assoc] at this
    have ih := far_same hG hH he hs j (by omega)
    simp only [farL, bstL]
    generalize farL G f j = F at *
    generalize bstL H sq j = B at *
    generalize G (f + 1 + j) = g at *
    generalize H (1 + j) = k at *
    obtain ⟨fp, fn, fd⟩ := F
    obtain ⟨bp, bn, bd⟩ := B
    obtain ⟨g1, g2⟩ := g
    obtain ⟨k1, k2⟩ := k
    dsimp only at *
    rcases ih with ⟨i1, i2, i3⟩ | ⟨i1, i2, i3, i4⟩
    · simp only [Prod.mk.injEq] at i2
      obtain ⟨rfl, rfl⟩ := i2
      by_cases c : bn * k2 < k1 * 1
      · have c' : fn * g2 < g1 * fd := by
          have q1 : fn * k2 < k1 * fd := fr_le_lt (c := bn) (d := 1) d0 (by decide) hd (by omega) c
          exact fr_lt_le' d0 hd gd q1 (by omega)
        rw [if_pos c, if_pos c']
        refine .inr ⟨by dsimp only; omega, by dsimp only; exact ee, ?_, by dsimp only; omega⟩
        have := fr_lt_le' (a := bn) (b := 1) (c := k1) (d := k2) (e := g1) (f := g2) (by decide) hd gd (by omega) (by omega)
        dsimp only
        omega
      · rw [if_neg c]
        refine .inl ⟨i1, rfl, ?_⟩
        split
        · dsimp only
          have := fr_le_le (a := g1) (b := g2) (c := k1) (d := k2) (e := bn) (f := 1) gd hd (by decide) (by omega) (by omega)
          omega
        · exact i3
    · by_cases c : bn * k2 < k1 * bd
      · have c' : fn * g2 < g1 * fd := by
          have q1 : fn * k2 < k1 * fd := fr_le_lt (c := bn) (d := bd) d0 b0 hd (by omega) c
          exact fr_lt_le' d0 hd gd q1 (by omega)
        rw [if_pos c, if_pos c']
        refine .inr ⟨by dsimp only; omega, by dsimp only; exact ee, ?_, by dsimp only; omega⟩
        have := fr_lt_lt (a := sq) (b := 1) (c := fn) (d := fd) (e := g1) (f := g2) (by decide) d0 gd (by omega) c'
        dsimp only
        omega
      · have c' : ¬ fn * g2 < g1 * fd := fun q => c (by
          have q1 : bn * g2 < g1 * bd := fr_le_lt (c := fn) (d := fd) b0 d0 gd (by omega) q
          exact fr_lt_le' b0 gd hd q1 (by omega))
        rw [if_neg c, if_neg c']
        exact .inr ⟨i1, i2, i3, i4⟩

theorem gq_same (n : Int) {d : Int} (hd : 0 < d) : n * gqD n d = gqN n d * d ∧ 0 < gqD n d := by
  have g0 : (Int.gcd n d : Int) ≠ 0 := by
    intro e
    have : Int.gcd n d = 0 := by exact_mod_cast e
    rw [Int.gcd_eq_zero_iff] at this
    omega
  have gp : 0 < (Int.gcd n d : Int) := by omega
  obtain ⟨a, ha⟩ := Int.gcd_dvd_left n d
  obtain ⟨b, hb⟩ := Int.gcd_dvd_right n d
  unfold gqN gqD
  generalize (Int.gcd n d : Int) = g at *
  subst ha
  rw [hb, Int.mul_ediv_cancel_left _ g0, Int.mul_ediv_cancel_left _ g0]
  refine ⟨by grind, ?_⟩
  rw [hb] at hd
  rw [Int.mul_comm] at hd
  exact Int.pos_of_mul_pos_left hd gp
/-- The gap of a point to the segment of two others: not in lowest terms, and so. -/
def gR (ps : List (Int × Int)) (f t i : Nat) : Int × Int := (rN ((ptA ps t).1 - (ptA ps f).1) ((ptA ps t).2 - (ptA ps f).2) ((ptA ps i).1 - (ptA ps f).1) ((ptA ps i).2 - (ptA ps f).2), rD ((ptA ps t).1 - (ptA ps f).1) ((ptA ps t).2 - (ptA ps f).2) ((ptA ps i).1 - (ptA ps f).1) ((ptA ps i).2 - (ptA ps f).2))
def gL (ps : List (Int × Int)) (f t i : Nat) : Int × Int := (gN ((ptA ps t).1 - (ptA ps f).1) ((ptA ps t).2 - (ptA ps f).2) ((ptA ps i).1 - (ptA ps f).1) ((ptA ps i).2 - (ptA ps f).2), gD ((ptA ps t).1 - (ptA ps f).1) ((ptA ps t).2 - (ptA ps f).2) ((ptA ps i).1 - (ptA ps f).1) ((ptA ps i).2 - (ptA ps f).2))
theorem gR_pos (ps : List (Int × Int)) (f t i : Nat) : 0 ≤ (gR ps f t i).1 ∧ 0 < (gR ps f t i).2 := r_pos _ _ _ _
theorem gL_same (ps : List (Int × Int)) (f t i : Nat) : (gR ps f t i).1 * (gL ps f t i).2 = (gL ps f t i).1 * (gR ps f t i).2 ∧ 0 < (gL ps f t i).2 := by
  unfold gL gR
  dsimp only
  obtain ⟨e1, e2⟩ := r_low ((ptA ps t).1 - (ptA ps f).1) ((ptA ps t).2 - (ptA ps f).2) ((ptA ps i).1 - (ptA ps f).1) ((ptA ps i).2 - (ptA ps f).2)
  have p := (r_pos ((ptA ps t).1 - (ptA ps f).1) ((ptA ps t).2 - (ptA ps f).2) ((ptA ps i).1 - (ptA ps f).1) ((ptA ps i).2 - (ptA ps f).2)).2
  rw [← e1, ← e2]
  exact gq_same _ p
/-- What is left between two points. -/
def mid (ps : List (Int × Int)) (sq : Int) : Nat → Nat → Nat → List (Int × Int)
  | 0, _, _ => []
  | k + 1, f, t => if (farL (gR ps f t) f (t - f - 1)).2.1 ≤ sq * (farL (gR ps f t) f (t - f - 1)).2.2 then [] else mid ps sq k f (farL (gR ps f t) f (t - f - 1)).1 ++ ptA ps (farL (gR ps f t) f (t - f - 1)).1 :: mid ps sq k (farL (gR ps f t) f (t - f - 1)).1 t
/-- What is left of a row. -/
def thn (sq : Int) : Nat → List (Int × Int) → List (Int × Int)
  | 0, ls => [ptA ls 0, ptA ls (ls.length - 1)]
  | k + 1, ls => if (bstL (gL ls 0 (ls.length - 1)) sq (ls.length - 2)).1 < 0 then [ptA ls 0, ptA ls (ls.length - 1)] else (thn sq k (ls.take ((bstL (gL ls 0 (ls.length - 1)) sq (ls.length - 2)).1.toNat + 1))).dropLast ++ thn sq k (ls.drop (bstL (gL ls 0 (ls.length - 1)) sq (ls.length - 2)).1.toNat)
def sub (ps : List (Int × Int)) (f t : Nat) : List (Int × Int) := (ps.drop f).take (t - f + 1)
theorem sub_len {ps : List (Int × Int)} {f t : Nat} (h : f ≤ t) (ht : t < ps.length) : (sub ps f t).length = t - f + 1 := by simp [sub]; omega
theorem sub_at {ps : List (Int × Int)} {f t i : Nat} (hi : i ≤ t - f) : ptA (sub ps f t) i = ptA ps (f + i) := by
  unfold sub ptA
  rw [List.getElem?_take_of_lt (by omega), List.getElem?_drop]
theorem sub_take {ps : List (Int × Int)} {f t b : Nat} (h1 : f ≤ b) (h2 : b ≤ t) : (sub ps f t).take (b - f + 1) = sub ps f b := by
  unfold sub
  rw [List.take_take]
  congr 1
  omega
theorem sub_drop {ps : List (Int × Int)} {f t b : Nat} (h1 : f ≤ b) (h2 : b ≤ t) : (sub ps f t).drop (b - f) = sub ps b t := by
  unfold sub
  rw [List.drop_take, List.drop_drop]
  congr 1
  · omega
  · congr 1
    omega
theorem gL_sub {ps : List (Int × Int)} {f t i : Nat} (h : f ≤ t) (hi : i ≤ t - f) : gL (sub ps f t) 0 (t - f) i = gL ps f t (f + i) := by
  unfold gL
  rw [sub_at (Nat.le_refl _), sub_at (Nat.zero_le _), sub_at hi, Nat.add_zero, show f + (t - f) = t by omega]
theorem far_in {ps : List (Int × Int)} {sq : Int} (hs : 0 ≤ sq) {f t : Nat} (h : ¬ (farL (gR ps f t) f (t - f - 1)).2.1 ≤ sq * (farL (gR ps f t) f (t - f - 1)).2.2) : f < (farL (gR ps f t) f (t - f - 1)).1 ∧ (farL (gR ps f t) f (t - f - 1)).1 < t := by
  obtain ⟨_, _, h3, h4, h5, _⟩ := farL_pos (gR_pos ps f t) f (t - f - 1)
  have ne : (farL (gR ps f t) f (t - f - 1)).1 ≠ f := fun e => h (by rw [h5 e]; dsimp only; omega)
  refine ⟨by omega, ?_⟩
  by_cases q : f + 1 ≤ t
  · omega
  · exfalso
    have : t - f - 1 = 0 := by omega
    rw [this] at ne
    exact ne rfl
theorem mid_none (ps : List (Int × Int)) {sq : Int} (hs : 0 ≤ sq) : ∀ k f t, t ≤ f + 1 → mid ps sq k f t = []
  | 0, _, _, _ => rfl
  | k + 1, f, t, h => by
    simp only [mid]
    rw [show t - f - 1 = 0 by omega]
    rw [if_pos (by simp [farL]; exact hs)]
theorem thn_mid (ps : List (Int × Int)) {sq : Int} (hs : 0 ≤ sq) : ∀ k f t, f < t → t < ps.length → t - f ≤ k + 1 → thn sq k (sub ps f t) = ptA ps f :: (mid ps sq k f t ++ [ptA ps t])
  | 0, f, t, h1, h2, h3 => by
    simp only [thn, mid, List.nil_append]
    rw [sub_len (by omega) h2, sub_at (Nat.zero_le _), sub_at (by omega), Nat.add_zero, show f + (t - f + 1 - 1) = t by omega]
  | k + 1, f, t, h1, h2, h3 => by
    have hl := sub_len (ps := ps) (Nat.le_of_lt h1) h2
    have FS := far_same (G := gR ps f t) (H := gL (sub ps f t) 0 (t - f)) (f := f) (sq := sq) (gR_pos ps f t) (fun i => (gL_same _ _ _ _).2) (m := t - f - 1) (fun i hi => by rw [gL_sub (by omega) (by omega)]; exact (gL_same ps f t (f + i)).1) hs (t - f - 1) (Nat.le_refl _)
    simp only [thn, mid]
    rw [hl, show t - f + 1 - 1 = t - f by omega, show t - f + 1 - 2 = t - f - 1 by omega]
    rcases FS with ⟨i1, _, i3⟩ | ⟨i1, _, i3, i4⟩
    · rw [if_pos (by rw [i1]; decide), if_pos i3, sub_at (Nat.zero_le _), sub_at (Nat.le_refl _), Nat.add_zero, show f + (t - f) = t by omega]
      rfl
    · have n3 : ¬ (farL (gR ps f t) f (t - f - 1)).2.1 ≤ sq * (farL (gR ps f t) f (t - f - 1)).2.2 := by omega
      obtain ⟨b1, b2⟩ := far_in hs n3
      rw [if_neg (by rw [i1]; omega), if_neg n3, i1]
      generalize (farL (gR ps f t) f (t - f - 1)).1 = b at *
      rw [show ((b : Int) - f).toNat = b - f by omega, sub_take (by omega) (by omega), sub_drop (by omega) (by omega), thn_mid ps hs k f b b1 (by omega) (by omega), thn_mid ps hs k b t b2 h2 (by omega)]
      rw [← List.cons_append, List.dropLast_concat]
      simp
end Go.Proofs.Ytcnmglghmianoaa
