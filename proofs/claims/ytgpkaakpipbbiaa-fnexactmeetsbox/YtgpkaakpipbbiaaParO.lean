/- A point in a hole is in the first ring, and in no other hole. Mathematics. -/
import Derived.Test.YtgpkaakpipbbiaaParN
namespace Go.Proofs.Ytgpkaakpipbbiaa

/-- A ring whose coordinates are multiplied. -/
def sc (D : Int) (ps : List (Int × Int)) : List (Int × Int) := ps.map fun p => (D * p.1, D * p.2)
theorem sc_len (D : Int) (ps : List (Int × Int)) : (sc D ps).length = ps.length := by simp [sc]
theorem sc_at (D : Int) (ps : List (Int × Int)) (i : Nat) : ptA (sc D ps) i = (D * (ptA ps i).1, D * (ptA ps i).2) := by
  unfold ptA sc
  rw [List.getElem?_map]
  cases ps[i]? with
  | none => simp
  | some p => rfl
theorem ar_sc (D ax ay bx bz px py : Int) : ar (D * ax) (D * ay) (D * bx) (D * bz) (D * px) (D * py) = (D * D) * ar ax ay bx bz px py := by unfold ar; grind
theorem lt_sc {D a b : Int} (h : 0 < D) : D * a < D * b ↔ a < b := by
  have := pos_mul_iff (a := D) (b := b - a) h
  rw [Int.mul_sub] at this
  omega
theorem le_sc {D a b : Int} (h : 0 < D) : D * a ≤ D * b ↔ a ≤ b := by
  have := lt_sc (a := b) (b := a) h
  omega
theorem hitS_sc {D : Int} (h : 0 < D) (ax ay bx bz px py : Int) : hitS (D * ax) (D * ay) (D * bx) (D * bz) (D * px) (D * py) = hitS ax ay bx bz px py := by
  unfold hitS
  have hd := Int.mul_pos h h
  have e : D * D * ar ax ay bx bz px py < 0 ↔ ar ax ay bx bz px py < 0 := neg_mul_iff hd
  have e' : 0 < D * D * ar ax ay bx bz px py ↔ 0 < ar ax ay bx bz px py := pos_mul_iff hd
  rw [ar_sc]
  simp only [lt_sc h, e, e']
theorem parR_sc {D : Int} (h : 0 < D) (ps : List (Int × Int)) (p : Int × Int) : parR (sc D ps) (D * p.1, D * p.2) = parR ps p := by
  unfold parR
  rw [sc_len]
  apply par_congr
  intro i _
  unfold hsE
  rw [sc_len, sc_at, sc_at]
  exact hitS_sc h _ _ _ _ _ _
theorem min_sc {D a b : Int} (h : 0 < D) : min (D * a) (D * b) = D * min a b := by
  rcases Int.le_total a b with c | c
  · rw [Int.min_eq_left c, Int.min_eq_left ((le_sc h).2 c)]
  · rw [Int.min_eq_right c, Int.min_eq_right ((le_sc h).2 c)]
theorem max_sc {D a b : Int} (h : 0 < D) : max (D * a) (D * b) = D * max a b := by
  rcases Int.le_total a b with c | c
  · rw [Int.max_eq_right c, Int.max_eq_right ((le_sc h).2 c)]
  · rw [Int.max_eq_left c, Int.max_eq_left ((le_sc h).2 c)]
theorem mul_le_sc {D A B : Int} (h : 0 < D) : (D * D * A) * (D * D * B) ≤ 0 ↔ A * B ≤ 0 := by
  have hd := Int.mul_pos (Int.mul_pos h h) (Int.mul_pos h h)
  have e : (D * D * A) * (D * D * B) = (D * D) * (D * D) * (A * B) := by grind
  have := pos_mul_iff (a := (D * D) * (D * D)) (b := A * B) hd
  rw [e]
  omega
theorem MT_sc {D : Int} (h : 0 < D) {ax ay bx bz cx cy dx dy : Int} (m : MT (D * ax) (D * ay) (D * bx) (D * bz) (D * cx) (D * cy) (D * dx) (D * dy)) : MT ax ay bx bz cx cy dx dy := by
  obtain ⟨h1, h2, h3, h4⟩ := m
  unfold RG at h1 h2
  rw [min_sc h, min_sc h, max_sc h, max_sc h, le_sc h, le_sc h] at h1 h2
  rw [ar_sc, ar_sc, mul_le_sc h] at h3 h4
  exact ⟨h1, h2, h3, h4⟩
theorem ON_sc {D : Int} (h : 0 < D) {ax ay bx bz px py : Int} (m : ON (D * ax) (D * ay) (D * bx) (D * bz) (D * px) (D * py)) : ON ax ay bx bz px py := by
  have := MT_sc h (MT_of_on (D * px) (D * py) m)
  have e := metI_iff.2 this
  rw [met_point] at e
  exact onB_iff.1 e
theorem apartR_sc {D : Int} (h : 0 < D) {ps qs : List (Int × Int)} (a : apartR ps qs) : apartR (sc D ps) (sc D qs) := by
  intro i hi k hk m
  rw [sc_len] at hi hk
  rw [sc_len, sc_len, sc_at, sc_at, sc_at, sc_at] at m
  exact a i hi k hk (MT_sc h m)
theorem onI_sc {D : Int} (h : 0 < D) {ps : List (Int × Int)} {i : Nat} {p : Int × Int} (m : onI (sc D ps) i (D * p.1, D * p.2)) : onI ps i p := by
  unfold onI at m
  rw [sc_len, sc_at, sc_at] at m
  exact ON_sc h m

/-- Where an edge meets a height, there is a point of whole numbers. -/
def Fine (y : Int) (ps : List (Int × Int)) : Prop := ∀ i, i < ps.length → (ptA ps (nx ps.length i)).2 ≠ (ptA ps i).2 → ((ptA ps (nx ps.length i)).2 - (ptA ps i).2) ∣ ((ptA ps (nx ps.length i)).1 - (ptA ps i).1) * (y - (ptA ps i).2)
/-- How far an edge goes up or down; 1 where it does not. -/
def hgt (ps : List (Int × Int)) (i : Nat) : Int := if (ptA ps (nx ps.length i)).2 = (ptA ps i).2 then 1 else (((ptA ps (nx ps.length i)).2 - (ptA ps i).2).natAbs : Int)
def hgts (ps : List (Int × Int)) : Nat → Int
  | 0 => 1
  | i + 1 => hgts ps i * hgt ps i
theorem hgts_pos (ps : List (Int × Int)) : ∀ i, 0 < hgts ps i
  | 0 => by simp [hgts]
  | i + 1 => by
    have h1 := hgts_pos ps i
    have h2 : 0 < hgt ps i := by
      unfold hgt
      split
      · omega
      · omega
    exact Int.mul_pos h1 h2
theorem hgts_dvd (ps : List (Int × Int)) : ∀ {k i : Nat}, i < k → hgt ps i ∣ hgts ps k
  | 0, i, h => absurd h (by omega)
  | k + 1, i, h => by
    simp only [hgts]
    rcases Nat.lt_or_ge i k with c | c
    · exact Int.dvd_trans (hgts_dvd ps c) (Int.dvd_mul_right _ _)
    · obtain rfl : i = k := by omega
      exact Int.dvd_mul_left _ _
theorem fine_sc {D y : Int} {ps : List (Int × Int)} (h : ∀ i, i < ps.length → hgt ps i ∣ D) : Fine (D * y) (sc D ps) := by
  intro i hi hne
  rw [sc_len] at hi
  rw [sc_len, sc_at, sc_at] at hne ⊢
  dsimp only at hne ⊢
  have hg := h i hi
  have hne' : (ptA ps (nx ps.length i)).2 ≠ (ptA ps i).2 := fun e => hne (by rw [e])
  unfold hgt at hg
  rw [if_neg hne'] at hg
  have hg2 : ((ptA ps (nx ps.length i)).2 - (ptA ps i).2) ∣ D := Int.natAbs_dvd.1 hg
  obtain ⟨k, hk⟩ := hg2
  generalize (ptA ps (nx ps.length i)).2 = bz at *
  generalize (ptA ps i).2 = ay at *
  generalize (ptA ps (nx ps.length i)).1 = bx at *
  generalize (ptA ps i).1 = ax at *
  refine ⟨(bx - ax) * k * (y - ay), ?_⟩
  have e1 : D * bz - D * ay = D * (bz - ay) := by grind
  have e2 : (D * bx - D * ax) * (D * y - D * ay) = D * (bx - ax) * (D * (y - ay)) := by grind
  rw [e1, e2]
  have e3 : D * (y - ay) = (bz - ay) * k * (y - ay) := by rw [← hk]
  rw [e3]
  grind
/-- An edge that meets a level segment has a point of whole numbers on it. -/
theorem level_point {ax ay bx bz y ux vx : Int} (f : bz ≠ ay → (bz - ay) ∣ (bx - ax) * (y - ay)) (huv : ux ≤ vx) (m : MT ax ay bx bz ux y vx y) : ∃ x, ux ≤ x ∧ x ≤ vx ∧ ON ax ay bx bz x y := by
  obtain ⟨h1, h2, h3, h4⟩ := m
  unfold RG at h1 h2
  by_cases hb : bz = ay
  · subst hb
    have hy : bz = y := by omega
    subst hy
    have hmm : min ax bx ≤ max ax bx := by omega
    refine ⟨max (min ax bx) ux, by omega, by omega, ?_, ?_, ?_⟩
    · unfold ar
      simp
    · exact btw_mul.1 (btw_iff.2 (by omega))
    · simp
  · obtain ⟨k, hk⟩ := f hb
    have e : ∀ z, ar ax ay bx bz z y = (bz - ay) * (ax + k - z) := by
      intro z
      unfold ar
      rw [hk]
      grind
    have on0 : ar ax ay bx bz (ax + k) y = 0 := by rw [e]; simp
    have hon : ON ax ay bx bz (ax + k) y := by
      rcases Int.lt_or_le ay bz with c | c
      · exact on_line on0 (by omega) (by omega) c
      · have on1 : ar bx bz ax ay (ax + k) y = 0 := by rw [ar_swap, on0]; rfl
        obtain ⟨g1, g2, g3⟩ := on_line on1 (by omega) (by omega) (show bz < ay by omega)
        exact ⟨on0, by rw [Int.mul_comm]; exact g2, by rw [Int.mul_comm]; exact g3⟩
    rw [e, e] at h3
    have hp : 0 < (bz - ay) * (bz - ay) := sq_pos (by omega)
    have e5 : (bz - ay) * (ax + k - ux) * ((bz - ay) * (ax + k - vx)) = (bz - ay) * (bz - ay) * ((ax + k - ux) * (ax + k - vx)) := by grind
    have h5 : (ax + k - ux) * (ax + k - vx) ≤ 0 := by
      have := pos_mul_iff (a := (bz - ay) * (bz - ay)) (b := (ax + k - ux) * (ax + k - vx)) hp
      omega
    have h6 : (ux - (ax + k)) * (vx - (ax + k)) ≤ 0 := by
      have e6 : (ux - (ax + k)) * (vx - (ax + k)) = (ax + k - ux) * (ax + k - vx) := by grind
      omega
    have h7 := between_of h6
    exact ⟨ax + k, by omega, by omega, hon⟩
theorem first_of {S : Nat → Prop} (h : ∃ d, S d) : ∃ d, S d ∧ ∀ d', d' < d → ¬ S d' := by
  obtain ⟨d, hd⟩ := h
  induction d using Nat.strongRecOn with
  | ind d ih =>
    rcases Classical.em (∃ d', d' < d ∧ S d') with ⟨d', h1, h2⟩ | c
    · exact ih d' h1 h2
    · exact ⟨d, hd, fun d' h1 h2 => c ⟨d', h1, h2⟩⟩
/-- The first point to the right that is on an edge of one of two rings that do not touch. -/
theorem nearest {ps qs : List (Int × Int)} {p : Int × Int} (h0 : 0 < ps.length) (fp : Fine p.2 ps) (fq : Fine p.2 qs) (a : apartR ps qs) (hp : parR ps p = true) :
    (∃ i r, i < ps.length ∧ onI ps i r ∧ freeR qs p r) ∨ (∃ k r, k < qs.length ∧ onI qs k r ∧ freeR ps p r) := by
  -- something of the first ring is there
  have hex : ∃ d : Nat, (∃ i, i < ps.length ∧ onI ps i (p.1 + d, p.2)) ∨ (∃ k, k < qs.length ∧ onI qs k (p.1 + d, p.2)) := by
    obtain ⟨m, hm, far⟩ := far_corner ps ps.length h0
    have hM : ∃ M, p.1 ≤ M ∧ (ptA ps m).1 ≤ M := ⟨max p.1 (ptA ps m).1, by omega, by omega⟩
    obtain ⟨M, M1, M2⟩ := hM
    have hf : parR ps (M, p.2) = false := parR_far (fun i hi => Int.le_trans (far i hi) M2)
    have hn : ¬ freeR ps p (M, p.2) := fun q => by
      rw [parR_along h0 q, hf] at hp
      cases hp
    have hs : ∃ i, i < ps.length ∧ MT (ptA ps i).1 (ptA ps i).2 (ptA ps (nx ps.length i)).1 (ptA ps (nx ps.length i)).2 p.1 p.2 M p.2 := by
      rcases Classical.em (∃ i, i < ps.length ∧ MT (ptA ps i).1 (ptA ps i).2 (ptA ps (nx ps.length i)).1 (ptA ps (nx ps.length i)).2 p.1 p.2 M p.2) with c | c
      · exact c
      · exact absurd (fun i hi m => c ⟨i, hi, m⟩) hn
    obtain ⟨i, hi, mt⟩ := hs
    obtain ⟨x, x1, x2, on⟩ := level_point (fp i hi) M1 mt
    refine ⟨(x - p.1).toNat, .inl ⟨i, hi, ?_⟩⟩
    rw [show p.1 + ((x - p.1).toNat : Int) = x by omega]
    exact on
  obtain ⟨d, hd, first⟩ := first_of hex
  have hle : p.1 ≤ p.1 + (d : Int) := by omega
  rcases hd with ⟨i, hi, on⟩ | ⟨k, hk, on⟩
  · refine .inl ⟨i, (p.1 + d, p.2), hi, on, fun k hk mt => ?_⟩
    obtain ⟨x, x1, x2, on2⟩ := level_point (fq k hk) hle mt
    have hd' : ¬ (x - p.1).toNat < d := fun q => first _ q (.inr ⟨k, hk, by rw [show p.1 + ((x - p.1).toNat : Int) = x by omega]; exact on2⟩)
    have hx : x = p.1 + d := by omega
    subst hx
    exact a i hi k hk (MT_common on2 on)
  · refine .inr ⟨k, (p.1 + d, p.2), hk, on, fun i hi mt => ?_⟩
    obtain ⟨x, x1, x2, on2⟩ := level_point (fp i hi) hle mt
    have hd' : ¬ (x - p.1).toNat < d := fun q => first _ q (.inl ⟨i, hi, by rw [show p.1 + ((x - p.1).toNat : Int) = x by omega]; exact on2⟩)
    have hx : x = p.1 + d := by omega
    subst hx
    exact a i hi k hk (MT_common on on2)
/-- .. of rings as they are: what both count at a point of the edges. -/
theorem nearest_tells {ps qs : List (Int × Int)} {p : Int × Int} (h0 : 0 < ps.length) (hq : 0 < qs.length) (a : apartR ps qs) (hp : parR ps p = true) : parR qs p = parR qs (ptA ps 0) ∨ parR ps (ptA qs 0) = true := by
  have D1 := hgts_pos ps ps.length
  have D2 := hgts_pos qs qs.length
  obtain ⟨D, hD⟩ : ∃ D, D = hgts ps ps.length * hgts qs qs.length := ⟨_, rfl⟩
  have D0 : 0 < D := by rw [hD]; exact Int.mul_pos D1 D2
  have f1 : Fine (D * p.2) (sc D ps) := fine_sc (fun i hi => by rw [hD]; exact Int.dvd_trans (hgts_dvd ps hi) (Int.dvd_mul_right _ _))
  have f2 : Fine (D * p.2) (sc D qs) := fine_sc (fun i hi => by rw [hD]; exact Int.dvd_trans (hgts_dvd qs hi) (Int.dvd_mul_left _ _))
  have a' := apartR_sc D0 a
  have l1 : 0 < (sc D ps).length := by rw [sc_len]; exact h0
  have l2 : 0 < (sc D qs).length := by rw [sc_len]; exact hq
  have hp' : parR (sc D ps) (D * p.1, D * p.2) = true := by rw [parR_sc D0]; exact hp
  rcases nearest (p := (D * p.1, D * p.2)) l1 f1 f2 a' hp' with ⟨i, r, hi, on, fr⟩ | ⟨k, r, hk, on, fr⟩
  · left
    have e1 := parR_along l2 fr
    have e2 := parR_edge l2 a' hi on
    rw [sc_at, parR_sc D0] at e2
    rw [parR_sc D0] at e1
    rw [e1, e2]
  · right
    have e1 := parR_along l1 fr
    have e2 := parR_edge l1 a'.comm hk on
    rw [sc_at, parR_sc D0] at e2
    rw [hp'] at e1
    rw [← e2, ← e1]
/-- A point in a ring that lies in another one is in the other one. -/
theorem hole_in {o h : List (Int × Int)} {p : Int × Int} (ho : 0 < o.length) (hh : 0 < h.length) (a : apartR h o) (hin : parR o (ptA h 0) = true) (hp : parR h p = true) : parR o p = true := by
  rcases nearest_tells hh ho a hp with e | e
  · rw [e]; exact hin
  · rw [outer_out ho hh a hin] at e
    cases e
/-- A point in one of two rings of which neither has the other one's first corner in it is not in the other one. -/
theorem holes_out {g h : List (Int × Int)} {p : Int × Int} (hg : 0 < g.length) (hh : 0 < h.length) (a : apartR g h) (h1 : parR h (ptA g 0) = false) (h2 : parR g (ptA h 0) = false) (hp : parR g p = true) : parR h p = false := by
  rcases nearest_tells hg hh a hp with e | e
  · rw [e]; exact h1
  · rw [h2] at e
    cases e
end Go.Proofs.Ytgpkaakpipbbiaa
