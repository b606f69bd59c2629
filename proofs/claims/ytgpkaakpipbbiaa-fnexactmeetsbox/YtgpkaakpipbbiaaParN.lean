/- Rings that do not touch: which one lies in the other. Mathematics. -/
import Derived.Test.YtgpkaakpipbbiaaPtG
import Derived.Test.YtgpkaakpipbbiaaInS
import Derived.Test.YtgpkaakpipbbiaaTouch
namespace Go.Proofs.Ytgpkaakpipbbiaa

/-- An odd number of a ring's edges lies to the right of a point. -/
def parR (ps : List (Int × Int)) (p : Int × Int) : Bool := par (hsE ps p.1 p.2) ps.length
/-- No edge of the ring meets the segment. -/
def freeR (ps : List (Int × Int)) (u v : Int × Int) : Prop := ∀ i, i < ps.length → ¬ MT (ptA ps i).1 (ptA ps i).2 (ptA ps (nx ps.length i)).1 (ptA ps (nx ps.length i)).2 u.1 u.2 v.1 v.2
/-- The point is on the edge at i. -/
def onI (ps : List (Int × Int)) (i : Nat) (p : Int × Int) : Prop := ON (ptA ps i).1 (ptA ps i).2 (ptA ps (nx ps.length i)).1 (ptA ps (nx ps.length i)).2 p.1 p.2
/-- No edges of two rings meet. -/
def apartR (ps qs : List (Int × Int)) : Prop := ∀ i, i < ps.length → freeR qs (ptA ps i) (ptA ps (nx ps.length i))
theorem apartR.comm {ps qs : List (Int × Int)} (h : apartR ps qs) : apartR qs ps := fun k hk i hi m => h i hi k hk m.other
theorem parR_along {ps : List (Int × Int)} {u v : Int × Int} (h0 : 0 < ps.length) (h : freeR ps u v) : parR ps u = parR ps v := by
  unfold parR
  refine par_along (X := fun i => (ptA ps i).1) (Y := fun i => (ptA ps i).2) h0 (fun i hi => ?_)
  cases e : metI (ptA ps i).1 (ptA ps i).2 (ptA ps ((i + 1) % ps.length)).1 (ptA ps ((i + 1) % ps.length)).2 u.1 u.2 v.1 v.2
  · rfl
  · exact absurd (metI_iff.1 e) (h i hi)

/-- The coordinates of a point on a segment lie between its ends'. -/
theorem between_of {a b x : Int} (h : (a - x) * (b - x) ≤ 0) : min a b ≤ x ∧ x ≤ max a b := by
  have := btw_iff.1 (btw_mul.2 h)
  omega
/-- Two segments that have a point together meet. -/
theorem MT_common {ax ay bx bz cx cy dx dy rx ry : Int} (h : ON ax ay bx bz rx ry) (k : ON cx cy dx dy rx ry) : MT ax ay bx bz cx cy dx dy := by
  obtain ⟨h1, h2, h3⟩ := h
  obtain ⟨k1, k2, k3⟩ := k
  have g1 := between_of h2
  have g2 := between_of h3
  have g3 := between_of k2
  have g4 := between_of k3
  refine ⟨by unfold RG; omega, by unfold RG; omega, ?_, ?_⟩
  · have := onSides (ux := cx - rx) (uy := cy - ry) (vx := dx - rx) (vy := dy - ry) (wx := bx - ax) (wy := bz - ay) (by unfold ar at k1; grind) k2 k3
    have e1 : ar ax ay bx bz cx cy = (bx - ax) * (cy - ry) - (bz - ay) * (cx - rx) := by unfold ar at h1 ⊢; grind
    have e2 : ar ax ay bx bz dx dy = (bx - ax) * (dy - ry) - (bz - ay) * (dx - rx) := by unfold ar at h1 ⊢; grind
    rw [e1, e2]
    exact this
  · have := onSides (ux := ax - rx) (uy := ay - ry) (vx := bx - rx) (vy := bz - ry) (wx := dx - cx) (wy := dy - cy) (by unfold ar at h1; grind) h2 h3
    have e1 : ar cx cy dx dy ax ay = (dx - cx) * (ay - ry) - (dy - cy) * (ax - rx) := by unfold ar at k1 ⊢; grind
    have e2 : ar cx cy dx dy bx bz = (dx - cx) * (bz - ry) - (dy - cy) * (bx - rx) := by unfold ar at k1 ⊢; grind
    rw [e1, e2]
    exact this

/-- What meets a part of a segment meets the segment. -/
theorem MT_part {ax ay bx bz cx cy dx dy rx ry : Int} (hr : ON cx cy dx dy rx ry) (h : MT ax ay bx bz cx cy rx ry) : MT ax ay bx bz cx cy dx dy := by
  by_cases hc : rx = cx ∧ ry = cy
  · obtain ⟨rfl, rfl⟩ := hc
    have := metI_iff.2 h
    rw [met_point] at this
    exact MT_of_on dx dy (onB_iff.1 this)
  · obtain ⟨h1, h2, h3, h4⟩ := h
    obtain ⟨k1, k2, k3⟩ := hr
    have g3 := between_of k2
    have g4 := between_of k3
    unfold RG at h1 h2
    -- by the coordinate in which the segment is not one point
    have key : ∃ s L : Int, 0 < s ∧ s ≤ L ∧ (∀ zx zy : Int, L * ar cx cy rx ry zx zy = s * ar cx cy dx dy zx zy) ∧ L * ar ax ay bx bz rx ry = (L - s) * ar ax ay bx bz cx cy + s * ar ax ay bx bz dx dy := by
      by_cases hx : rx = cx
      · have hy : ry ≠ cy := fun e => hc ⟨hx, e⟩
        rcases Int.lt_or_le cy ry with c | c
        · refine ⟨ry - cy, dy - cy, by omega, by omega, fun zx zy => ?_, ?_⟩ <;> unfold ar at k1 ⊢ <;> grind
        · refine ⟨cy - ry, cy - dy, by omega, by omega, fun zx zy => ?_, ?_⟩ <;> unfold ar at k1 ⊢ <;> grind
      · rcases Int.lt_or_le cx rx with c | c
        · refine ⟨rx - cx, dx - cx, by omega, by omega, fun zx zy => ?_, ?_⟩ <;> unfold ar at k1 ⊢ <;> grind
        · refine ⟨cx - rx, cx - dx, by omega, by omega, fun zx zy => ?_, ?_⟩ <;> unfold ar at k1 ⊢ <;> grind
    obtain ⟨s, L, s0, sL, e1, e2⟩ := key
    have L0 : 0 < L := by omega
    refine ⟨by unfold RG; omega, by unfold RG; omega, ?_, ?_⟩
    · generalize ar ax ay bx bz cx cy = A at *
      generalize ar ax ay bx bz dx dy = B at *
      generalize ar ax ay bx bz rx ry = C at *
      rcases Int.lt_or_le 0 (A * B) with c | c
      · exfalso
        rcases Int.lt_trichotomy A 0 with a | a | a
        · have b : B < 0 := by
            rcases Int.lt_or_le B 0 with z | z
            · exact z
            · have := Int.mul_nonneg (show 0 ≤ -A by omega) z
              rw [Int.neg_mul] at this
              omega
          have q1 := Int.mul_nonneg (show 0 ≤ L - s by omega) (show 0 ≤ -A by omega)
          have q2 := Int.mul_pos s0 (show 0 < -B by omega)
          rw [Int.mul_neg] at q1 q2
          have c0 : C < 0 := (neg_mul_iff L0).1 (by omega)
          have := Int.mul_pos (show 0 < -A by omega) (show 0 < -C by omega)
          rw [Int.neg_mul_neg] at this
          omega
        · rw [a, Int.zero_mul] at c
          omega
        · have b : 0 < B := (pos_mul_iff a).1 c
          have q1 := Int.mul_nonneg (show 0 ≤ L - s by omega) (show 0 ≤ A by omega)
          have q2 := Int.mul_pos s0 b
          have c0 : 0 < C := (pos_mul_iff L0).1 (by omega)
          have := Int.mul_pos a c0
          omega
      · exact c
    · have f1 := e1 ax ay
      have f2 := e1 bx bz
      generalize ar cx cy dx dy ax ay = A at *
      generalize ar cx cy dx dy bx bz = B at *
      generalize ar cx cy rx ry ax ay = A' at *
      generalize ar cx cy rx ry bx bz = B' at *
      have e3 : (L * L) * (A' * B') = (s * s) * (A * B) := by
        have : (L * A') * (L * B') = (s * A) * (s * B) := by rw [f1, f2]
        grind
      rcases Int.lt_or_le 0 (A * B) with c | c
      · exfalso
        have q1 := Int.mul_pos (Int.mul_pos s0 s0) c
        have q2 := Int.mul_nonneg (Int.le_of_lt (Int.mul_pos L0 L0)) (show 0 ≤ -(A' * B') by omega)
        rw [Int.mul_neg] at q2
        omega
      · exact c
theorem freeR_part {ps : List (Int × Int)} {c d r : Int × Int} (h : freeR ps c d) (hr : ON c.1 c.2 d.1 d.2 r.1 r.2) : freeR ps c r := fun i hi m => h i hi (MT_part hr m)

/-- Along a ring that another one does not touch, the other one counts the same at each corner. -/
theorem parR_corner {ps qs : List (Int × Int)} (hq : 0 < qs.length) (h : apartR ps qs) : ∀ i, i < ps.length → parR qs (ptA ps i) = parR qs (ptA ps 0)
  | 0, _ => rfl
  | i + 1, hi => by
    have e := parR_along hq (h i (by omega))
    rw [show nx ps.length i = i + 1 by unfold nx; exact Nat.mod_eq_of_lt hi] at e
    rw [← e]
    exact parR_corner hq h i (by omega)
/-- .. and at each point of its edges. -/
theorem parR_edge {ps qs : List (Int × Int)} (hq : 0 < qs.length) (h : apartR ps qs) {i : Nat} (hi : i < ps.length) {r : Int × Int} (hr : onI ps i r) : parR qs r = parR qs (ptA ps 0) := by
  rw [← parR_corner hq h i hi]
  exact (parR_along hq (freeR_part (h i hi) hr)).symm

/-- To the right of all corners nothing is counted. -/
theorem parR_far {ps : List (Int × Int)} {p : Int × Int} (h : ∀ i, i < ps.length → (ptA ps i).1 ≤ p.1) : parR ps p = false := by
  have hz : ∀ i, i < ps.length → hsE ps p.1 p.2 i = false := by
    intro i hi
    have h1 := h i hi
    have h2 := h (nx ps.length i) (nx_lt hi)
    unfold hsE
    generalize (ptA ps i).1 = ax at *
    generalize (ptA ps i).2 = ay at *
    generalize (ptA ps (nx ps.length i)).1 = bx at *
    generalize (ptA ps (nx ps.length i)).2 = bz at *
    cases e : hitS ax ay bx bz p.1 p.2
    · rfl
    · exfalso
      have e1 : ar ax ay bx bz p.1 p.2 = (bx - p.1) * (p.2 - ay) + (p.1 - ax) * (p.2 - bz) := by unfold ar; grind
      unfold hitS at e
      simp only [Bool.and_eq_true, Bool.or_eq_true, decide_eq_true_eq, bne_iff_ne, ne_eq, decide_eq_decide] at e
      rcases e.2 with ⟨q1, q2⟩ | ⟨q1, q2⟩
      · have r1 : ay ≤ p.2 ∧ p.2 < bz := by omega
        have m1 := Int.mul_nonneg (show 0 ≤ p.1 - bx by omega) (show 0 ≤ p.2 - ay by omega)
        have m2 := Int.mul_nonneg (show 0 ≤ p.1 - ax by omega) (show 0 ≤ bz - p.2 by omega)
        have e2 : (bx - p.1) * (p.2 - ay) = -((p.1 - bx) * (p.2 - ay)) := by grind
        have e3 : (p.1 - ax) * (p.2 - bz) = -((p.1 - ax) * (bz - p.2)) := by grind
        omega
      · have r1 : bz ≤ p.2 ∧ p.2 < ay := by omega
        have m1 := Int.mul_nonneg (show 0 ≤ p.1 - bx by omega) (show 0 ≤ ay - p.2 by omega)
        have m2 := Int.mul_nonneg (show 0 ≤ p.1 - ax by omega) (show 0 ≤ p.2 - bz by omega)
        have e2 : (bx - p.1) * (p.2 - ay) = (p.1 - bx) * (ay - p.2) := by grind
        omega
  unfold parR
  rw [par_congr (g := fun _ => false) ps.length hz]
  have : ∀ k, par (fun _ => false) k = false := by
    intro k
    induction k with
    | zero => rfl
    | succ k ih => simp only [par]; rw [ih]; rfl
  exact this _
/-- A corner that is farthest to the right. -/
theorem far_corner : ∀ (ps : List (Int × Int)) (n : Nat), 0 < n → ∃ m, m < n ∧ ∀ i, i < n → (ptA ps i).1 ≤ (ptA ps m).1
  | ps, 1, _ => ⟨0, by omega, fun i hi => by obtain rfl : i = 0 := by omega
                                             exact Int.le_refl _⟩
  | ps, n + 2, _ => by
    obtain ⟨m, hm, h⟩ := far_corner ps (n + 1) (by omega)
    rcases Int.le_total (ptA ps (n + 1)).1 (ptA ps m).1 with c | c
    · exact ⟨m, by omega, fun i hi => by
        rcases Nat.lt_or_ge i (n + 1) with q | q
        · exact h i q
        · obtain rfl : i = n + 1 := by omega
          exact c⟩
    · exact ⟨n + 1, by omega, fun i hi => by
        rcases Nat.lt_or_ge i (n + 1) with q | q
        · exact Int.le_trans (h i q) c
        · obtain rfl : i = n + 1 := by omega
          exact Int.le_refl _⟩
/-- A ring in another one has none of the other one's corners in it. -/
theorem outer_out {o h : List (Int × Int)} (ho : 0 < o.length) (hh : 0 < h.length) (a : apartR h o) (hin : parR o (ptA h 0) = true) : parR h (ptA o 0) = false := by
  obtain ⟨m, hm, far⟩ := far_corner o o.length ho
  have e : parR h (ptA o m) = false := by
    refine parR_far (fun i hi => ?_)
    rcases Int.lt_or_le (ptA o m).1 (ptA h i).1 with c | c
    · exfalso
      have q : parR o (ptA h i) = false := parR_far (fun k hk => Int.le_trans (far k hk) (by omega))
      rw [parR_corner ho a i hi, hin] at q
      cases q
    · exact c
  rw [← parR_corner hh a.comm m hm]
  exact e
end Go.Proofs.Ytgpkaakpipbbiaa
