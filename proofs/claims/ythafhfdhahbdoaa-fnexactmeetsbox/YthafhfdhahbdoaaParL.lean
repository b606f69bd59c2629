import Derived.Test.YthafhfdhahbdoaaPtM
import Derived.Test.YthafhfdhahbdoaaInS
import Derived.Test.YthafhfdhahbdoaaTouch
/- Along a segment that meets no edge of a ring, the number of edges to the right is odd everywhere or even everywhere. Mathematics. -/
namespace Go.Proofs.Ythafhfdhahbdoaa

theorem neg_of {g X p Y q Z : Int} (hg : 0 < g) (e : g * X + p * Y + q * Z = 0) (hp : 0 < p) (hY : 0 < Y) (hq : 0 ≤ q) (hZ : 0 ≤ Z) : X < 0 := by
  have h1 := Int.mul_pos hp hY
  have h2 := Int.mul_nonneg hq hZ
  have h3 : g * X < 0 := by omega
  exact (neg_mul_iff hg).1 h3
theorem pos_of {g X p Y q Z : Int} (hg : 0 < g) (e : g * X + p * Y + q * Z = 0) (hp : 0 < p) (hY : Y < 0) (hq : 0 ≤ q) (hZ : Z ≤ 0) : 0 < X := by
  have := neg_of (X := -X) (Y := -Y) (Z := -Z) hg (by rw [Int.mul_neg, Int.mul_neg, Int.mul_neg]; omega) hp (by omega) hq (by omega)
  omega
/-- A point on a line, between two of it by height. -/
theorem on_line {ux uy vx vy bx bz : Int} (h : ar ux uy vx vy bx bz = 0) (h1 : uy ≤ bz) (h2 : bz ≤ vy) (h3 : uy < vy) : ON ux uy vx vy bx bz := by
  refine ⟨h, ?_, ?_⟩
  · have hk : 0 < (vy - uy) * (vy - uy) := Int.mul_pos (by omega) (by omega)
    have e1 : (vy - uy) * (bx - ux) = (bz - uy) * (vx - ux) := by unfold ar at h; grind
    have e2 : (vy - uy) * (vx - bx) = (vy - bz) * (vx - ux) := by unfold ar at h; grind
    have e3 : (vy - uy) * (vy - uy) * ((bx - ux) * (vx - bx)) = ((bz - uy) * (vy - bz)) * ((vx - ux) * (vx - ux)) := by
      have : ((vy - uy) * (bx - ux)) * ((vy - uy) * (vx - bx)) = ((bz - uy) * (vx - ux)) * ((vy - bz) * (vx - ux)) := by rw [e1, e2]
      grind
    have h4 : 0 ≤ ((bz - uy) * (vy - bz)) * ((vx - ux) * (vx - ux)) := Int.mul_nonneg (Int.mul_nonneg (by omega) (by omega)) (sq_nonneg _)
    have h5 : 0 ≤ (bx - ux) * (vx - bx) := by
      rcases Int.lt_or_le ((bx - ux) * (vx - bx)) 0 with c | c
      · have := Int.mul_neg_of_pos_of_neg hk c
        omega
      · exact c
    have e4 : (ux - bx) * (vx - bx) = -((bx - ux) * (vx - bx)) := by grind
    omega
  · have := Int.mul_nonneg (show 0 ≤ bz - uy by omega) (show 0 ≤ vy - bz by omega)
    have e : (uy - bz) * (vy - bz) = -((bz - uy) * (vy - bz)) := by grind
    omega
/-- The point lies to the right of the segment, at its height. -/
def rgtS (ux uy vx vy zx zy : Int) : Bool := ((decide (uy < zy)) != (decide (vy < zy))) && ((decide (uy < vy) && decide (ar ux uy vx vy zx zy < 0)) || (decide (vy < uy) && decide (0 < ar ux uy vx vy zx zy)))
theorem hitS_flip (ax ay bx bz px py : Int) : hitS bx bz ax ay px py = hitS ax ay bx bz px py := by
  unfold hitS
  rw [ar_swap ax ay bx bz px py]
  generalize ar ax ay bx bz px py = A
  rw [show decide (0 < -A) = decide (A < 0) by simp, show decide (-A < 0) = decide (0 < A) by simp]
  cases decide (py < ay) <;> cases decide (py < bz) <;> cases decide (ay < bz) <;> cases decide (bz < ay) <;> cases decide (A < 0) <;> cases decide (0 < A) <;> rfl
theorem rgtS_flip (ux uy vx vy zx zy : Int) : rgtS vx vy ux uy zx zy = rgtS ux uy vx vy zx zy := by
  unfold rgtS
  rw [ar_swap ux uy vx vy zx zy]
  generalize ar ux uy vx vy zx zy = A
  rw [show decide (0 < -A) = decide (A < 0) by simp, show decide (-A < 0) = decide (0 < A) by simp]
  cases decide (uy < zy) <;> cases decide (vy < zy) <;> cases decide (uy < vy) <;> cases decide (vy < uy) <;> cases decide (A < 0) <;> cases decide (0 < A) <;> rfl
theorem MT.turned {ax ay bx bz cx cy dx dy : Int} (h : MT ax ay bx bz cx cy dx dy) : MT bx bz ax ay cx cy dx dy := h.other.flip.other

section
variable {ax ay bx bz ux uy vx vy : Int}
theorem case1 (hn : ¬ MT ax ay bx bz ux uy vx vy) (h1 : ay ≤ uy) (h2 : uy < bz) (h3 : bz ≤ vy) : 0 < ar ax ay bx bz ux uy ↔ ar ux uy vx vy bx bz < 0 := by
  have I1 : (bz - uy) * ar ax ay bx bz vx vy + (bz - ay) * ar ux uy vx vy bx bz + (vy - bz) * ar ax ay bx bz ux uy = 0 := by unfold ar; grind
  have I2 : (bz - uy) * ar ux uy vx vy ax ay + (vy - uy) * ar ax ay bx bz ux uy + (uy - ay) * ar ux uy vx vy bx bz = 0 := by unfold ar; grind
  constructor
  · intro p
    rcases Int.lt_trichotomy (ar ux uy vx vy bx bz) 0 with c | c | c
    · exact c
    · exact absurd (MT_of_on ax ay (on_line c (by omega) h3 (by omega))).other.turned hn
    · have n2 := neg_of (by omega) I1 (by omega) c (by omega) (by omega)
      have n3 := neg_of (by omega) I2 (by omega) p (by omega) (by omega)
      exact absurd (MT_of_cross (Int.mul_neg_of_pos_of_neg p n2) (Int.mul_neg_of_neg_of_pos n3 c)) hn
  · intro c
    rcases Int.lt_trichotomy (ar ax ay bx bz ux uy) 0 with p | p | p
    · have n2 := pos_of (by omega) I1 (by omega) c (by omega) (by omega)
      have n3 := pos_of (by omega) I2 (by omega) p (by omega) (by omega)
      exact absurd (MT_of_cross (Int.mul_neg_of_neg_of_pos p n2) (Int.mul_neg_of_pos_of_neg n3 c)) hn
    · exact absurd (MT_of_on vx vy (on_line p h1 (by omega) (by omega))) hn
    · exact p
theorem case4 (hn : ¬ MT ax ay bx bz ux uy vx vy) (h1 : uy < ay) (h2 : ay ≤ vy) (h3 : vy < bz) : 0 < ar ax ay bx bz vx vy ↔ ar ux uy vx vy ax ay < 0 := by
  have I1 : (vy - ay) * ar ax ay bx bz ux uy + (bz - ay) * ar ux uy vx vy ax ay + (ay - uy) * ar ax ay bx bz vx vy = 0 := by unfold ar; grind
  have I2 : (vy - ay) * ar ux uy vx vy bx bz + (vy - uy) * ar ax ay bx bz vx vy + (bz - vy) * ar ux uy vx vy ax ay = 0 := by unfold ar; grind
  have hg : ∀ {p : Int} {Y q Z : Int}, 0 < Y → 0 < p → 0 ≤ q → 0 ≤ Z → p * Y + q * Z ≠ 0 := by
    intro p Y q Z hY hp hq hZ e
    have h1 := Int.mul_pos hp hY
    have h2 := Int.mul_nonneg hq hZ
    omega
  constructor
  · intro p
    rcases Int.lt_trichotomy (ar ux uy vx vy ax ay) 0 with c | c | c
    · exact c
    · exact absurd (MT_of_on bx bz (on_line c (by omega) h2 (by omega))).other hn
    · have g0 : 0 < vy - ay := by
        rcases Int.lt_or_le 0 (vy - ay) with z | z
        · exact z
        · have : vy - ay = 0 := by omega
          rw [this, Int.zero_mul, Int.zero_add] at I1
          exact absurd I1 (hg c (by omega) (by omega) (by omega))
      have n1 := neg_of g0 I1 (by omega) c (by omega) (by omega)
      have n4 := neg_of g0 I2 (by omega) p (by omega) (by omega)
      exact absurd (MT_of_cross (Int.mul_neg_of_neg_of_pos n1 p) (Int.mul_neg_of_pos_of_neg c n4)) hn
  · intro c
    rcases Int.lt_trichotomy (ar ax ay bx bz vx vy) 0 with p | p | p
    · have g0 : 0 < vy - ay := by
        rcases Int.lt_or_le 0 (vy - ay) with z | z
        · exact z
        · have : vy - ay = 0 := by omega
          rw [this, Int.zero_mul, Int.zero_add] at I1
          have := hg (p := bz - ay) (Y := -ar ux uy vx vy ax ay) (q := ay - uy) (Z := -ar ax ay bx bz vx vy) (by omega) (by omega) (by omega) (by omega)
          rw [Int.mul_neg, Int.mul_neg] at this
          exact absurd (by omega) this
      have n1 := pos_of g0 I1 (by omega) c (by omega) (by omega)
      have n4 := pos_of g0 I2 (by omega) p (by omega) (by omega)
      exact absurd (MT_of_cross (Int.mul_neg_of_pos_of_neg n1 p) (Int.mul_neg_of_neg_of_pos c n4)) hn
    · exact absurd (MT_of_on ux uy (on_line p h2 (by omega) (by omega))).flip hn
    · exact p
theorem case2 (hn : ¬ MT ax ay bx bz ux uy vx vy) (h0 : uy ≤ vy) (h1 : ay ≤ uy) (h3 : vy < bz) : 0 < ar ax ay bx bz ux uy ↔ 0 < ar ax ay bx bz vx vy := by
  have I3 : (bz - ay) * ar ux uy vx vy ax ay + (vy - uy) * ar ax ay bx bz ux uy + (uy - ay) * (ar ax ay bx bz ux uy - ar ax ay bx bz vx vy) = 0 := by unfold ar; grind
  have I4 : (bz - ay) * ar ux uy vx vy bx bz + (bz - vy) * (ar ax ay bx bz vx vy - ar ax ay bx bz ux uy) + (vy - uy) * ar ax ay bx bz vx vy = 0 := by unfold ar; grind
  have E1 : ay = uy → ar ax ay bx bz ux uy = (bz - ay) * (ax - ux) := fun e => by unfold ar; grind
  have E2 : ay = vy → ar ax ay bx bz vx vy = (bz - ay) * (ax - vx) := fun e => by unfold ar; grind
  have E3 : uy = vy → ay = uy → ar ux uy vx vy ax ay = 0 := fun e f => by unfold ar; grind
  have hh : 0 < bz - ay := by omega
  constructor
  · intro p
    rcases Int.lt_trichotomy (ar ax ay bx bz vx vy) 0 with c | c | c
    · exfalso
      have n4 := pos_of hh I4 (by omega) (by omega) (by omega) (by omega)
      by_cases z : uy = vy ∧ ay = uy
      · have q1 := (pos_mul_iff hh).1 (by rw [← E1 z.2]; exact p)
        have q2 := (neg_mul_iff hh).1 (by rw [← E2 (by omega)]; exact c)
        have on : ON ux uy vx vy ax ay := ⟨E3 z.1 z.2, by
          have := Int.mul_nonneg (show 0 ≤ ax - ux by omega) (show 0 ≤ vx - ax by omega)
          have e : (ux - ax) * (vx - ax) = -((ax - ux) * (vx - ax)) := by grind
          omega, by rw [show uy - ay = 0 by omega, Int.zero_mul]; omega⟩
        exact hn (MT_of_on bx bz on).other
      · have n3 : ar ux uy vx vy ax ay < 0 := by
          by_cases y : uy = vy
          · exact neg_of (p := uy - ay) (Y := ar ax ay bx bz ux uy - ar ax ay bx bz vx vy) (q := vy - uy) (Z := ar ax ay bx bz ux uy) hh (by omega) (by omega) (by omega) (by omega) (by omega)
          · exact neg_of hh I3 (by omega) p (by omega) (by omega)
        exact hn (MT_of_cross (Int.mul_neg_of_pos_of_neg p c) (Int.mul_neg_of_neg_of_pos n3 n4))
    · exact absurd (MT_of_on ux uy (on_line c (by omega) (by omega) (by omega))).flip hn
    · exact c
  · intro c
    rcases Int.lt_trichotomy (ar ax ay bx bz ux uy) 0 with p | p | p
    · exfalso
      have n4 := neg_of hh I4 (by omega) (by omega) (by omega) (by omega)
      by_cases z : uy = vy ∧ ay = uy
      · have q1 := (neg_mul_iff hh).1 (by rw [← E1 z.2]; exact p)
        have q2 := (pos_mul_iff hh).1 (by rw [← E2 (by omega)]; exact c)
        have on : ON ux uy vx vy ax ay := ⟨E3 z.1 z.2, by
          have := Int.mul_nonneg (show 0 ≤ ux - ax by omega) (show 0 ≤ ax - vx by omega)
          have e : (ux - ax) * (vx - ax) = -((ux - ax) * (ax - vx)) := by grind
          omega, by rw [show uy - ay = 0 by omega, Int.zero_mul]; omega⟩
        exact hn (MT_of_on bx bz on).other
      · have n3 : 0 < ar ux uy vx vy ax ay := by
          by_cases y : uy = vy
          · exact pos_of (p := uy - ay) (Y := ar ax ay bx bz ux uy - ar ax ay bx bz vx vy) (q := vy - uy) (Z := ar ax ay bx bz ux uy) hh (by omega) (by omega) (by omega) (by omega) (by omega)
          · exact pos_of hh I3 (by omega) p (by omega) (by omega)
        exact hn (MT_of_cross (Int.mul_neg_of_neg_of_pos p c) (Int.mul_neg_of_pos_of_neg n3 n4))
    · exact absurd (MT_of_on vx vy (on_line p (by omega) (by omega) (by omega))) hn
    · exact p
theorem case3 (hn : ¬ MT ax ay bx bz ux uy vx vy) (h0 : ay ≤ bz) (h1 : uy < ay) (h3 : bz ≤ vy) : ar ux uy vx vy ax ay < 0 ↔ ar ux uy vx vy bx bz < 0 := by
  have I3 : (vy - uy) * ar ax ay bx bz ux uy + (ay - uy) * (ar ux uy vx vy ax ay - ar ux uy vx vy bx bz) + (bz - ay) * ar ux uy vx vy ax ay = 0 := by unfold ar; grind
  have I4 : (vy - uy) * ar ax ay bx bz vx vy + (bz - ay) * ar ux uy vx vy bx bz + (vy - bz) * (ar ux uy vx vy bx bz - ar ux uy vx vy ax ay) = 0 := by unfold ar; grind
  have E1 : bz = vy → ar ux uy vx vy bx bz = (vy - uy) * (vx - bx) := fun e => by unfold ar; grind
  have E2 : ay = vy → ar ux uy vx vy ax ay = (vy - uy) * (vx - ax) := fun e => by unfold ar; grind
  have E3 : ay = bz → bz = vy → ar ax ay bx bz vx vy = 0 := fun e f => by unfold ar; grind
  have hh : 0 < vy - uy := by omega
  constructor
  · intro p
    rcases Int.lt_trichotomy (ar ux uy vx vy bx bz) 0 with c | c | c
    · exact c
    · exact absurd (MT_of_on ax ay (on_line c (by omega) h3 (by omega))).other.turned hn
    · exfalso
      have n1 := pos_of hh I3 (by omega) (by omega) (by omega) (by omega)
      by_cases z : ay = bz ∧ bz = vy
      · have q1 := (neg_mul_iff hh).1 (by rw [← E2 (by omega)]; exact p)
        have q2 := (pos_mul_iff hh).1 (by rw [← E1 z.2]; exact c)
        have on : ON ax ay bx bz vx vy := ⟨E3 z.1 z.2, by
          have := Int.mul_nonneg (show 0 ≤ ax - vx by omega) (show 0 ≤ vx - bx by omega)
          have e : (ax - vx) * (bx - vx) = -((ax - vx) * (vx - bx)) := by grind
          omega, by rw [show ay - vy = 0 by omega, Int.zero_mul]; omega⟩
        exact hn (MT_of_on ux uy on).flip
      · have n2 : ar ax ay bx bz vx vy < 0 := by
          by_cases y : ay = bz
          · exact neg_of (p := vy - bz) (Y := ar ux uy vx vy bx bz - ar ux uy vx vy ax ay) (q := bz - ay) (Z := ar ux uy vx vy bx bz) hh (by omega) (by omega) (by omega) (by omega) (by omega)
          · exact neg_of hh I4 (by omega) c (by omega) (by omega)
        exact hn (MT_of_cross (Int.mul_neg_of_pos_of_neg n1 n2) (Int.mul_neg_of_neg_of_pos p c))
  · intro c
    rcases Int.lt_trichotomy (ar ux uy vx vy ax ay) 0 with p | p | p
    · exact p
    · exact absurd (MT_of_on bx bz (on_line p (by omega) (by omega) (by omega))).other hn
    · exfalso
      have n1 := neg_of hh I3 (by omega) (by omega) (by omega) (by omega)
      by_cases z : ay = bz ∧ bz = vy
      · have q1 := (pos_mul_iff hh).1 (by rw [← E2 (by omega)]; exact p)
        have q2 := (neg_mul_iff hh).1 (by rw [← E1 z.2]; exact c)
        have on : ON ax ay bx bz vx vy := ⟨E3 z.1 z.2, by
          have := Int.mul_nonneg (show 0 ≤ vx - ax by omega) (show 0 ≤ bx - vx by omega)
          have e : (ax - vx) * (bx - vx) = -((vx - ax) * (bx - vx)) := by grind
          omega, by rw [show ay - vy = 0 by omega, Int.zero_mul]; omega⟩
        exact hn (MT_of_on ux uy on).flip
      · have n2 : 0 < ar ax ay bx bz vx vy := by
          by_cases y : ay = bz
          · exact pos_of (p := vy - bz) (Y := ar ux uy vx vy bx bz - ar ux uy vx vy ax ay) (q := bz - ay) (Z := ar ux uy vx vy bx bz) hh (by omega) (by omega) (by omega) (by omega) (by omega)
          · exact pos_of hh I4 (by omega) c (by omega) (by omega)
        exact hn (MT_of_cross (Int.mul_neg_of_neg_of_pos n1 n2) (Int.mul_neg_of_pos_of_neg p c))

/-- An edge and a segment that do not meet: what the one counts at the other's ends is what the other tells of the one's. -/
theorem edge_core (hn : ¬ MT ax ay bx bz ux uy vx vy) (hu : uy ≤ vy) (ha : ay ≤ bz) : (hitS ax ay bx bz ux uy ^^ hitS ax ay bx bz vx vy) = (rgtS ux uy vx vy ax ay ^^ rgtS ux uy vx vy bx bz) := by
  have c1 := case1 hn
  have c2 := case2 hn hu
  have c3 := case3 hn ha
  have c4 := case4 hn
  clear hn
  unfold hitS rgtS
  generalize ar ax ay bx bz ux uy = A1 at *
  generalize ar ax ay bx bz vx vy = A2 at *
  generalize ar ux uy vx vy ax ay = A3 at *
  generalize ar ux uy vx vy bx bz = A4 at *
  have hna : ¬ bz < ay := by omega
  have hnu : ¬ vy < uy := by omega
  rw [decide_eq_false hna, decide_eq_false hnu]
  simp only [Bool.false_and, Bool.or_false]
  by_cases p1 : uy < ay
  · have p2 : uy < bz := by omega
    rw [decide_eq_true p1, decide_eq_true p2]
    by_cases p3 : vy < ay
    · rw [decide_eq_true p3, decide_eq_true (show vy < bz by omega)]
      rfl
    · rw [decide_eq_false p3, decide_eq_true (show uy < vy by omega)]
      by_cases p4 : vy < bz
      · rw [decide_eq_true p4, decide_eq_true (show ay < bz by omega), decide_eq_decide.2 (c4 p1 (by omega) p4)]
        cases decide (A3 < 0) <;> rfl
      · rw [decide_eq_false p4, decide_eq_decide.2 (c3 p1 (by omega))]
        cases decide (A4 < 0) <;> rfl
  · rw [decide_eq_false p1, decide_eq_false (show ¬ vy < ay by omega)]
    by_cases p2 : uy < bz
    · rw [decide_eq_true p2, decide_eq_true (show ay < bz by omega)]
      by_cases p4 : vy < bz
      · rw [decide_eq_true p4, decide_eq_decide.2 (c2 (by omega) p4)]
        cases decide (0 < A2) <;> rfl
      · rw [decide_eq_false p4, decide_eq_true (show uy < vy by omega), decide_eq_decide.2 (c1 (by omega) p2 (by omega))]
        cases decide (A4 < 0) <;> rfl
    · rw [decide_eq_false p2, decide_eq_false (show ¬ vy < bz by omega)]
      rfl
theorem edge_seg (hn : ¬ MT ax ay bx bz ux uy vx vy) : (hitS ax ay bx bz ux uy ^^ hitS ax ay bx bz vx vy) = (rgtS ux uy vx vy ax ay ^^ rgtS ux uy vx vy bx bz) := by
  rcases Int.le_total uy vy with hu | hu <;> rcases Int.le_total ay bz with ha | ha
  · exact edge_core hn hu ha
  · have := edge_core (fun h => hn h.turned) hu ha
    rw [hitS_flip ax ay bx bz ux uy, hitS_flip ax ay bx bz vx vy] at this
    rw [this, Bool.xor_comm]
  · have := edge_core (fun h => hn h.flip) hu ha
    rw [rgtS_flip ux uy vx vy ax ay, rgtS_flip ux uy vx vy bx bz] at this
    rw [← this, Bool.xor_comm]
  · have := edge_core (fun h => hn h.turned.flip) hu ha
    rw [hitS_flip ax ay bx bz ux uy, hitS_flip ax ay bx bz vx vy, rgtS_flip ux uy vx vy ax ay, rgtS_flip ux uy vx vy bx bz] at this
    rw [Bool.xor_comm, this, Bool.xor_comm]
end
/-- A ring that a segment does not meet: at both of its ends it counts the same. -/
theorem par_along {X Y : Nat → Int} {n : Nat} {ux uy vx vy : Int} (h0 : 0 < n) (h : ∀ i, i < n → metI (X i) (Y i) (X ((i + 1) % n)) (Y ((i + 1) % n)) ux uy vx vy = false) :
    par (fun i => hitS (X i) (Y i) (X ((i + 1) % n)) (Y ((i + 1) % n)) ux uy) n = par (fun i => hitS (X i) (Y i) (X ((i + 1) % n)) (Y ((i + 1) % n)) vx vy) n := by
  have h1 := par_xor (fun i => hitS (X i) (Y i) (X ((i + 1) % n)) (Y ((i + 1) % n)) ux uy) (fun i => hitS (X i) (Y i) (X ((i + 1) % n)) (Y ((i + 1) % n)) vx vy) n
  rw [par_congr n (fun i hi => edge_seg (fun m => by have := h i hi; rw [metI_iff.2 m] at this; cases this))] at h1
  have h3 : par (fun i => rgtS ux uy vx vy (X i) (Y i) ^^ rgtS ux uy vx vy (X ((i + 1) % n)) (Y ((i + 1) % n))) n = false := par_ring (fun i => rgtS ux uy vx vy (X i) (Y i)) n h0
  rw [h3] at h1
  revert h1
  generalize par _ _ = u
  generalize par _ _ = v
  cases u <;> cases v <;> simp
end Go.Proofs.Ythafhfdhahbdoaa

/- Rings that do not touch: which one lies in the other. Mathematics. -/
namespace Go.Proofs.Ythafhfdhahbdoaa

/-- An odd number of a ring's edges lies to the right of a point. -/
def parR (ps : List (Int × Int)) (p : Int × Int) : Bool := par (hsE ps p.1 p.2) ps.length
/-- No edge of the ring meets the segment. -/
def freeR (ps : List (Int × Int)) (u v : Int × Int) : Prop := ∀ i, i < ps.length → ¬ MT (ptA ps i).1 (ptA ps i).2 (ptA ps (nx ps.length i)).1 (ptA ps (nx ps.length i)).2 u.1 u.2 v.1 v.2
/-- The point is on the edge at i. -/
def onI (ps : List (Int × Int)) (i : Nat) (p : Int × Int) : Prop := ON (ptA ps i).1 (ptA ps i).2 (ptA ps (nx ps.length i)).1 (ptA ps (nx ps.length i)).2 p.1 p.2
/-- No edges of two rings meet. -/
def apartR (ps qs : List (Int × Int)) : Prop := ∀ i, i < ps.length → freeR qs (ptA ps i) (ptA ps (nx ps.length i))
theorem apartR.comm {ps qs : List (Int × Int)} (h : apartR ps qs) : apartR qs ps := fun k hk i hi m => h i hi k hk m.other
theorem parR_along {ps : List (Int × Int)} {u v : Int × Int} (h0 : 0 < ps.length) (h : freeR ps u v) : parR ps u = parR ps v := by
  unfold parR
  refine par_along (X := fun i => (ptA ps i).1) (Y := fun i => (ptA ps i).2) h0 (fun i hi => ?_)
  cases e : metI (ptA ps i).1 (ptA ps i).2 (ptA ps ((i + 1) % ps.length)).1 (ptA ps ((i + 1) % ps.length)).2 u.1 u.2 v.1 v.2
  · rfl
  · exact absurd (metI_iff.1 e) (h i hi)

/-- The coordinates of a point on a segment lie between its ends'. -/
theorem between_of {a b x : Int} (h : (a - x) * (b - x) ≤ 0) : min a b ≤ x ∧ x ≤ max a b := by
  have := btw_iff.1 (btw_mul.2 h)
  omega
/-- Two segments that have a point together meet. -/
theorem MT_common {ax ay bx bz cx cy dx dy rx ry : Int} (h : ON ax ay bx bz rx ry) (k : ON cx cy dx dy rx ry) : MT ax ay bx bz cx cy dx dy := by
  obtain ⟨h1, h2, h3⟩ := h
  obtain ⟨k1, k2, k3⟩ := k
  have g1 := between_of h2
  have g2 := between_of h3
  have g3 := between_of k2
  have g4 := between_of k3
  refine ⟨by unfold RG; omega, by unfold RG; omega, ?_, ?_⟩
  · have := onSides (ux := cx - rx) (uy := cy - ry) (vx := dx - rx) (vy := dy - ry) (wx := bx - ax) (wy := bz - ay) (by unfold ar at k1; grind) k2 k3
    have e1 : ar ax ay bx bz cx cy = (bx - ax) * (cy - ry) - (bz - ay) * (cx - rx) := by unfold ar at h1 ⊢; grind
    have e2 : ar ax ay bx bz dx dy = (bx - ax) * (dy - ry) - (bz - ay) * (dx - rx) := by unfold ar at h1 ⊢; grind
    rw [e1, e2]
    exact this
  · have := onSides (ux := ax - rx) (uy := ay - ry) (vx := bx - rx) (vy := bz - ry) (wx := dx - cx) (wy := dy - cy) (by unfold ar at h1; grind) h2 h3
    have e1 : ar cx cy dx dy ax ay = (dx - cx) * (ay - ry) - (dy - cy) * (ax - rx) := by unfold ar at k1 ⊢; grind
    have e2 : ar cx cy dx dy bx bz = (dx - cx) * (bz - ry) - (dy - cy) * (bx - rx) := by unfold ar at k1 ⊢; grind
    rw [e1, e2]
    exact this

/-- What meets a part of a segment meets the segment. -/
theorem MT_part {ax ay bx bz cx cy dx dy rx ry : Int} (hr : ON cx cy dx dy rx ry) (h : MT ax ay bx bz cx cy rx ry) : MT ax ay bx bz cx cy dx dy := by
  by_cases hc : rx = cx ∧ ry = cy
  · obtain ⟨rfl, rfl⟩ := hc
    have := metI_iff.2 h
    rw [met_point] at this
    exact MT_of_on dx dy (onB_iff.1 this)
  · obtain ⟨h1, h2, h3, h4⟩ := h
    obtain ⟨k1, k2, k3⟩ := hr
    have g3 := between_of k2
    have g4 := between_of k3
    unfold RG at h1 h2
    -- by the coordinate in which the segment is not one point
    have key : ∃ s L : Int, 0 < s ∧ s ≤ L ∧ (∀ zx zy : Int, L * ar cx cy rx ry zx zy = s * ar cx cy dx dy zx zy) ∧ L * ar ax ay bx bz rx ry = (L - s) * ar ax ay bx bz cx cy + s * ar ax ay bx bz dx dy := by
      by_cases hx : rx = cx
      · have hy : ry ≠ cy := fun e => hc ⟨hx, e⟩
        rcases Int.lt_or_le cy ry with c | c
        · refine ⟨ry - cy, dy - cy, by omega, by omega, fun zx zy => ?_, ?_⟩ <;> unfold ar at k1 ⊢ <;> grind
        · refine ⟨cy - ry, cy - dy, by omega, by omega, fun zx zy => ?_, ?_⟩ <;> unfold ar at k1 ⊢ <;> grind
      · rcases Int.lt_or_le cx rx with c | c
        · refine ⟨rx - cx, dx - cx, by omega, by omega, fun zx zy => ?_, ?_⟩ <;> unfold ar at k1 ⊢ <;> grind
        · refine ⟨cx - rx, cx - dx, by omega, by omega, fun zx zy => ?_, ?_⟩ <;> unfold ar at k1 ⊢ <;> grind
    obtain ⟨s, L, s0, sL, e1, e2⟩ := key
    have L0 : 0 < L := by omega
    refine ⟨by unfold RG; omega, by unfold RG; omega, ?_, ?_⟩
    · generalize ar ax ay bx bz cx cy = A at *
      generalize ar ax ay bx bz dx dy = B at *
      generalize ar ax ay bx bz rx ry = C at *
      rcases Int.lt_or_le 0 (A * B) with c | c
      · exfalso
        rcases Int.lt_trichotomy A 0 with a | a | a
        · have b : B < 0 := by
            rcases Int.lt_or_le B 0 with z | z
            · exact z
            · have := Int.mul_nonneg (show 0 ≤ -A by omega) z
              rw [Int.neg_mul] at this
              omega
          have q1 := Int.mul_nonneg (show 0 ≤ L - s by omega) (show 0 ≤ -A by omega)
          have q2 := Int.mul_pos s0 (show 0 < -B by omega)
          rw [Int.mul_neg] at q1 q2
          have c0 : C < 0 := (neg_mul_iff L0).1 (by omega)
          have := Int.mul_pos (show 0 < -A by omega) (show 0 < -C by omega)
          rw [Int.neg_mul_neg] at this
          omega
        · rw [a, Int.zero_mul] at c
          omega
        · have b : 0 < B := (pos_mul_iff a).1 c
          have q1 := Int.mul_nonneg (show 0 ≤ L - s by omega) (show 0 ≤ A by omega)
          have q2 := Int.mul_pos s0 b
          have c0 : 0 < C := (pos_mul_iff L0).1 (by omega)
          have := Int.mul_pos a c0
          omega
      · exact c
    · have f1 := e1 ax ay
      have f2 := e1 bx bz
      generalize ar cx cy dx dy ax ay = A at *
      generalize ar cx cy dx dy bx bz = B at *
      generalize ar cx cy rx ry ax ay = A' at *
      generalize ar cx cy rx ry bx bz = B' at *
      have e3 : (L * L) * (A' * B') = (s * s) * (A * B) := by
        have : (L * A') * (L * B') = (s * A) * (s * B) := by rw [f1, f2]
        grind
      rcases Int.lt_or_le 0 (A * B) with c | c
      · exfalso
        have q1 := Int.mul_pos (Int.mul_pos s0 s0) c
        have q2 := Int.mul_nonneg (Int.le_of_lt (Int.mul_pos L0 L0)) (show 0 ≤ -(A' * B') by omega)
        rw [Int.mul_neg] at q2
        omega
      · exact c
theorem freeR_part {ps : List (Int × Int)} {c d r : Int × Int} (h : freeR ps c d) (hr : ON c.1 c.2 d.1 d.2 r.1 r.2) : freeR ps c r := fun i hi m => h i hi (MT_part hr m)

/-- Along a ring that another one does not touch, the other one counts the same at each corner. -/
theorem parR_corner {ps qs : List (Int × Int)} (hq : 0 < qs.length) (h : apartR ps qs) : ∀ i, i < ps.length → parR qs (ptA ps i) = parR qs (ptA ps 0)
  | 0, _ => rfl
  | i + 1, hi => by
    have e := parR_along hq (h i (by omega))
    rw [show nx ps.length i = i + 1 by unfold nx; exact Nat.mod_eq_of_lt hi] at e
    rw [← e]
    exact parR_corner hq h i (by omega)
/-- .. and at each point of its edges. -/
theorem parR_edge {ps qs : List (Int × Int)} (hq : 0 < qs.length) (h : apartR ps qs) {i : Nat} (hi : i < ps.length) {r : Int × Int} (hr : onI ps i r) : parR qs r = parR qs (ptA ps 0) := by
  rw [← parR_corner hq h i hi]
  exact (parR_along hq (freeR_part (h i hi) hr)).symm

/-- To the right of all corners nothing is counted. -/
theorem parR_far {ps : List (Int × Int)} {p : Int × Int} (h : ∀ i, i < ps.length → (ptA ps i).1 ≤ p.1) : parR ps p = false := by
  have hz : ∀ i, i < ps.length → hsE ps p.1 p.2 i = false := by
    intro i hi
    have h1 := h i hi
    have h2 := h (nx ps.length i) (nx_lt hi)
    unfold hsE
    generalize (ptA ps i).1 = ax at *
    generalize (ptA ps i).2 = ay at *
    generalize (ptA ps (nx ps.length i)).1 = bx at *
    generalize (ptA ps (nx ps.length i)).2 = bz at *
    cases e : hitS ax ay bx bz p.1 p.2
    · rfl
    · exfalso
      have e1 : ar ax ay bx bz p.1 p.2 = (bx - p.1) * (p.2 - ay) + (p.1 - ax) * (p.2 - bz) := by unfold ar; grind
      unfold hitS at e
      simp only [Bool.and_eq_true, Bool.or_eq_true, decide_eq_true_eq, bne_iff_ne, ne_eq, decide_eq_decide] at e
      rcases e.2 with ⟨q1, q2⟩ | ⟨q1, q2⟩
      · have r1 : ay ≤ p.2 ∧ p.2 < bz := by omega
        have m1 := Int.mul_nonneg (show 0 ≤ p.1 - bx by omega) (show 0 ≤ p.2 - ay by omega)
        have m2 := Int.mul_nonneg (show 0 ≤ p.1 - ax by omega) (show 0 ≤ bz - p.2 by omega)
        have e2 : (bx - p.1) * (p.2 - ay) = -((p.1 - bx) * (p.2 - ay)) := by grind
        have e3 : (p.1 - ax) * (p.2 - bz) = -((p.1 - ax) * (bz - p.2)) := by grind
        omega
      · have r1 : bz ≤ p.2 ∧ p.2 < ay := by omega
        have m1 := Int.mul_nonneg (show 0 ≤ p.1 - bx by omega) (show 0 ≤ ay - p.2 by omega)
        have m2 := Int.mul_nonneg (show 0 ≤ p.1 - ax by omega) (show 0 ≤ p.2 - bz by omega)
        have e2 : (bx - p.1) * (p.2 - ay) = (p.1 - bx) * (ay - p.2) := by grind
        omega
  unfold parR
  rw [par_congr (g := fun _ => false) ps.length hz]
  have : ∀ k, par (fun _ => false) k = false := by
    intro k
    induction k with
    | zero => rfl
    | succ k ih => simp only [par]; rw [ih]; rfl
  exact this _
/-- A corner that is farthest to the right. -/
theorem far_corner : ∀ (ps : List (Int × Int)) (n : Nat), 0 < n → ∃ m, m < n ∧ ∀ i, i < n → (ptA ps i).1 ≤ (ptA ps m).1
  | ps, 1, _ => ⟨0, by omega, fun i hi => by obtain rfl : i = 0 := by omega
                                             exact Int.le_refl _⟩
  | ps, n + 2, _ => by
    obtain ⟨m, hm, h⟩ := far_corner ps (n + 1) (by omega)
    rcases Int.le_total (ptA ps (n + 1)).1 (ptA ps m).1 with c | c
    · exact ⟨m, by omega, fun i hi => by
        rcases Nat.lt_or_ge i (n + 1) with q | q
        · exact h i q
        · obtain rfl : i = n + 1 := by omega
          exact c⟩
    · exact ⟨n + 1, by omega, fun i hi => by
        rcases Nat.lt_or_ge i (n + 1) with q | q
        · exact Int.le_trans (h i q) c
        · obtain rfl : i = n + 1 := by omega
          exact Int.le_refl _⟩
/-- A ring in another one has none of the other one's corners in it. -/
theorem outer_out {o h : List (Int × Int)} (ho : 0 < o.length) (hh : 0 < h.length) (a : apartR h o) (hin : parR o (ptA h 0) = true) : parR h (ptA o 0) = false := by
  obtain ⟨m, hm, far⟩ := far_corner o o.length ho
  have e : parR h (ptA o m) = false := by
    refine parR_far (fun i hi => ?_)
    rcases Int.lt_or_le (ptA o m).1 (ptA h i).1 with c | c
    · exfalso
      have q : parR o (ptA h i) = false := parR_far (fun k hk => Int.le_trans (far k hk) (by omega))
      rw [parR_corner ho a i hi, hin] at q
      cases q
    · exact c
  rw [← parR_corner hh a.comm m hm]
  exact e
end Go.Proofs.Ythafhfdhahbdoaa

/- A point in a hole is in the first ring, and in no other hole. Mathematics. -/
namespace Go.Proofs.Ythafhfdhahbdoaa

/-- A ring whose coordinates are multiplied. -/
def sc (D : Int) (ps : List (Int × Int)) : List (Int × Int) := ps.map fun p => (D * p.1, D * p.2)
theorem sc_len (D : Int) (ps : List (Int × Int)) : (sc D ps).length = ps.length := by simp [sc]
theorem sc_at (D : Int) (ps : List (Int × Int)) (i : Nat) : ptA (sc D ps) i = (D * (ptA ps i).1, D * (ptA ps i).2) := by
  unfold ptA sc
  rw [List.getElem?_map]
  cases ps[i]? with
  | none => simp
  | some p => rfl
theorem ar_sc (D ax ay bx bz px py : Int) : ar (D * ax) (D * ay) (D * bx) (D * bz) (D * px) (D * py) = (D * D) * ar ax ay bx bz px py := by unfold ar; grind
theorem lt_sc {D a b : Int} (h : 0 < D) : D * a < D * b ↔ a < b := by
  have := pos_mul_iff (a := D) (b := b - a) h
  rw [Int.mul_sub] at this
  omega
theorem le_sc {D a b : Int} (h : 0 < D) : D * a ≤ D * b ↔ a ≤ b := by
  have := lt_sc (a := b) (b := a) h
  omega
theorem hitS_sc {D : Int} (h : 0 < D) (ax ay bx bz px py : Int) : hitS (D * ax) (D * ay) (D * bx) (D * bz) (D * px) (D * py) = hitS ax ay bx bz px py := by
  unfold hitS
  have hd := Int.mul_pos h h
  have e : D * D * ar ax ay bx bz px py < 0 ↔ ar ax ay bx bz px py < 0 := neg_mul_iff hd
  have e' : 0 < D * D * ar ax ay bx bz px py ↔ 0 < ar ax ay bx bz px py := pos_mul_iff hd
  rw [ar_sc]
  simp only [lt_sc h, e, e']
theorem parR_sc {D : Int} (h : 0 < D) (ps : List (Int × Int)) (p : Int × Int) : parR (sc D ps) (D * p.1, D * p.2) = parR ps p := by
  unfold parR
  rw [sc_len]
  apply par_congr
  intro i _
  unfold hsE
  rw [sc_len, sc_at, sc_at]
  exact hitS_sc h _ _ _ _ _ _
theorem min_sc {D a b : Int} (h : 0 < D) : min (D * a) (D * b) = D * min a b := by
  rcases Int.le_total a b with c | c
  · rw [Int.min_eq_left c, Int.min_eq_left ((le_sc h).2 c)]
  · rw [Int.min_eq_right c, Int.min_eq_right ((le_sc h).2 c)]
theorem max_sc {D a b : Int} (h : 0 < D) : max (D * a) (D * b) = D * max a b := by
  rcases Int.le_total a b with c | c
  · rw [Int.max_eq_right c, Int.max_eq_right ((le_sc h).2 c)]
  · rw [Int.max_eq_left c, Int.max_eq_left ((le_sc h).2 c)]
theorem mul_le_sc {D A B : Int} (h : 0 < D) : (D * D * A) * (D * D * B) ≤ 0 ↔ A * B ≤ 0 := by
  have hd := Int.mul_pos (Int.mul_pos h h) (Int.mul_pos h h)
  have e : (D * D * A) * (D * D * B) = (D * D) * (D * D) * (A * B) := by grind
  have := pos_mul_iff (a := (D * D) * (D * D)) (b := A * B) hd
  rw [e]
  omega
theorem MT_sc {D : Int} (h : 0 < D) {ax ay bx bz cx cy dx dy : Int} (m : MT (D * ax) (D * ay) (D * bx) (D * bz) (D * cx) (D * cy) (D * dx) (D * dy)) : MT ax ay bx bz cx cy dx dy := by
  obtain ⟨h1, h2, h3, h4⟩ := m
  unfold RG at h1 h2
  rw [min_sc h, min_sc h, max_sc h, max_sc h, le_sc h, le_sc h] at h1 h2
  rw [ar_sc, ar_sc, mul_le_sc h] at h3 h4
  exact ⟨h1, h2, h3, h4⟩
theorem ON_sc {D : Int} (h : 0 < D) {ax ay bx bz px py : Int} (m : ON (D * ax) (D * ay) (D * bx) (D * bz) (D * px) (D * py)) : ON ax ay bx bz px py := by
  have := MT_sc h (MT_of_on (D * px) (D * py) m)
  have e := metI_iff.2 this
  rw [met_point] at e
  exact onB_iff.1 e
theorem apartR_sc {D : Int} (h : 0 < D) {ps qs : List (Int × Int)} (a : apartR ps qs) : apartR (sc D ps) (sc D qs) := by
  intro i hi k hk m
  rw [sc_len] at hi hk
  rw [sc_len, sc_len, sc_at, sc_at, sc_at, sc_at] at m
  exact a i hi k hk (MT_sc h m)
theorem onI_sc {D : Int} (h : 0 < D) {ps : List (Int × Int)} {i : Nat} {p : Int × Int} (m : onI (sc D ps) i (D * p.1, D * p.2)) : onI ps i p := by
  unfold onI at m
  rw [sc_len, sc_at, sc_at] at m
  exact ON_sc h m

/-- Where an edge meets a height, there is a point of whole numbers. -/
def Fine (y : Int) (ps : List (Int × Int)) : Prop := ∀ i, i < ps.length → (ptA ps (nx ps.length i)).2 ≠ (ptA ps i).2 → ((ptA ps (nx ps.length i)).2 - (ptA ps i).2) ∣ ((ptA ps (nx ps.length i)).1 - (ptA ps i).1) * (y - (ptA ps i).2)
/-- How far an edge goes up or down; 1 where it does not. -/
def hgt (ps : List (Int × Int)) (i : Nat) : Int := if (ptA ps (nx ps.length i)).2 = (ptA ps i).2 then 1 else (((ptA ps (nx ps.length i)).2 - (ptA ps i).2).natAbs : Int)
def hgts (ps : List (Int × Int)) : Nat → Int
  | 0 => 1
  | i + 1 => hgts ps i * hgt ps i
theorem hgts_pos (ps : List (Int × Int)) : ∀ i, 0 < hgts ps i
  | 0 => by simp [hgts]
  | i + 1 => by
    have h1 := hgts_pos ps i
    have h2 : 0 < hgt ps i := by
      unfold hgt
      split
      · omega
      · omega
    exact Int.mul_pos h1 h2
theorem hgts_dvd (ps : List (Int × Int)) : ∀ {k i : Nat}, i < k → hgt ps i ∣ hgts ps k
  | 0, i, h => absurd h (by omega)
  | k + 1, i, h => by
    simp only [hgts]
    rcases Nat.lt_or_ge i k with c | c
    · exact Int.dvd_trans (hgts_dvd ps c) (Int.dvd_mul_right _ _)
    · obtain rfl : i = k := by omega
      exact Int.dvd_mul_left _ _
theorem fine_sc {D y : Int} {ps : List (Int × Int)} (h : ∀ i, i < ps.length → hgt ps i ∣ D) : Fine (D * y) (sc D ps) := by
  intro i hi hne
  rw [sc_len] at hi
  rw [sc_len, sc_at, sc_at] at hne ⊢
  dsimp only at hne ⊢
  have hg := h i hi
  have hne' : (ptA ps (nx ps.length i)).2 ≠ (ptA ps i).2 := fun e => hne (by rw [e])
  unfold hgt at hg
  rw [if_neg hne'] at hg
  have hg2 : ((ptA ps (nx ps.length i)).2 - (ptA ps i).2) ∣ D := Int.natAbs_dvd.1 hg
  obtain ⟨k, hk⟩ := hg2
  generalize (ptA ps (nx ps.length i)).2 = bz at *
  generalize (ptA ps i).2 = ay at *
  generalize (ptA ps (nx ps.length i)).1 = bx at *
  generalize (ptA ps i).1 = ax at *
  refine ⟨(bx - ax) * k * (y - ay), ?_⟩
  have e1 : D * bz - D * ay = D * (bz - ay) := by grind
  have e2 : (D * bx - D * ax) * (D * y - D * ay) = D * (bx - ax) * (D * (y - ay)) := by grind
  rw [e1, e2]
  have e3 : D * (y - ay) = (bz - ay) * k * (y - ay) := by rw [← hk]
  rw [e3]
  grind
/-- An edge that meets a level segment has a point of whole numbers on it. -/
theorem level_point {ax ay bx bz y ux vx : Int} (f : bz ≠ ay → (bz - ay) ∣ (bx - ax) * (y - ay)) (huv : ux ≤ vx) (m : MT ax ay bx bz ux y vx y) : ∃ x, ux ≤ x ∧ x ≤ vx ∧ ON ax ay bx bz x y := by
  obtain ⟨h1, h2, h3, h4⟩ := m
  unfold RG at h1 h2
  by_cases hb : bz = ay
  · subst hb
    have hy : bz = y := by omega
    subst hy
    have hmm : min ax bx ≤ max ax bx := by omega
    refine ⟨max (min ax bx) ux, by omega, by omega, ?_, ?_, ?_⟩
    · unfold ar
      simp
    · exact btw_mul.1 (btw_iff.2 (by omega))
    · simp
  · obtain ⟨k, hk⟩ := f hb
    have e : ∀ z, ar ax ay bx bz z y = (bz - ay) * (ax + k - z) := by
      intro z
      unfold ar
      rw [hk]
      grind
    have on0 : ar ax ay bx bz (ax + k) y = 0 := by rw [e]; simp
    have hon : ON ax ay bx bz (ax + k) y := by
      rcases Int.lt_or_le ay bz with c | c
      · exact on_line on0 (by omega) (by omega) c
      · have on1 : ar bx bz ax ay (ax + k) y = 0 := by rw [ar_swap, on0]; rfl
        obtain ⟨g1, g2, g3⟩ := on_line on1 (by omega) (by omega) (show bz < ay by omega)
        exact ⟨on0, by rw [Int.mul_comm]; exact g2, by rw [Int.mul_comm]; exact g3⟩
    rw [e, e] at h3
    have hp : 0 < (bz - ay) * (bz - ay) := sq_pos (by omega)
    have e5 : (bz - ay) * (ax + k - ux) * ((bz - ay) * (ax + k - vx)) = (bz - ay) * (bz - ay) * ((ax + k - ux) * (ax + k - vx)) := by grind
    have h5 : (ax + k - ux) * (ax + k - vx) ≤ 0 := by
      have := pos_mul_iff (a := (bz - ay) * (bz - ay)) (b := (ax + k - ux) * (ax + k - vx)) hp
      omega
    have h6 : (ux - (ax + k)) * (vx - (ax + k)) ≤ 0 := by
      have e6 : (ux - (ax + k)) * (vx - (ax + k)) = (ax + k - ux) * (ax + k - vx) := by grind
      omega
    have h7 := between_of h6
    exact ⟨ax + k, by omega, by omega, hon⟩
theorem first_of {S : Nat → Prop} (h : ∃ d, S d) : ∃ d, S d ∧ ∀ d', d' < d → ¬ S d' := by
  obtain ⟨d, hd⟩ := h
  induction d using Nat.strongRecOn with
  | ind d ih =>
    rcases Classical.em (∃ d', d' < d ∧ S d') with ⟨d', h1, h2⟩ | c
    · exact ih d' h1 h2
    · exact ⟨d, hd, fun d' h1 h2 => c ⟨d', h1, h2⟩⟩
/-- The first point to the right that is on an edge of one of two rings that do not touch. -/
theorem nearest {ps qs : List (Int × Int)} {p : Int × Int} (h0 : 0 < ps.length) (fp : Fine p.2 ps) (fq : Fine p.2 qs) (a : apartR ps qs) (hp : parR ps p = true) :
    (∃ i r, i < ps.length ∧ onI ps i r ∧ freeR qs p r) ∨ (∃ k r, k < qs.length ∧ onI qs k r ∧ freeR ps p r) := by
  -- something of the first ring is there
  have hex : ∃ d : Nat, (∃ i, i < ps.length ∧ onI ps i (p.1 + d, p.2)) ∨ (∃ k, k < qs.length ∧ onI qs k (p.1 + d, p.2)) := by
    obtain ⟨m, hm, far⟩ := far_corner ps ps.length h0
    have hM : ∃ M, p.1 ≤ M ∧ (ptA ps m).1 ≤ M := ⟨max p.1 (ptA ps m).1, by omega, by omega⟩
    obtain ⟨M, M1, M2⟩ := hM
    have hf : parR ps (M, p.2) = false := parR_far (fun i hi => Int.le_trans (far i hi) M2)
    have hn : ¬ freeR ps p (M, p.2) := fun q => by
      rw [parR_along h0 q, hf] at hp
      cases hp
    have hs : ∃ i, i < ps.length ∧ MT (ptA ps i).1 (ptA ps i).2 (ptA ps (nx ps.length i)).1 (ptA ps (nx ps.length i)).2 p.1 p.2 M p.2 := by
      rcases Classical.em (∃ i, i < ps.length ∧ MT (ptA ps i).1 (ptA ps i).2 (ptA ps (nx ps.length i)).1 (ptA ps (nx ps.length i)).2 p.1 p.2 M p.2) with c | c
      · exact c
      · exact absurd (fun i hi m => c ⟨i, hi, m⟩) hn
    obtain ⟨i, hi, mt⟩ := hs
    obtain ⟨x, x1, x2, on⟩ := level_point (fp i hi) M1 mt
    refine ⟨(x - p.1).toNat, .inl ⟨i, hi, ?_⟩⟩
    rw [show p.1 + ((x - p.1).toNat : Int) = x by omega]
    exact on
  obtain ⟨d, hd, first⟩ := first_of hex
  have hle : p.1 ≤ p.1 + (d : Int) := by omega
  rcases hd with ⟨i, hi, on⟩ | ⟨k, hk, on⟩
  · refine .inl ⟨i, (p.1 + d, p.2), hi, on, fun k hk mt => ?_⟩
    obtain ⟨x, x1, x2, on2⟩ := level_point (fq k hk) hle mt
    have hd' : ¬ (x - p.1).toNat < d := fun q => first _ q (.inr ⟨k, hk, by rw [show p.1 + ((x - p.1).toNat : Int) = x by omega]; exact on2⟩)
    have hx : x = p.1 + d := by omega
    subst hx
    exact a i hi k hk (MT_common on2 on)
  · refine .inr ⟨k, (p.1 + d, p.2), hk, on, fun i hi mt => ?_⟩
    obtain ⟨x, x1, x2, on2⟩ := level_point (fp i hi) hle mt
    have hd' : ¬ (x - p.1).toNat < d := fun q => first _ q (.inl ⟨i, hi, by rw [show p.1 + ((x - p.1).toNat : Int) = x by omega]; exact on2⟩)
    have hx : x = p.1 + d := by omega
    subst hx
    exact a i hi k hk (MT_common on on2)
/-- .. of rings as they are: what both count at a point of the edges. -/
theorem nearest_tells {ps qs : List (Int × Int)} {p : Int × Int} (h0 : 0 < ps.length) (hq : 0 < qs.length) (a : apartR ps qs) (hp : parR ps p = true) : parR qs p = parR qs (ptA ps 0) ∨ parR ps (ptA qs 0) = true := by
  have D1 := hgts_pos ps ps.length
  have D2 := hgts_pos qs qs.length
  obtain ⟨D, hD⟩ : ∃ D, D = hgts ps ps.length * hgts qs qs.length := ⟨_, rfl⟩
  have D0 : 0 < D := by rw [hD]; exact Int.mul_pos D1 D2
  have f1 : Fine (D * p.2) (sc D ps) := fine_sc (fun i hi => by rw [hD]; exact Int.dvd_trans (hgts_dvd ps hi) (Int.dvd_mul_right _ _))
  have f2 : Fine (D * p.2) (sc D qs) := fine_sc (fun i hi => by rw [hD]; exact Int.dvd_trans (hgts_dvd qs hi) (Int.dvd_mul_left _ _))
  have a' := apartR_sc D0 a
  have l1 : 0 < (sc D ps).length := by rw [sc_len]; exact h0
  have l2 : 0 < (sc D qs).length := by rw [sc_len]; exact hq
  have hp' : parR (sc D ps) (D * p.1, D * p.2) = true := by rw [parR_sc D0]; exact hp
  rcases nearest (p := (D * p.1, D * p.2)) l1 f1 f2 a' hp' with ⟨i, r, hi, on, fr⟩ | ⟨k, r, hk, on, fr⟩
  · left
    have e1 := parR_along l2 fr
    have e2 := parR_edge l2 a' hi on
    rw [sc_at, parR_sc D0] at e2
    rw [parR_sc D0] at e1
    rw [e1, e2]
  · right
    have e1 := parR_along l1 fr
    have e2 := parR_edge l1 a'.comm hk on
    rw [sc_at, parR_sc D0] at e2
    rw [hp'] at e1
    rw [← e2, ← e1]
/-- A point in a ring that lies in another one is in the other one. -/
theorem hole_in {o h : List (Int × Int)} {p : Int × Int} (ho : 0 < o.length) (hh : 0 < h.length) (a : apartR h o) (hin : parR o (ptA h 0) = true) (hp : parR h p = true) : parR o p = true := by
  rcases nearest_tells hh ho a hp with e | e
  · rw [e]; exact hin
  · rw [outer_out ho hh a hin] at e
    cases e
/-- A point in one of two rings of which neither has the other one's first corner in it is not in the other one. -/
theorem holes_out {g h : List (Int × Int)} {p : Int × Int} (hg : 0 < g.length) (hh : 0 < h.length) (a : apartR g h) (h1 : parR h (ptA g 0) = false) (h2 : parR g (ptA h 0) = false) (hp : parR g p = true) : parR h p = false := by
  rcases nearest_tells hg hh a hp with e | e
  · rw [e]; exact h1
  · rw [h2] at e
    cases e
end Go.Proofs.Ythafhfdhahbdoaa
