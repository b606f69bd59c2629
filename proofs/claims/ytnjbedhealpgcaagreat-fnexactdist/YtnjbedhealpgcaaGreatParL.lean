import Derived.Test.YtnjbedhealpgcaaGreatParM
import Derived.Test.YtnjbedhealpgcaaGreatSpotI
import Derived.Deep.DeepCutAuto
import Derived.Test.YtnjbedhealpgcaaGreatRingE
import Derived.Test.YtnjbedhealpgcaaGreatHeldQ
import Derived.Test.YtnjbedhealpgcaaGreatGapM
import Derived.Test.YtnjbedhealpgcaaGreatPtG
import Derived.Handy
import Derived.Test.YtnjbedhealpgcaaGreatPtsL
import Derived.Test.YtnjbedhealpgcaaGreatRing
/- Along a segment that meets no edge of a ring, the number of edges to the right is odd everywhere or even everywhere. Mathematics. -/
namespace Go.Proofs.YtnjbedhealpgcaaGreat

theorem neg_of {g X p Y q Z : Int} (hg : 0 < g) (e : g * X + p * Y + q * Z = 0) (hp : 0 < p) (hY : 0 < Y) (hq : 0 ≤ q) (hZ : 0 ≤ Z) : X < 0 := by
  have h1 := Int.mul_pos hp hY
  have h2 := Int.mul_nonneg hq hZ
  have h3 : g * X < 0 := by omega
  exact (neg_mul_iff hg).1 h3
theorem pos_of {g X p Y q Z : Int} (hg : 0 < g) (e : g * X + p * Y + q * Z = 0) (hp : 0 < p) (hY : Y < 0) (hq : 0 ≤ q) (hZ : Z ≤ 0) : 0 < X := by
  have := neg_of (X := -X) (Y := -Y) (Z := -Z) hg (by rw [Int.mul_neg, Int.mul_neg, Int.mul_neg]; omega) hp (by omega) hq (by omega)
  omega
theorem on_line {ux uy vx vy bx bz : Int} (h : ar ux uy vx vy bx bz = 0) (h1 : uy ≤ bz) (h2 : bz ≤ vy) (h3 : uy < vy) : ON ux uy vx vy bx bz := by
  refine ⟨h, ?_, ?_⟩
  · have hk : 0 < (vy - uy) * (vy - uy) := Int.mul_pos (by omega) (by omega)
    have e1 : (vy - uy) * (bx - ux) = (bz - uy) * (vx - ux) := by unfold ar at h; grind
    have e2 : (vy - uy) * (vx - bx) = (vy - bz) * (vx - ux) := by unfold ar at h; grind
    have e3 : (vy - uy) * (vy - uy) * ((bx - ux) * (vx - bx)) = ((bz - uy) * (vy - bz)) * ((vx - ux) * (vx - ux)) := by
      have : ((vy - uy) * (bx - ux)) * ((vy - uy) * (vx - bx)) = ((bz - uy) * (vx - ux)) * ((vy - bz) * (vx - ux)) := by rw [e1, e2]
      grind
    have h4 : 0 ≤ ((bz - uy) * (vy - bz)) * ((vx - ux) * (vx - ux)) := Int.mul_nonneg (Int.mul_nonneg (by omega) (by omega)) (sq_nonneg _)
    have h5 : 0 ≤ (bx - ux) * (vx - bx) := by
      rcases Int.lt_or_le ((bx - ux) * (vx - bx)) 0 with c | c
      · have := Int.mul_neg_of_pos_of_neg hk c
        omega
      · exact c
    have e4 : (ux - bx) * (vx - bx) = -((bx - ux) * (vx - bx)) := by grind
    omega
  · have := Int.mul_nonneg (show 0 ≤ bz - uy by omega) (show 0 ≤ vy - bz by omega)
    have e : (uy - bz) * (vy - bz) = -((bz - uy) * (vy - bz)) := by grind
    omega
def rgtS (ux uy vx vy zx zy : Int) : Bool := ((decide (uy < zy)) != (decide (vy < zy))) && ((decide (uy < vy) && decide (ar ux uy vx vy zx zy < 0)) || (decide (vy < uy) && decide (0 < ar ux uy vx vy zx zy)))
theorem hitS_flip (ax ay bx bz px py : Int) : hitS bx bz ax ay px py = hitS ax ay bx bz px py := by
  unfold hitS
  rw [ar_swap ax ay bx bz px py]
  generalize ar ax ay bx bz px py = A
  rw [show decide (0 < -A) = decide (A < 0) by simp, show decide (-A < 0) = decide (0 < A) by simp]
  cases decide (py < ay) <;> cases decide (py < bz) <;> cases decide (ay < bz) <;> cases decide (bz < ay) <;> cases decide (A < 0) <;> cases decide (0 < A) <;> rfl
theorem rgtS_flip (ux uy vx vy zx zy : Int) : rgtS vx vy ux uy zx zy = rgtS ux uy vx vy zx zy := by
  unfold rgtS
  rw [ar_swap ux uy vx vy zx zy]
  generalize ar ux uy vx vy zx zy = A
  rw [show decide (0 < -A) = decide (A < 0) by simp, show decide (-A < 0) = decide (0 < A) by simp]
  cases decide (uy < zy) <;> cases decide (vy < zy) <;> cases decide (uy < vy) <;> cases decide (vy < uy) <;> cases decide (A < 0) <;> cases decide (0 < A) <;> rfl
theorem MT.turned {ax ay bx bz cx cy dx dy : Int} (h : MT ax ay bx bz cx cy dx dy) : MT bx bz ax ay cx cy dx dy := h.other.flip.other

section
variable {ax ay bx bz ux uy vx vy : Int}
theorem case1 (hn : ¬ MT ax ay bx bz ux uy vx vy) (h1 : ay ≤ uy) (h2 : uy < bz) (h3 : bz ≤ vy) : 0 < ar ax ay bx bz ux uy ↔ ar ux uy vx vy bx bz < 0 := by
  have I1 : (bz - uy) * ar ax ay bx bz vx vy + (bz - ay) * ar ux uy vx vy bx bz + (vy - bz) * ar ax ay bx bz ux uy = 0 := by unfold ar; grind
  have I2 : (bz - uy) * ar ux uy vx vy ax ay + (vy - uy) * ar ax ay bx bz ux uy + (uy - ay) * ar ux uy vx vy bx bz = 0 := by unfold ar; grind
  constructor
  · intro p
    rcases Int.lt_trichotomy (ar ux uy vx vy bx bz) 0 with c | c | c
    · exact c
    · exact absurd (MT_of_on ax ay (on_line c (by omega) h3 (by omega))).other.turned hn
    · have n2 := neg_of (by omega) I1 (by omega) c (by omega) (by omega)
      have n3 := neg_of (by omega) I2 (by omega) p (by omega) (by omega)
      exact absurd (MT_of_cross (Int.mul_neg_of_pos_of_neg p n2) (Int.mul_neg_of_neg_of_pos n3 c)) hn
  · intro c
    rcases Int.lt_trichotomy (ar ax ay bx bz ux uy) 0 with p | p | p
    · have n2 := pos_of (by omega) I1 (by omega) c (by omega) (by omega)
      have n3 := pos_of (by omega) I2 (by omega) p (by omega) (by omega)
      exact absurd (MT_of_cross (Int.mul_neg_of_neg_of_pos p n2) (Int.mul_neg_of_pos_of_neg n3 c)) hn
    · exact absurd (MT_of_on vx vy (on_line p h1 (by omega) (by omega))) hn
    · exact p
theorem case4 (hn : ¬ MT ax ay bx bz ux uy vx vy) (h1 : uy < ay) (h2 : ay ≤ vy) (h3 : vy < bz) : 0 < ar ax ay bx bz vx vy ↔ ar ux uy vx vy ax ay < 0 := by
  have I1 : (vy - ay) * ar ax ay bx bz ux uy + (bz - ay) * ar ux uy vx vy ax ay + (ay - uy) * ar ax ay bx bz vx vy = 0 := by unfold ar; grind
  have I2 : (vy - ay) * ar ux uy vx vy bx bz + (vy - uy) * ar ax ay bx bz vx vy + (bz - vy) * ar ux uy vx vy ax ay = 0 := by unfold ar; grind
  have hg : ∀ {p : Int} {Y q Z : Int}, 0 < Y → 0 < p → 0 ≤ q → 0 ≤ Z → p * Y + q * Z ≠ 0 := by
    intro p Y q Z hY hp hq hZ e
    have h1 := Int.mul_pos hp hY
    have h2 := Int.mul_nonneg hq hZ
    omega
  constructor
  · intro p
    rcases Int.lt_trichotomy (ar ux uy vx vy ax ay) 0 with c | c | c
    · exact c
    · exact absurd (MT_of_on bx bz (on_line c (by omega) h2 (by omega))).other hn
    · have g0 : 0 < vy - ay := by
        rcases Int.lt_or_le 0 (vy - ay) with z | z
        · exact z
        · have : vy - ay = 0 := by omega
          rw [this, Int.zero_mul, Int.zero_add] at I1
          exact absurd I1 (hg c (by omega) (by omega) (by omega))
      have n1 := neg_of g0 I1 (by omega) c (by omega) (by omega)
      have n4 := neg_of g0 I2 (by omega) p (by omega) (by omega)
      exact absurd (MT_of_cross (Int.mul_neg_of_neg_of_pos n1 p) (Int.mul_neg_of_pos_of_neg c n4)) hn
  · intro c
    rcases Int.lt_trichotomy (ar ax ay bx bz vx vy) 0 with p | p | p
    · have g0 : 0 < vy - ay := by
        rcases Int.lt_or_le 0 (vy - ay) with z | z
        · exact z
        · have : vy - ay = 0 := by omega
          rw [this, Int.zero_mul, Int.zero_add] at I1
          have := hg (p := bz - ay) (Y := -ar ux uy vx vy ax ay) (q := ay - uy) (Z := -ar ax ay bx bz vx vy) (by omega) (by omega) (by omega) (by omega)
          rw [Int.mul_neg, Int.mul_neg] at this
          exact absurd (by omega) this
      have n1 := pos_of g0 I1 (by omega) c (by omega) (by omega)
      have n4 := pos_of g0 I2 (by omega) p (by omega) (by omega)
      exact absurd (MT_of_cross (Int.mul_neg_of_pos_of_neg n1 p) (Int.mul_neg_of_neg_of_pos c n4)) hn
    · exact absurd (MT_of_on ux uy (on_line p h2 (by omega) (by omega))).flip hn
    · exact p
theorem case2 (hn : ¬ MT ax ay bx bz ux uy vx vy) (h0 : uy ≤ vy) (h1 : ay ≤ uy) (h3 : vy < bz) : 0 < ar ax ay bx bz ux uy ↔ 0 < ar ax ay bx bz vx vy := by
  have I3 : (bz - ay) * ar ux uy vx vy ax ay + (vy - uy) * ar ax ay bx bz ux uy + (uy - ay) * (ar ax ay bx bz ux uy - ar ax ay bx bz vx vy) = 0 := by unfold ar; grind
  have I4 : (bz - ay) * ar ux uy vx vy bx bz + (bz - vy) * (ar ax ay bx bz vx vy - ar ax ay bx bz ux uy) + (vy - uy) * ar ax ay bx bz vx vy = 0 := by unfold ar; grind
  have E1 : ay = uy → ar ax ay bx bz ux uy = (bz - ay) * (ax - ux) := fun e => by unfold ar; grind
  have E2 : ay = vy → ar ax ay bx bz vx vy = (bz - ay) * (ax - vx) := fun e => by unfold ar; grind
  have E3 : uy = vy → ay = uy → ar ux uy vx vy ax ay = 0 := fun e f => by unfold ar; grind
  have hh : 0 < bz - ay := by omega
  constructor
  · intro p
    rcases Int.lt_trichotomy (ar ax ay bx bz vx vy) 0 with c | c | c
    · exfalso
      have n4 := pos_of hh I4 (by omega) (by omega) (by omega) (by omega)
      by_cases z : uy = vy ∧ ay = uy
      · have q1 := (pos_mul_iff hh).1 (by rw [← E1 z.2]; exact p)
        have q2 := (neg_mul_iff hh).1 (by rw [← E2 (by omega)]; exact c)
        have on : ON ux uy vx vy ax ay := ⟨E3 z.1 z.2, by
          have := Int.mul_nonneg (show 0 ≤ ax - ux by omega) (show 0 ≤ vx - ax by omega)
          have e : (ux - ax) * (vx - ax) = -((ax - ux) * (vx - ax)) := by grind
          omega, by rw [show uy - ay = 0 by omega, Int.zero_mul]; omega⟩
        exact hn (MT_of_on bx bz on).other
      · have n3 : ar ux uy vx vy ax ay < 0 := by
          by_cases y : uy = vy
          · exact neg_of (p := uy - ay) (Y := ar ax ay bx bz ux uy - ar ax ay bx bz vx vy) (q := vy - uy) (Z := ar ax ay bx bz ux uy) hh (by omega) (by omega) (by omega) (by omega) (by omega)
          · exact neg_of hh I3 (by omega) p (by omega) (by omega)
        exact hn (MT_of_cross (Int.mul_neg_of_pos_of_neg p c) (Int.mul_neg_of_neg_of_pos n3 n4))
    · exact absurd (MT_of_on ux uy (on_line c (by omega) (by omega) (by omega))).flip hn
    · exact c
  · intro c
    rcases Int.lt_trichotomy (ar ax ay bx bz ux uy) 0 with p | p | p
    · exfalso
      have n4 := neg_of hh I4 (by omega) (by omega) (by omega) (by omega)
      by_cases z : uy = vy ∧ ay = uy
      · have q1 := (neg_mul_iff hh).1 (by rw [← E1 z.2]; exact p)
        have q2 := (pos_mul_iff hh).1 (by rw [← E2 (by omega)]; exact c)
        have on : ON ux uy vx vy ax ay := ⟨E3 z.1 z.2, by
          have := Int.mul_nonneg (show 0 ≤ ux - ax by omega) (show 0 ≤ ax - vx by omega)
          have e : (ux - ax) * (vx - ax) = -((ux - ax) * (ax - vx)) := by grind
          omega, by rw [show uy - ay = 0 by omega, Int.zero_mul]; omega⟩
        exact hn (MT_of_on bx bz on).other
      · have n3 : 0 < ar ux uy vx vy ax ay := by
          by_cases y : uy = vy
          · exact pos_of (p := uy - ay) (Y := ar ax ay bx bz ux uy - ar ax ay bx bz vx vy) (q := vy - uy) (Z := ar ax ay bx bz ux uy) hh (by omega) (by omega) (by omega) (by omega) (by omega)
          · exact pos_of hh I3 (by omega) p (by omega) (by omega)
        exact hn (MT_of_cross (Int.mul_neg_of_neg_of_pos p c) (Int.mul_neg_of_pos_of_neg n3 n4))
    · exact absurd (MT_of_on vx vy (on_line p (by omega) (by omega) (by omega))) hn
    · exact p
theorem case3 (hn : ¬ MT ax ay bx bz ux uy vx vy) (h0 : ay ≤ bz) (h1 : uy < ay) (h3 : bz ≤ vy) : ar ux uy vx vy ax ay < 0 ↔ ar ux uy vx vy bx bz < 0 := by
  have I3 : (vy - uy) * ar ax ay bx bz ux uy + (ay - uy) * (ar ux uy vx vy ax ay - ar ux uy vx vy bx bz) + (bz - ay) * ar ux uy vx vy ax ay = 0 := by unfold ar; grind
  have I4 : (vy - uy) * ar ax ay bx bz vx vy + (bz - ay) * ar ux uy vx vy bx bz + (vy - bz) * (ar ux uy vx vy bx bz - ar ux uy vx vy ax ay) = 0 := by unfold ar; grind
  have E1 : bz = vy → ar ux uy vx vy bx bz = (vy - uy) * (vx - bx) := fun e => by unfold ar; grind
  have E2 : ay = vy → ar ux uy vx vy ax ay = (vy - uy) * (vx - ax) := fun e => by unfold ar; grind
  have E3 : ay = bz → bz = vy → ar ax ay bx bz vx vy = 0 := fun e f => by unfold ar; grind
  have hh : 0 < vy - uy := by omega
  constructor
  · intro p
    rcases Int.lt_trichotomy (ar ux uy vx vy bx bz) 0 with c | c | c
    · exact c
    · exact absurd (MT_of_on ax ay (on_line c (by omega) h3 (by omega))).other.turned hn
    · exfalso
      have n1 := pos_of hh I3 (by omega) (by omega) (by omega) (by omega)
      by_cases z : ay = bz ∧ bz = vy
      · have q1 := (neg_mul_iff hh).1 (by rw [← E2 (by omega)]; exact p)
        have q2 := (pos_mul_iff hh).1 (by rw [← E1 z.2]; exact c)
        have on : ON ax ay bx bz vx vy := ⟨E3 z.1 z.2, by
          have := Int.mul_nonneg (show 0 ≤ ax - vx by omega) (show 0 ≤ vx - bx by omega)
          have e : (ax - vx) * (bx - vx) = -((ax - vx) * (vx - bx)) := by grind
          omega, by rw [show ay - vy = 0 by omega, Int.zero_mul]; omega⟩
        exact hn (MT_of_on ux uy on).flip
      · have n2 : ar ax ay bx bz vx vy < 0 := by
          by_cases y : ay = bz
          · exact neg_of (p := vy - bz) (Y := ar ux uy vx vy bx bz - ar ux uy vx vy ax ay) (q := bz - ay) (Z := ar ux uy vx vy bx bz) hh (by omega) (by omega) (by omega) (by omega) (by omega)
          · exact neg_of hh I4 (by omega) c (by omega) (by omega)
        exact hn (MT_of_cross (Int.mul_neg_of_pos_of_neg n1 n2) (Int.mul_neg_of_neg_of_pos p c))
  · intro c
    rcases Int.lt_trichotomy (ar ux uy vx vy ax ay) 0 with p | p | p
    · exact p
    · exact absurd (MT_of_on bx bz (on_line p (by omega) (by omega) (by omega))).other hn
    · exfalso
      have n1 := neg_of hh I3 (by omega) (by omega) (by omega) (by omega)
      by_cases z : ay = bz ∧ bz = vy
      · have q1 := (pos_mul_iff hh).1 (by rw [← E2 (by omega)]; exact p)
        have q2 := (neg_mul_iff hh).1 (by rw [← E1 z.2]; exact c)
        have on : ON ax ay bx bz vx vy := ⟨E3 z.1 z.2, by
          have := Int.mul_nonneg (show 0 ≤ vx - ax by omega) (show 0 ≤ bx - vx by omega)
          have e : (ax - vx) * (bx - vx) = -((vx - ax) * (bx - vx)) := by grind
          omega, by rw [show ay - vy = 0 by omega, Int.zero_mul]; omega⟩
        exact hn (MT_of_on ux uy on).flip
      · have n2 : 0 < ar ax ay bx bz vx vy := by
          by_cases y : ay = bz
          · exact pos_of (p := vy - bz) (Y := ar ux uy vx vy bx bz - ar ux uy vx vy ax ay) (q := bz - ay) (Z := ar ux uy vx vy bx bz) hh (by omega) (by omega) (by omega) (by omega) (by omega)
          · exact pos_of hh I4 (by omega) c (by omega) (by omega)
        exact hn (MT_of_cross (Int.mul_neg_of_neg_of_pos n1 n2) (Int.mul_neg_of_pos_of_neg p c))

theorem edge_core (hn : ¬ MT ax ay bx bz ux uy vx vy) (hu : uy ≤ vy) (ha : ay ≤ bz) : (hitS ax ay bx bz ux uy ^^ hitS ax ay bx bz vx vy) = (rgtS ux uy vx vy ax ay ^^ rgtS ux uy vx vy bx bz) := by
  have c1 := case1 hn
  have c2 := case2 hn hu
  have c3 := case3 hn ha
  have c4 := case4 hn
  clear hn
  unfold hitS rgtS
  generalize ar ax ay bx bz ux uy = A1 at *
  generalize ar ax ay bx bz vx vy = A2 at *
  generalize ar ux uy vx vy ax ay = A3 at *
  generalize ar ux uy vx vy bx bz = A4 at *
  have hna : ¬ bz < ay := by omega
  have hnu : ¬ vy < uy := by omega
  rw [decide_eq_false hna, decide_eq_false hnu]
  simp only [Bool.false_and, Bool.or_false]
  by_cases p1 : uy < ay
  · have p2 : uy < bz := by omega
    rw [decide_eq_true p1, decide_eq_true p2]
    by_cases p3 : vy < ay
    · rw [decide_eq_true p3, decide_eq_true (show vy < bz by omega)]
      rfl
    · rw [decide_eq_false p3, decide_eq_true (show uy < vy by omega)]
      by_cases p4 : vy < bz
      · rw [decide_eq_true p4, decide_eq_true (show ay < bz by omega), decide_eq_decide.2 (c4 p1 (by omega) p4)]
        cases decide (A3 < 0) <;> rfl
      · rw [decide_eq_false p4, decide_eq_decide.2 (c3 p1 (by omega))]
        cases decide (A4 < 0) <;> rfl
  · rw [decide_eq_false p1, decide_eq_false (show ¬ vy < ay by omega)]
    by_cases p2 : uy < bz
    · rw [decide_eq_true p2, decide_eq_true (show ay < bz by omega)]
      by_cases p4 : vy < bz
      · rw [decide_eq_true p4, decide_eq_decide.2 (c2 (by omega) p4)]
        cases decide (0 < A2) <;> rfl
      · rw [decide_eq_false p4, decide_eq_true (show uy < vy by omega), decide_eq_decide.2 (c1 (by omega) p2 (by omega))]
        cases decide (A4 < 0) <;> rfl
    · rw [decide_eq_false p2, decide_eq_false (show ¬ vy < bz by omega)]
      rfl
theorem edge_seg (hn : ¬ MT ax ay bx bz ux uy vx vy) : (hitS ax ay bx bz ux uy ^^ hitS ax ay bx bz vx vy) = (rgtS ux uy vx vy ax ay ^^ rgtS ux uy vx vy bx bz) := by
  rcases Int.le_total uy vy with hu | hu <;> rcases Int.le_total ay bz with ha | ha
  · exact edge_core hn hu ha
  · have := edge_core (fun h => hn h.turned) hu ha
    rw [hitS_flip ax ay bx bz ux uy, hitS_flip ax ay bx bz vx vy] at this
    rw [this, Bool.xor_comm]
  · have := edge_core (fun h => hn h.flip) hu ha
    rw [rgtS_flip ux uy vx vy ax ay, rgtS_flip ux uy vx vy bx bz] at this
    rw [← this, Bool.xor_comm]
  · have := edge_core (fun h => hn h.turned.flip) hu ha
    rw [hitS_flip ax ay bx bz ux uy, hitS_flip ax ay bx bz vx vy, rgtS_flip ux uy vx vy ax ay, rgtS_flip ux uy vx vy bx bz] at this
    rw [Bool.xor_comm, this, Bool.xor_comm]
end
theorem par_along {X Y : Nat → Int} {n : Nat} {ux uy vx vy : Int} (h0 : 0 < n) (h : ∀ i, i < n → metI (X i) (Y i) (X ((i + 1) % n)) (Y ((i + 1) % n)) ux uy vx vy = false) :
    par (fun i => hitS (X i) (Y i) (X ((i + 1) % n)) (Y ((i + 1) % n)) ux uy) n = par (fun i => hitS (X i) (Y i) (X ((i + 1) % n)) (Y ((i + 1) % n)) vx vy) n := by
  have h1 := par_xor (fun i => hitS (X i) (Y i) (X ((i + 1) % n)) (Y ((i + 1) % n)) ux uy) (fun i => hitS (X i) (Y i) (X ((i + 1) % n)) (Y ((i + 1) % n)) vx vy) n
  rw [par_congr n (fun i hi => edge_seg (fun m => by have := h i hi; rw [metI_iff.2 m] at this; cases this))] at h1
  have h3 : par (fun i => rgtS ux uy vx vy (X i) (Y i) ^^ rgtS ux uy vx vy (X ((i + 1) % n)) (Y ((i + 1) % n))) n = false := par_ring (fun i => rgtS ux uy vx vy (X i) (Y i)) n h0
  rw [h3] at h1
  revert h1
  generalize par _ _ = u
  generalize par _ _ = v
  cases u <;> cases v <;> simp

def parR (ps : List (Int × Int)) (p : Int × Int) : Bool := par (hsE ps p.1 p.2) ps.length
def freeR (ps : List (Int × Int)) (u v : Int × Int) : Prop := ∀ i, i < ps.length → ¬ MT (ptA ps i).1 (ptA ps i).2 (ptA ps (nx ps.length i)).1 (ptA ps (nx ps.length i)).2 u.1 u.2 v.1 v.2
def onI (ps : List (Int × Int)) (i : Nat) (p : Int × Int) : Prop := ON (ptA ps i).1 (ptA ps i).2 (ptA ps (nx ps.length i)).1 (ptA ps (nx ps.length i)).2 p.1 p.2
def apartR (ps qs : List (Int × Int)) : Prop := ∀ i, i < ps.length → freeR qs (ptA ps i) (ptA ps (nx ps.length i))
theorem apartR.comm {ps qs : List (Int × Int)} (h : apartR ps qs) : apartR qs ps := fun k hk i hi m => h i hi k hk m.other
theorem parR_along {ps : List (Int × Int)} {u v : Int × Int} (h0 : 0 < ps.length) (h : freeR ps u v) : parR ps u = parR ps v := by
  unfold parR
  refine par_along (X := fun i => (ptA ps i).1) (Y := fun i => (ptA ps i).2) h0 (fun i hi => ?_)
  cases e : metI (ptA ps i).1 (ptA ps i).2 (ptA ps ((i + 1) % ps.length)).1 (ptA ps ((i + 1) % ps.length)).2 u.1 u.2 v.1 v.2
  · rfl
  · exact absurd (metI_iff.1 e) (h i hi)

theorem between_of {a b x : Int} (h : (a - x) * (b - x) ≤ 0) : min a b ≤ x ∧ x ≤ max a b := by
  have := btw_iff.1 (btw_mul.2 h)
  omega
theorem MT_common {ax ay bx bz cx cy dx dy rx ry : Int} (h : ON ax ay bx bz rx ry) (k : ON cx cy dx dy rx ry) : MT ax ay bx bz cx cy dx dy := by
  obtain ⟨h1, h2, h3⟩ := h
  obtain ⟨k1, k2, k3⟩ := k
  have g1 := between_of h2
  have g2 := between_of h3
  have g3 := between_of k2
  have g4 := between_of k3
  refine ⟨by unfold RG; omega, by unfold RG; omega, ?_, ?_⟩
  · have := onSides (ux := cx - rx) (uy := cy - ry) (vx := dx - rx) (vy := dy - ry) (wx := bx - ax) (wy := bz - ay) (by unfold ar at k1; grind) k2 k3
    have e1 : ar ax ay bx bz cx cy = (bx - ax) * (cy - ry) - (bz - ay) * (cx - rx) := by unfold ar at h1 ⊢; grind
    have e2 : ar ax ay bx bz dx dy = (bx - ax) * (dy - ry) - (bz - ay) * (dx - rx) := by unfold ar at h1 ⊢; grind
    rw [e1, e2]
    exact this
  · have := onSides (ux := ax - rx) (uy := ay - ry) (vx := bx - rx) (vy := bz - ry) (wx := dx - cx) (wy := dy - cy) (by unfold ar at h1; grind) h2 h3
    have e1 : ar cx cy dx dy ax ay = (dx - cx) * (ay - ry) - (dy - cy) * (ax - rx) := by unfold ar at k1 ⊢; grind
    have e2 : ar cx cy dx dy bx bz = (dx - cx) * (bz - ry) - (dy - cy) * (bx - rx) := by unfold ar at k1 ⊢; grind
    rw [e1, e2]
    exact this

theorem MT_part {ax ay bx bz cx cy dx dy rx ry : Int} (hr : ON cx cy dx dy rx ry) (h : MT ax ay bx bz cx cy rx ry) : MT ax ay bx bz cx cy dx dy := by
  by_cases hc : rx = cx ∧ ry = cy
  · obtain ⟨rfl, rfl⟩ := hc
    have := metI_iff.2 h
    rw [met_point] at this
    exact MT_of_on dx dy (onB_iff.1 this)
  · obtain ⟨h1, h2, h3, h4⟩ := h
    obtain ⟨k1, k2, k3⟩ := hr
    have g3 := between_of k2
    have g4 := between_of k3
    unfold RG at h1 h2
    -- by the coordinate in which the segment is not one point
    have key : ∃ s L : Int, 0 < s ∧ s ≤ L ∧ (∀ zx zy : Int, L * ar cx cy rx ry zx zy = s * ar cx cy dx dy zx zy) ∧ L * ar ax ay bx bz rx ry = (L - s) * ar ax ay bx bz cx cy + s * ar ax ay bx bz dx dy := by
      by_cases hx : rx = cx
      · have hy : ry ≠ cy := fun e => hc ⟨hx, e⟩
        rcases Int.lt_or_le cy ry with c | c
        · refine ⟨ry - cy, dy - cy, by omega, by omega, fun zx zy => ?_, ?_⟩ <;> unfold ar at k1 ⊢ <;> grind
        · refine ⟨cy - ry, cy - dy, by omega, by omega, fun zx zy => ?_, ?_⟩ <;> unfold ar at k1 ⊢ <;> grind
      · rcases Int.lt_or_le cx rx with c | c
        · refine ⟨rx - cx, dx - cx, by omega, by omega, fun zx zy => ?_, ?_⟩ <;> unfold ar at k1 ⊢ <;> grind
        · refine ⟨cx - rx, cx - dx, by omega, by omega, fun zx zy => ?_, ?_⟩ <;> unfold ar at k1 ⊢ <;> grind
    obtain ⟨s, L, s0, sL, e1, e2⟩ := key
    have L0 : 0 < L := by omega
    refine ⟨by unfold RG; omega, by unfold RG; omega, ?_, ?_⟩
    · generalize ar ax ay bx bz cx cy = A at *
      generalize ar ax ay bx bz dx dy = B at *
      generalize ar ax ay bx bz rx ry = C at *
      rcases Int.lt_or_le 0 (A * B) with c | c
      · exfalso
        rcases Int.lt_trichotomy A 0 with a | a | a
        · have b : B < 0 := by
            rcases Int.lt_or_le B 0 with z | z
            · exact z
            · have := Int.mul_nonneg (show 0 ≤ -A by omega) z
              rw [Int.neg_mul] at this
              omega
          have q1 := Int.mul_nonneg (show 0 ≤ L - s by omega) (show 0 ≤ -A by omega)
          have q2 := Int.mul_pos s0 (show 0 < -B by omega)
          rw [Int.mul_neg] at q1 q2
          have c0 : C < 0 := (neg_mul_iff L0).1 (by omega)
          have := Int.mul_pos (show 0 < -A by omega) (show 0 < -C by omega)
          rw [Int.neg_mul_neg] at this
          omega
        · rw [a, Int.zero_mul] at c
          omega
        · have b : 0 < B := (pos_mul_iff a).1 c
          have q1 := Int.mul_nonneg (show 0 ≤ L - s by omega) (show 0 ≤ A by omega)
          have q2 := Int.mul_pos s0 b
          have c0 : 0 < C := (pos_mul_iff L0).1 (by omega)
          have := Int.mul_pos a c0
          omega
      · exact c
    · have f1 := e1 ax ay
      have f2 := e1 bx bz
      generalize ar cx cy dx dy ax ay = A at *
      generalize ar cx cy dx dy bx bz = B at *
      generalize ar cx cy rx ry ax ay = A' at *
      generalize ar cx cy rx ry bx bz = B' at *
      have e3 : (L * L) * (A' * B') = (s * s) * (A * B) := by
        have : (L * A') * (L * B') = (s * A) * (s * B) := by rw [f1, f2]
        grind
      rcases Int.lt_or_le 0 (A * B) with c | c
      · exfalso
        have q1 := Int.mul_pos (Int.mul_pos s0 s0) c
        have q2 := Int.mul_nonneg (Int.le_of_lt (Int.mul_pos L0 L0)) (show 0 ≤ -(A' * B') by omega)
        rw [Int.mul_neg] at q2
        omega
      · exact c
theorem freeR_part {ps : List (Int × Int)} {c d r : Int × Int} (h : freeR ps c d) (hr : ON c.1 c.2 d.1 d.2 r.1 r.2) : freeR ps c r := fun i hi m => h i hi (MT_part hr m)

theorem parR_corner {ps qs : List (Int × Int)} (hq : 0 < qs.length) (h : apartR ps qs) : ∀ i, i < ps.length → parR qs (ptA ps i) = parR qs (ptA ps 0)
  | 0, _ => rfl
  | i + 1, hi => by
    have e := parR_along hq (h i (by omega))
    rw [show nx ps.length i = i + 1 by unfold nx; exact Nat.mod_eq_of_lt hi] at e
    rw [← e]
    exact parR_corner hq h i (by omega)
theorem parR_edge {ps qs : List (Int × Int)} (hq : 0 < qs.length) (h : apartR ps qs) {i : Nat} (hi : i < ps.length) {r : Int × Int} (hr : onI ps i r) : parR qs r = parR qs (ptA ps 0) := by
  rw [← parR_corner hq h i hi]
  exact (parR_along hq (freeR_part (h i hi) hr)).symm

theorem parR_far {ps : List (Int × Int)} {p : Int × Int} (h : ∀ i, i < ps.length → (ptA ps i).1 ≤ p.1) : parR ps p = false := by
  have hz : ∀ i, i < ps.length → hsE ps p.1 p.2 i = false := by
    intro i hi
    have h1 := h i hi
    have h2 := h (nx ps.length i) (nx_lt hi)
    unfold hsE
    generalize (ptA ps i).1 = ax at *
    generalize (ptA ps i).2 = ay at *
    generalize (ptA ps (nx ps.length i)).1 = bx at *
    generalize (ptA ps (nx ps.length i)).2 = bz at *
    cases e : hitS ax ay bx bz p.1 p.2
    · rfl
    · exfalso
      have e1 : ar ax ay bx bz p.1 p.2 = (bx - p.1) * (p.2 - ay) + (p.1 - ax) * (p.2 - bz) := by unfold ar; grind
      unfold hitS at e
      simp only [Bool.and_eq_true, Bool.or_eq_true, decide_eq_true_eq, bne_iff_ne, ne_eq, decide_eq_decide] at e
      rcases e.2 with ⟨q1, q2⟩ | ⟨q1, q2⟩
      · have r1 : ay ≤ p.2 ∧ p.2 < bz := by omega
        have m1 := Int.mul_nonneg (show 0 ≤ p.1 - bx by omega) (show 0 ≤ p.2 - ay by omega)
        have m2 := Int.mul_nonneg (show 0 ≤ p.1 - ax by omega) (show 0 ≤ bz - p.2 by omega)
        have e2 : (bx - p.1) * (p.2 - ay) = -((p.1 - bx) * (p.2 - ay)) := by grind
        have e3 : (p.1 - ax) * (p.2 - bz) = -((p.1 - ax) * (bz - p.2)) := by grind
        omega
      · have r1 : bz ≤ p.2 ∧ p.2 < ay := by omega
        have m1 := Int.mul_nonneg (show 0 ≤ p.1 - bx by omega) (show 0 ≤ ay - p.2 by omega)
        have m2 := Int.mul_nonneg (show 0 ≤ p.1 - ax by omega) (show 0 ≤ p.2 - bz by omega)
        have e2 : (bx - p.1) * (p.2 - ay) = (p.1 - bx) * (ay - p.2) := by grind
        omega
  unfold parR
  rw [par_congr (g := fun _ => false) ps.length hz]
  have : ∀ k, par (fun _ => false) k = false := by
    intro k
    induction k with
    | zero => rfl
    | succ k ih => simp only [par]; rw [ih]; rfl
  exact this _
theorem far_corner : ∀ (ps : List (Int × Int)) (n : Nat), 0 < n → ∃ m, m < n ∧ ∀ i, i < n → (ptA ps i).1 ≤ (ptA ps m).1
  | ps, 1, _ => ⟨0, by omega, fun i hi => by obtain rfl : i = 0 := by omega
                                             exact Int.le_refl _⟩
  | ps, n + 2, _ => by
    obtain ⟨m, hm, h⟩ := far_corner ps (n + 1) (by omega)
    rcases Int.le_total (ptA ps (n + 1)).1 (ptA ps m).1 with c | c
    · exact ⟨m, by omega, fun i hi => by
        rcases Nat.lt_or_ge i (n + 1) with q | q
        · exact h i q
        · obtain rfl : i = n + 1 := by omega
          exact c⟩
    · exact ⟨n + 1, by omega, fun i hi => by
        rcases Nat.lt_or_ge i (n + 1) with q | q
        · exact Int.le_trans (h i q) c
        · obtain rfl : i = n + 1 := by omega
          exact Int.le_refl _⟩
theorem outer_out {o h : List (Int × Int)} (ho : 0 < o.length) (hh : 0 < h.length) (a : apartR h o) (hin : parR o (ptA h 0) = true) : parR h (ptA o 0) = false := by
  obtain ⟨m, hm, far⟩ := far_corner o o.length ho
  have e : parR h (ptA o m) = false := by
    refine parR_far (fun i hi => ?_)
    rcases Int.lt_or_le (ptA o m).1 (ptA h i).1 with c | c
    · exfalso
      have q : parR o (ptA h i) = false := parR_far (fun k hk => Int.le_trans (far k hk) (by omega))
      rw [parR_corner ho a i hi, hin] at q
      cases q
    · exact c
  rw [← parR_corner hh a.comm m hm]
  exact e

def sc (D : Int) (ps : List (Int × Int)) : List (Int × Int) := ps.map fun p => (D * p.1, D * p.2)
theorem sc_len (D : Int) (ps : List (Int × Int)) : (sc D ps).length = ps.length := by simp [sc]
theorem sc_at (D : Int) (ps : List (Int × Int)) (i : Nat) : ptA (sc D ps) i = (D * (ptA ps i).1, D * (ptA ps i).2) := by
  unfold ptA sc
  rw [List.getElem?_map]
  cases ps[i]? with
  | none => simp
  | some p => rfl
theorem ar_sc (D ax ay bx bz px py : Int) : ar (D * ax) (D * ay) (D * bx) (D * bz) (D * px) (D * py) = (D * D) * ar ax ay bx bz px py := by unfold ar; grind
theorem lt_sc {D a b : Int} (h : 0 < D) : D * a < D * b ↔ a < b := by
  have := pos_mul_iff (a := D) (b := b - a) h
  rw [Int.mul_sub] at this
  omega
theorem le_sc {D a b : Int} (h : 0 < D) : D * a ≤ D * b ↔ a ≤ b := by
  have := lt_sc (a := b) (b := a) h
  omega
theorem hitS_sc {D : Int} (h : 0 < D) (ax ay bx bz px py : Int) : hitS (D * ax) (D * ay) (D * bx) (D * bz) (D * px) (D * py) = hitS ax ay bx bz px py := by
  unfold hitS
  have hd := Int.mul_pos h h
  have e : D * D * ar ax ay bx bz px py < 0 ↔ ar ax ay bx bz px py < 0 := neg_mul_iff hd
  have e' : 0 < D * D * ar ax ay bx bz px py ↔ 0 < ar ax ay bx bz px py := pos_mul_iff hd
  rw [ar_sc]
  simp only [lt_sc h, e, e']
theorem parR_sc {D : Int} (h : 0 < D) (ps : List (Int × Int)) (p : Int × Int) : parR (sc D ps) (D * p.1, D * p.2) = parR ps p := by
  unfold parR
  rw [sc_len]
  apply par_congr
  intro i _
  unfold hsE
  rw [sc_len, sc_at, sc_at]
  exact hitS_sc h _ _ _ _ _ _
theorem min_sc {D a b : Int} (h : 0 < D) : min (D * a) (D * b) = D * min a b := by
  rcases Int.le_total a b with c | c
  · rw [Int.min_eq_left c, Int.min_eq_left ((le_sc h).2 c)]
  · rw [Int.min_eq_right c, Int.min_eq_right ((le_sc h).2 c)]
theorem max_sc {D a b : Int} (h : 0 < D) : max (D * a) (D * b) = D * max a b := by
  rcases Int.le_total a b with c | c
  · rw [Int.max_eq_right c, Int.max_eq_right ((le_sc h).2 c)]
  · rw [Int.max_eq_left c, Int.max_eq_left ((le_sc h).2 c)]
theorem mul_le_sc {D A B : Int} (h : 0 < D) : (D * D * A) * (D * D * B) ≤ 0 ↔ A * B ≤ 0 := by
  have hd := Int.mul_pos (Int.mul_pos h h) (Int.mul_pos h h)
  have e : (D * D * A) * (D * D * B) = (D * D) * (D * D) * (A * B) := by grind
  have := pos_mul_iff (a := (D * D) * (D * D)) (b := A * B) hd
  rw [e]
  omega
theorem MT_sc {D : Int} (h : 0 < D) {ax ay bx bz cx cy dx dy : Int} (m : MT (D * ax) (D * ay) (D * bx) (D * bz) (D * cx) (D * cy) (D * dx) (D * dy)) : MT ax ay bx bz cx cy dx dy := by
  obtain ⟨h1, h2, h3, h4⟩ := m
  unfold RG at h1 h2
  rw [min_sc h, min_sc h, max_sc h, max_sc h, le_sc h, le_sc h] at h1 h2
  rw [ar_sc, ar_sc, mul_le_sc h] at h3 h4
  exact ⟨h1, h2, h3, h4⟩
theorem apartR_sc {D : Int} (h : 0 < D) {ps qs : List (Int × Int)} (a : apartR ps qs) : apartR (sc D ps) (sc D qs) := by
  intro i hi k hk m
  rw [sc_len] at hi hk
  rw [sc_len, sc_len, sc_at, sc_at, sc_at, sc_at] at m
  exact a i hi k hk (MT_sc h m)
def Fine (y : Int) (ps : List (Int × Int)) : Prop := ∀ i, i < ps.length → (ptA ps (nx ps.length i)).2 ≠ (ptA ps i).2 → ((ptA ps (nx ps.length i)).2 - (ptA ps i).2) ∣ ((ptA ps (nx ps.length i)).1 - (ptA ps i).1) * (y - (ptA ps i).2)
def hgt (ps : List (Int × Int)) (i : Nat) : Int := if (ptA ps (nx ps.length i)).2 = (ptA ps i).2 then 1 else (((ptA ps (nx ps.length i)).2 - (ptA ps i).2).natAbs : Int)
def hgts (ps : List (Int × Int)) : Nat → Int
  | 0 => 1
  | i + 1 => hgts ps i * hgt ps i
theorem hgts_pos (ps : List (Int × Int)) : ∀ i, 0 < hgts ps i
  | 0 => by simp [hgts]
  | i + 1 => by
    have h1 := hgts_pos ps i
    have h2 : 0 < hgt ps i := by
      unfold hgt
      split
      · omega
      · omega
    exact Int.mul_pos h1 h2
theorem hgts_dvd (ps : List (Int × Int)) : ∀ {k i : Nat}, i < k → hgt ps i ∣ hgts ps k
  | 0, i, h => absurd h (by omega)
  | k + 1, i, h => by
    simp only [hgts]
    rcases Nat.lt_or_ge i k with c | c
    · exact Int.dvd_trans (hgts_dvd ps c) (Int.dvd_mul_right _ _)
    · obtain rfl : i = k := by omega
      exact Int.dvd_mul_left _ _
theorem fine_sc {D y : Int} {ps : List (Int × Int)} (h : ∀ i, i < ps.length → hgt ps i ∣ D) : Fine (D * y) (sc D ps) := by
  intro i hi hne
  rw [sc_len] at hi
  rw [sc_len, sc_at, sc_at] at hne ⊢
  dsimp only at hne ⊢
  have hg := h i hi
  have hne' : (ptA ps (nx ps.length i)).2 ≠ (ptA ps i).2 := fun e => hne (by rw [e])
  unfold hgt at hg
  rw [if_neg hne'] at hg
  have hg2 : ((ptA ps (nx ps.length i)).2 - (ptA ps i).2) ∣ D := Int.natAbs_dvd.1 hg
  obtain ⟨k, hk⟩ := hg2
  generalize (ptA ps (nx ps.length i)).2 = bz at *
  generalize (ptA ps i).2 = ay at *
  generalize (ptA ps (nx ps.length i)).1 = bx at *
  generalize (ptA ps i).1 = ax at *
  refine ⟨(bx - ax) * k * (y - ay), ?_⟩
  have e1 : D * bz - D * ay = D * (bz - ay) := by grind
  have e2 : (D * bx - D * ax) * (D * y - D * ay) = D * (bx - ax) * (D * (y - ay)) := by grind
  rw [e1, e2]
  have e3 : D * (y - ay) = (bz - ay) * k * (y - ay) := by rw [← hk]
  rw [e3]
  grind
theorem level_point {ax ay bx bz y ux vx : Int} (f : bz ≠ ay → (bz - ay) ∣ (bx - ax) * (y - ay)) (huv : ux ≤ vx) (m : MT ax ay bx bz ux y vx y) : ∃ x, ux ≤ x ∧ x ≤ vx ∧ ON ax ay bx bz x y := by
  obtain ⟨h1, h2, h3, h4⟩ := m
  unfold RG at h1 h2
  by_cases hb : bz = ay
  · subst hb
    have hy : bz = y := by omega
    subst hy
    have hmm : min ax bx ≤ max ax bx := by omega
    refine ⟨max (min ax bx) ux, by omega, by omega, ?_, ?_, ?_⟩
    · unfold ar
      simp
    · exact btw_mul.1 (btw_iff.2 (by omega))
    · simp
  · obtain ⟨k, hk⟩ := f hb
    have e : ∀ z, ar ax ay bx bz z y = (bz - ay) * (ax + k - z) := by
      intro z
      unfold ar
      rw [hk]
      grind
    have on0 : ar ax ay bx bz (ax + k) y = 0 := by rw [e]; simp
    have hon : ON ax ay bx bz (ax + k) y := by
      rcases Int.lt_or_le ay bz with c | c
      · exact on_line on0 (by omega) (by omega) c
      · have on1 : ar bx bz ax ay (ax + k) y = 0 := by rw [ar_swap, on0]; rfl
        obtain ⟨g1, g2, g3⟩ := on_line on1 (by omega) (by omega) (show bz < ay by omega)
        exact ⟨on0, by rw [Int.mul_comm]; exact g2, by rw [Int.mul_comm]; exact g3⟩
    rw [e, e] at h3
    have hp : 0 < (bz - ay) * (bz - ay) := sq_pos (by omega)
    have e5 : (bz - ay) * (ax + k - ux) * ((bz - ay) * (ax + k - vx)) = (bz - ay) * (bz - ay) * ((ax + k - ux) * (ax + k - vx)) := by grind
    have h5 : (ax + k - ux) * (ax + k - vx) ≤ 0 := by
      have := pos_mul_iff (a := (bz - ay) * (bz - ay)) (b := (ax + k - ux) * (ax + k - vx)) hp
      omega
    have h6 : (ux - (ax + k)) * (vx - (ax + k)) ≤ 0 := by
      have e6 : (ux - (ax + k)) * (vx - (ax + k)) = (ax + k - ux) * (ax + k - vx) := by grind
      omega
    have h7 := between_of h6
    exact ⟨ax + k, by omega, by omega, hon⟩
theorem first_of {S : Nat → Prop} (h : ∃ d, S d) : ∃ d, S d ∧ ∀ d', d' < d → ¬ S d' := by
  obtain ⟨d, hd⟩ := h
  induction d using Nat.strongRecOn with
  | ind d ih =>
    rcases Classical.em (∃ d', d' < d ∧ S d') with ⟨d', h1, h2⟩ | c
    · exact ih d' h1 h2
    · exact ⟨d, hd, fun d' h1 h2 => c ⟨d', h1, h2⟩⟩
theorem nearest {ps qs : List (Int × Int)} {p : Int × Int} (h0 : 0 < ps.length) (fp : Fine p.2 ps) (fq : Fine p.2 qs) (a : apartR ps qs) (hp : parR ps p = true) :
    (∃ i r, i < ps.length ∧ onI ps i r ∧ freeR qs p r) ∨ (∃ k r, k < qs.length ∧ onI qs k r ∧ freeR ps p r) := by
  -- something of the first ring is there
  have hex : ∃ d : Nat, (∃ i, i < ps.length ∧ onI ps i (p.1 + d, p.2)) ∨ (∃ k, k < qs.length ∧ onI qs k (p.1 + d, p.2)) := by
    obtain ⟨m, hm, far⟩ := far_corner ps ps.length h0
    have hM : ∃ M, p.1 ≤ M ∧ (ptA ps m).1 ≤ M := ⟨max p.1 (ptA ps m).1, by omega, by omega⟩
    obtain ⟨M, M1, M2⟩ := hM
    have hf : parR ps (M, p.2) = false := parR_far (fun i hi => Int.le_trans (far i hi) M2)
    have hn : ¬ freeR ps p (M, p.2) := fun q => by
      rw [parR_along h0 q, hf] at hp
      cases hp
    have hs : ∃ i, i < ps.length ∧ MT (ptA ps i).1 (ptA ps i).2 (ptA ps (nx ps.length i)).1 (ptA ps (nx ps.length i)).2 p.1 p.2 M p.2 := by
      rcases Classical.em (∃ i, i < ps.length ∧ MT (ptA ps i).1 (ptA ps i).2 (ptA ps (nx ps.length i)).1 (ptA ps (nx ps.length i)).2 p.1 p.2 M p.2) with c | c
      · exact c
      · exact absurd (fun i hi m => c ⟨i, hi, m⟩) hn
    obtain ⟨i, hi, mt⟩ := hs
    obtain ⟨x, x1, x2, on⟩ := level_point (fp i hi) M1 mt
    refine ⟨(x - p.1).toNat, .inl ⟨i, hi, ?_⟩⟩
    rw [show p.1 + ((x - p.1).toNat : Int) = x by omega]
    exact on
  obtain ⟨d, hd, first⟩ := first_of hex
  have hle : p.1 ≤ p.1 + (d : Int) := by omega
  rcases hd with ⟨i, hi, on⟩ | ⟨k, hk, on⟩
  · refine .inl ⟨i, (p.1 + d, p.2), hi, on, fun k hk mt => ?_⟩
    obtain ⟨x, x1, x2, on2⟩ := level_point (fq k hk) hle mt
    have hd' : ¬ (x - p.1).toNat < d := fun q => first _ q (.inr ⟨k, hk, by rw [show p.1 + ((x - p.1).toNat : Int) = x by omega]; exact on2⟩)
    have hx : x = p.1 + d := by omega
    subst hx
    exact a i hi k hk (MT_common on2 on)
  · refine .inr ⟨k, (p.1 + d, p.2), hk, on, fun i hi mt => ?_⟩
    obtain ⟨x, x1, x2, on2⟩ := level_point (fp i hi) hle mt
    have hd' : ¬ (x - p.1).toNat < d := fun q => first _ q (.inl ⟨i, hi, by rw [show p.1 + ((x - p.1).toNat : Int) = x by omega]; exact on2⟩)
    have hx : x = p.1 + d := by omega
    subst hx
    exact a i hi k hk (MT_common on on2)
theorem nearest_tells {ps qs : List (Int × Int)} {p : Int × Int} (h0 : 0 < ps.length) (hq : 0 < qs.length) (a : apartR ps qs) (hp : parR ps p = true) : parR qs p = parR qs (ptA ps 0) ∨ parR ps (ptA qs 0) = true := by
  have D1 := hgts_pos ps ps.length
  have D2 := hgts_pos qs qs.length
  obtain ⟨D, hD⟩ : ∃ D, D = hgts ps ps.length * hgts qs qs.length := ⟨_, rfl⟩
  have D0 : 0 < D := by rw [hD]; exact Int.mul_pos D1 D2
  have f1 : Fine (D * p.2) (sc D ps) := fine_sc (fun i hi => by rw [hD]; exact Int.dvd_trans (hgts_dvd ps hi) (Int.dvd_mul_right _ _))
  have f2 : Fine (D * p.2) (sc D qs) := fine_sc (fun i hi => by rw [hD]; exact Int.dvd_trans (hgts_dvd qs hi) (Int.dvd_mul_left _ _))
  have a' := apartR_sc D0 a
  have l1 : 0 < (sc D ps).length := by rw [sc_len]; exact h0
  have l2 : 0 < (sc D qs).length := by rw [sc_len]; exact hq
  have hp' : parR (sc D ps) (D * p.1, D * p.2) = true := by rw [parR_sc D0]; exact hp
  rcases nearest (p := (D * p.1, D * p.2)) l1 f1 f2 a' hp' with ⟨i, r, hi, on, fr⟩ | ⟨k, r, hk, on, fr⟩
  · left
    have e1 := parR_along l2 fr
    have e2 := parR_edge l2 a' hi on
    rw [sc_at, parR_sc D0] at e2
    rw [parR_sc D0] at e1
    rw [e1, e2]
  · right
    have e1 := parR_along l1 fr
    have e2 := parR_edge l1 a'.comm hk on
    rw [sc_at, parR_sc D0] at e2
    rw [hp'] at e1
    rw [← e2, ← e1]
theorem hole_in {o h : List (Int × Int)} {p : Int × Int} (ho : 0 < o.length) (hh : 0 < h.length) (a : apartR h o) (hin : parR o (ptA h 0) = true) (hp : parR h p = true) : parR o p = true := by
  rcases nearest_tells hh ho a hp with e | e
  · rw [e]; exact hin
  · rw [outer_out ho hh a hin] at e
    cases e
theorem holes_out {g h : List (Int × Int)} {p : Int × Int} (hg : 0 < g.length) (hh : 0 < h.length) (a : apartR g h) (h1 : parR h (ptA g 0) = false) (h2 : parR g (ptA h 0) = false) (hp : parR g p = true) : parR h p = false := by
  rcases nearest_tells hg hh a hp with e | e
  · rw [e]; exact h1
  · rw [h2] at e
    cases e
open Go.RowKit

def badE (ps : List (Int × Int)) (i k : Nat) : Bool :=
  if k = i + 1 then
    onB (ptA ps i).1 (ptA ps i).2 (ptA ps (nx ps.length i)).1 (ptA ps (nx ps.length i)).2 (ptA ps (nx ps.length k)).1 (ptA ps (nx ps.length k)).2 || onB (ptA ps k).1 (ptA ps k).2 (ptA ps (nx ps.length k)).1 (ptA ps (nx ps.length k)).2 (ptA ps i).1 (ptA ps i).2
  else if i = 0 ∧ k = ps.length - 1 then
    onB (ptA ps i).1 (ptA ps i).2 (ptA ps (nx ps.length i)).1 (ptA ps (nx ps.length i)).2 (ptA ps k).1 (ptA ps k).2 || onB (ptA ps k).1 (ptA ps k).2 (ptA ps (nx ps.length k)).1 (ptA ps (nx ps.length k)).2 (ptA ps (nx ps.length i)).1 (ptA ps (nx ps.length i)).2
  else metI (ptA ps i).1 (ptA ps i).2 (ptA ps (nx ps.length i)).1 (ptA ps (nx ps.length i)).2 (ptA ps k).1 (ptA ps k).2 (ptA ps (nx ps.length k)).1 (ptA ps (nx ps.length k)).2
def slfE (ps : List (Int × Int)) (i : Nat) : Nat → Bool
  | 0 => false
  | k + 1 => slfE ps i k || (decide (i < k) && badE ps i k)
def slf (ps : List (Int × Int)) : Nat → Bool
  | 0 => false
  | i + 1 => slf ps i || slfE ps i ps.length
theorem slfE_low (ps : List (Int × Int)) (i : Nat) : ∀ k, k ≤ i + 1 → slfE ps i k = false
  | 0, _ => rfl
  | k + 1, h => by
    simp only [slfE]
    rw [slfE_low ps i k (by omega), decide_eq_false (by omega)]
    rfl
theorem slfE_mono {ps : List (Int × Int)} {i : Nat} : ∀ {k m : Nat}, k ≤ m → slfE ps i k = true → slfE ps i m = true
  | k, 0, h, e => by obtain rfl : k = 0 := by omega
                     exact e
  | k, m + 1, h, e => by
    rcases Nat.lt_or_ge m k with c | c
    · obtain rfl : k = m + 1 := by omega
      exact e
    · simp only [slfE]
      rw [slfE_mono c e]
      rfl
theorem slf_mono {ps : List (Int × Int)} : ∀ {k m : Nat}, k ≤ m → slf ps k = true → slf ps m = true
  | k, 0, h, e => by obtain rfl : k = 0 := by omega
                     exact e
  | k, m + 1, h, e => by
    rcases Nat.lt_or_ge m k with c | c
    · obtain rfl : k = m + 1 := by omega
      exact e
    · simp only [slf]
      rw [slf_mono c e]
      rfl
theorem slf_found {ps : List (Int × Int)} {i k : Nat} (hi : i < k) (hk : k < ps.length) (h : badE ps i k = true) : slf ps ps.length = true := by
  have h1 : slfE ps i (k + 1) = true := by simp only [slfE]; rw [h, decide_eq_true hi]; simp
  have h2 := slfE_mono (show k + 1 ≤ ps.length by omega) h1
  have h3 : slf ps (i + 1) = true := by simp only [slf]; rw [h2]; simp
  exact slf_mono (show i + 1 ≤ ps.length by omega) h3
theorem slfE_step {ps : List (Int × Int)} {i k : Nat} (h : slfE ps i k = false) (hb : badE ps i k = false) : slfE ps i (k + 1) = false := by simp only [slfE]; rw [h, hb]; simp

set_option maxRecDepth 20000 in
set_option maxHeartbeats 2500000 in
theorem l5Self_any (a : Option Addr) (c : Nat) (ps : List (Int × Int)) (w : World) (h : SeesP w a c ps) (ok : okL ps = true) :
    Calls Tryz.prog 92 #[.slice a ps.length c] w fun e w' => ∃ z : Int, e = .returned (.int .i64 z) ∧ Hid (decide (0 ≤ z) = slf ps ps.length ∧ -1 ≤ z ∧ z < ps.length + 1) ∧ Below w.heap.size w w' := by
  have hm := h.max
  have hf := h.fits
  unfold maxLen at hm
  go_enter Tryz.func92, Tryz.ntmps92
  go_wp2
  go_loopw [4, 5, 6, 7, 8, 9] (fun s4 _ _ _ _ _ wr => ∃ j : Nat, j ≤ ps.length ∧ s4 = .int .i64 j ∧ Hid (slf ps j = false) ∧ Below w.heap.size w wr) (fun s4 _ _ _ _ _ _ => ps.length - (intOf s4).toNat)
  case atStart => exact ⟨0, Nat.zero_le _, rfl, rfl, Below.refl _ _⟩
  case round =>
    obtain ⟨j, hj, rfl, T, B⟩ := hrel
    rename World => wr
    by_cases hlt : j < ps.length
    · obtain ⟨a1, a2⟩ := okL_at ok hlt
      obtain ⟨a3, a4⟩ := okL_at ok (nx_lt hlt)
      go_wp2_with fail
      refine (l5Edge_any a c ps j _ (h.below B) hlt).mono ?_
      rintro e w1 ⟨rfl, hb⟩
      replace B := B.trans (hb.mono B.size)
      clear hb
      obtain ⟨x, hx⟩ : ∃ z, Hid ((ptA ps j).1 = z) := ⟨_, rfl⟩
      obtain ⟨y, hy⟩ : ∃ z, Hid ((ptA ps j).2 = z) := ⟨_, rfl⟩
      obtain ⟨u, hu⟩ : ∃ z, Hid ((ptA ps (nx ps.length j)).1 = z) := ⟨_, rfl⟩
      obtain ⟨v, hv⟩ : ∃ z, Hid ((ptA ps (nx ps.length j)).2 = z) := ⟨_, rfl⟩
      rw [hx.out, hy.out, hu.out, hv.out]
      rw [hx.out] at a1
      rw [hy.out] at a2
      rw [hu.out] at a3
      rw [hv.out] at a4
      have V1 := (Box2.new w1 (lo := w.heap.size) B.size (.int .i64 x) (.int .i64 y) 38).below (below1 _ (.cells #[.int .i64 u, .int .i64 v] 38))
      have V2 := Box2.new (w1.alloc (.cells #[.int .i64 x, .int .i64 y] 38)) (lo := w.heap.size) (by have := B.size; simp; omega) (.int .i64 u) (.int .i64 v) 38
      rw [World.size_alloc] at V2
      have bn := below2 w1 (.cells #[.int .i64 x, .int .i64 y] 38) (.cells #[.int .i64 u, .int .i64 v] 38)
      replace B := B.trans (bn.mono B.size)
      clear bn
      go_wp2_with fail
      generalize (w1.alloc (.cells #[.int .i64 x, .int .i64 y] 38)).alloc (.cells #[.int .i64 u, .int .i64 v] 38) = W1 at *
      generalize w1.heap.size = q1 at *
      go_loopw [7, 8, 9] (fun s7 _ _ wi => ∃ i : Nat, j + 1 ≤ i ∧ i ≤ ps.length ∧ s7 = .int .i64 i ∧ Hid (slfE ps j i = false) ∧ Below W1.heap.size W1 wi) (fun s7 _ _ _ => ps.length - (intOf s7).toNat)
      case atStart => exact ⟨j + 1, by omega, by omega, by go_num, slfE_low ps j (j + 1) (by omega), Below.refl _ _⟩
      case round =>
        obtain ⟨i, hji, hi, rfl, M, Bi⟩ := hrel
        rename World => wi
        by_cases hli : i < ps.length
        · obtain ⟨c1, c2⟩ := okL_at ok hli
          obtain ⟨c3, c4⟩ := okL_at ok (nx_lt hli)
          go_wp2_with fail
          refine (l5Edge_any a c ps i _ ((h.below B).below Bi) hli).mono ?_
          rintro e w2 ⟨rfl, hb⟩
          replace Bi := Bi.trans (hb.mono Bi.size)
          clear hb
          have E : Hid (badE ps j i = if i = j + 1 then onB x y u v (ptA ps (nx ps.length i)).1 (ptA ps (nx ps.length i)).2 || onB (ptA ps i).1 (ptA ps i).2 (ptA ps (nx ps.length i)).1 (ptA ps (nx ps.length i)).2 x y else if j = 0 ∧ i = ps.length - 1 then onB x y u v (ptA ps i).1 (ptA ps i).2 || onB (ptA ps i).1 (ptA ps i).2 (ptA ps (nx ps.length i)).1 (ptA ps (nx ps.length i)).2 u v else metI x y u v (ptA ps i).1 (ptA ps i).2 (ptA ps (nx ps.length i)).1 (ptA ps (nx ps.length i)).2) := by
            show _ = _
            unfold badE
            rw [hx.out, hy.out, hu.out, hv.out]
          generalize (ptA ps i).1 = x2 at *
          generalize (ptA ps i).2 = y2 at *
          generalize (ptA ps (nx ps.length i)).1 = u2 at *
          generalize (ptA ps (nx ps.length i)).2 = v2 at *
          have V3 := (Box2.new w2 (lo := w.heap.size) (Nat.le_trans B.size Bi.size) (.int .i64 x2) (.int .i64 y2) 38).below (below1 _ (.cells #[.int .i64 u2, .int .i64 v2] 38))
          have V4 := Box2.new (w2.alloc (.cells #[.int .i64 x2, .int .i64 y2] 38)) (lo := w.heap.size) (by have := Nat.le_trans B.size Bi.size; simp; omega) (.int .i64 u2) (.int .i64 v2) 38
          rw [World.size_alloc] at V4
          have bn := below2 w2 (.cells #[.int .i64 x2, .int .i64 y2] 38) (.cells #[.int .i64 u2, .int .i64 v2] 38)
          replace Bi := Bi.trans (bn.mono Bi.size)
          clear bn
          have RF : Hid (badE ps j i = true → decide (0 ≤ (j : Int)) = slf ps ps.length ∧ -1 ≤ (j : Int) ∧ (j : Int) < ps.length + 1) := fun q => ⟨by rw [slf_found (show j < i by omega) hli q]; simp, by omega, by omega⟩
          have RN : Hid (badE ps j i = false → slfE ps j (i + 1) = false) := fun q => slfE_step M.out q
          clear M
          obtain ⟨g0, g1, _, _⟩ := V1.below Bi
          obtain ⟨g2, g3, _, _⟩ := V2.below Bi
          obtain ⟨g4, g5, _, _⟩ := id V3
          obtain ⟨g6, g7, _, _⟩ := id V4
          by_cases hk : i = j + 1
          · have E2 := E
            rw [if_pos hk] at E2
            have hkb : ((i : Int) == (j : Int) + 1) = true := by rw [hk]; simp
            clear E
            go_upto_region 12 with fail
            clear g0 g1 g2 g3 g4 g5 g6 g7
            generalize (w2.alloc (.cells #[.int .i64 x2, .int .i64 y2] 38)).alloc (.cells #[.int .i64 u2, .int .i64 v2] 38) = W2 at *
            generalize w2.heap.size = q2 at *
            obtain ⟨g0, g1, _, _⟩ := V1.below Bi
            obtain ⟨g2, g3, _, _⟩ := V2.below Bi
            obtain ⟨g4, g5, _, _⟩ := id V3
            obtain ⟨g6, g7, _, _⟩ := id V4
            go_wp2_with fail
            refine (l3On_any x y u v u2 v2 _ a1 a2 a3 a4 c3 c4).mono ?_
            rintro e w3 ⟨rfl, hb⟩
            replace Bi := Bi.trans (hb.mono Bi.size)
            replace V3 := V3.below hb
            replace V4 := V4.below hb
            clear hb g0 g1 g2 g3 g4 g5 g6 g7
            cases o1 : onB x y u v u2 v2
            · rw [o1, Bool.false_or] at E2
              obtain ⟨g0, g1, _, _⟩ := V1.below Bi
              obtain ⟨g4, g5, _, _⟩ := id V3
              obtain ⟨g6, g7, _, _⟩ := id V4
              go_wp2_with fail
              refine (l3On_any x2 y2 u2 v2 x y _ c1 c2 c3 c4 a1 a2).mono ?_
              rintro e w4 ⟨rfl, hb⟩
              replace Bi := Bi.trans (hb.mono Bi.size)
              clear hb g0 g1 g4 g5 g6 g7
              cases o2 : onB x2 y2 u2 v2 x y
              · rw [o2] at E2
                have R := RN.out E2.out
                clear RN RF
                go_wp2
                go_roundw
                case rel => exact ⟨i + 1, by omega, by omega, by go_num, R, Bi⟩
                case measure => simp [intOf]; omega
              · rw [o2] at E2
                have R4 : Hid (decide (0 ≤ (j : Int)) = slf ps ps.length ∧ -1 ≤ (j : Int) ∧ (j : Int) < ps.length + 1) := RF.out E2.out
                clear RN RF
                go_wp2
                go_ret
                exact ⟨_, rfl, R4, B.trans (Bi.mono B.size)⟩
            · rw [o1, Bool.true_or] at E2
              have R4 : Hid (decide (0 ≤ (j : Int)) = slf ps ps.length ∧ -1 ≤ (j : Int) ∧ (j : Int) < ps.length + 1) := RF.out E2.out
              clear RN RF
              go_wp2
              go_ret
              exact ⟨_, rfl, R4, B.trans (Bi.mono B.size)⟩
          · by_cases hz : j = 0 ∧ i = ps.length - 1
            · have E2 := E
              rw [if_neg hk, if_pos hz] at E2
              have hkb : ((i : Int) == (j : Int) + 1) = false := by rw [beq_eq_false_iff_ne]; omega
              have hj0 : ((j : Int) == 0) = true := by rw [hz.1]; rfl
              have hin : ((i : Int) == (ps.length : Int) - 1) = true := by rw [beq_iff_eq]; omega
              clear E hz
              go_upto_region 12 with fail
              clear g0 g1 g2 g3 g4 g5 g6 g7
              generalize (w2.alloc (.cells #[.int .i64 x2, .int .i64 y2] 38)).alloc (.cells #[.int .i64 u2, .int .i64 v2] 38) = W2 at *
              generalize w2.heap.size = q2 at *
              obtain ⟨g0, g1, _, _⟩ := V1.below Bi
              obtain ⟨g2, g3, _, _⟩ := V2.below Bi
              obtain ⟨g4, g5, _, _⟩ := id V3
              obtain ⟨g6, g7, _, _⟩ := id V4
              go_wp2_with fail
              refine (l3On_any x y u v x2 y2 _ a1 a2 a3 a4 c1 c2).mono ?_
              rintro e w3 ⟨rfl, hb⟩
              replace Bi := Bi.trans (hb.mono Bi.size)
              replace V3 := V3.below hb
              replace V4 := V4.below hb
              clear hb g0 g1 g2 g3 g4 g5 g6 g7
              cases o1 : onB x y u v x2 y2
              · rw [o1, Bool.false_or] at E2
                obtain ⟨g0, g1, _, _⟩ := V2.below Bi
                obtain ⟨g4, g5, _, _⟩ := id V3
                obtain ⟨g6, g7, _, _⟩ := id V4
                go_wp2_with fail
                refine (l3On_any x2 y2 u2 v2 u v _ c1 c2 c3 c4 a3 a4).mono ?_
                rintro e w4 ⟨rfl, hb⟩
                replace Bi := Bi.trans (hb.mono Bi.size)
                clear hb g0 g1 g4 g5 g6 g7
                cases o2 : onB x2 y2 u2 v2 u v
                · rw [o2] at E2
                  have R := RN.out E2.out
                  clear RN RF
                  go_wp2
                  go_roundw
                  case rel => exact ⟨i + 1, by omega, by omega, by go_num, R, Bi⟩
                  case measure => simp [intOf]; omega
                · rw [o2] at E2
                  have R4 : Hid (decide (0 ≤ (j : Int)) = slf ps ps.length ∧ -1 ≤ (j : Int) ∧ (j : Int) < ps.length + 1) := RF.out E2.out
                  clear RN RF
                  go_wp2
                  go_ret
                  exact ⟨_, rfl, R4, B.trans (Bi.mono B.size)⟩
              · rw [o1, Bool.true_or] at E2
                have R4 : Hid (decide (0 ≤ (j : Int)) = slf ps ps.length ∧ -1 ≤ (j : Int) ∧ (j : Int) < ps.length + 1) := RF.out E2.out
                clear RN RF
                go_wp2
                go_ret
                exact ⟨_, rfl, R4, B.trans (Bi.mono B.size)⟩
            · by_cases hjz : j = 0
              · have E2 := E
                rw [if_neg hk, if_neg hz] at E2
                have hkb : ((i : Int) == (j : Int) + 1) = false := by rw [beq_eq_false_iff_ne]; omega
                have hj0 : ((j : Int) == 0) = true := by rw [hjz]; rfl
                have hin : ((i : Int) == (ps.length : Int) - 1) = false := by rw [beq_eq_false_iff_ne]; intro q; exact hz ⟨hjz, by omega⟩
                clear E hz hjz
                go_upto_region 12 with fail
                clear g0 g1 g2 g3 g4 g5 g6 g7
                generalize (w2.alloc (.cells #[.int .i64 x2, .int .i64 y2] 38)).alloc (.cells #[.int .i64 u2, .int .i64 v2] 38) = W2 at *
                generalize w2.heap.size = q2 at *
                obtain ⟨g0, g1, _, _⟩ := V1.below Bi
                obtain ⟨g2, g3, _, _⟩ := V2.below Bi
                obtain ⟨g4, g5, _, _⟩ := id V3
                obtain ⟨g6, g7, _, _⟩ := id V4
                go_wp2_with fail
                refine (l3Meet_any x y u v x2 y2 u2 v2 _ a1 a2 a3 a4 c1 c2 c3 c4).mono ?_
                rintro e w3 ⟨rfl, hb⟩
                rw [← met_same]
                replace Bi := Bi.trans (hb.mono Bi.size)
                clear hb g0 g1 g2 g3 g4 g5 g6 g7
                cases o1 : metI x y u v x2 y2 u2 v2
                · rw [o1] at E2
                  have R := RN.out E2.out
                  clear RN RF
                  go_wp2
                  go_roundw
                  case rel => exact ⟨i + 1, by omega, by omega, by go_num, R, Bi⟩
                  case measure => simp [intOf]; omega
                · rw [o1] at E2
                  have R4 : Hid (decide (0 ≤ (j : Int)) = slf ps ps.length ∧ -1 ≤ (j : Int) ∧ (j : Int) < ps.length + 1) := RF.out E2.out
                  clear RN RF
                  go_wp2
                  go_ret
                  exact ⟨_, rfl, R4, B.trans (Bi.mono B.size)⟩
              · have E2 := E
                rw [if_neg hk, if_neg hz] at E2
                have hkb : ((i : Int) == (j : Int) + 1) = false := by rw [beq_eq_false_iff_ne]; omega
                have hj0 : ((j : Int) == 0) = false := by rw [beq_eq_false_iff_ne]; omega
                clear E hz hjz
                go_upto_region 12 with fail
                clear g0 g1 g2 g3 g4 g5 g6 g7
                generalize (w2.alloc (.cells #[.int .i64 x2, .int .i64 y2] 38)).alloc (.cells #[.int .i64 u2, .int .i64 v2] 38) = W2 at *
                generalize w2.heap.size = q2 at *
                obtain ⟨g0, g1, _, _⟩ := V1.below Bi
                obtain ⟨g2, g3, _, _⟩ := V2.below Bi
                obtain ⟨g4, g5, _, _⟩ := id V3
                obtain ⟨g6, g7, _, _⟩ := id V4
                go_wp2_with fail
                refine (l3Meet_any x y u v x2 y2 u2 v2 _ a1 a2 a3 a4 c1 c2 c3 c4).mono ?_
                rintro e w3 ⟨rfl, hb⟩
                rw [← met_same]
                replace Bi := Bi.trans (hb.mono Bi.size)
                clear hb g0 g1 g2 g3 g4 g5 g6 g7
                cases o1 : metI x y u v x2 y2 u2 v2
                · rw [o1] at E2
                  have R := RN.out E2.out
                  clear RN RF
                  go_wp2
                  go_roundw
                  case rel => exact ⟨i + 1, by omega, by omega, by go_num, R, Bi⟩
                  case measure => simp [intOf]; omega
                · rw [o1] at E2
                  have R4 : Hid (decide (0 ≤ (j : Int)) = slf ps ps.length ∧ -1 ≤ (j : Int) ∧ (j : Int) < ps.length + 1) := RF.out E2.out
                  clear RN RF
                  go_wp2
                  go_ret
                  exact ⟨_, rfl, R4, B.trans (Bi.mono B.size)⟩
        · obtain rfl : i = ps.length := by omega
          go_wp2
          go_roundw
          case rel => exact ⟨j + 1, by omega, by go_num, (by show _ = _; simp only [slf]; rw [T.out, M.out]; rfl), B.trans (Bi.mono B.size)⟩
          case measure => simp [intOf]; omega
    · obtain rfl : j = ps.length := by omega
      go_wp2
      go_ret
      exact ⟨-1, rfl, ⟨by rw [T.out]; rfl, by omega, by omega⟩, B⟩
open Go.RowKit

theorem liesBack_any (x1 y1 x2 y2 x3 y3 : Int) (w : World) (c1 : Crd x1) (d1 : Crd y1) (c2 : Crd x2) (d2 : Crd y2) (c3 : Crd x3) (d3 : Crd y3) :
    Calls Tryz.prog 147 #[.agg #[.int .i64 x1, .int .i64 y1], .agg #[.int .i64 x2, .int .i64 y2], .agg #[.int .i64 x3, .int .i64 y3]] w fun e w' => e = .returned (.bool (onB x1 y1 x2 y2 x3 y3 || onB x2 y2 x3 y3 x1 y1)) ∧ Below w.heap.size w w' := by
  have k0 := ptbox3 w x1 y1 x2 y2 x3 y3 38
  have B := ptbelow3 w x1 y1 x2 y2 x3 y3 38
  obtain ⟨q1, q2, q3, q4, q5, q6⟩ := id k0
  cases o1 : onB x1 y1 x2 y2 x3 y3
  · rw [Bool.false_or]
    go_enter Tryz.func147, Tryz.ntmps147
    go_wp2_with fail
    generalize (((w.alloc (.cells #[.int .i64 x1, .int .i64 y1] 38)).alloc (.cells #[.int .i64 x2, .int .i64 y2] 38)).alloc (.cells #[.int .i64 x3, .int .i64 y3] 38)) = W0 at *
    refine (onSeg_any x1 y1 x2 y2 x3 y3 _ c1 d1 c2 d2 c3 d3).mono ?_
    rintro e w1 ⟨rfl, hb⟩
    rw [o1]
    replace q1 := bat hb q1
    replace q2 := bat hb q2
    replace q3 := bat hb q3
    replace q4 := bat hb q4
    replace q5 := bat hb q5
    replace q6 := bat hb q6
    replace B := B.trans (hb.mono B.size)
    clear hb k0 o1
    go_wp2_with fail
    refine (onSeg_any x2 y2 x3 y3 x1 y1 _ c2 d2 c3 d3 c1 d1).mono ?_
    rintro e w2 ⟨rfl, hb⟩
    replace B := B.trans (hb.mono B.size)
    clear hb q1 q2 q3 q4 q5 q6
    go_wp2
    go_ret
    exact ⟨rfl, B⟩
  · rw [Bool.true_or]
    go_enter Tryz.func147, Tryz.ntmps147
    go_wp2_with fail
    generalize (((w.alloc (.cells #[.int .i64 x1, .int .i64 y1] 38)).alloc (.cells #[.int .i64 x2, .int .i64 y2] 38)).alloc (.cells #[.int .i64 x3, .int .i64 y3] 38)) = W0 at *
    refine (onSeg_any x1 y1 x2 y2 x3 y3 _ c1 d1 c2 d2 c3 d3).mono ?_
    rintro e w1 ⟨rfl, hb⟩
    rw [o1]
    replace B := B.trans (hb.mono B.size)
    clear hb q1 q2 q3 q4 q5 q6 k0 o1
    go_wp2
    go_ret
    exact ⟨rfl, B⟩

theorem badE_next {ps : List (Int × Int)} {i k : Nat} (h : k = i + 1) (hk : k < ps.length) : badE ps i k = (onB (ptA ps i).1 (ptA ps i).2 (ptA ps (nx ps.length i)).1 (ptA ps (nx ps.length i)).2 (ptA ps (nx ps.length k)).1 (ptA ps (nx ps.length k)).2 || onB (ptA ps (nx ps.length i)).1 (ptA ps (nx ps.length i)).2 (ptA ps (nx ps.length k)).1 (ptA ps (nx ps.length k)).2 (ptA ps i).1 (ptA ps i).2) := by
  unfold badE
  rw [if_pos h]
  have e : nx ps.length i = k := by unfold nx; rw [Nat.mod_eq_of_lt (by omega)]; omega
  rw [e]
theorem badE_last {ps : List (Int × Int)} {i k : Nat} (h : ¬ k = i + 1) (h0 : i = 0) (hk : k = ps.length - 1) (hn : 0 < ps.length) : badE ps i k = (onB (ptA ps k).1 (ptA ps k).2 (ptA ps (nx ps.length k)).1 (ptA ps (nx ps.length k)).2 (ptA ps (nx ps.length i)).1 (ptA ps (nx ps.length i)).2 || onB (ptA ps (nx ps.length k)).1 (ptA ps (nx ps.length k)).2 (ptA ps (nx ps.length i)).1 (ptA ps (nx ps.length i)).2 (ptA ps k).1 (ptA ps k).2) := by
  unfold badE
  rw [if_neg h, if_pos ⟨h0, hk⟩]
  have e : nx ps.length k = i := by unfold nx; rw [hk, Nat.sub_add_cancel hn, Nat.mod_self, h0]
  rw [e, Bool.or_comm]
theorem badE_other {ps : List (Int × Int)} {i k : Nat} (h : ¬ k = i + 1) (h0 : ¬ (i = 0 ∧ k = ps.length - 1)) : badE ps i k = metI (ptA ps i).1 (ptA ps i).2 (ptA ps (nx ps.length i)).1 (ptA ps (nx ps.length i)).2 (ptA ps k).1 (ptA ps k).2 (ptA ps (nx ps.length k)).1 (ptA ps (nx ps.length k)).2 := by
  unfold badE
  rw [if_neg h, if_neg h0]

set_option maxRecDepth 20000 in
set_option maxHeartbeats 4000000 in
theorem crossed_any (g : Nat) (ps : List (Int × Int)) (i j : Nat) (w : World) (h : SeesE w g ps.length ps.length ps) (hs : ps.length ≤ 60) (ok : okL ps = true) (hij : i < j) (hj : j < ps.length) :
    Calls Tryz.prog 129 #[.slice (some ⟨g, 0, none⟩) ps.length ps.length, .int .i64 i, .int .i64 j] w fun e w' => e = .returned (.bool (badE ps i j)) ∧ Below w.heap.size w w' := by
  have hi : i < ps.length := by omega
  obtain ⟨g1, g2, g3, g4⟩ := h.c i hi
  obtain ⟨g5, g6, g7, g8⟩ := h.c j hj
  obtain ⟨a1, a2⟩ := okL_at ok hi
  obtain ⟨a3, a4⟩ := okL_at ok (nx_lt hi)
  obtain ⟨c1, c2⟩ := okL_at ok hj
  obtain ⟨c3, c4⟩ := okL_at ok (nx_lt hj)
  have H1 : Hid (j = i + 1 → badE ps i j = _) := fun q => badE_next q hj
  have H2 : Hid (¬ j = i + 1 → i = 0 → j = ps.length - 1 → badE ps i j = _) := fun q r s => badE_last q r s (by omega)
  have H3 : Hid (¬ j = i + 1 → ¬ (i = 0 ∧ j = ps.length - 1) → badE ps i j = _) := fun q r => badE_other q r
  generalize (ptA ps i).1 = x at *
  generalize (ptA ps i).2 = y at *
  generalize (ptA ps (nx ps.length i)).1 = u at *
  generalize (ptA ps (nx ps.length i)).2 = v at *
  generalize (ptA ps j).1 = x2 at *
  generalize (ptA ps j).2 = y2 at *
  generalize (ptA ps (nx ps.length j)).1 = u2 at *
  generalize (ptA ps (nx ps.length j)).2 = v2 at *
  clear h ok
  go_enter Tryz.func129, Tryz.ntmps129
  go_upto_region 1 with fail
  go_cut [7, 8] (fun s7 s8 W => ∃ p q, s7 = .pointer (some ⟨p, 0, none⟩) ∧ s8 = .pointer (some ⟨q, 0, none⟩) ∧ Box4 w.heap.size W p (.int .i64 x) (.int .i64 y) (.int .i64 u) (.int .i64 v) ∧ Box4 w.heap.size W q (.int .i64 x2) (.int .i64 y2) (.int .i64 u2) (.int .i64 v2) ∧ Below w.heap.size w W)
  case first =>
    refine wp_region_held_drew (S := Below w.heap.size w) (by kernel_rfl) ((Below.refl _ _).drew) (fun hHeld => ?_)
    have N : Below w.heap.size w w.drew := hHeld
    revert hHeld N
    generalize w.drew = ww0
    intro hHeld N
    refine takeA (i := 0) (h := ?_)
    refine takeA (i := 1) (h := ?_)
    refine takeA (i := 2) (h := ?_)
    refine takeA (i := 3) (hy := by intro wq hSw; have q0 := bat hSw g1; have q1 := bat hSw g2; have q2 := bat hSw g3; have q3 := bat hSw g4; have q4 := bat hSw g5; have q5 := bat hSw g6; have q6 := bat hSw g7; have q7 := bat hSw g8; go_simp <;> with_reducible rfl) (h := ?_)
    refine takeA (i := 4) (h := ?_)
    refine takeA (i := 5) (h := ?_)
    refine takeA (i := 6) (h := ?_)
    refine takeA (i := 7) (hy := by intro wq hSw; have q0 := bat hSw g1; have q1 := bat hSw g2; have q2 := bat hSw g3; have q3 := bat hSw g4; have q4 := bat hSw g5; have q5 := bat hSw g6; have q6 := bat hSw g7; have q7 := bat hSw g8; go_simp <;> with_reducible rfl) (h := ?_)
    refine wpAnyH_ready (rs := [8, 9]) (by kernel_rfl) (by simp) (AllReadyH.cons (gt rfl) (fun K hK => ?_) (AllReadyH.cons (gt rfl) (fun K hK => ?_) AllReadyH.nil))
    · skip
      go_simp
      have kP := Box4.new ww0 N.size (.int .i64 0) (.int .i64 0) (.int .i64 0) (.int .i64 0) 59
      have hb := below1 ww0 (.cells #[.int .i64 0, .int .i64 0, .int .i64 0, .int .i64 0] 59)
      replace N := N.trans (hb.mono N.size)
      clear hb
      generalize ww0.alloc (.cells #[.int .i64 0, .int .i64 0, .int .i64 0, .int .i64 0] 59) = ww1 at *
      refine hK.out _ _ N (fun hHeld => ?_)
      clear hK K
      try simp only [Act.put, sA, sB, sC]
      refine rdA (i := 9) (h := fun K hK => ?_)
      go_simp
      have kQ := Box4.new ww1 N.size (.int .i64 0) (.int .i64 0) (.int .i64 0) (.int .i64 0) 59
      have hb := below1 ww1 (.cells #[.int .i64 0, .int .i64 0, .int .i64 0, .int .i64 0] 59)
      have ne_kQ_kP := Nat.ne_of_gt kP.lt
      have ne_kP_kQ := ne_kQ_kP.symm
      replace kP := kP.below hb
      replace N := N.trans (hb.mono N.size)
      clear hb
      generalize ww1.alloc (.cells #[.int .i64 0, .int .i64 0, .int .i64 0, .int .i64 0] 59) = ww2 at *
      refine hK.out _ _ N (fun hHeld => ?_)
      clear hK K
      try simp only [Act.put, sA, sB, sC]
      refine rdA (i := 10) (h := fun K hK => ?_)
      have z0 := kP.c0
      have z1 := kP.c1
      have z2 := kP.c2
      have z3 := kP.c3
      have zf := kP.fr
      go_simp
      clear z0 z1 z2 z3 zf
      replace N := Box4.chain N kP (.int .i64 x) (.int .i64 y) (.int .i64 u) (.int .i64 v)
      replace kQ := kQ.old ne_kQ_kP (.int .i64 x) (.int .i64 y) (.int .i64 u) (.int .i64 v)
      replace kP := kP.put (.int .i64 x) (.int .i64 y) (.int .i64 u) (.int .i64 v)
      refine hK.out _ _ N (fun hHeld => ?_)
      clear hK K
      try simp only [Act.put, sA, sB, sC]
      refine rdA (i := 11) (h := fun K hK => ?_)
      have z0 := kQ.c0
      have z1 := kQ.c1
      have z2 := kQ.c2
      have z3 := kQ.c3
      have zf := kQ.fr
      go_simp
      clear z0 z1 z2 z3 zf
      replace N := Box4.chain N kQ (.int .i64 x2) (.int .i64 y2) (.int .i64 u2) (.int .i64 v2)
      replace kP := kP.old ne_kP_kQ (.int .i64 x2) (.int .i64 y2) (.int .i64 u2) (.int .i64 v2)
      replace kQ := kQ.put (.int .i64 x2) (.int .i64 y2) (.int .i64 u2) (.int .i64 v2)
      refine hK.out _ _ N (fun hHeld => ?_)
      clear hK K
      try simp only [Act.put, sA, sB, sC]
      refine wpAnyH_done (by kernel_rfl) ?_ _
      go_wp2
      go_meet
      case rel => exact ⟨_, _, rfl, rfl, kP, kQ, N⟩
    · skip
      go_simp
      have kQ := Box4.new ww0 N.size (.int .i64 0) (.int .i64 0) (.int .i64 0) (.int .i64 0) 59
      have hb := below1 ww0 (.cells #[.int .i64 0, .int .i64 0, .int .i64 0, .int .i64 0] 59)
      replace N := N.trans (hb.mono N.size)
      clear hb
      generalize ww0.alloc (.cells #[.int .i64 0, .int .i64 0, .int .i64 0, .int .i64 0] 59) = ww5 at *
      refine hK.out _ _ N (fun hHeld => ?_)
      clear hK K
      try simp only [Act.put, sA, sB, sC]
      refine rdA (i := 8) (h := fun K hK => ?_)
      go_simp
      have kP := Box4.new ww5 N.size (.int .i64 0) (.int .i64 0) (.int .i64 0) (.int .i64 0) 59
      have hb := below1 ww5 (.cells #[.int .i64 0, .int .i64 0, .int .i64 0, .int .i64 0] 59)
      have ne_kP_kQ := Nat.ne_of_gt kQ.lt
      have ne_kQ_kP := ne_kP_kQ.symm
      replace kQ := kQ.below hb
      replace N := N.trans (hb.mono N.size)
      clear hb
      generalize ww5.alloc (.cells #[.int .i64 0, .int .i64 0, .int .i64 0, .int .i64 0] 59) = ww6 at *
      refine hK.out _ _ N (fun hHeld => ?_)
      clear hK K
      try simp only [Act.put, sA, sB, sC]
      refine rdA (i := 10) (h := fun K hK => ?_)
      have z0 := kP.c0
      have z1 := kP.c1
      have z2 := kP.c2
      have z3 := kP.c3
      have zf := kP.fr
      go_simp
      clear z0 z1 z2 z3 zf
      replace N := Box4.chain N kP (.int .i64 x) (.int .i64 y) (.int .i64 u) (.int .i64 v)
      replace kQ := kQ.old ne_kQ_kP (.int .i64 x) (.int .i64 y) (.int .i64 u) (.int .i64 v)
      replace kP := kP.put (.int .i64 x) (.int .i64 y) (.int .i64 u) (.int .i64 v)
      refine hK.out _ _ N (fun hHeld => ?_)
      clear hK K
      try simp only [Act.put, sA, sB, sC]
      refine rdA (i := 11) (h := fun K hK => ?_)
      have z0 := kQ.c0
      have z1 := kQ.c1
      have z2 := kQ.c2
      have z3 := kQ.c3
      have zf := kQ.fr
      go_simp
      clear z0 z1 z2 z3 zf
      replace N := Box4.chain N kQ (.int .i64 x2) (.int .i64 y2) (.int .i64 u2) (.int .i64 v2)
      replace kP := kP.old ne_kP_kQ (.int .i64 x2) (.int .i64 y2) (.int .i64 u2) (.int .i64 v2)
      replace kQ := kQ.put (.int .i64 x2) (.int .i64 y2) (.int .i64 u2) (.int .i64 v2)
      refine hK.out _ _ N (fun hHeld => ?_)
      clear hK K
      try simp only [Act.put, sA, sB, sC]
      refine wpAnyH_done (by kernel_rfl) ?_ _
      go_wp2
      go_meet
      case rel => exact ⟨_, _, rfl, rfl, kP, kQ, N⟩
  obtain ⟨p, q, rfl, rfl, VP, VQ, B⟩ := hcut
  rename World => W1
  clear g1 g2 g3 g4 g5 g6 g7 g8
  obtain ⟨n0, n1, n2, n3, _, _⟩ := id VP
  obtain ⟨m0, m1, m2, m3, _, _⟩ := id VQ
  by_cases hk : j = i + 1
  · have F : Hid (badE ps i j = (onB x y u v u2 v2 || onB u v u2 v2 x y)) := H1.out hk
    have hkb : ((j : Int) == (i : Int) + 1) = true := by rw [hk]; simp
    clear H1 H2 H3
    go_wp2_with fail
    refine (liesBack_any x y u v u2 v2 _ a1 a2 a3 a4 c3 c4).mono ?_
    rintro e w2 ⟨rfl, hb⟩
    replace B := B.trans (hb.mono B.size)
    clear hb
    go_wp2
    go_ret
    exact ⟨congrArg (fun b => Ending.returned (.bool b)) F.out.symm, B⟩
  · have hkb : ((j : Int) == (i : Int) + 1) = false := by rw [beq_eq_false_iff_ne]; omega
    by_cases hz : i = 0 ∧ j = ps.length - 1
    · have F : Hid (badE ps i j = (onB x2 y2 u2 v2 u v || onB u2 v2 u v x2 y2)) := H2.out hk hz.1 hz.2
      have hj0 : ((i : Int) == 0) = true := by rw [hz.1]; rfl
      have hin : ((j : Int) == (ps.length : Int) - 1) = true := by rw [beq_iff_eq]; omega
      clear H1 H2 H3 hz
      go_wp2_with fail
      refine (liesBack_any x2 y2 u2 v2 u v _ c1 c2 c3 c4 a3 a4).mono ?_
      rintro e w2 ⟨rfl, hb⟩
      replace B := B.trans (hb.mono B.size)
      clear hb
      go_wp2
      go_ret
      exact ⟨congrArg (fun b => Ending.returned (.bool b)) F.out.symm, B⟩
    · have F : Hid (badE ps i j = metI x y u v x2 y2 u2 v2) := H3.out hk hz
      by_cases hjz : i = 0
      · have hj0 : ((i : Int) == 0) = true := by rw [hjz]; rfl
        have hin : ((j : Int) == (ps.length : Int) - 1) = false := by rw [beq_eq_false_iff_ne]; intro q; exact hz ⟨hjz, by omega⟩
        clear H1 H2 H3 hz hjz
        go_wp2_with fail
        refine (meet_any x y u v x2 y2 u2 v2 _ a1 a2 a3 a4 c1 c2 c3 c4).mono ?_
        rintro e w2 ⟨rfl, hb⟩
        replace B := B.trans (hb.mono B.size)
        clear hb
        go_wp2
        go_ret
        exact ⟨congrArg (fun b => Ending.returned (.bool b)) F.out.symm, B⟩
      · have hj0 : ((i : Int) == 0) = false := by rw [beq_eq_false_iff_ne]; omega
        clear H1 H2 H3 hz hjz
        go_wp2_with fail
        refine (meet_any x y u v x2 y2 u2 v2 _ a1 a2 a3 a4 c1 c2 c3 c4).mono ?_
        rintro e w2 ⟨rfl, hb⟩
        replace B := B.trans (hb.mono B.size)
        clear hb
        go_wp2
        go_ret
        exact ⟨congrArg (fun b => Ending.returned (.bool b)) F.out.symm, B⟩

set_option maxRecDepth 20000 in
set_option maxHeartbeats 2500000 in
theorem firstCrossed_any (g : Nat) (ps : List (Int × Int)) (w : World) (h : SeesE w g ps.length ps.length ps) (hs : ps.length ≤ 60) (ok : okL ps = true) :
    Calls Tryz.prog 107 #[.slice (some ⟨g, 0, none⟩) ps.length ps.length] w fun e w' => ∃ z : Int, e = .returned (.int .i64 z) ∧ Hid (decide (0 ≤ z) = slf ps ps.length ∧ -1 ≤ z ∧ z < ps.length + 1) ∧ Below w.heap.size w w' := by
  go_enter Tryz.func107, Tryz.ntmps107
  go_wp2
  go_loopw [7] (fun s7 wr => ∃ j : Nat, j ≤ ps.length ∧ s7 = .int .i64 j ∧ Hid (slf ps j = false) ∧ Below w.heap.size w wr) (fun s7 _ => ps.length - (intOf s7).toNat)
  case atStart => exact ⟨0, Nat.zero_le _, rfl, rfl, Below.refl _ _⟩
  case round =>
    obtain ⟨j, hj, rfl, T, B⟩ := hrel
    rename World => wr
    by_cases hlt : j < ps.length
    · go_wp2
      go_loopw [4] (fun s4 wi => ∃ i : Nat, j + 1 ≤ i ∧ i ≤ ps.length ∧ s4 = .int .i64 i ∧ Hid (slfE ps j i = false) ∧ Below wr.heap.size wr wi) (fun s4 _ => ps.length - (intOf s4).toNat)
      case atStart => exact ⟨j + 1, by omega, by omega, by go_num, slfE_low ps j (j + 1) (by omega), Below.refl _ _⟩
      case round =>
        obtain ⟨i, hji, hi, rfl, M, Bi⟩ := hrel
        rename World => wi
        by_cases hli : i < ps.length
        · have RF : Hid (badE ps j i = true → decide (0 ≤ (j : Int)) = slf ps ps.length ∧ -1 ≤ (j : Int) ∧ (j : Int) < ps.length + 1) := fun q => ⟨by rw [slf_found (show j < i by omega) hli q]; simp, by omega, by omega⟩
          have RN : Hid (badE ps j i = false → slfE ps j (i + 1) = false) := fun q => slfE_step M.out q
          clear M
          go_wp2_with fail
          refine (crossed_any g ps j i _ ((h.below B).below Bi) hs ok (by omega) hli).mono ?_
          rintro e w2 ⟨rfl, hb⟩
          replace Bi := Bi.trans (hb.mono Bi.size)
          clear hb
          cases o1 : badE ps j i
          · have R := RN.out o1
            clear RN RF o1
            go_wp2
            go_roundw
            case rel => exact ⟨i + 1, by omega, by omega, by go_num, R, Bi⟩
            case measure => simp [intOf]; omega
          · have R4 : Hid (decide (0 ≤ (j : Int)) = slf ps ps.length ∧ -1 ≤ (j : Int) ∧ (j : Int) < ps.length + 1) := RF.out o1
            clear RN RF o1
            go_wp2
            go_ret
            exact ⟨_, rfl, R4, B.trans (Bi.mono B.size)⟩
        · obtain rfl : i = ps.length := by omega
          go_wp2
          go_roundw
          case rel => exact ⟨j + 1, by omega, by go_num, (by show _ = _; simp only [slf]; rw [T.out, M.out]; rfl), B.trans (Bi.mono B.size)⟩
          case measure => simp [intOf]; omega
    · obtain rfl : j = ps.length := by omega
      go_wp2
      go_ret
      exact ⟨-1, rfl, ⟨by rw [T.out]; rfl, by omega, by omega⟩, B⟩
open Go.RowKit

def leastN (k : Int) : Int := if k = 1 then 1 else if k = 2 then 1 else if k = 3 then 2 else if k = 4 then 2 else if k = 5 then 3 else 0
def mostN (k : Int) : Int := if k = 1 then 1 else if k = 2 then 60 else if k = 3 then 60 else if k = 4 then 60 else if k = 5 then 60 else -1
def sevN (k : Int) : Bool := if k = 4 then true else if k = 5 then true else false

set_option maxRecDepth 20000 in
theorem l5Least_any (k : Int) (w : World) :
    Calls Tryz.prog 91 #[.int .i64 k] w fun e w' => e = .returned (.tuple #[.int .i64 (leastN k), .int .i64 (mostN k), .bool (sevN k)]) ∧ w' = w := by
  by_cases h1 : k = 1
  · subst h1
    go_enter Tryz.func91, Tryz.ntmps91
    go_wp2
    exact bodyPost_ret (v := .tuple #[.int .i64 _, .int .i64 _, .bool _]) (by simp [results, Tryz.results91, go_sem]; exact ⟨rfl, rfl, rfl⟩) rfl ⟨rfl, rfl⟩
  by_cases h2 : k = 2
  · subst h2
    go_enter Tryz.func91, Tryz.ntmps91
    go_wp2
    exact bodyPost_ret (v := .tuple #[.int .i64 _, .int .i64 _, .bool _]) (by simp [results, Tryz.results91, go_sem]; exact ⟨rfl, rfl, rfl⟩) rfl ⟨rfl, rfl⟩
  by_cases h3 : k = 3
  · subst h3
    go_enter Tryz.func91, Tryz.ntmps91
    go_wp2
    exact bodyPost_ret (v := .tuple #[.int .i64 _, .int .i64 _, .bool _]) (by simp [results, Tryz.results91, go_sem]; exact ⟨rfl, rfl, rfl⟩) rfl ⟨rfl, rfl⟩
  by_cases h4 : k = 4
  · subst h4
    go_enter Tryz.func91, Tryz.ntmps91
    go_wp2
    exact bodyPost_ret (v := .tuple #[.int .i64 _, .int .i64 _, .bool _]) (by simp [results, Tryz.results91, go_sem]; exact ⟨rfl, rfl, rfl⟩) rfl ⟨rfl, rfl⟩
  by_cases h5 : k = 5
  · subst h5
    go_enter Tryz.func91, Tryz.ntmps91
    go_wp2
    exact bodyPost_ret (v := .tuple #[.int .i64 _, .int .i64 _, .bool _]) (by simp [results, Tryz.results91, go_sem]; exact ⟨rfl, rfl, rfl⟩) rfl ⟨rfl, rfl⟩
  have e1 : leastN k = 0 := by unfold leastN; simp [h1, h2, h3, h4, h5]
  have e2 : mostN k = -1 := by unfold mostN; simp [h1, h2, h3, h4, h5]
  have e3 : sevN k = false := by unfold sevN; simp [h4, h5]
  rw [e1, e2, e3]
  go_enter Tryz.func91, Tryz.ntmps91
  go_wp2
  exact bodyPost_ret (v := .tuple #[.int .i64 _, .int .i64 _, .bool _]) (by simp [results, Tryz.results91, go_sem]) rfl ⟨rfl, rfl⟩
open Go.RowKit

def figT (k : Int) : Nat := if k = 1 then 117 else if k = 2 then 118 else if k = 3 then 119 else if k = 4 then 120 else 113
def limR (k : Int) : Int := if sevN k then 12 else 1
def figV (k : Int) (v : Value) : Value := if 1 ≤ k ∧ k ≤ 5 then .iface (figT k) (.agg #[v]) else .nilIface

set_option maxRecDepth 20000 in
set_option maxHeartbeats 1000000 in
theorem figureOf_any (k : Int) (a : Option Addr) (n c : Nat) (w : World) :
    Calls Tryz.prog 47 #[.agg #[.int .i64 k, .slice a n c]] w fun e w' => e = .returned (figV k (.slice a n c)) ∧ Below w.heap.size w w' := by
  have B0 := below1 w (.cells #[.int .i64 k, .slice a n c] 36)
  have V0 := Box2.new w (lo := w.heap.size) (Nat.le_refl _) (.int .i64 k) (.slice a n c) 36
  obtain ⟨k0, k1, _, _⟩ := id V0
  clear V0
  by_cases h1 : k = 1
  · subst h1
    go_enter Tryz.func47, Tryz.ntmps47
    go_wp2
    go_ret
    exact ⟨rfl, B0⟩
  by_cases h2 : k = 2
  · subst h2
    go_enter Tryz.func47, Tryz.ntmps47
    go_wp2
    go_ret
    exact ⟨rfl, B0⟩
  by_cases h3 : k = 3
  · subst h3
    go_enter Tryz.func47, Tryz.ntmps47
    go_wp2
    go_ret
    exact ⟨rfl, B0⟩
  by_cases h4 : k = 4
  · subst h4
    go_enter Tryz.func47, Tryz.ntmps47
    go_wp2
    go_ret
    exact ⟨rfl, B0⟩
  by_cases h5 : k = 5
  · subst h5
    go_enter Tryz.func47, Tryz.ntmps47
    go_wp2
    go_ret
    exact ⟨rfl, B0⟩
  have e1 : figV k (.slice a n c) = .nilIface := by unfold figV; exact if_neg (by omega)
  rw [e1]
  go_enter Tryz.func47, Tryz.ntmps47
  go_wp2
  go_ret
  exact ⟨rfl, B0⟩

theorem as11 (v : Value) (W : World) : (Instr.typeAssert (.iface 117 (.agg #[v])) 87 117 true).run Tryz.prog W = .ok (.tuple #[.agg #[v], .bool true]) W := by kernel_rfl
theorem as12 (v : Value) (W : World) : (Instr.typeAssert (.iface 117 (.agg #[v])) 87 118 true).run Tryz.prog W = .ok (.tuple #[.agg #[.slice none 0 0], .bool false]) W := by kernel_rfl
theorem as13 (v : Value) (W : World) : (Instr.typeAssert (.iface 117 (.agg #[v])) 87 119 true).run Tryz.prog W = .ok (.tuple #[.agg #[.slice none 0 0], .bool false]) W := by kernel_rfl
theorem as14 (v : Value) (W : World) : (Instr.typeAssert (.iface 117 (.agg #[v])) 87 120 true).run Tryz.prog W = .ok (.tuple #[.agg #[.slice none 0 0], .bool false]) W := by kernel_rfl
theorem as15 (v : Value) (W : World) : (Instr.typeAssert (.iface 117 (.agg #[v])) 87 113 true).run Tryz.prog W = .ok (.tuple #[.agg #[.slice none 0 0], .bool false]) W := by kernel_rfl
theorem as21 (v : Value) (W : World) : (Instr.typeAssert (.iface 118 (.agg #[v])) 87 117 true).run Tryz.prog W = .ok (.tuple #[.agg #[.slice none 0 0], .bool false]) W := by kernel_rfl
theorem as22 (v : Value) (W : World) : (Instr.typeAssert (.iface 118 (.agg #[v])) 87 118 true).run Tryz.prog W = .ok (.tuple #[.agg #[v], .bool true]) W := by kernel_rfl
theorem as23 (v : Value) (W : World) : (Instr.typeAssert (.iface 118 (.agg #[v])) 87 119 true).run Tryz.prog W = .ok (.tuple #[.agg #[.slice none 0 0], .bool false]) W := by kernel_rfl
theorem as24 (v : Value) (W : World) : (Instr.typeAssert (.iface 118 (.agg #[v])) 87 120 true).run Tryz.prog W = .ok (.tuple #[.agg #[.slice none 0 0], .bool false]) W := by kernel_rfl
theorem as25 (v : Value) (W : World) : (Instr.typeAssert (.iface 118 (.agg #[v])) 87 113 true).run Tryz.prog W = .ok (.tuple #[.agg #[.slice none 0 0], .bool false]) W := by kernel_rfl
theorem as31 (v : Value) (W : World) : (Instr.typeAssert (.iface 119 (.agg #[v])) 87 117 true).run Tryz.prog W = .ok (.tuple #[.agg #[.slice none 0 0], .bool false]) W := by kernel_rfl
theorem as32 (v : Value) (W : World) : (Instr.typeAssert (.iface 119 (.agg #[v])) 87 118 true).run Tryz.prog W = .ok (.tuple #[.agg #[.slice none 0 0], .bool false]) W := by kernel_rfl
theorem as33 (v : Value) (W : World) : (Instr.typeAssert (.iface 119 (.agg #[v])) 87 119 true).run Tryz.prog W = .ok (.tuple #[.agg #[v], .bool true]) W := by kernel_rfl
theorem as34 (v : Value) (W : World) : (Instr.typeAssert (.iface 119 (.agg #[v])) 87 120 true).run Tryz.prog W = .ok (.tuple #[.agg #[.slice none 0 0], .bool false]) W := by kernel_rfl
theorem as35 (v : Value) (W : World) : (Instr.typeAssert (.iface 119 (.agg #[v])) 87 113 true).run Tryz.prog W = .ok (.tuple #[.agg #[.slice none 0 0], .bool false]) W := by kernel_rfl
theorem as41 (v : Value) (W : World) : (Instr.typeAssert (.iface 120 (.agg #[v])) 87 117 true).run Tryz.prog W = .ok (.tuple #[.agg #[.slice none 0 0], .bool false]) W := by kernel_rfl
theorem as42 (v : Value) (W : World) : (Instr.typeAssert (.iface 120 (.agg #[v])) 87 118 true).run Tryz.prog W = .ok (.tuple #[.agg #[.slice none 0 0], .bool false]) W := by kernel_rfl
theorem as43 (v : Value) (W : World) : (Instr.typeAssert (.iface 120 (.agg #[v])) 87 119 true).run Tryz.prog W = .ok (.tuple #[.agg #[.slice none 0 0], .bool false]) W := by kernel_rfl
theorem as44 (v : Value) (W : World) : (Instr.typeAssert (.iface 120 (.agg #[v])) 87 120 true).run Tryz.prog W = .ok (.tuple #[.agg #[v], .bool true]) W := by kernel_rfl
theorem as45 (v : Value) (W : World) : (Instr.typeAssert (.iface 120 (.agg #[v])) 87 113 true).run Tryz.prog W = .ok (.tuple #[.agg #[.slice none 0 0], .bool false]) W := by kernel_rfl
theorem as51 (v : Value) (W : World) : (Instr.typeAssert (.iface 113 (.agg #[v])) 87 117 true).run Tryz.prog W = .ok (.tuple #[.agg #[.slice none 0 0], .bool false]) W := by kernel_rfl
theorem as52 (v : Value) (W : World) : (Instr.typeAssert (.iface 113 (.agg #[v])) 87 118 true).run Tryz.prog W = .ok (.tuple #[.agg #[.slice none 0 0], .bool false]) W := by kernel_rfl
theorem as53 (v : Value) (W : World) : (Instr.typeAssert (.iface 113 (.agg #[v])) 87 119 true).run Tryz.prog W = .ok (.tuple #[.agg #[.slice none 0 0], .bool false]) W := by kernel_rfl
theorem as54 (v : Value) (W : World) : (Instr.typeAssert (.iface 113 (.agg #[v])) 87 120 true).run Tryz.prog W = .ok (.tuple #[.agg #[.slice none 0 0], .bool false]) W := by kernel_rfl
theorem as55 (v : Value) (W : World) : (Instr.typeAssert (.iface 113 (.agg #[v])) 87 113 true).run Tryz.prog W = .ok (.tuple #[.agg #[v], .bool true]) W := by kernel_rfl
theorem kinds {k : Int} (h : 1 ≤ k ∧ k ≤ 5) : k = 1 ∨ k = 2 ∨ k = 3 ∨ k = 4 ∨ k = 5 := by omega

set_option maxRecDepth 20000 in
set_option maxHeartbeats 1000000 in
theorem limitsOf_any (k : Int) (hk : 1 ≤ k ∧ k ≤ 5) (v : Value) (w : World) :
    Calls Tryz.prog 103 #[.iface (figT k) (.agg #[v])] w fun e w' => e = .returned (.agg #[.int .i64 (limR k), .int .i64 (leastN k), .int .i64 (mostN k)]) ∧ Below w.heap.size w w' := by
  rcases kinds hk with rfl | rfl | rfl | rfl | rfl
  · have q1 := as11 v
    rw [show figT 1 = 117 from rfl, show limR 1 = 1 from rfl, show leastN 1 = 1 from rfl, show mostN 1 = 1 from rfl]
    go_enter Tryz.func103, Tryz.ntmps103
    go_wp2
    go_returns
    exact ⟨rfl, below1 _ _⟩
  · have q1 := as21 v; have q2 := as22 v
    rw [show figT 2 = 118 from rfl, show limR 2 = 1 from rfl, show leastN 2 = 1 from rfl, show mostN 2 = 60 from rfl]
    go_enter Tryz.func103, Tryz.ntmps103
    go_wp2
    go_returns
    exact ⟨rfl, below1 _ _⟩
  · have q1 := as31 v; have q2 := as32 v; have q3 := as33 v
    rw [show figT 3 = 119 from rfl, show limR 3 = 1 from rfl, show leastN 3 = 2 from rfl, show mostN 3 = 60 from rfl]
    go_enter Tryz.func103, Tryz.ntmps103
    go_wp2
    go_returns
    exact ⟨rfl, below1 _ _⟩
  · have q1 := as41 v; have q2 := as42 v; have q3 := as43 v; have q4 := as44 v
    rw [show figT 4 = 120 from rfl, show limR 4 = 12 from rfl, show leastN 4 = 2 from rfl, show mostN 4 = 60 from rfl]
    go_enter Tryz.func103, Tryz.ntmps103
    go_wp2
    go_returns
    exact ⟨rfl, below1 _ _⟩
  · have q1 := as51 v; have q2 := as52 v; have q3 := as53 v; have q4 := as54 v; have q5 := as55 v
    rw [show figT 5 = 113 from rfl, show limR 5 = 12 from rfl, show leastN 5 = 3 from rfl, show mostN 5 = 60 from rfl]
    go_enter Tryz.func103, Tryz.ntmps103
    go_wp2
    go_returns
    exact ⟨rfl, below1 _ _⟩
open Go.RowKit

def rowA (rs : List (List (Int × Int))) (i : Nat) : List (Int × Int) := rs[i]?.getD []
structure SeesS (w : World) (a : Option Addr) (cap : Nat) (rs : List (List (Int × Int))) : Prop where
  fits : rs.length ≤ cap
  max : cap ≤ maxLen
  cells : rs ≠ [] → ∃ b off, a = some ⟨b, off, none⟩ ∧ ∀ i, i < rs.length → ∃ a' c', w.cell? ⟨b, off + i, none⟩ = some (.slice a' (rowA rs i).length c') ∧ SeesP w a' c' (rowA rs i)
theorem SeesS.below {w w' : World} {a : Option Addr} {cap : Nat} {rs : List (List (Int × Int))} (h : SeesS w a cap rs) (hb : Below w.heap.size w w') : SeesS w' a cap rs :=
  ⟨h.fits, h.max, fun hn => by
    obtain ⟨b, off, ha, hc⟩ := h.cells hn
    exact ⟨b, off, ha, fun i hi => by obtain ⟨a', c', h1, h2⟩ := hc i hi; exact ⟨a', c', bat hb h1, h2.below hb⟩⟩⟩
def upto (rs : List (List (Int × Int))) : Nat → Nat
  | 0 => rs.length
  | j + 1 => upto rs j + (rowA rs j).length
theorem upto_le (rs : List (List (Int × Int))) (j d : Nat) : upto rs j ≤ upto rs (j + d) := by
  induction d with
  | zero => exact Nat.le_refl _
  | succ d ih => rw [← Nat.add_assoc]; simp only [upto]; omega
theorem row_le (rs : List (List (Int × Int))) {i n : Nat} (h : i < n) : (rowA rs i).length + rs.length ≤ upto rs n := by
  have h1 := upto_le rs (i + 1) (n - (i + 1))
  rw [show i + 1 + (n - (i + 1)) = n by omega] at h1
  have h2 := upto_le rs 0 i
  simp only [upto, Nat.zero_add] at h1 h2
  omega

set_option maxHeartbeats 1000000 in
theorem szRows (a : Option Addr) (c : Nat) (rs : List (List (Int × Int))) (left : Int) (w : World) (h : SeesS w a c rs) (hl : 0 ≤ left ∧ left ≤ 1048576) :
    Calls Tryz.prog 14 #[.slice a rs.length c, .int .i64 left] w fun e w' => ∃ z : Int, e = .returned (.int .i64 z) ∧ (z = -1 ∨ (0 ≤ z ∧ z + (upto rs rs.length : Nat) = left)) ∧ w' = w := by
  obtain ⟨h1, h2⟩ := hl
  have hm := h.max
  have hf := h.fits
  unfold maxLen at hm
  by_cases hc : left - rs.length < 0
  · go_enter Tryz.func14, Tryz.ntmps14
    go_wp2
    go_ret
    exact ⟨-1, rfl, .inl rfl, rfl⟩
  · have hc' : 0 ≤ left - rs.length := by omega
    go_enter Tryz.func14, Tryz.ntmps14
    go_wp2
    go_loop [1, 5] (fun s1 s5 => ∃ (j : Nat) (z : Int), j ≤ rs.length ∧ s5 = .int .i64 j ∧ s1 = .int .i64 z ∧ 0 ≤ z ∧ z ≤ 1048576 ∧ Hid (z + (upto rs j : Nat) = left)) (fun _ s5 => rs.length - (intOf s5).toNat)
    case atStart => exact ⟨0, _, Nat.zero_le _, rfl, rfl, hc', by omega, by show _ = _; simp only [upto]; omega⟩
    case round =>
      obtain ⟨j, z, hj, rfl, rfl, z0, z1, he⟩ := hrel
      by_cases hlt : j < rs.length
      · obtain ⟨b, off, rfl, hc⟩ := h.cells (by intro e; simp [e] at hlt)
        obtain ⟨a', c', g1, sp⟩ := hc j hlt
        have spm := sp.max
        have spf := sp.fits
        unfold maxLen at spm
        have HE : Hid (upto rs (j + 1) = upto rs j + (rowA rs j).length) := rfl
        clear hc sp
        generalize (rowA rs j).length = m at *
        by_cases hz : z - m < 0
        · go_wp2_with (go_at_call 34; refine (szPts _ _ _ _ _ ⟨z0, z1⟩ (by omega)).mono ?_; rintro e w' ⟨rfl, rfl⟩; rw [if_pos hz])
          go_ret
          exact ⟨-1, rfl, .inl rfl, rfl⟩
        · have hz' : 0 ≤ z - m := by omega
          go_wp2_with (go_at_call 34; refine (szPts _ _ _ _ _ ⟨z0, z1⟩ (by omega)).mono ?_; rintro e w' ⟨rfl, rfl⟩; rw [if_neg hz])
          go_round
          case rel => exact ⟨j + 1, z - m, by omega, by go_num, rfl, hz', by omega, by have := he.out; have := HE.out; show _ = _; omega⟩
          case measure => simp [intOf]; omega
      · obtain rfl : j = rs.length := by omega
        have HE := he
        clear he
        go_wp2
        go_ret
        exact ⟨z, rfl, .inr ⟨z0, HE.out⟩, rfl⟩

set_option maxHeartbeats 1000000 in
theorem szShape_any (k : Int) (a : Option Addr) (c : Nat) (rs : List (List (Int × Int))) (left : Int) (w : World) (h : SeesS w a c rs) (hl : 0 ≤ left ∧ left ≤ 1048576) :
    Calls Tryz.prog 4 #[.agg #[.int .i64 k, .slice a rs.length c], .int .i64 left] w fun e w' => ∃ z : Int, e = .returned (.int .i64 z) ∧ (z = -1 ∨ (0 ≤ z ∧ z + (upto rs rs.length : Nat) = left)) ∧ Below w.heap.size w w' := by
  have bn := below1 w (.cells #[.int .i64 k, .slice a rs.length c] 24)
  go_enter Tryz.func4, Tryz.ntmps4
  go_wp2_with fail
  refine (szRows a c rs left _ (h.below bn) hl).mono ?_
  rintro e w1 ⟨z, rfl, hz, rfl⟩
  have HZ : Hid (z = -1 ∨ (0 ≤ z ∧ z + (upto rs rs.length : Nat) = left)) := hz
  by_cases h0 : z < 0
  · clear hz
    go_wp2
    go_ret
    exact ⟨-1, rfl, .inl rfl, bn⟩
  · have h0' : 0 ≤ z := by omega
    clear hz
    go_wp2
    go_ret
    exact ⟨z, rfl, HZ.out, bn⟩
open Go.RowKit

def firstB (ps : List (Int × Int)) : Bool := !slf ps ps.length && decide (0 < tw ps ps.length)

set_option maxRecDepth 20000 in
set_option maxHeartbeats 1500000 in
theorem l5Ring_zero (n : Int) (a : Option Addr) (c : Nat) (rs : List (List (Int × Int))) (w : World) (h : SeesS w a c rs) (hr : 0 < rs.length) (ok : okL (rowA rs 0) = true) (hs : (rowA rs 0).length ≤ 60) :
    Calls Tryz.prog 61 #[.agg #[.int .i64 n, .slice a rs.length c], .int .i64 0] w fun e w' => ∃ z x y : Int, e = .returned (.tuple #[.int .i64 z, .int .i64 x, .int .i64 y]) ∧ Hid (decide (z = 0) = firstB (rowA rs 0)) ∧ Below w.heap.size w w' := by
  have hm := h.max
  have hf := h.fits
  unfold maxLen at hm
  have B0 := below1 w (.cells #[.int .i64 n, .slice a rs.length c] 36)
  have V0 := Box2.new w (lo := w.heap.size) (Nat.le_refl _) (.int .i64 n) (.slice a rs.length c) 36
  obtain ⟨b, off, rfl, hc⟩ := (h.below B0).cells (by intro e; simp [e] at hr)
  obtain ⟨a', c', g, P⟩ := hc 0 hr
  rw [Nat.add_zero] at g
  clear hc h
  obtain ⟨k0, k1, _, _⟩ := id V0
  generalize rowA rs 0 = ps at *
  go_enter Tryz.func61, Tryz.ntmps61
  go_wp2_with fail
  generalize w.alloc (.cells #[.int .i64 n, .slice (some ⟨b, off, none⟩) rs.length c] 36) = W at *
  refine (l5Self_any a' c' ps _ P ok).mono ?_
  rintro e w1 ⟨z, rfl, hz, hb⟩
  replace P := P.below hb
  replace B0 := B0.trans (hb.mono B0.size)
  clear hb
  by_cases hz0 : 0 ≤ z
  · have F : Hid (firstB ps = false) := by
      show _ = _
      have := hz.out.1
      rw [decide_eq_true hz0] at this
      unfold firstB
      rw [← this]
      rfl
    clear hz
    go_wp2
    exact bodyPost_ret (v := .tuple #[.int .i64 _, .int .i64 _, .int .i64 _]) (by simp [results, Tryz.results61, go_sem]; exact ⟨rfl, rfl, rfl⟩) rfl ⟨_, _, _, rfl, (by show _ = _; rw [F.out]; rfl), B0⟩
  · have F : Hid (firstB ps = decide (0 < tw ps ps.length)) := by
      show _ = _
      have := hz.out.1
      rw [decide_eq_false hz0] at this
      unfold firstB
      rw [← this]
      rfl
    clear hz
    go_wp2_with fail
    refine (l5Twice_any a' c' ps _ P hs ok).mono ?_
    rintro e w2 ⟨rfl, hb⟩
    replace B0 := B0.trans (hb.mono B0.size)
    clear hb
    generalize tw ps ps.length = t at *
    by_cases ht : t ≤ 0
    · replace F : Hid (firstB ps = false) := by
        show _ = _
        rw [F.out]
        exact decide_eq_false (by omega)
      go_wp2
      exact bodyPost_ret (v := .tuple #[.int .i64 _, .int .i64 _, .int .i64 _]) (by simp [results, Tryz.results61, go_sem]; exact ⟨rfl, rfl, rfl⟩) rfl ⟨_, _, _, rfl, (by show _ = _; rw [F.out]; rfl), B0⟩
    · replace F : Hid (firstB ps = true) := by
        show _ = _
        rw [F.out]
        exact decide_eq_true (by omega)
      go_wp2
      exact bodyPost_ret (v := .tuple #[.int .i64 _, .int .i64 _, .int .i64 _]) (by simp [results, Tryz.results61, go_sem]; exact ⟨rfl, rfl, rfl⟩) rfl ⟨_, _, _, rfl, (by show _ = _; rw [F.out]; rfl), B0⟩

def sameAt (k : Int) (ps : List (Int × Int)) : Nat → Bool
  | 0 => decide (k = 5) && (decide ((ptA ps 0).1 = (ptA ps (ps.length - 1)).1) && decide ((ptA ps 0).2 = (ptA ps (ps.length - 1)).2))
  | m + 1 => decide ((ptA ps (m + 1)).1 = (ptA ps m).1) && decide ((ptA ps (m + 1)).2 = (ptA ps m).2)
def ptBad (k : Int) (ps : List (Int × Int)) (i : Nat) : Bool := !ptOk (ptA ps i).1 (ptA ps i).2 || (sameAt k ps i && decide (3 ≤ k))
def rowBad (k : Int) (ps : List (Int × Int)) : Nat → Bool
  | 0 => false
  | i + 1 => rowBad k ps i || ptBad k ps i
def rowF (k : Int) (ps : List (Int × Int)) : Bool := !inB ps.length (leastN k) (mostN k) || rowBad k ps ps.length
def rowsBad (k : Int) (rs : List (List (Int × Int))) : Nat → Bool
  | 0 => false
  | j + 1 => rowsBad k rs j || rowF k (rowA rs j)
def formB (k : Int) (rs : List (List (Int × Int))) : Bool :=
  !(decide (mostN k < 0) || (!inB rs.length 1 12 || ((!sevN k && decide (1 < rs.length)) || rowsBad k rs rs.length)))
theorem rowBad_mono {k : Int} {ps : List (Int × Int)} : ∀ {i m : Nat}, i ≤ m → rowBad k ps i = true → rowBad k ps m = true
  | i, 0, h, e => by obtain rfl : i = 0 := by omega
                     exact e
  | i, m + 1, h, e => by
    rcases Nat.lt_or_ge m i with c | c
    · obtain rfl : i = m + 1 := by omega
      exact e
    · simp only [rowBad]
      rw [rowBad_mono c e]
      rfl
theorem rowsBad_mono {k : Int} {rs : List (List (Int × Int))} : ∀ {i m : Nat}, i ≤ m → rowsBad k rs i = true → rowsBad k rs m = true
  | i, 0, h, e => by obtain rfl : i = 0 := by omega
                     exact e
  | i, m + 1, h, e => by
    rcases Nat.lt_or_ge m i with c | c
    · obtain rfl : i = m + 1 := by omega
      exact e
    · simp only [rowsBad]
      rw [rowsBad_mono c e]
      rfl
theorem rowF_found {k : Int} {ps : List (Int × Int)} {i : Nat} (hi : i < ps.length) (h : ptBad k ps i = true) : rowF k ps = true := by
  have := rowBad_mono (show i + 1 ≤ ps.length by omega) (show rowBad k ps (i + 1) = true by simp only [rowBad]; rw [h]; simp)
  unfold rowF
  rw [this]
  simp
theorem rows_found {k : Int} {rs : List (List (Int × Int))} {j : Nat} (hj : j < rs.length) (h : rowF k (rowA rs j) = true) : rowsBad k rs rs.length = true :=
  rowsBad_mono (show j + 1 ≤ rs.length by omega) (by simp only [rowsBad]; rw [h]; simp)
theorem rowBad_step {k : Int} {ps : List (Int × Int)} {i : Nat} (h : rowBad k ps i = false) (hb : ptBad k ps i = false) : rowBad k ps (i + 1) = false := by simp only [rowBad]; rw [h, hb]; rfl
theorem rowsBad_step {k : Int} {rs : List (List (Int × Int))} {i : Nat} (h : rowsBad k rs i = false) (hb : rowF k (rowA rs i) = false) : rowsBad k rs (i + 1) = false := by simp only [rowsBad]; rw [h, hb]; rfl
end Go.Proofs.YtnjbedhealpgcaaGreat
