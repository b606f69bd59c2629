import Derived.Test.YtinlomcaagdbiaaGreatBase
import Derived.Test.YtinlomcaagdbiaaGreatProg
import Derived.Deep.RegionHeld3
/- Turns, segments and whether they meet, over the whole numbers: the program's test and the specification's are the same. No program is named here. -/
namespace Go.Proofs.YtinlomcaagdbiaaGreat
def ar (ax ay bx bz cx cy : Int) : Int := (bx - ax) * (cy - ay) - (bz - ay) * (cx - ax)
def sgn1 (n : Int) : Int := if 0 < n then 1 else if n < 0 then -1 else 0
def inB (x lo hi : Int) : Bool := decide (lo ≤ x) && decide (x ≤ hi)
def btw (a b x : Int) : Bool := inB x a b || inB x b a
def onB (ax ay bx bz px py : Int) : Bool := decide (ar ax ay bx bz px py = 0) && (btw ax bx px && btw ay bz py)
def rng (a b c d : Int) : Bool := decide (min a b ≤ max c d) && decide (min c d ≤ max a b)

theorem btw_iff {a b x : Int} : btw a b x = true ↔ (a ≤ x ∧ x ≤ b) ∨ (b ≤ x ∧ x ≤ a) := by simp [btw, inB]

theorem btw_mul {a b x : Int} : btw a b x = true ↔ (a - x) * (b - x) ≤ 0 := by
 rw [btw_iff]
 constructor
 ·rintro (⟨h1, h2⟩ | ⟨h1, h2⟩)
  ·have := Int.mul_nonneg (a := x - a) (b := b - x) (by omega) (by omega)
   grind
  ·have := Int.mul_nonneg (a := a - x) (b := x - b) (by omega) (by omega)
   grind
 ·intro h
  by_cases h1 : a ≤ x
  ·by_cases h2 : x ≤ b
   ·exact .inl ⟨h1, h2⟩
   ·by_cases h3 : a = x
    ·exact .inr ⟨by omega, by omega⟩
    ·have := Int.mul_pos (a := x - a) (b := x - b) (by omega) (by omega)
     grind
  ·by_cases h2 : b ≤ x
   ·exact .inr ⟨h2, by omega⟩
   ·have := Int.mul_pos (a := a - x) (b := b - x) (by omega) (by omega)
    grind

theorem sq_nonneg (x : Int) : 0 ≤ x * x := by
 rcases Int.le_total 0 x with h | h
 ·exact Int.mul_nonneg h h
 ·have := Int.mul_nonneg (a := -x) (b := -x) (by omega) (by omega); grind

theorem sq_pos {x : Int} (h : x ≠ 0) : 0 < x * x := by
 have := sq_nonneg x
 have h2 : x * x ≠ 0 := fun e => h (by rcases Int.mul_eq_zero.1 e with e | e <;> exact e)
 omega

theorem nonpos_of_pos_mul {p x : Int} (hp : 0 < p) (h : p * x ≤ 0) : x ≤ 0 := by
 by_cases hx : 0 < x
 ·have := Int.mul_pos hp hx; omega
 ·omega

theorem nonpos_of_neg_mul {p x : Int} (hp : p < 0) (h : 0 ≤ p * x) : x ≤ 0 := by
 by_cases hx : 0 < x
 ·have := Int.mul_pos (a := -p) (b := x) (by omega) hx; grind
 ·omega

theorem onSides {ux uy vx vy wx wy : Int} (h : ux * vy = uy * vx) (hx : ux * vx ≤ 0) (hy : uy * vy ≤ 0) : (wx * uy - wy * ux) * (wx * vy - wy * vx) ≤ 0 := by
 by_cases hP : uy * vy = 0
 ·have hQ : (ux * vy) * (ux * vy) = 0 := by grind
  have hQ' : ux * vy = 0 := by rcases Int.mul_eq_zero.1 hQ with e | e <;> exact e
  have hs := Int.mul_nonneg (sq_nonneg wy) (show 0 ≤ -(ux * vx) by omega)
  have e : (wx * uy - wy * ux) * (wx * vy - wy * vx) = -(wy * wy * -(ux * vx)) := by grind
  omega
 ·refine nonpos_of_neg_mul (p := uy * vy) (by omega) ?_
  have := sq_nonneg (uy * vy * wx - ux * vy * wy)
  have e : uy * vy * ((wx * uy - wy * ux) * (wx * vy - wy * vx)) = (uy * vy * wx - ux * vy * wy) * (uy * vy * wx - ux * vy * wy) := by grind
  omega

theorem parted {ux uy vx vy wx wy : Int} (h : ux * vy = uy * vx) (hp : (wx * uy - wy * ux) * (wx * vy - wy * vx) < 0) : ux * vx ≤ 0 ∧ uy * vy ≤ 0 := by
 constructor
 ·refine nonpos_of_neg_mul hp ?_
  have := sq_nonneg ((wx * vy - wy * vx) * ux)
  have e : (wx * uy - wy * ux) * (wx * vy - wy * vx) * (ux * vx) = ((wx * vy - wy * vx) * ux) * ((wx * vy - wy * vx) * ux) := by grind
  omega
 ·refine nonpos_of_neg_mul hp ?_
  have := sq_nonneg ((wx * vy - wy * vx) * uy)
  have e : (wx * uy - wy * ux) * (wx * vy - wy * vx) * (uy * vy) = ((wx * vy - wy * vx) * uy) * ((wx * vy - wy * vx) * uy) := by grind
  omega

theorem alongX {ux uy vx vy wx wy : Int} (hw : wx ≠ 0) (hu : ux * wy = uy * wx) (hv : vx * wy = vy * wx) (h : ux * vx ≤ 0) : uy * vy ≤ 0 := by
 refine nonpos_of_pos_mul (sq_pos hw) ?_
 have := Int.mul_nonneg (sq_nonneg wy) (show 0 ≤ -(ux * vx) by omega)
 have e : wx * wx * (uy * vy) = wy * wy * (ux * vx) := by grind
 grind

def ON (ax ay bx bz px py : Int) : Prop := ar ax ay bx bz px py = 0 ∧ (ax - px) * (bx - px) ≤ 0 ∧ (ay - py) * (bz - py) ≤ 0
theorem onB_iff {ax ay bx bz px py : Int} : onB ax ay bx bz px py = true ↔ ON ax ay bx bz px py := by
 simp [onB, ON, btw_mul]

def RG (a b c d : Int) : Prop := min a b ≤ max c d ∧ min c d ≤ max a b
theorem rng_iff {a b c d : Int} : rng a b c d = true ↔ RG a b c d := by simp [rng, RG]

def MT (ax ay bx bz cx cy dx dy : Int) : Prop :=
 RG ax bx cx dx ∧ RG ay bz cy dy ∧ ar ax ay bx bz cx cy * ar ax ay bx bz dx dy ≤ 0 ∧ ar cx cy dx dy ax ay * ar cx cy dx dy bx bz ≤ 0
theorem ar_swap (ax ay bx bz cx cy : Int) : ar bx bz ax ay cx cy = - ar ax ay bx bz cx cy := by unfold ar; grind
theorem MT.flip {ax ay bx bz cx cy dx dy : Int} (h : MT ax ay bx bz cx cy dx dy) : MT ax ay bx bz dx dy cx cy := by
 obtain ⟨h1, h2, h3, h4⟩ := h
 unfold RG at h1 h2
 refine ⟨by unfold RG; omega, by unfold RG; omega, by rw [Int.mul_comm]; exact h3, ?_⟩
 rw [ar_swap cx cy dx dy, ar_swap cx cy dx dy]; rw [Int.neg_mul_neg]; exact h4
theorem MT.other {ax ay bx bz cx cy dx dy : Int} (h : MT ax ay bx bz cx cy dx dy) : MT cx cy dx dy ax ay bx bz := by
 obtain ⟨h1, h2, h3, h4⟩ := h
 unfold RG at h1 h2
 exact ⟨by unfold RG; omega, by unfold RG; omega, h4, h3⟩

theorem MT_of_on {ax ay bx bz cx cy : Int} (dx dy : Int) (h : ON ax ay bx bz cx cy) : MT ax ay bx bz cx cy dx dy := by
 obtain ⟨h1, h2, h3⟩ := h
 refine ⟨?_, ?_, by rw [h1]; simp, ?_⟩
 ·have := btw_iff.1 (btw_mul.2 h2); unfold RG; omega
 ·have := btw_iff.1 (btw_mul.2 h3); unfold RG; omega
 ·have e : (ax - cx) * (bz - cy) = (ay - cy) * (bx - cx) := by unfold ar at h1; grind
  have := onSides (wx := dx - cx) (wy := dy - cy) e h2 h3
  unfold ar; exact this

theorem range_of_cross {ax bx cx dx A1 A2 A3 A4 : Int} (hd : A1 - A2 = A4 - A3) (he : A4 * ax - A3 * bx = A1 * dx - A2 * cx) (h1 : A1 * A2 < 0) (h2 : A3 * A4 < 0) : RG ax bx cx dx := by
 have parts : ∀ x y : Int, x * y < 0 → (0 < x ∧ y < 0) ∨ (x < 0 ∧ 0 < y) := by
  intro x y h
  rcases Int.lt_trichotomy x 0 with hx | hx | hx
  ·right
   refine ⟨hx, ?_⟩
   by_cases hy : 0 < y
   ·exact hy
   ·have := Int.mul_nonneg (a := -x) (b := -y) (by omega) (by omega); rw [Int.neg_mul_neg] at this; omega
  ·subst hx; simp at h
  ·left
   refine ⟨hx, ?_⟩
   by_cases hy : y < 0
   ·exact hy
   ·have := Int.mul_nonneg (a := x) (b := y) (by omega) (by omega); omega
 have key : ∀ (P Q R S p q r s : Int), 0 < P → 0 < Q → 0 < R → 0 < S → P + Q = R + S → P * p + Q * q = R * r + S * s → ¬ (r < p ∧ r < q ∧ s < p ∧ s < q) := by
  intro P Q R S p q r s hP hQ hR hS hsum heq ⟨h1, h2, h3, h4⟩
  have m1 : ∃ m, r ≤ m ∧ s ≤ m ∧ m < p ∧ m < q := by
   by_cases hrs : r ≤ s
   ·exact ⟨s, hrs, Int.le_refl _, h3, h4⟩
   ·exact ⟨r, Int.le_refl _, by omega, h1, h2⟩
  obtain ⟨m, a1, a2, a3, a4⟩ := m1
  have t1 := Int.mul_pos hP (show 0 < p - m by omega)
  have t2 := Int.mul_pos hQ (show 0 < q - m by omega)
  have t3 := Int.mul_nonneg (Int.le_of_lt hR) (show 0 ≤ m - r by omega)
  have t4 := Int.mul_nonneg (Int.le_of_lt hS) (show 0 ≤ m - s by omega)
  have e1 : P * (p - m) + Q * (q - m) + R * (m - r) + S * (m - s) = 0 := by
   have : P * (p - m) + Q * (q - m) + R * (m - r) + S * (m - s) = (P * p + Q * q) - (R * r + S * s) - (P + Q) * m + (R + S) * m := by grind
   rw [this, heq, hsum]; omega
  omega
 rcases parts _ _ h1 with ⟨a1, a2⟩ | ⟨a1, a2⟩ <;> rcases parts _ _ h2 with ⟨a3, a4⟩ | ⟨a3, a4⟩
 ·omega
 ·have k1 := key A4 (-A3) A1 (-A2) ax bx dx cx a4 (by omega) a1 (by omega) (by omega) (by grind)
  have k2 := key A1 (-A2) A4 (-A3) dx cx ax bx a1 (by omega) a4 (by omega) (by omega) (by grind)
  unfold RG; omega
 ·have k1 := key (-A4) A3 (-A1) A2 ax bx dx cx (by omega) a3 (by omega) a2 (by omega) (by grind)
  have k2 := key (-A1) A2 (-A4) A3 dx cx ax bx (by omega) a2 (by omega) a3 (by omega) (by grind)
  unfold RG; omega
 ·omega

theorem MT_of_cross {ax ay bx bz cx cy dx dy : Int} (h1 : ar ax ay bx bz cx cy * ar ax ay bx bz dx dy < 0) (h2 : ar cx cy dx dy ax ay * ar cx cy dx dy bx bz < 0) : MT ax ay bx bz cx cy dx dy := by
 have hd : ar ax ay bx bz cx cy - ar ax ay bx bz dx dy = ar cx cy dx dy bx bz - ar cx cy dx dy ax ay := by unfold ar; grind
 refine ⟨range_of_cross hd ?_ h1 h2, range_of_cross hd ?_ h1 h2, by omega, by omega⟩
 ·unfold ar; grind
 ·unfold ar; grind

theorem on_of_parted {ax ay bx bz cx cy dx dy : Int} (h1 : ar ax ay bx bz cx cy * ar ax ay bx bz dx dy < 0) (h2 : ar cx cy dx dy ax ay = 0) : ON cx cy dx dy ax ay := by
 have e : (cx - ax) * (dy - ay) = (cy - ay) * (dx - ax) := by unfold ar at h2; grind
 obtain ⟨p1, p2⟩ := parted (wx := bx - ax) (wy := bz - ay) e (by unfold ar at h1; exact h1)
 exact ⟨h2, p1, p2⟩
theorem on_of_parted' {ax ay bx bz cx cy dx dy : Int} (h1 : ar ax ay bx bz cx cy * ar ax ay bx bz dx dy < 0) (h2 : ar cx cy dx dy bx bz = 0) : ON cx cy dx dy bx bz := by
 refine on_of_parted (bx := ax) (bz := ay) ?_ h2
 rw [ar_swap ax ay bx bz, ar_swap ax ay bx bz, Int.neg_mul_neg]; exact h1

theorem mul_zero_right {x y : Int} (hy : y ≠ 0) (h : x * y = 0) : x = 0 := by
 rcases Int.mul_eq_zero.1 h with e | e
 ·exact e
 ·exact absurd e hy

theorem same_of_two {ax ay bx bz cx cy dx dy : Int} (hD : (bx - ax) * (dy - cy) - (bz - ay) * (dx - cx) ≠ 0) (h1 : ar ax ay bx bz cx cy = 0) (h2 : ar cx cy dx dy ax ay = 0) : ax = cx ∧ ay = cy := by
 unfold ar at h1 h2
 have e1 : (cx - ax) * ((bx - ax) * (dy - cy) - (bz - ay) * (dx - cx)) = 0 := by
  have : (cx - ax) * ((bx - ax) * (dy - cy) - (bz - ay) * (dx - cx)) = (dx - cx) * ((bx - ax) * (cy - ay) - (bz - ay) * (cx - ax)) + (bx - ax) * ((dx - cx) * (ay - cy) - (dy - cy) * (ax - cx)) := by grind
  rw [this, h1, h2]; simp
 have e2 : (cy - ay) * ((bx - ax) * (dy - cy) - (bz - ay) * (dx - cx)) = 0 := by
  have : (cy - ay) * ((bx - ax) * (dy - cy) - (bz - ay) * (dx - cx)) = (dy - cy) * ((bx - ax) * (cy - ay) - (bz - ay) * (cx - ax)) + (bz - ay) * ((dx - cx) * (ay - cy) - (dy - cy) * (ax - cx)) := by grind
  rw [this, h1, h2]; simp
 have := mul_zero_right hD e1
 have := mul_zero_right hD e2
 omega

theorem on_end {ax ay bx bz : Int} : ON ax ay bx bz ax ay := ⟨by unfold ar; grind, by simp, by simp⟩
theorem on_end' {ax ay bx bz : Int} : ON ax ay bx bz bx bz := ⟨by unfold ar; grind, by simp, by simp⟩

def ANY (ax ay bx bz cx cy dx dy : Int) : Prop := ON ax ay bx bz cx cy ∨ ON ax ay bx bz dx dy ∨ ON cx cy dx dy ax ay ∨ ON cx cy dx dy bx bz

theorem any_of_two {ax ay bx bz cx cy dx dy : Int} (hD : (bx - ax) * (dy - cy) - (bz - ay) * (dx - cx) ≠ 0)
  (h1 : ar ax ay bx bz cx cy = 0 ∨ ar ax ay bx bz dx dy = 0) (h2 : ar cx cy dx dy ax ay = 0 ∨ ar cx cy dx dy bx bz = 0) : ANY ax ay bx bz cx cy dx dy := by
 rcases h1 with h1 | h1 <;> rcases h2 with h2 | h2
 ·obtain ⟨rfl, rfl⟩ := same_of_two hD h1 h2; exact .inl on_end
 ·have hD' : (ax - bx) * (dy - cy) - (ay - bz) * (dx - cx) ≠ 0 := by intro e; apply hD; grind
  obtain ⟨rfl, rfl⟩ := same_of_two hD' (by rw [ar_swap, h1]; rfl) h2; exact .inl on_end'
 ·have hD' : (bx - ax) * (cy - dy) - (bz - ay) * (cx - dx) ≠ 0 := by intro e; apply hD; grind
  obtain ⟨rfl, rfl⟩ := same_of_two hD' h1 (by rw [ar_swap, h2]; rfl); exact .inr (.inl on_end)
 ·have hD' : (ax - bx) * (cy - dy) - (ay - bz) * (cx - dx) ≠ 0 := by intro e; apply hD; grind
  obtain ⟨rfl, rfl⟩ := same_of_two hD' (by rw [ar_swap, h1]; rfl) (by rw [ar_swap, h2]; rfl); exact .inr (.inl on_end')

theorem rg_end {a b c d : Int} (h : RG a b c d) : (a - c) * (b - c) ≤ 0 ∨ (a - d) * (b - d) ≤ 0 ∨ (c - a) * (d - a) ≤ 0 ∨ (c - b) * (d - b) ≤ 0 := by
 unfold RG at h
 simp only [← btw_mul, btw_iff]
 omega

theorem any_of_line {ax ay bx bz cx cy dx dy : Int} (hx : RG ax bx cx dx) (hy : RG ay bz cy dy) (hw : bx ≠ ax ∨ bz ≠ ay)
  (h1 : ar ax ay bx bz cx cy = 0) (h2 : ar ax ay bx bz dx dy = 0) (h3 : ar cx cy dx dy ax ay = 0) (h4 : ar cx cy dx dy bx bz = 0) : ANY ax ay bx bz cx cy dx dy := by
 by_cases hX : bx - ax ≠ 0
 ·rcases rg_end hx with h | h | h | h
  ·exact .inl ⟨h1, h, alongX (wx := bx - ax) (wy := bz - ay) hX (by unfold ar at h1; grind) (by unfold ar at h1; grind) h⟩
  ·exact .inr (.inl ⟨h2, h, alongX (wx := bx - ax) (wy := bz - ay) hX (by unfold ar at h2; grind) (by unfold ar at h2; grind) h⟩)
  ·exact .inr (.inr (.inl ⟨h3, h, alongX (wx := bx - ax) (wy := bz - ay) hX (by unfold ar at h1; grind) (by unfold ar at h2; grind) h⟩))
  ·exact .inr (.inr (.inr ⟨h4, h, alongX (wx := bx - ax) (wy := bz - ay) hX (by unfold ar at h1; grind) (by unfold ar at h2; grind) h⟩))
 ·have eX : bx = ax := by omega
  have hY : bz - ay ≠ 0 := by omega
  subst eX
  have c0 : cx = bx := by
   have := mul_zero_right hY (x := cx - bx) (by unfold ar at h1; grind); omega
  have d0 : dx = bx := by
   have := mul_zero_right hY (x := dx - bx) (by unfold ar at h2; grind); omega
  subst c0 d0
  rcases rg_end hy with h | h | h | h
  ·exact .inl ⟨h1, by simp, h⟩
  ·exact .inr (.inl ⟨h2, by simp, h⟩)
  ·exact .inr (.inr (.inl ⟨h3, by simp, h⟩))
  ·exact .inr (.inr (.inr ⟨h4, by simp, h⟩))

theorem any_of_MT {ax ay bx bz cx cy dx dy : Int} (h : MT ax ay bx bz cx cy dx dy)
  (hn : ¬ (ar ax ay bx bz cx cy * ar ax ay bx bz dx dy < 0 ∧ ar cx cy dx dy ax ay * ar cx cy dx dy bx bz < 0)) : ANY ax ay bx bz cx cy dx dy := by
 obtain ⟨hx, hy, h1, h2⟩ := h
 by_cases z1 : ar ax ay bx bz cx cy * ar ax ay bx bz dx dy < 0
 ·have z2 : ar cx cy dx dy ax ay * ar cx cy dx dy bx bz = 0 := by
   by_cases q : ar cx cy dx dy ax ay * ar cx cy dx dy bx bz < 0
   ·exact absurd ⟨z1, q⟩ hn
   ·omega
  rcases Int.mul_eq_zero.1 z2 with e | e
  ·exact .inr (.inr (.inl (on_of_parted z1 e)))
  ·exact .inr (.inr (.inr (on_of_parted' z1 e)))
 ·have z1' := Int.mul_eq_zero.1 (show ar ax ay bx bz cx cy * ar ax ay bx bz dx dy = 0 by omega)
  by_cases z2 : ar cx cy dx dy ax ay * ar cx cy dx dy bx bz < 0
  ·rcases z1' with e | e
   ·exact .inl (on_of_parted z2 e)
   ·exact .inr (.inl (on_of_parted' z2 e))
  ·have z2' := Int.mul_eq_zero.1 (show ar cx cy dx dy ax ay * ar cx cy dx dy bx bz = 0 by omega)
   by_cases hD : (bx - ax) * (dy - cy) - (bz - ay) * (dx - cx) = 0
   ·have e1 : ar ax ay bx bz cx cy = ar ax ay bx bz dx dy := by unfold ar; grind
    have e2 : ar cx cy dx dy ax ay = ar cx cy dx dy bx bz := by unfold ar; grind
    have a1 : ar ax ay bx bz cx cy = 0 := by rcases z1' with e | e <;> omega
    have a2 : ar ax ay bx bz dx dy = 0 := by omega
    have a3 : ar cx cy dx dy ax ay = 0 := by rcases z2' with e | e <;> omega
    have a4 : ar cx cy dx dy bx bz = 0 := by omega
    by_cases hw : bx ≠ ax ∨ bz ≠ ay
    ·exact any_of_line hx hy hw a1 a2 a3 a4
    ·by_cases hw' : dx ≠ cx ∨ dy ≠ cy
     ·have hx' : RG cx dx ax bx := by unfold RG at hx ⊢; omega
      have hy' : RG cy dy ay bz := by unfold RG at hy ⊢; omega
      rcases any_of_line hx' hy' hw' a3 a4 a1 a2 with h | h | h | h
      ·exact .inr (.inr (.inl h))
      ·exact .inr (.inr (.inr h))
      ·exact .inl h
      ·exact .inr (.inl h)
     ·have : bx = ax := by omega
      have : bz = ay := by omega
      have : dx = cx := by omega
      have : dy = cy := by omega
      subst bx bz dx dy
      unfold RG at hx hy
      have : ax = cx := by omega
      have : ay = cy := by omega
      subst ax ay
      exact .inl on_end
   ·exact any_of_two hD z1' z2'

theorem sgn1_mul_le (m n : Int) : (sgn1 m * sgn1 n ≤ 0) ↔ m * n ≤ 0 := by
 unfold sgn1
 rcases Int.lt_trichotomy m 0 with hm | hm | hm <;> rcases Int.lt_trichotomy n 0 with hn | hn | hn <;> (try subst hm) <;> (try subst hn)
 ·have := Int.mul_pos (a := -m) (b := -n) (by omega) (by omega); rw [Int.neg_mul_neg] at this
  rw [if_neg (by omega), if_pos hm, if_neg (by omega), if_pos hn]; omega
 ·simp
 ·have := Int.mul_pos (a := -m) (b := n) (by omega) (by omega); rw [Int.neg_mul] at this
  rw [if_neg (by omega), if_pos hm, if_pos hn]; omega
 ·simp
 ·simp
 ·simp
 ·have := Int.mul_pos (a := m) (b := -n) (by omega) (by omega); rw [Int.mul_neg] at this
  rw [if_pos hm, if_neg (by omega), if_pos hn]; omega
 ·simp
 ·have := Int.mul_pos hm hn
  rw [if_pos hm, if_pos hn]; omega

theorem sgn1_mul_lt (m n : Int) : (sgn1 m * sgn1 n < 0) ↔ m * n < 0 := by
 unfold sgn1
 rcases Int.lt_trichotomy m 0 with hm | hm | hm <;> rcases Int.lt_trichotomy n 0 with hn | hn | hn <;> (try subst hm) <;> (try subst hn)
 ·have := Int.mul_pos (a := -m) (b := -n) (by omega) (by omega); rw [Int.neg_mul_neg] at this
  rw [if_neg (by omega), if_pos hm, if_neg (by omega), if_pos hn]; omega
 ·simp
 ·have := Int.mul_pos (a := -m) (b := n) (by omega) (by omega); rw [Int.neg_mul] at this
  rw [if_neg (by omega), if_pos hm, if_pos hn]; omega
 ·simp
 ·simp
 ·simp
 ·have := Int.mul_pos (a := m) (b := -n) (by omega) (by omega); rw [Int.mul_neg] at this
  rw [if_pos hm, if_neg (by omega), if_pos hn]; omega
 ·simp
 ·have := Int.mul_pos hm hn
  rw [if_pos hm, if_pos hn]; omega

def metI (ax ay bx bz cx cy dx dy : Int) : Bool :=
 rng ax bx cx dx && (rng ay bz cy dy && (decide (sgn1 (ar ax ay bx bz cx cy) * sgn1 (ar ax ay bx bz dx dy) ≤ 0) && decide (sgn1 (ar cx cy dx dy ax ay) * sgn1 (ar cx cy dx dy bx bz) ≤ 0)))
def metS (ax ay bx bz cx cy dx dy : Int) : Bool :=
 (onB ax ay bx bz cx cy || (onB ax ay bx bz dx dy || (onB cx cy dx dy ax ay || onB cx cy dx dy bx bz))) ||
  (decide (sgn1 (ar ax ay bx bz cx cy) * sgn1 (ar ax ay bx bz dx dy) < 0) && decide (sgn1 (ar cx cy dx dy ax ay) * sgn1 (ar cx cy dx dy bx bz) < 0))

theorem metI_iff {ax ay bx bz cx cy dx dy : Int} : metI ax ay bx bz cx cy dx dy = true ↔ MT ax ay bx bz cx cy dx dy := by
 simp only [metI, MT, Bool.and_eq_true, rng_iff, decide_eq_true_eq, sgn1_mul_le]
theorem metS_iff {ax ay bx bz cx cy dx dy : Int} : metS ax ay bx bz cx cy dx dy = true ↔ ANY ax ay bx bz cx cy dx dy ∨ (ar ax ay bx bz cx cy * ar ax ay bx bz dx dy < 0 ∧ ar cx cy dx dy ax ay * ar cx cy dx dy bx bz < 0) := by
 simp only [metS, ANY, Bool.and_eq_true, Bool.or_eq_true, onB_iff, decide_eq_true_eq, sgn1_mul_lt]

theorem met_same (ax ay bx bz cx cy dx dy : Int) : metI ax ay bx bz cx cy dx dy = metS ax ay bx bz cx cy dx dy := by
 rw [Bool.eq_iff_iff, metI_iff, metS_iff]
 constructor
 ·intro h
  by_cases hn : ar ax ay bx bz cx cy * ar ax ay bx bz dx dy < 0 ∧ ar cx cy dx dy ax ay * ar cx cy dx dy bx bz < 0
  ·exact .inr hn
  ·exact .inl (any_of_MT h hn)
 ·rintro ((h | h | h | h) | ⟨h1, h2⟩)
  ·exact MT_of_on _ _ h
  ·exact (MT_of_on _ _ h).flip
  ·exact (MT_of_on _ _ h).other
  ·exact (MT_of_on _ _ h).flip.other
  ·exact MT_of_cross h1 h2

theorem met_point (ax ay bx bz px py : Int) : metI ax ay bx bz px py px py = onB ax ay bx bz px py := by
 rw [Bool.eq_iff_iff, met_same, metS_iff, onB_iff]
 constructor
 ·rintro ((h | h | h | h) | ⟨h1, h2⟩)
  ·exact h
  ·exact h
  ·obtain ⟨_, h2, h3⟩ := h
   have := btw_iff.1 (btw_mul.2 h2)
   have := btw_iff.1 (btw_mul.2 h3)
   have : px = ax := by omega
   have : py = ay := by omega
   subst px py; exact on_end
  ·obtain ⟨_, h2, h3⟩ := h
   have := btw_iff.1 (btw_mul.2 h2)
   have := btw_iff.1 (btw_mul.2 h3)
   have : px = bx := by omega
   have : py = bz := by omega
   subst px py; exact on_end'
  ·have := sq_nonneg (ar ax ay bx bz px py); omega
 ·intro h; exact .inl (.inl h)
end Go.Proofs.YtinlomcaagdbiaaGreat

/- Points: which are right, what they are taken as; the ways between them. -/
namespace Go.Proofs.YtinlomcaagdbiaaGreat
open Go.RowKit

def ptOk (x y : Int) : Bool := inB x (-10000000) 10000000 && inB y (-10000000) 10000000
def Crd (n : Int) : Prop := -10000000 ≤ n ∧ n ≤ 10000000
theorem inB_true {x lo hi : Int} : inB x lo hi = true ↔ lo ≤ x ∧ x ≤ hi := by simp [inB]
theorem coordOk_any (n : Int) (w : World) :
  Calls Tryz.prog 103 #[.int .i64 n] w fun e w' => e = .returned (.bool (inB n (-10000000) 10000000)) ∧ w' = w := by
 by_cases h1 : -10000000 ≤ n <;> by_cases h2 : n ≤ 10000000
 all_goals
  have E : inB n (-10000000) 10000000 = (decide (-10000000 ≤ n) && decide (n ≤ 10000000)) := rfl
  have H : Hid (inB n (-10000000) 10000000 = (decide (-10000000 ≤ n) && decide (n ≤ 10000000))) := E
  clear E
  go_enter Tryz.func103, Tryz.ntmps103
  go_wp2
  go_ret
  exact ⟨by rw [H.out]; simp [h1, h2], rfl⟩

theorem l1In_any (n lo hi : Int) (w : World) :
  Calls Tryz.prog 34 #[.int .i64 n, .int .i64 lo, .int .i64 hi] w fun e w' => e = .returned (.bool (inB n lo hi)) ∧ w' = w := by
 have H : Hid (inB n lo hi = (decide (lo ≤ n) && decide (n ≤ hi))) := (rfl : inB n lo hi = _)
 by_cases h1 : lo ≤ n <;> by_cases h2 : n ≤ hi
 all_goals
  go_enter Tryz.func34, Tryz.ntmps34
  go_wp2
  go_ret
  exact ⟨by rw [H.out]; simp [h1, h2], rfl⟩

theorem implPtOk (x y : Int) (w : World) :
  Calls Tryz.prog 78 #[.agg #[.int .i64 x, .int .i64 y]] w fun e w' => e = .returned (.bool (ptOk x y)) ∧ Below w.heap.size w w' := by
 have H : Hid (ptOk x y = (inB x (-10000000) 10000000 && inB y (-10000000) 10000000)) := (rfl : ptOk x y = _)
 cases h1 : inB x (-10000000) 10000000
 all_goals
  go_enter Tryz.func78, Tryz.ntmps78
  go_wp2_with (go_at_call 103; refine (coordOk_any _ _).mono ?_; rintro e w' ⟨rfl, rfl⟩; try rw [h1])
  go_ret
  exact ⟨by rw [H.out, h1]; simp, below1 _ _⟩

theorem specPtOk (x y : Int) (w : World) :
  Calls Tryz.prog 53 #[.agg #[.int .i64 x, .int .i64 y]] w fun e w' => e = .returned (.bool (ptOk x y)) ∧ Below w.heap.size w w' := by
 have H : Hid (ptOk x y = (inB x (-10000000) 10000000 && inB y (-10000000) 10000000)) := (rfl : ptOk x y = _)
 cases h1 : inB x (-10000000) 10000000
 all_goals
  go_enter Tryz.func53, Tryz.ntmps53
  go_wp2_with (go_at_call 34; refine (l1In_any _ _ _ _).mono ?_; rintro e w' ⟨rfl, rfl⟩; try rw [h1])
  go_ret
  exact ⟨by rw [H.out, h1]; simp, below1 _ _⟩

theorem toPt_any (x y : Int) (w : World) :
  Calls Tryz.prog 95 #[.agg #[.int .i64 x, .int .i64 y]] w fun e w' => e = .returned (.agg #[.int .i64 x, .int .i64 y]) ∧ Below w.heap.size w w' := by
 go_enter Tryz.func95, Tryz.ntmps95
 go_wp2
 exact bodyPost_ret (v := .agg #[.int .i64 x, .int .i64 y]) (by simp [results, Tryz.results95, go_sem]) rfl ⟨rfl, below3 _ _ _ _⟩

def Dif (n : Int) : Prop := -20000000 ≤ n ∧ n ≤ 20000000
theorem Crd.dif {a b : Int} (h : Crd a) (k : Crd b) : Dif (a - b) := by unfold Crd at h k; unfold Dif; omega
theorem Dif.mul {a b : Int} (h : Dif a) (k : Dif b) : -400000000000000 ≤ a * b ∧ a * b ≤ 400000000000000 := by
 unfold Dif at h k
 have h1 := Int.mul_nonneg (show 0 ≤ 20000000 - a by omega) (show 0 ≤ 20000000 - b by omega)
 have h2 := Int.mul_nonneg (show 0 ≤ 20000000 + a by omega) (show 0 ≤ 20000000 + b by omega)
 have h3 := Int.mul_nonneg (show 0 ≤ 20000000 - a by omega) (show 0 ≤ 20000000 + b by omega)
 have h4 := Int.mul_nonneg (show 0 ≤ 20000000 + a by omega) (show 0 ≤ 20000000 - b by omega)
 grind

theorem way_any (x1 y1 x2 y2 : Int) (w : World) (h1 : Crd x1) (h2 : Crd y1) (h3 : Crd x2) (h4 : Crd y2) :
  Calls Tryz.prog 161 #[.agg #[.int .i64 x1, .int .i64 y1], .agg #[.int .i64 x2, .int .i64 y2]] w fun e w' => e = .returned (.agg #[.int .i64 (x2 - x1), .int .i64 (y2 - y1)]) ∧ Below w.heap.size w w' := by
 obtain ⟨a1, b1⟩ := h1
 obtain ⟨a2, b2⟩ := h2
 obtain ⟨a3, b3⟩ := h3
 obtain ⟨a4, b4⟩ := h4
 go_enter Tryz.func161, Tryz.ntmps161
 go_wp2
 exact bodyPost_ret (v := .agg #[.int .i64 (x2 - x1), .int .i64 (y2 - y1)]) (by simp [results, Tryz.results161, go_sem]) rfl ⟨rfl, below3 _ _ _ _⟩

theorem across_any (x1 y1 x2 y2 : Int) (w : World) (h1 : Dif x1) (h2 : Dif y1) (h3 : Dif x2) (h4 : Dif y2) :
  Calls Tryz.prog 118 #[.agg #[.int .i64 x1, .int .i64 y1], .agg #[.int .i64 x2, .int .i64 y2]] w fun e w' => e = .returned (.int .i64 (x1 * y2 - y1 * x2)) ∧ Below w.heap.size w w' := by
 obtain ⟨a1, b1⟩ := h1.mul h4
 obtain ⟨a2, b2⟩ := h2.mul h3
 go_enter Tryz.func118, Tryz.ntmps118
 go_wp2
 go_ret
 exact ⟨rfl, below2 _ _ _⟩

theorem sgn1_neg {n : Int} (h : n < 0) : sgn1 n = -1 := by unfold sgn1; rw [if_neg (by omega), if_pos h]
theorem sgn1_pos {n : Int} (h : 0 < n) : sgn1 n = 1 := by unfold sgn1; rw [if_pos h]
theorem sgn1_cases (n : Int) : sgn1 n = -1 ∨ sgn1 n = 0 ∨ sgn1 n = 1 := by
 rcases Int.lt_trichotomy n 0 with h | h | h
 ·exact .inl (sgn1_neg h)
 ·subst h; exact .inr (.inl rfl)
 ·exact .inr (.inr (sgn1_pos h))
theorem ret_bool {a b : Bool} (h : a = b) : Ending.returned (.bool a) = .returned (.bool b) := by rw [h]

theorem isNaN_any (n : Int) (w : World) :
  Calls Tryz.prog 126 #[.int .i64 n] w fun e w' => e = .returned (.bool false) ∧ w' = w := by
 go_enter Tryz.func126, Tryz.ntmps126
 go_wp2
 go_ret
 exact ⟨rfl, rfl⟩

theorem compare0 (n : Int) (w : World) :
  Calls Tryz.prog 108 #[.int .i64 n, .int .i64 0] w fun e w' => e = .returned (.int .i64 (sgn1 n)) ∧ w' = w := by
 rcases Int.lt_trichotomy n 0 with h | h | h
 ·have h' : ¬ 0 < n := by omega
  go_enter Tryz.func108, Tryz.ntmps108
  go_wp2_with (go_at_call 126; refine (isNaN_any _ _).mono ?_; rintro e w' ⟨rfl, rfl⟩)
  go_ret
  exact ⟨by rw [sgn1_neg h]; rfl, rfl⟩
 ·subst h
  go_enter Tryz.func108, Tryz.ntmps108
  go_wp2_with (go_at_call 126; refine (isNaN_any _ _).mono ?_; rintro e w' ⟨rfl, rfl⟩)
  go_ret
  exact ⟨rfl, rfl⟩
 ·have h' : ¬ n < 0 := by omega
  go_enter Tryz.func108, Tryz.ntmps108
  go_wp2_with (go_at_call 126; refine (isNaN_any _ _).mono ?_; rintro e w' ⟨rfl, rfl⟩)
  go_ret
  exact ⟨by rw [sgn1_pos h]; rfl, rfl⟩

theorem l3Sign_any (n : Int) (w : World) :
  Calls Tryz.prog 132 #[.int .i64 n] w fun e w' => e = .returned (.int .i64 (sgn1 n)) ∧ w' = w := by
 rcases Int.lt_trichotomy n 0 with h | h | h
 ·have h' : ¬ 0 < n := by omega
  go_enter Tryz.func132, Tryz.ntmps132
  go_wp2
  go_ret
  exact ⟨by rw [sgn1_neg h]; rfl, rfl⟩
 ·subst h
  go_enter Tryz.func132, Tryz.ntmps132
  go_wp2
  go_ret
  exact ⟨rfl, rfl⟩
 ·have h' : ¬ n < 0 := by omega
  go_enter Tryz.func132, Tryz.ntmps132
  go_wp2
  go_ret
  exact ⟨by rw [sgn1_pos h]; rfl, rfl⟩

theorem l3Area_any (x1 y1 x2 y2 x3 y3 : Int) (w : World) (h1 : Crd x1) (h2 : Crd y1) (h3 : Crd x2) (h4 : Crd y2) (h5 : Crd x3) (h6 : Crd y3) :
  Calls Tryz.prog 115 #[.agg #[.int .i64 x1, .int .i64 y1], .agg #[.int .i64 x2, .int .i64 y2], .agg #[.int .i64 x3, .int .i64 y3]] w fun e w' => e = .returned (.int .i64 (ar x1 y1 x2 y2 x3 y3)) ∧ Below w.heap.size w w' := by
 obtain ⟨p1, p2⟩ := (h3.dif h1).mul (h6.dif h2)
 obtain ⟨q1, q2⟩ := (h4.dif h2).mul (h5.dif h1)
 obtain ⟨a1, b1⟩ := h1
 obtain ⟨a2, b2⟩ := h2
 obtain ⟨a3, b3⟩ := h3
 obtain ⟨a4, b4⟩ := h4
 obtain ⟨a5, b5⟩ := h5
 obtain ⟨a6, b6⟩ := h6
 go_enter Tryz.func115, Tryz.ntmps115
 go_wp2
 go_ret
 exact ⟨rfl, below3 _ _ _ _⟩
end Go.Proofs.YtinlomcaagdbiaaGreat

/- Between two, and ranges that meet. -/
namespace Go.Proofs.YtinlomcaagdbiaaGreat
open Go.RowKit

theorem l3Between_any (a b x : Int) (w : World) :
  Calls Tryz.prog 131 #[.int .i64 a, .int .i64 b, .int .i64 x] w fun e w' => e = .returned (.bool (btw a b x)) ∧ w' = w := by
 have H : Hid (btw a b x = (inB x a b || inB x b a)) := (rfl : btw a b x = _)
 cases h1 : inB x a b
 all_goals
  go_enter Tryz.func131, Tryz.ntmps131
  go_wp2_with (go_at_call 34; refine (l1In_any _ _ _ _).mono ?_; rintro e w' ⟨rfl, rfl⟩; try rw [h1])
  go_ret
  exact ⟨by rw [H.out, h1]; simp, rfl⟩

theorem rangesMeet_any (a b c d : Int) (w : World) :
  Calls Tryz.prog 150 #[.int .i64 a, .int .i64 b, .int .i64 c, .int .i64 d] w fun e w' => e = .returned (.bool (rng a b c d)) ∧ w' = w := by
 have H : Hid (rng a b c d = (decide (min a b ≤ max c d) && decide (min c d ≤ max a b))) := (rfl : rng a b c d = _)
 by_cases h1 : a ≤ b <;> by_cases h2 : c ≤ d
 all_goals
  go_enter Tryz.func150, Tryz.ntmps150
  go_wp2
 all_goals
  go_ret
  exact ⟨ret_bool (by rw [H.out, Bool.eq_iff_iff]; simp; omega), rfl⟩
end Go.Proofs.YtinlomcaagdbiaaGreat
