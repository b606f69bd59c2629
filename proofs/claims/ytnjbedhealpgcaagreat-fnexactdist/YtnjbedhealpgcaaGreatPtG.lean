import Derived.Test.YtnjbedhealpgcaaGreatBase
import Derived.Test.YtnjbedhealpgcaaGreatProg
import Derived.Deep.RegionHeld3
import Derived.WalkSpells
import Derived.Test.YtnjbedhealpgcaaGreatFTake
import Derived.Laws.BitsAllLaws
/- Turns, segments and whether they meet, over the whole numbers: the program's test and the specification's are the same. No program is named here. -/
namespace Go.Proofs.YtnjbedhealpgcaaGreat
def ar (ax ay bx bz cx cy : Int) : Int := (bx - ax) * (cy - ay) - (bz - ay) * (cx - ax)
def sgn1 (n : Int) : Int := if 0 < n then 1 else if n < 0 then -1 else 0
def inB (x lo hi : Int) : Bool := decide (lo ≤ x) && decide (x ≤ hi)
def btw (a b x : Int) : Bool := inB x a b || inB x b a
def onB (ax ay bx bz px py : Int) : Bool := decide (ar ax ay bx bz px py = 0) && (btw ax bx px && btw ay bz py)
def rng (a b c d : Int) : Bool := decide (min a b ≤ max c d) && decide (min c d ≤ max a b)

theorem btw_iff {a b x : Int} : btw a b x = true ↔ (a ≤ x ∧ x ≤ b) ∨ (b ≤ x ∧ x ≤ a) := by simp [btw, inB]

theorem btw_mul {a b x : Int} : btw a b x = true ↔ (a - x) * (b - x) ≤ 0 := by
 rw [btw_iff]
 constructor
 ·rintro (⟨h1, h2⟩ | ⟨h1, h2⟩)
  ·have := Int.mul_nonneg (a := x - a) (b := b - x) (by omega) (by omega)
   grind
  ·have := Int.mul_nonneg (a := a - x) (b := x - b) (by omega) (by omega)
   grind
 ·intro h
  by_cases h1 : a ≤ x
  ·by_cases h2 : x ≤ b
   ·exact .inl ⟨h1, h2⟩
   ·by_cases h3 : a = x
    ·exact .inr ⟨by omega, by omega⟩
    ·have := Int.mul_pos (a := x - a) (b := x - b) (by omega) (by omega)
     grind
  ·by_cases h2 : b ≤ x
   ·exact .inr ⟨h2, by omega⟩
   ·have := Int.mul_pos (a := a - x) (b := b - x) (by omega) (by omega)
    grind

theorem sq_nonneg (x : Int) : 0 ≤ x * x := by
 rcases Int.le_total 0 x with h | h
 ·exact Int.mul_nonneg h h
 ·have := Int.mul_nonneg (a := -x) (b := -x) (by omega) (by omega); grind

theorem sq_pos {x : Int} (h : x ≠ 0) : 0 < x * x := by
 have := sq_nonneg x
 have h2 : x * x ≠ 0 := fun e => h (by rcases Int.mul_eq_zero.1 e with e | e <;> exact e)
 omega

theorem nonpos_of_pos_mul {p x : Int} (hp : 0 < p) (h : p * x ≤ 0) : x ≤ 0 := by
 by_cases hx : 0 < x
 ·have := Int.mul_pos hp hx; omega
 ·omega

theorem nonpos_of_neg_mul {p x : Int} (hp : p < 0) (h : 0 ≤ p * x) : x ≤ 0 := by
 by_cases hx : 0 < x
 ·have := Int.mul_pos (a := -p) (b := x) (by omega) hx; grind
 ·omega

theorem onSides {ux uy vx vy wx wy : Int} (h : ux * vy = uy * vx) (hx : ux * vx ≤ 0) (hy : uy * vy ≤ 0) : (wx * uy - wy * ux) * (wx * vy - wy * vx) ≤ 0 := by
 by_cases hP : uy * vy = 0
 ·have hQ : (ux * vy) * (ux * vy) = 0 := by grind
  have hQ' : ux * vy = 0 := by rcases Int.mul_eq_zero.1 hQ with e | e <;> exact e
  have hs := Int.mul_nonneg (sq_nonneg wy) (show 0 ≤ -(ux * vx) by omega)
  have e : (wx * uy - wy * ux) * (wx * vy - wy * vx) = -(wy * wy * -(ux * vx)) := by grind
  omega
 ·refine nonpos_of_neg_mul (p := uy * vy) (by omega) ?_
  have := sq_nonneg (uy * vy * wx - ux * vy * wy)
  have e : uy * vy * ((wx * uy - wy * ux) * (wx * vy - wy * vx)) = (uy * vy * wx - ux * vy * wy) * (uy * vy * wx - ux * vy * wy) := by grind
  omega

theorem parted {ux uy vx vy wx wy : Int} (h : ux * vy = uy * vx) (hp : (wx * uy - wy * ux) * (wx * vy - wy * vx) < 0) : ux * vx ≤ 0 ∧ uy * vy ≤ 0 := by
 constructor
 ·refine nonpos_of_neg_mul hp ?_
  have := sq_nonneg ((wx * vy - wy * vx) * ux)
  have e : (wx * uy - wy * ux) * (wx * vy - wy * vx) * (ux * vx) = ((wx * vy - wy * vx) * ux) * ((wx * vy - wy * vx) * ux) := by grind
  omega
 ·refine nonpos_of_neg_mul hp ?_
  have := sq_nonneg ((wx * vy - wy * vx) * uy)
  have e : (wx * uy - wy * ux) * (wx * vy - wy * vx) * (uy * vy) = ((wx * vy - wy * vx) * uy) * ((wx * vy - wy * vx) * uy) := by grind
  omega

theorem alongX {ux uy vx vy wx wy : Int} (hw : wx ≠ 0) (hu : ux * wy = uy * wx) (hv : vx * wy = vy * wx) (h : ux * vx ≤ 0) : uy * vy ≤ 0 := by
 refine nonpos_of_pos_mul (sq_pos hw) ?_
 have := Int.mul_nonneg (sq_nonneg wy) (show 0 ≤ -(ux * vx) by omega)
 have e : wx * wx * (uy * vy) = wy * wy * (ux * vx) := by grind
 grind

def ON (ax ay bx bz px py : Int) : Prop := ar ax ay bx bz px py = 0 ∧ (ax - px) * (bx - px) ≤ 0 ∧ (ay - py) * (bz - py) ≤ 0
theorem onB_iff {ax ay bx bz px py : Int} : onB ax ay bx bz px py = true ↔ ON ax ay bx bz px py := by
 simp [onB, ON, btw_mul]

def RG (a b c d : Int) : Prop := min a b ≤ max c d ∧ min c d ≤ max a b
theorem rng_iff {a b c d : Int} : rng a b c d = true ↔ RG a b c d := by simp [rng, RG]

def MT (ax ay bx bz cx cy dx dy : Int) : Prop :=
 RG ax bx cx dx ∧ RG ay bz cy dy ∧ ar ax ay bx bz cx cy * ar ax ay bx bz dx dy ≤ 0 ∧ ar cx cy dx dy ax ay * ar cx cy dx dy bx bz ≤ 0
theorem ar_swap (ax ay bx bz cx cy : Int) : ar bx bz ax ay cx cy = - ar ax ay bx bz cx cy := by unfold ar; grind
theorem MT.flip {ax ay bx bz cx cy dx dy : Int} (h : MT ax ay bx bz cx cy dx dy) : MT ax ay bx bz dx dy cx cy := by
 obtain ⟨h1, h2, h3, h4⟩ := h
 unfold RG at h1 h2
 refine ⟨by unfold RG; omega, by unfold RG; omega, by rw [Int.mul_comm]; exact h3, ?_⟩
 rw [ar_swap cx cy dx dy, ar_swap cx cy dx dy]; rw [Int.neg_mul_neg]; exact h4
theorem MT.other {ax ay bx bz cx cy dx dy : Int} (h : MT ax ay bx bz cx cy dx dy) : MT cx cy dx dy ax ay bx bz := by
 obtain ⟨h1, h2, h3, h4⟩ := h
 unfold RG at h1 h2
 exact ⟨by unfold RG; omega, by unfold RG; omega, h4, h3⟩

theorem MT_of_on {ax ay bx bz cx cy : Int} (dx dy : Int) (h : ON ax ay bx bz cx cy) : MT ax ay bx bz cx cy dx dy := by
 obtain ⟨h1, h2, h3⟩ := h
 refine ⟨?_, ?_, by rw [h1]; simp, ?_⟩
 ·have := btw_iff.1 (btw_mul.2 h2); unfold RG; omega
 ·have := btw_iff.1 (btw_mul.2 h3); unfold RG; omega
 ·have e : (ax - cx) * (bz - cy) = (ay - cy) * (bx - cx) := by unfold ar at h1; grind
  have := onSides (wx := dx - cx) (wy := dy - cy) e h2 h3
  unfold ar; exact this

theorem range_of_cross {ax bx cx dx A1 A2 A3 A4 : Int} (hd : A1 - A2 = A4 - A3) (he : A4 * ax - A3 * bx = A1 * dx - A2 * cx) (h1 : A1 * A2 < 0) (h2 : A3 * A4 < 0) : RG ax bx cx dx := by
 have parts : ∀ x y : Int, x * y < 0 → (0 < x ∧ y < 0) ∨ (x < 0 ∧ 0 < y) := by
  intro x y h
  rcases Int.lt_trichotomy x 0 with hx | hx | hx
  ·right
   refine ⟨hx, ?_⟩
   by_cases hy : 0 < y
   ·exact hy
   ·have := Int.mul_nonneg (a := -x) (b := -y) (by omega) (by omega); rw [Int.neg_mul_neg] at this; omega
  ·subst hx; simp at h
  ·left
   refine ⟨hx, ?_⟩
   by_cases hy : y < 0
   ·exact hy
   ·have := Int.mul_nonneg (a := x) (b := y) (by omega) (by omega); omega
 have key : ∀ (P Q R S p q r s : Int), 0 < P → 0 < Q → 0 < R → 0 < S → P + Q = R + S → P * p + Q * q = R * r + S * s → ¬ (r < p ∧ r < q ∧ s < p ∧ s < q) := by
  intro P Q R S p q r s hP hQ hR hS hsum heq ⟨h1, h2, h3, h4⟩
  have m1 : ∃ m, r ≤ m ∧ s ≤ m ∧ m < p ∧ m < q := by
   by_cases hrs : r ≤ s
   ·exact ⟨s, hrs, Int.le_refl _, h3, h4⟩
   ·exact ⟨r, Int.le_refl _, by omega, h1, h2⟩
  obtain ⟨m, a1, a2, a3, a4⟩ := m1
  have t1 := Int.mul_pos hP (show 0 < p - m by omega)
  have t2 := Int.mul_pos hQ (show 0 < q - m by omega)
  have t3 := Int.mul_nonneg (Int.le_of_lt hR) (show 0 ≤ m - r by omega)
  have t4 := Int.mul_nonneg (Int.le_of_lt hS) (show 0 ≤ m - s by omega)
  have e1 : P * (p - m) + Q * (q - m) + R * (m - r) + S * (m - s) = 0 := by
   have : P * (p - m) + Q * (q - m) + R * (m - r) + S * (m - s) = (P * p + Q * q) - (R * r + S * s) - (P + Q) * m + (R + S) * m := by grind
   rw [this, heq, hsum]; omega
  omega
 rcases parts _ _ h1 with ⟨a1, a2⟩ | ⟨a1, a2⟩ <;> rcases parts _ _ h2 with ⟨a3, a4⟩ | ⟨a3, a4⟩
 ·omega
 ·have k1 := key A4 (-A3) A1 (-A2) ax bx dx cx a4 (by omega) a1 (by omega) (by omega) (by grind)
  have k2 := key A1 (-A2) A4 (-A3) dx cx ax bx a1 (by omega) a4 (by omega) (by omega) (by grind)
  unfold RG; omega
 ·have k1 := key (-A4) A3 (-A1) A2 ax bx dx cx (by omega) a3 (by omega) a2 (by omega) (by grind)
  have k2 := key (-A1) A2 (-A4) A3 dx cx ax bx (by omega) a2 (by omega) a3 (by omega) (by grind)
  unfold RG; omega
 ·omega

theorem MT_of_cross {ax ay bx bz cx cy dx dy : Int} (h1 : ar ax ay bx bz cx cy * ar ax ay bx bz dx dy < 0) (h2 : ar cx cy dx dy ax ay * ar cx cy dx dy bx bz < 0) : MT ax ay bx bz cx cy dx dy := by
 have hd : ar ax ay bx bz cx cy - ar ax ay bx bz dx dy = ar cx cy dx dy bx bz - ar cx cy dx dy ax ay := by unfold ar; grind
 refine ⟨range_of_cross hd ?_ h1 h2, range_of_cross hd ?_ h1 h2, by omega, by omega⟩
 ·unfold ar; grind
 ·unfold ar; grind

theorem on_of_parted {ax ay bx bz cx cy dx dy : Int} (h1 : ar ax ay bx bz cx cy * ar ax ay bx bz dx dy < 0) (h2 : ar cx cy dx dy ax ay = 0) : ON cx cy dx dy ax ay := by
 have e : (cx - ax) * (dy - ay) = (cy - ay) * (dx - ax) := by unfold ar at h2; grind
 obtain ⟨p1, p2⟩ := parted (wx := bx - ax) (wy := bz - ay) e (by unfold ar at h1; exact h1)
 exact ⟨h2, p1, p2⟩
theorem on_of_parted' {ax ay bx bz cx cy dx dy : Int} (h1 : ar ax ay bx bz cx cy * ar ax ay bx bz dx dy < 0) (h2 : ar cx cy dx dy bx bz = 0) : ON cx cy dx dy bx bz := by
 refine on_of_parted (bx := ax) (bz := ay) ?_ h2
 rw [ar_swap ax ay bx bz, ar_swap ax ay bx bz, Int.neg_mul_neg]; exact h1

theorem mul_zero_right {x y : Int} (hy : y ≠ 0) (h : x * y = 0) : x = 0 := by
 rcases Int.mul_eq_zero.1 h with e | e
 ·exact e
 ·exact absurd e hy

theorem same_of_two {ax ay bx bz cx cy dx dy : Int} (hD : (bx - ax) * (dy - cy) - (bz - ay) * (dx - cx) ≠ 0) (h1 : ar ax ay bx bz cx cy = 0) (h2 : ar cx cy dx dy ax ay = 0) : ax = cx ∧ ay = cy := by
 unfold ar at h1 h2
 have e1 : (cx - ax) * ((bx - ax) * (dy - cy) - (bz - ay) * (dx - cx)) = 0 := by
  have : (cx - ax) * ((bx - ax) * (dy - cy) - (bz - ay) * (dx - cx)) = (dx - cx) * ((bx - ax) * (cy - ay) - (bz - ay) * (cx - ax)) + (bx - ax) * ((dx - cx) * (ay - cy) - (dy - cy) * (ax - cx)) := by grind
  rw [this, h1, h2]; simp
 have e2 : (cy - ay) * ((bx - ax) * (dy - cy) - (bz - ay) * (dx - cx)) = 0 := by
  have : (cy - ay) * ((bx - ax) * (dy - cy) - (bz - ay) * (dx - cx)) = (dy - cy) * ((bx - ax) * (cy - ay) - (bz - ay) * (cx - ax)) + (bz - ay) * ((dx - cx) * (ay - cy) - (dy - cy) * (ax - cx)) := by grind
  rw [this, h1, h2]; simp
 have := mul_zero_right hD e1
 have := mul_zero_right hD e2
 omega

theorem on_end {ax ay bx bz : Int} : ON ax ay bx bz ax ay := ⟨by unfold ar; grind, by simp, by simp⟩
theorem on_end' {ax ay bx bz : Int} : ON ax ay bx bz bx bz := ⟨by unfold ar; grind, by simp, by simp⟩

def ANY (ax ay bx bz cx cy dx dy : Int) : Prop := ON ax ay bx bz cx cy ∨ ON ax ay bx bz dx dy ∨ ON cx cy dx dy ax ay ∨ ON cx cy dx dy bx bz

theorem any_of_two {ax ay bx bz cx cy dx dy : Int} (hD : (bx - ax) * (dy - cy) - (bz - ay) * (dx - cx) ≠ 0)
  (h1 : ar ax ay bx bz cx cy = 0 ∨ ar ax ay bx bz dx dy = 0) (h2 : ar cx cy dx dy ax ay = 0 ∨ ar cx cy dx dy bx bz = 0) : ANY ax ay bx bz cx cy dx dy := by
 rcases h1 with h1 | h1 <;> rcases h2 with h2 | h2
 ·obtain ⟨rfl, rfl⟩ := same_of_two hD h1 h2; exact .inl on_end
 ·have hD' : (ax - bx) * (dy - cy) - (ay - bz) * (dx - cx) ≠ 0 := by intro e; apply hD; grind
  obtain ⟨rfl, rfl⟩ := same_of_two hD' (by rw [ar_swap, h1]; rfl) h2; exact .inl on_end'
 ·have hD' : (bx - ax) * (cy - dy) - (bz - ay) * (cx - dx) ≠ 0 := by intro e; apply hD; grind
  obtain ⟨rfl, rfl⟩ := same_of_two hD' h1 (by rw [ar_swap, h2]; rfl); exact .inr (.inl on_end)
 ·have hD' : (ax - bx) * (cy - dy) - (ay - bz) * (cx - dx) ≠ 0 := by intro e; apply hD; grind
  obtain ⟨rfl, rfl⟩ := same_of_two hD' (by rw [ar_swap, h1]; rfl) (by rw [ar_swap, h2]; rfl); exact .inr (.inl on_end')

theorem rg_end {a b c d : Int} (h : RG a b c d) : (a - c) * (b - c) ≤ 0 ∨ (a - d) * (b - d) ≤ 0 ∨ (c - a) * (d - a) ≤ 0 ∨ (c - b) * (d - b) ≤ 0 := by
 unfold RG at h
 simp only [← btw_mul, btw_iff]
 omega

theorem any_of_line {ax ay bx bz cx cy dx dy : Int} (hx : RG ax bx cx dx) (hy : RG ay bz cy dy) (hw : bx ≠ ax ∨ bz ≠ ay)
  (h1 : ar ax ay bx bz cx cy = 0) (h2 : ar ax ay bx bz dx dy = 0) (h3 : ar cx cy dx dy ax ay = 0) (h4 : ar cx cy dx dy bx bz = 0) : ANY ax ay bx bz cx cy dx dy := by
 by_cases hX : bx - ax ≠ 0
 ·rcases rg_end hx with h | h | h | h
  ·exact .inl ⟨h1, h, alongX (wx := bx - ax) (wy := bz - ay) hX (by unfold ar at h1; grind) (by unfold ar at h1; grind) h⟩
  ·exact .inr (.inl ⟨h2, h, alongX (wx := bx - ax) (wy := bz - ay) hX (by unfold ar at h2; grind) (by unfold ar at h2; grind) h⟩)
  ·exact .inr (.inr (.inl ⟨h3, h, alongX (wx := bx - ax) (wy := bz - ay) hX (by unfold ar at h1; grind) (by unfold ar at h2; grind) h⟩))
  ·exact .inr (.inr (.inr ⟨h4, h, alongX (wx := bx - ax) (wy := bz - ay) hX (by unfold ar at h1; grind) (by unfold ar at h2; grind) h⟩))
 ·have eX : bx = ax := by omega
  have hY : bz - ay ≠ 0 := by omega
  subst eX
  have c0 : cx = bx := by
   have := mul_zero_right hY (x := cx - bx) (by unfold ar at h1; grind); omega
  have d0 : dx = bx := by
   have := mul_zero_right hY (x := dx - bx) (by unfold ar at h2; grind); omega
  subst c0 d0
  rcases rg_end hy with h | h | h | h
  ·exact .inl ⟨h1, by simp, h⟩
  ·exact .inr (.inl ⟨h2, by simp, h⟩)
  ·exact .inr (.inr (.inl ⟨h3, by simp, h⟩))
  ·exact .inr (.inr (.inr ⟨h4, by simp, h⟩))

theorem any_of_MT {ax ay bx bz cx cy dx dy : Int} (h : MT ax ay bx bz cx cy dx dy)
  (hn : ¬ (ar ax ay bx bz cx cy * ar ax ay bx bz dx dy < 0 ∧ ar cx cy dx dy ax ay * ar cx cy dx dy bx bz < 0)) : ANY ax ay bx bz cx cy dx dy := by
 obtain ⟨hx, hy, h1, h2⟩ := h
 by_cases z1 : ar ax ay bx bz cx cy * ar ax ay bx bz dx dy < 0
 ·have z2 : ar cx cy dx dy ax ay * ar cx cy dx dy bx bz = 0 := by
   by_cases q : ar cx cy dx dy ax ay * ar cx cy dx dy bx bz < 0
   ·exact absurd ⟨z1, q⟩ hn
   ·omega
  rcases Int.mul_eq_zero.1 z2 with e | e
  ·exact .inr (.inr (.inl (on_of_parted z1 e)))
  ·exact .inr (.inr (.inr (on_of_parted' z1 e)))
 ·have z1' := Int.mul_eq_zero.1 (show ar ax ay bx bz cx cy * ar ax ay bx bz dx dy = 0 by omega)
  by_cases z2 : ar cx cy dx dy ax ay * ar cx cy dx dy bx bz < 0
  ·rcases z1' with e | e
   ·exact .inl (on_of_parted z2 e)
   ·exact .inr (.inl (on_of_parted' z2 e))
  ·have z2' := Int.mul_eq_zero.1 (show ar cx cy dx dy ax ay * ar cx cy dx dy bx bz = 0 by omega)
   by_cases hD : (bx - ax) * (dy - cy) - (bz - ay) * (dx - cx) = 0
   ·have e1 : ar ax ay bx bz cx cy = ar ax ay bx bz dx dy := by unfold ar; grind
    have e2 : ar cx cy dx dy ax ay = ar cx cy dx dy bx bz := by unfold ar; grind
    have a1 : ar ax ay bx bz cx cy = 0 := by rcases z1' with e | e <;> omega
    have a2 : ar ax ay bx bz dx dy = 0 := by omega
    have a3 : ar cx cy dx dy ax ay = 0 := by rcases z2' with e | e <;> omega
    have a4 : ar cx cy dx dy bx bz = 0 := by omega
    by_cases hw : bx ≠ ax ∨ bz ≠ ay
    ·exact any_of_line hx hy hw a1 a2 a3 a4
    ·by_cases hw' : dx ≠ cx ∨ dy ≠ cy
     ·have hx' : RG cx dx ax bx := by unfold RG at hx ⊢; omega
      have hy' : RG cy dy ay bz := by unfold RG at hy ⊢; omega
      rcases any_of_line hx' hy' hw' a3 a4 a1 a2 with h | h | h | h
      ·exact .inr (.inr (.inl h))
      ·exact .inr (.inr (.inr h))
      ·exact .inl h
      ·exact .inr (.inl h)
     ·have : bx = ax := by omega
      have : bz = ay := by omega
      have : dx = cx := by omega
      have : dy = cy := by omega
      subst bx bz dx dy
      unfold RG at hx hy
      have : ax = cx := by omega
      have : ay = cy := by omega
      subst ax ay
      exact .inl on_end
   ·exact any_of_two hD z1' z2'

theorem sgn1_mul_le (m n : Int) : (sgn1 m * sgn1 n ≤ 0) ↔ m * n ≤ 0 := by
 unfold sgn1
 rcases Int.lt_trichotomy m 0 with hm | hm | hm <;> rcases Int.lt_trichotomy n 0 with hn | hn | hn <;> (try subst hm) <;> (try subst hn)
 ·have := Int.mul_pos (a := -m) (b := -n) (by omega) (by omega); rw [Int.neg_mul_neg] at this
  rw [if_neg (by omega), if_pos hm, if_neg (by omega), if_pos hn]; omega
 ·simp
 ·have := Int.mul_pos (a := -m) (b := n) (by omega) (by omega); rw [Int.neg_mul] at this
  rw [if_neg (by omega), if_pos hm, if_pos hn]; omega
 ·simp
 ·simp
 ·simp
 ·have := Int.mul_pos (a := m) (b := -n) (by omega) (by omega); rw [Int.mul_neg] at this
  rw [if_pos hm, if_neg (by omega), if_pos hn]; omega
 ·simp
 ·have := Int.mul_pos hm hn
  rw [if_pos hm, if_pos hn]; omega

theorem sgn1_mul_lt (m n : Int) : (sgn1 m * sgn1 n < 0) ↔ m * n < 0 := by
 unfold sgn1
 rcases Int.lt_trichotomy m 0 with hm | hm | hm <;> rcases Int.lt_trichotomy n 0 with hn | hn | hn <;> (try subst hm) <;> (try subst hn)
 ·have := Int.mul_pos (a := -m) (b := -n) (by omega) (by omega); rw [Int.neg_mul_neg] at this
  rw [if_neg (by omega), if_pos hm, if_neg (by omega), if_pos hn]; omega
 ·simp
 ·have := Int.mul_pos (a := -m) (b := n) (by omega) (by omega); rw [Int.neg_mul] at this
  rw [if_neg (by omega), if_pos hm, if_pos hn]; omega
 ·simp
 ·simp
 ·simp
 ·have := Int.mul_pos (a := m) (b := -n) (by omega) (by omega); rw [Int.mul_neg] at this
  rw [if_pos hm, if_neg (by omega), if_pos hn]; omega
 ·simp
 ·have := Int.mul_pos hm hn
  rw [if_pos hm, if_pos hn]; omega

def metI (ax ay bx bz cx cy dx dy : Int) : Bool :=
 rng ax bx cx dx && (rng ay bz cy dy && (decide (sgn1 (ar ax ay bx bz cx cy) * sgn1 (ar ax ay bx bz dx dy) ≤ 0) && decide (sgn1 (ar cx cy dx dy ax ay) * sgn1 (ar cx cy dx dy bx bz) ≤ 0)))
def metS (ax ay bx bz cx cy dx dy : Int) : Bool :=
 (onB ax ay bx bz cx cy || (onB ax ay bx bz dx dy || (onB cx cy dx dy ax ay || onB cx cy dx dy bx bz))) ||
  (decide (sgn1 (ar ax ay bx bz cx cy) * sgn1 (ar ax ay bx bz dx dy) < 0) && decide (sgn1 (ar cx cy dx dy ax ay) * sgn1 (ar cx cy dx dy bx bz) < 0))

theorem metI_iff {ax ay bx bz cx cy dx dy : Int} : metI ax ay bx bz cx cy dx dy = true ↔ MT ax ay bx bz cx cy dx dy := by
 simp only [metI, MT, Bool.and_eq_true, rng_iff, decide_eq_true_eq, sgn1_mul_le]
theorem metS_iff {ax ay bx bz cx cy dx dy : Int} : metS ax ay bx bz cx cy dx dy = true ↔ ANY ax ay bx bz cx cy dx dy ∨ (ar ax ay bx bz cx cy * ar ax ay bx bz dx dy < 0 ∧ ar cx cy dx dy ax ay * ar cx cy dx dy bx bz < 0) := by
 simp only [metS, ANY, Bool.and_eq_true, Bool.or_eq_true, onB_iff, decide_eq_true_eq, sgn1_mul_lt]

theorem met_same (ax ay bx bz cx cy dx dy : Int) : metI ax ay bx bz cx cy dx dy = metS ax ay bx bz cx cy dx dy := by
 rw [Bool.eq_iff_iff, metI_iff, metS_iff]
 constructor
 ·intro h
  by_cases hn : ar ax ay bx bz cx cy * ar ax ay bx bz dx dy < 0 ∧ ar cx cy dx dy ax ay * ar cx cy dx dy bx bz < 0
  ·exact .inr hn
  ·exact .inl (any_of_MT h hn)
 ·rintro ((h | h | h | h) | ⟨h1, h2⟩)
  ·exact MT_of_on _ _ h
  ·exact (MT_of_on _ _ h).flip
  ·exact (MT_of_on _ _ h).other
  ·exact (MT_of_on _ _ h).flip.other
  ·exact MT_of_cross h1 h2

theorem met_point (ax ay bx bz px py : Int) : metI ax ay bx bz px py px py = onB ax ay bx bz px py := by
 rw [Bool.eq_iff_iff, met_same, metS_iff, onB_iff]
 constructor
 ·rintro ((h | h | h | h) | ⟨h1, h2⟩)
  ·exact h
  ·exact h
  ·obtain ⟨_, h2, h3⟩ := h
   have := btw_iff.1 (btw_mul.2 h2)
   have := btw_iff.1 (btw_mul.2 h3)
   have : px = ax := by omega
   have : py = ay := by omega
   subst px py; exact on_end
  ·obtain ⟨_, h2, h3⟩ := h
   have := btw_iff.1 (btw_mul.2 h2)
   have := btw_iff.1 (btw_mul.2 h3)
   have : px = bx := by omega
   have : py = bz := by omega
   subst px py; exact on_end'
  ·have := sq_nonneg (ar ax ay bx bz px py); omega
 ·intro h; exact .inl (.inl h)
open Go.RowKit

def ptOk (x y : Int) : Bool := inB x (-10000000) 10000000 && inB y (-10000000) 10000000
def tX (x y : Int) : Int := if ptOk x y then x else 0
def tY (x y : Int) : Int := if ptOk x y then y else 0
def Crd (n : Int) : Prop := -10000000 ≤ n ∧ n ≤ 10000000
theorem inB_true {x lo hi : Int} : inB x lo hi = true ↔ lo ≤ x ∧ x ≤ hi := by simp [inB]
theorem tX_crd (x y : Int) : Crd (tX x y) := by
 unfold tX Crd
 by_cases h : ptOk x y = true
 ·rw [if_pos h]; unfold ptOk at h; rw [Bool.and_eq_true, inB_true, inB_true] at h; omega
 ·rw [if_neg h]; omega
theorem tY_crd (x y : Int) : Crd (tY x y) := by
 unfold tY Crd
 by_cases h : ptOk x y = true
 ·rw [if_pos h]; unfold ptOk at h; rw [Bool.and_eq_true, inB_true, inB_true] at h; omega
 ·rw [if_neg h]; omega

theorem coordOk_any (n : Int) (w : World) :
  Calls Tryz.prog 43 #[.int .i64 n] w fun e w' => e = .returned (.bool (inB n (-10000000) 10000000)) ∧ w' = w := by
 by_cases h1 : -10000000 ≤ n <;> by_cases h2 : n ≤ 10000000
 all_goals
  have E : inB n (-10000000) 10000000 = (decide (-10000000 ≤ n) && decide (n ≤ 10000000)) := rfl
  have H : Hid (inB n (-10000000) 10000000 = (decide (-10000000 ≤ n) && decide (n ≤ 10000000))) := E
  clear E
  go_enter Tryz.func43, Tryz.ntmps43
  go_wp2
  go_ret
  exact ⟨by rw [H.out]; simp [h1, h2], rfl⟩

theorem l1In_any (n lo hi : Int) (w : World) :
  Calls Tryz.prog 36 #[.int .i64 n, .int .i64 lo, .int .i64 hi] w fun e w' => e = .returned (.bool (inB n lo hi)) ∧ w' = w := by
 have H : Hid (inB n lo hi = (decide (lo ≤ n) && decide (n ≤ hi))) := (rfl : inB n lo hi = _)
 by_cases h1 : lo ≤ n <;> by_cases h2 : n ≤ hi
 all_goals
  go_enter Tryz.func36, Tryz.ntmps36
  go_wp2
  go_ret
  exact ⟨by rw [H.out]; simp [h1, h2], rfl⟩

theorem implPtOk (x y : Int) (w : World) :
  Calls Tryz.prog 20 #[.agg #[.int .i64 x, .int .i64 y]] w fun e w' => e = .returned (.bool (ptOk x y)) ∧ Below w.heap.size w w' := by
 have H : Hid (ptOk x y = (inB x (-10000000) 10000000 && inB y (-10000000) 10000000)) := (rfl : ptOk x y = _)
 cases h1 : inB x (-10000000) 10000000
 all_goals
  go_enter Tryz.func20, Tryz.ntmps20
  go_wp2_with (go_at_call 43; refine (coordOk_any _ _).mono ?_; rintro e w' ⟨rfl, rfl⟩; try rw [h1])
  go_ret
  exact ⟨by rw [H.out, h1]; simp, below1 _ _⟩

theorem specPtOk (x y : Int) (w : World) :
  Calls Tryz.prog 16 #[.agg #[.int .i64 x, .int .i64 y]] w fun e w' => e = .returned (.bool (ptOk x y)) ∧ Below w.heap.size w w' := by
 have H : Hid (ptOk x y = (inB x (-10000000) 10000000 && inB y (-10000000) 10000000)) := (rfl : ptOk x y = _)
 cases h1 : inB x (-10000000) 10000000
 all_goals
  go_enter Tryz.func16, Tryz.ntmps16
  go_wp2_with (go_at_call 36; refine (l1In_any _ _ _ _).mono ?_; rintro e w' ⟨rfl, rfl⟩; try rw [h1])
  go_ret
  exact ⟨by rw [H.out, h1]; simp, below1 _ _⟩

theorem toPt_any (x y : Int) (w : World) :
  Calls Tryz.prog 7 #[.agg #[.int .i64 x, .int .i64 y]] w fun e w' => e = .returned (.agg #[.int .i64 x, .int .i64 y]) ∧ Below w.heap.size w w' := by
 go_enter Tryz.func7, Tryz.ntmps7
 go_wp2
 exact bodyPost_ret (v := .agg #[.int .i64 x, .int .i64 y]) (by simp [results, Tryz.results7, go_sem]) rfl ⟨rfl, below3 _ _ _ _⟩

theorem implTakenPt (x y : Int) (w : World) :
  Calls Tryz.prog 51 #[.agg #[.int .i64 x, .int .i64 y]] w fun e w' => e = .returned (.agg #[.int .i64 (tX x y), .int .i64 (tY x y)]) ∧ Below w.heap.size w w' := by
 have HX : Hid (tX x y = if ptOk x y then x else 0) := (rfl : tX x y = _)
 have HY : Hid (tY x y = if ptOk x y then y else 0) := (rfl : tY x y = _)
 cases h : ptOk x y
 all_goals
  go_enter Tryz.func51, Tryz.ntmps51
  go_wp2_with fail
  refine (implPtOk x y _).mono ?_
  rintro e w1 ⟨rfl, hb⟩
  rw [h]
  have B := (below2 w (.cells #[.int .i64 x, .int .i64 y] 38) (.cells #[.int .i64 0, .int .i64 0] 38)).trans (hb.mono (by simp; omega))
  obtain ⟨hc, hf⟩ := bcell hb
  have hz : w.heap.size + 1 < w1.heap.size := by have := hb.size; simp at this; omega
  clear hb
  go_wp2
  rw [HX.out, HY.out, h]
  exact bodyPost_ret (v := _) (by simp [results, Tryz.results51, go_sem, hc]; try rfl) rfl ⟨rfl, (B.setCell (by simp) _).setCell (by simp) _⟩

def Dif (n : Int) : Prop := -20000000 ≤ n ∧ n ≤ 20000000
theorem Crd.dif {a b : Int} (h : Crd a) (k : Crd b) : Dif (a - b) := by unfold Crd at h k; unfold Dif; omega
theorem Dif.mul {a b : Int} (h : Dif a) (k : Dif b) : -400000000000000 ≤ a * b ∧ a * b ≤ 400000000000000 := by
 unfold Dif at h k
 have h1 := Int.mul_nonneg (show 0 ≤ 20000000 - a by omega) (show 0 ≤ 20000000 - b by omega)
 have h2 := Int.mul_nonneg (show 0 ≤ 20000000 + a by omega) (show 0 ≤ 20000000 + b by omega)
 have h3 := Int.mul_nonneg (show 0 ≤ 20000000 - a by omega) (show 0 ≤ 20000000 + b by omega)
 have h4 := Int.mul_nonneg (show 0 ≤ 20000000 + a by omega) (show 0 ≤ 20000000 - b by omega)
 grind

theorem way_any (x1 y1 x2 y2 : Int) (w : World) (h1 : Crd x1) (h2 : Crd y1) (h3 : Crd x2) (h4 : Crd y2) :
  Calls Tryz.prog 80 #[.agg #[.int .i64 x1, .int .i64 y1], .agg #[.int .i64 x2, .int .i64 y2]] w fun e w' => e = .returned (.agg #[.int .i64 (x2 - x1), .int .i64 (y2 - y1)]) ∧ Below w.heap.size w w' := by
 obtain ⟨a1, b1⟩ := h1
 obtain ⟨a2, b2⟩ := h2
 obtain ⟨a3, b3⟩ := h3
 obtain ⟨a4, b4⟩ := h4
 go_enter Tryz.func80, Tryz.ntmps80
 go_wp2
 exact bodyPost_ret (v := .agg #[.int .i64 (x2 - x1), .int .i64 (y2 - y1)]) (by simp [results, Tryz.results80, go_sem]) rfl ⟨rfl, below3 _ _ _ _⟩

theorem across_any (x1 y1 x2 y2 : Int) (w : World) (h1 : Dif x1) (h2 : Dif y1) (h3 : Dif x2) (h4 : Dif y2) :
  Calls Tryz.prog 83 #[.agg #[.int .i64 x1, .int .i64 y1], .agg #[.int .i64 x2, .int .i64 y2]] w fun e w' => e = .returned (.int .i64 (x1 * y2 - y1 * x2)) ∧ Below w.heap.size w w' := by
 obtain ⟨a1, b1⟩ := h1.mul h4
 obtain ⟨a2, b2⟩ := h2.mul h3
 go_enter Tryz.func83, Tryz.ntmps83
 go_wp2
 go_ret
 exact ⟨rfl, below2 _ _ _⟩

theorem sgn1_neg {n : Int} (h : n < 0) : sgn1 n = -1 := by unfold sgn1; rw [if_neg (by omega), if_pos h]
theorem sgn1_pos {n : Int} (h : 0 < n) : sgn1 n = 1 := by unfold sgn1; rw [if_pos h]
theorem sgn1_cases (n : Int) : sgn1 n = -1 ∨ sgn1 n = 0 ∨ sgn1 n = 1 := by
 rcases Int.lt_trichotomy n 0 with h | h | h
 ·exact .inl (sgn1_neg h)
 ·subst h; exact .inr (.inl rfl)
 ·exact .inr (.inr (sgn1_pos h))
theorem ret_bool {a b : Bool} (h : a = b) : Ending.returned (.bool a) = .returned (.bool b) := by rw [h]

theorem isNaN_any (n : Int) (w : World) :
  Calls Tryz.prog 156 #[.int .i64 n] w fun e w' => e = .returned (.bool false) ∧ w' = w := by
 go_enter Tryz.func156, Tryz.ntmps156
 go_wp2
 go_ret
 exact ⟨rfl, rfl⟩

theorem compare0 (n : Int) (w : World) :
  Calls Tryz.prog 154 #[.int .i64 n, .int .i64 0] w fun e w' => e = .returned (.int .i64 (sgn1 n)) ∧ w' = w := by
 rcases Int.lt_trichotomy n 0 with h | h | h
 ·have h' : ¬ 0 < n := by omega
  go_enter Tryz.func154, Tryz.ntmps154
  go_wp2_with (go_at_call 156; refine (isNaN_any _ _).mono ?_; rintro e w' ⟨rfl, rfl⟩)
  go_ret
  exact ⟨by rw [sgn1_neg h]; rfl, rfl⟩
 ·subst h
  go_enter Tryz.func154, Tryz.ntmps154
  go_wp2_with (go_at_call 156; refine (isNaN_any _ _).mono ?_; rintro e w' ⟨rfl, rfl⟩)
  go_ret
  exact ⟨rfl, rfl⟩
 ·have h' : ¬ n < 0 := by omega
  go_enter Tryz.func154, Tryz.ntmps154
  go_wp2_with (go_at_call 156; refine (isNaN_any _ _).mono ?_; rintro e w' ⟨rfl, rfl⟩)
  go_ret
  exact ⟨by rw [sgn1_pos h]; rfl, rfl⟩

theorem l3Sign_any (n : Int) (w : World) :
  Calls Tryz.prog 145 #[.int .i64 n] w fun e w' => e = .returned (.int .i64 (sgn1 n)) ∧ w' = w := by
 rcases Int.lt_trichotomy n 0 with h | h | h
 ·have h' : ¬ 0 < n := by omega
  go_enter Tryz.func145, Tryz.ntmps145
  go_wp2
  go_ret
  exact ⟨by rw [sgn1_neg h]; rfl, rfl⟩
 ·subst h
  go_enter Tryz.func145, Tryz.ntmps145
  go_wp2
  go_ret
  exact ⟨rfl, rfl⟩
 ·have h' : ¬ n < 0 := by omega
  go_enter Tryz.func145, Tryz.ntmps145
  go_wp2
  go_ret
  exact ⟨by rw [sgn1_pos h]; rfl, rfl⟩

theorem l3Area_any (x1 y1 x2 y2 x3 y3 : Int) (w : World) (h1 : Crd x1) (h2 : Crd y1) (h3 : Crd x2) (h4 : Crd y2) (h5 : Crd x3) (h6 : Crd y3) :
  Calls Tryz.prog 66 #[.agg #[.int .i64 x1, .int .i64 y1], .agg #[.int .i64 x2, .int .i64 y2], .agg #[.int .i64 x3, .int .i64 y3]] w fun e w' => e = .returned (.int .i64 (ar x1 y1 x2 y2 x3 y3)) ∧ Below w.heap.size w w' := by
 obtain ⟨p1, p2⟩ := (h3.dif h1).mul (h6.dif h2)
 obtain ⟨q1, q2⟩ := (h4.dif h2).mul (h5.dif h1)
 obtain ⟨a1, b1⟩ := h1
 obtain ⟨a2, b2⟩ := h2
 obtain ⟨a3, b3⟩ := h3
 obtain ⟨a4, b4⟩ := h4
 obtain ⟨a5, b5⟩ := h5
 obtain ⟨a6, b6⟩ := h6
 go_enter Tryz.func66, Tryz.ntmps66
 go_wp2
 go_ret
 exact ⟨rfl, below3 _ _ _ _⟩
open Go.RowKit

theorem along_any (x1 y1 x2 y2 : Int) (w : World) (h1 : Dif x1) (h2 : Dif y1) (h3 : Dif x2) (h4 : Dif y2) :
  Calls Tryz.prog 81 #[.agg #[.int .i64 x1, .int .i64 y1], .agg #[.int .i64 x2, .int .i64 y2]] w fun e w' => e = .returned (.int .i64 (x1 * x2 + y1 * y2)) ∧ Below w.heap.size w w' := by
 obtain ⟨a1, b1⟩ := h1.mul h3
 obtain ⟨a2, b2⟩ := h2.mul h4
 go_enter Tryz.func81, Tryz.ntmps81
 go_wp2
 go_ret
 exact ⟨rfl, below2 _ _ _⟩

theorem l3Square_any (x1 y1 x2 y2 : Int) (w : World) (h1 : Crd x1) (h2 : Crd y1) (h3 : Crd x2) (h4 : Crd y2) :
  Calls Tryz.prog 65 #[.agg #[.int .i64 x1, .int .i64 y1], .agg #[.int .i64 x2, .int .i64 y2]] w fun e w' => e = .returned (.int .i64 ((x1 - x2) * (x1 - x2) + (y1 - y2) * (y1 - y2))) ∧ Below w.heap.size w w' := by
 obtain ⟨p1, q1⟩ := (h1.dif h3).mul (h1.dif h3)
 obtain ⟨p2, q2⟩ := (h2.dif h4).mul (h2.dif h4)
 obtain ⟨a1, b1⟩ := h1
 obtain ⟨a2, b2⟩ := h2
 obtain ⟨a3, b3⟩ := h3
 obtain ⟨a4, b4⟩ := h4
 go_enter Tryz.func65, Tryz.ntmps65
 go_wp2
 go_ret
 exact ⟨rfl, below2 _ _ _⟩

open Go.RowKit

set_option maxHeartbeats 1000000 in
theorem takeTimesC (base : Nat) (a b : Option Addr) (c d : Nat) (us ys : List Int) (t : Int) (w : World) (h : Own base w a c us) (k : Sees w b d ys) (hl : ys.length ≤ us.length) (ht : 0 ≤ t ∧ t ≤ 4294967295)
  (hap : ∀ q off, b = some ⟨q, off, none⟩ → ys ≠ [] → rowOf a us ≠ some q) :
  Calls Tryz.prog 143 #[.slice a us.length c, .slice b ys.length d, .int .u64 t] w fun e w' => ∃ zs ow, e = .returned (.bool (decide (0 < ow))) ∧ Own base w' a c zs ∧ zs.length = us.length ∧ Wrote w w' a us.length (rowOf a us) ∧ 0 ≤ ow ∧ val zs - 4294967296 ^ us.length * ow = val us - t * val ys := by
 have hm := h.max
 have hf := h.fits
 have hm2 := k.max
 have hf2 := k.fits
 obtain ⟨t0, t1⟩ := ht
 unfold maxLen at hm hm2
 have HY : Hid (Lim ys) := k.lim
 have HU : Hid (Lim us) := h.lim
 go_enter Tryz.func143, Tryz.ntmps143
 go_wp2
 go_loopw [7, 12] (fun q i wr => ∃ (j : Nat) (ow : Int) (ws : List Int), j ≤ us.length ∧ i = .int .i64 j ∧ q = .int .u64 ow ∧ 0 ≤ ow ∧ ow ≤ 4294967295 ∧ Hid (ws.length = j) ∧ Own base wr a c (ws ++ us.drop j) ∧ Wrote w wr a us.length (rowOf a us) ∧ Hid (val ws - 4294967296 ^ j * ow = val (us.take j) - t * val (ys.take j))) (fun _ i _ => us.length - (intOf i).toNat)
 case atStart => exact ⟨0, 0, [], Nat.zero_le _, rfl, rfl, by decide, by decide, rfl, by simpa using h, Wrote.refl _ _ _ _, by simp [Hid, val]⟩
 case round =>
  obtain ⟨j, ow, ws, hj, rfl, rfl, c0, c1, hw, hown, hg, he⟩ := hrel
  by_cases hlt : j < us.length
  ·have hne : us ≠ [] := by intro e; simp [e] at hlt
   obtain ⟨b1, o1, rfl, _⟩ := h.cells hne
   have hlen := row_length hw.out hj
   have hne2 : ws ++ us.drop j ≠ [] := by intro e; rw [e] at hlen; simp at hlen; omega
   obtain ⟨b2, o2, e2, hc⟩ := hown.cells hne2
   simp only [Option.some.injEq, Addr.mk.injEq] at e2
   obtain ⟨rfl, rfl, _⟩ := e2
   have g1 := hc j (by omega)
   rw [row_get hw.out hlt] at g1
   have g2 := (hown.new b1 o1 rfl hne2).2 j (by omega)
   have hx := HU.out.get j
   have hy := HY.out.get j
   have hr := fun x q hxq => sub_round (x := x) (q := q) hw.out he.out hxq
   have hg' := fun u => hg.setCell (j := j) (by simp [rowOf, hne]) hlt u
   have hst := fun v hv => hown.store (j := j) rfl (by omega) (v := v) hv
   simp only [row_step hw.out hlt] at hst
   have hk := k.kept hg.1 hap
   have hwl : ∀ x : Int, Hid ((ws ++ [x]).length = j + 1) := fun x => by show _ = _; simp [hw.out]
   by_cases hy2 : j < ys.length
   ·have hne3 : ys ≠ [] := by intro e; simp [e] at hy2
    obtain ⟨b3, o3, rfl, hc3⟩ := hk.cells hne3
    have g3 := hc3 j hy2
    have HR : Hid (∀ x q : Int, x - 4294967296 * q = us[j]?.getD 0 - (ow + t * ys[j]?.getD 0) → val (ws ++ [x]) - 4294967296 ^ (j + 1) * q = val (us.take (j + 1)) - t * val (ys.take (j + 1))) := hr
    have HST := fun v hv => hst v hv
    clear hc hc3 hown hne2 hlen h k hr hk hw he hap hne hne3 hg hst
    generalize us[j]?.getD 0 = x at *
    generalize ys[j]?.getD 0 = y at *
    obtain ⟨y0, y1⟩ := hy
    obtain ⟨x0, x1⟩ := hx
    have p0 : 0 ≤ t * y := Int.mul_nonneg t0 y0
    have p1 : t * y ≤ 18446744065119617025 := Int.le_trans (Int.mul_le_mul t1 (show y ≤ 4294967295 by omega) y0 (by decide)) (by decide)
    by_cases hcmp : x < (ow + t * y) % 4294967296
    ·have H1 := HR.out ((x - (ow + t * y)) % 4294967296) ((ow + t * y) / 4294967296 + 1) (by generalize t * y = p at *; omega)
     have H2 := HST ((x - (ow + t * y)) % 4294967296) (by omega)
     have H3 := hg' (.int .u32 ((x - (ow + t * y)) % 4294967296))
     have q1 : (ow + t * y) / 4294967296 + 1 ≤ 4294967295 := by generalize t * y = p at *; omega
     have q0 : 0 ≤ (ow + t * y) / 4294967296 + 1 := by generalize t * y = p at *; omega
     have HH : Hid (val (ws ++ [(x - (ow + t * y)) % 4294967296]) - 4294967296 ^ (j + 1) * ((ow + t * y) / 4294967296 + 1) = val (us.take (j + 1)) - t * val (ys.take (j + 1))) := H1
     clear HR HST H1 hg'
     go_wp2
     go_roundw
     case rel => exact ⟨j + 1, _, _, by omega, by go_num, rfl, q0, q1, hwl _, H2, H3, HH⟩
     case measure => simp [intOf]; omega
    ·have H1 := HR.out (x - (ow + t * y) % 4294967296) ((ow + t * y) / 4294967296) (by generalize t * y = p at *; omega)
     have H2 := HST (x - (ow + t * y) % 4294967296) (by omega)
     have H3 := hg' (.int .u32 (x - (ow + t * y) % 4294967296))
     have q1 : (ow + t * y) / 4294967296 ≤ 4294967295 := by generalize t * y = p at *; omega
     have q0 : 0 ≤ (ow + t * y) / 4294967296 := by generalize t * y = p at *; omega
     have HH : Hid (val (ws ++ [x - (ow + t * y) % 4294967296]) - 4294967296 ^ (j + 1) * ((ow + t * y) / 4294967296) = val (us.take (j + 1)) - t * val (ys.take (j + 1))) := H1
     clear HR HST H1 hg'
     go_wp2
     go_roundw
     case rel => exact ⟨j + 1, _, _, by omega, by go_num, rfl, q0, q1, hwl _, H2, H3, HH⟩
     case measure => simp [intOf]; omega
   ·have e0 : ys[j]?.getD 0 = 0 := by rw [List.getElem?_eq_none (by omega)]; rfl
    rw [e0] at hr
    simp only [Int.mul_zero, Int.add_zero] at hr
    have HR : Hid (∀ x q : Int, x - 4294967296 * q = us[j]?.getD 0 - ow → val (ws ++ [x]) - 4294967296 ^ (j + 1) * q = val (us.take (j + 1)) - t * val (ys.take (j + 1))) := hr
    have HST := fun v hv => hst v hv
    clear hc hown hne2 hlen h k hr hk hw he hap hne hg hst e0 hy
    generalize us[j]?.getD 0 = x at *
    obtain ⟨x0, x1⟩ := hx
    by_cases hcmp : x < ow
    ·have H2 := HST ((x - ow) % 4294967296) (by omega)
     have H3 := hg' (.int .u32 ((x - ow) % 4294967296))
     have HH : Hid (val (ws ++ [(x - ow) % 4294967296]) - 4294967296 ^ (j + 1) * (ow / 4294967296 + 1) = val (us.take (j + 1)) - t * val (ys.take (j + 1))) := HR.out ((x - ow) % 4294967296) (ow / 4294967296 + 1) (by omega)
     clear HR HST hg'
     go_wp2
     go_roundw
     case rel => exact ⟨j + 1, _, _, by omega, by go_num, rfl, by omega, by omega, hwl _, H2, H3, HH⟩
     case measure => simp [intOf]; omega
    ·have H2 := HST (x - ow) (by omega)
     have H3 := hg' (.int .u32 (x - ow))
     have HH : Hid (val (ws ++ [x - ow]) - 4294967296 ^ (j + 1) * (ow / 4294967296) = val (us.take (j + 1)) - t * val (ys.take (j + 1))) := HR.out (x - ow) (ow / 4294967296) (by omega)
     clear HR HST hg'
     go_wp2
     go_roundw
     case rel => exact ⟨j + 1, _, _, by omega, by go_num, rfl, by omega, by omega, hwl _, H2, H3, HH⟩
     case measure => simp [intOf]; omega
  ·obtain rfl : j = us.length := by omega
   go_wp2
   go_ret
   refine ⟨ws, ow, rfl, by simpa using hown, hw.out, hg, c0, ?_⟩
   have := he.out
   rw [List.take_length, List.take_of_length_le hl] at this
   exact this
set_option maxHeartbeats 1000000 in
theorem cloneC (a : Option Addr) (c : Nat) (xs : List Int) (w : World) (h : Sees w a c xs) (hx : xs.length ≤ 2097152) :
  Calls Tryz.prog 118 #[.slice a xs.length c] w fun e w' => ∃ a' c', e = .returned (.slice a' xs.length c') ∧ Own w.heap.size w' a' c' xs ∧ Below w.heap.size w w' := by
 have he := fun w n => Lib.run_eql_slice_nil (P := Tryz.prog) w 28 100 a n c 0 0 Tryz.underlying28
 rcases h.shape with ⟨rfl, rfl⟩ | ⟨b, off, rfl⟩
 ·have e0 : xs = [] := by
   by_cases e : xs = []
   ·exact e
   ·obtain ⟨b, off, hb, _⟩ := h.cells e
    cases hb
  subst e0
  clear h hx
  go_enter Tryz.func118, Tryz.ntmps118
  go_wp2
  go_ret
  exact ⟨none, 0, rfl, Own.nil _ _, Below.refl _ _⟩
 ·by_cases h0 : xs.length = 0
  ·have e0 : xs = [] := List.eq_nil_of_length_eq_zero h0
   subst e0
   clear h hx h0
   go_enter Tryz.func118, Tryz.ntmps118
   go_wp2
   go_ret
   exact ⟨_, 0, rfl, Own.empty _ _ _ _, below1 _ _⟩
  ·obtain ⟨i0, hi, hz0, hz1, hz2⟩ := info_parts infoU
   have HJ : Hid (xs.length * 4 ≤ 140737488355328) := by show _ ≤ _; omega
   have HM : Hid (xs.length ≤ maxLen) := Nat.le_trans h.fits h.max
   have HL : Lim xs := h.lim
   have HK : ∀ o1, Hid (∀ q u, (xs.map (Value.int .u32))[q]? = some u → (w.alloc o1).cell? ((⟨b, off, none⟩ : Addr).add q) = some u) := fun o1 => by
    have := (h.below (below1 w o1)).toCame.news (j := xs.length) (Nat.le_refl _)
    rwa [List.take_length] at this
   clear h hx
   go_enter Tryz.func118, Tryz.ntmps118
   go_wp2_with (at_builtin; refine wpList_append_own _ rfl (.tmp 5) (.tmp 6) 28 rfl w.heap.size 100 i0 (.int .u32 0) 1 4 Tryz.underlying28 hi hz0 hz1 hz2 rfl (by decide) (.slice (some ⟨w.heap.size, 0, none⟩) 0 0) 0 [] rfl (ownsRow_empty1 _ _) ⟨b, off, none⟩ xs.length _ (xs.map (Value.int .u32)) rfl (by rw [List.length_map, Nat.mul_one]) ((HK _).out) (ones _) (by rw [Nat.zero_add]; exact HM.out) (by rw [Nat.zero_add]; exact HJ.out) (by simp) ?_; intro v' w' hown' hgrow' _; obtain ⟨g, cap', hv, ho⟩ := Own.of_append hown' HL (by omega); rw [hv]; have hB : Below w.heap.size w w' := ((below1 _ _).grown hgrow' (by simp) (by intro k hk; simp [Value.ownBlock] at hk; omega)); clear hown' hgrow' hv)
   go_ret
   exact ⟨_, _, rfl, ho, hB⟩

set_option maxHeartbeats 1000000 in
theorem subMagC (a b : Option Addr) (c d : Nat) (xs ys : List Int) (w : World) (h : Sees w a c xs) (k : Sees w b d ys) (hx : xs.length ≤ 2097152) (hl : ys.length ≤ xs.length) (hv : val ys ≤ val xs) :
  Calls Tryz.prog 120 #[.slice a xs.length c, .slice b ys.length d] w fun e w' => ∃ a' c' zs, e = .returned (.slice a' zs.length c') ∧ Own w.heap.size w' a' c' zs ∧ Nrm zs ∧ val zs = val xs - val ys ∧ zs.length ≤ xs.length ∧ Below w.heap.size w w' := by
 have HV : Hid (val ys ≤ val xs) := hv
 have HX : Hid (xs.length ≤ 2097152) := hx
 clear hv hx
 go_enter Tryz.func120, Tryz.ntmps120
 go_wp2_with fail
 refine (cloneC a c xs _ h HX.out).mono ?_
 rintro e w1 ⟨a1, c1, rfl, ho1, B1⟩
 have k1 := k.below B1
 go_wp2_with fail
 refine (takeTimesC w.heap.size a1 b c1 d xs ys 1 _ ho1 k1 hl (by decide) (by intro q off e1 e2 e3; have := k.lt e1 e2; exact row_ne_low ho1 this e3.symm)).mono ?_
 rintro e w2 ⟨zs, ow, rfl, hoz, hzl, hg, hc0, hv⟩
 have B2 := B1.trans (below_of_grown ho1 hg.1 B1.size)
 have HZ : Hid (zs.length = xs.length) := hzl
 have HW : Hid (val zs - 4294967296 ^ xs.length * ow = val xs - 1 * val ys) := hv
 clear hv hzl hg B1 k1 ho1
 go_wp2_with fail
 have hq := trimmedC w.heap.size _ _ zs w2 hoz
 rw [HZ.out] at hq
 refine hq.mono ?_
 clear hq
 rintro e w3 ⟨rfl, a3, j, rfl, hj, ha, hn, hv⟩
 have HJ : Hid (val (zs.take j) = val zs) := hv
 clear hv
 go_wp2
 go_ret
 have hl2 : (zs.take j).length = j := by rw [List.length_take, HZ.out]; omega
 refine ⟨a3, j, zs.take j, by rw [hl2]; rfl, hoz.cut (by rw [HZ.out]; exact hj) ha, hn, ?_, by rw [hl2]; exact hj, B2⟩
 rw [HJ.out]
 have h1 := HW.out
 have h2 := HV.out
 have h3 := val_lt hoz.lim
 have h4 := val_nonneg hoz.lim
 have h6 := val_nonneg k.lim
 have h7 := val_lt h.lim
 rw [HZ.out] at h3
 rw [Int.one_mul] at h1
 have h5 := p_pos xs.length
 by_cases hc : ow = 0
 ·subst hc; simp at h1; omega
 ·have : 4294967296 ^ xs.length * 1 ≤ 4294967296 ^ xs.length * ow := Int.mul_le_mul_of_nonneg_left (by omega) (by omega)
  omega
open Go.RowKit

theorem p2_pos (k : Nat) : (0 : Int) < 2 ^ k := by
 induction k with
 | zero => simp
 | succ k ih => rw [Int.pow_succ]; omega
theorem div_div {x y z : Int} (h : 0 ≤ y) : x / y / z = x / (y * z) := by
 rw [Int.ediv_ediv, if_neg (by omega), Int.sub_zero]
theorem p2_32 : (2 : Int) ^ 32 = 4294967296 := by decide
theorem even_mod (y z : Int) : (y + 2 * z) % 2 = y % 2 := by omega

theorem bit_at : ∀ (xs : List Int) (i : Nat), Lim xs → val xs / 2 ^ i % 2 = (xs[i / 32]?.getD 0) / 2 ^ (i % 32) % 2
 | [], i, _ => by simp [val]
 | x :: r, i, h => by
  obtain ⟨hx, hr⟩ := h.cons
  by_cases hi : i < 32
  ·rw [Nat.div_eq_of_lt hi, Nat.mod_eq_of_lt hi]
   simp only [val, List.getElem?_cons_zero, Option.getD_some]
   have e : (4294967296 : Int) = 2 ^ i * (2 * 2 ^ (31 - i)) := by
    rw [← p2_32, show 32 = i + (1 + (31 - i)) by omega, Int.pow_add, Int.pow_add]
    rfl
   rw [e, Int.mul_assoc, Int.add_mul_ediv_left _ _ (by have := p2_pos i; omega), Int.mul_assoc, even_mod]
  ·have ih := bit_at r (i - 32) hr
   have e : (2 : Int) ^ i = 4294967296 * 2 ^ (i - 32) := by
    rw [← p2_32, ← Int.pow_add, show 32 + (i - 32) = i by omega]
   have e2 : val (x :: r) / 4294967296 = val r := by simp only [val]; omega
   rw [e, ← div_div (by decide), e2, ih]
   have e3 : i / 32 = (i - 32) / 32 + 1 := by omega
   have e4 : i % 32 = (i - 32) % 32 := by omega
   rw [e3, e4, List.getElem?_cons_succ]

theorem bit_more (v : Int) (i : Nat) : v / 2 ^ i = 2 * (v / 2 ^ (i + 1)) + v / 2 ^ i % 2 := by
 have e : v / 2 ^ (i + 1) = v / 2 ^ i / 2 := by rw [Int.pow_succ, ← div_div (by have := p2_pos i; omega)]
 rw [e]; omega

theorem shl_limb (x bit : Int) (_hx : 0 ≤ x ∧ x < 4294967296) (_hb : 0 ≤ bit ∧ bit ≤ 1) : x * 2 % 4294967296 + bit < 4294967296 ∧ 0 ≤ x * 2 % 4294967296 + bit ∧ x * 2 % 4294967296 + bit + 4294967296 * (x / 2147483648) = 2 * x + bit := by omega

theorem shl_round {ws rs : List Int} {j : Nat} {bit x v0 : Int} (hw : ws.length = j) (h : val ws + 4294967296 ^ j * bit = 2 * val (rs.take j) + v0) (hx : x + 4294967296 * (rs[j]?.getD 0 / 2147483648) = 2 * (rs[j]?.getD 0) + bit) :
  val (ws ++ [x]) + 4294967296 ^ (j + 1) * (rs[j]?.getD 0 / 2147483648) = 2 * val (rs.take (j + 1)) + v0 := by
 rw [val_snoc, hw, val_take_succ, Int.pow_succ]
 have e1 : (4294967296 : Int) ^ j * (x + 4294967296 * (rs[j]?.getD 0 / 2147483648)) = 4294967296 ^ j * (2 * (rs[j]?.getD 0) + bit) := by rw [hx]
 rw [Int.mul_add, Int.mul_add, ← Int.mul_assoc, ← Int.mul_assoc] at e1
 rw [Int.mul_add 2, ← Int.mul_assoc 2, Int.mul_comm 2 (4294967296 ^ j)]
 omega
theorem place_bit (i : Nat) : (4294967296 : Int) ^ (i / 32) * 2 ^ (i % 32) = 2 ^ i := by
 rw [← p2_32, ← Int.pow_mul, ← Int.pow_add, Nat.div_add_mod]

theorem nat_or_bit (x k : Nat) (h : x / 2 ^ k % 2 = 0) : x ||| 2 ^ k = x + 2 ^ k := by
 have hp : 0 < 2 ^ k := Nat.two_pow_pos k
 have h1 : (x - x % 2 ^ k) % 2 ^ (k + 1) = 0 := by
  have e : x - x % 2 ^ k = 2 ^ (k + 1) * (x / 2 ^ k / 2) := by
   have e1 := Nat.div_add_mod x (2 ^ k)
   have e2 : x / 2 ^ k = 2 * (x / 2 ^ k / 2) := by omega
   rw [Nat.pow_succ, Nat.mul_assoc, ← e2]
   omega
  rw [e]; exact Nat.mul_mod_right _ _
 have hlo : x % 2 ^ k < 2 ^ k := Nat.mod_lt _ hp
 have h2 : x = (x - x % 2 ^ k) ||| x % 2 ^ k := by
  rw [nat_join (k + 1) _ _ h1 (by rw [Nat.pow_succ]; omega)]
  have := Nat.mod_le x (2 ^ k)
  omega
 have h3 : x % 2 ^ k ||| 2 ^ k = 2 ^ k + x % 2 ^ k := by rw [Nat.or_comm]; exact nat_join k _ _ (Nat.mod_self _) hlo
 have h4 : x ||| 2 ^ k = (x - x % 2 ^ k) ||| (2 ^ k + x % 2 ^ k) := by
  rw [← h3, ← Nat.or_assoc, ← h2]
 rw [h4, nat_join (k + 1) _ _ h1 (by rw [Nat.pow_succ]; omega)]
 have := Nat.mod_le x (2 ^ k)
 omega

theorem or_bit32 {x : Int} {k : Nat} (hx : 0 ≤ x ∧ x < 4294967296) (hk : k < 32) (h : x / 2 ^ k % 2 = 0) : bits BinOp.or IntKind.u32 x (2 ^ k) = x + 2 ^ k := by
 have hp : (2 : Int) ^ k < 4294967296 := by
  have e : (4294967296 : Int) = 2 ^ k * (2 * 2 ^ (31 - k)) := by
   rw [← p2_32, show 32 = k + (1 + (31 - k)) by omega, Int.pow_add, Int.pow_add]; rfl
  have h1 := p2_pos k
  have h2 := p2_pos (31 - k)
  have : (2 : Int) ^ k * 2 ≤ 2 ^ k * (2 * 2 ^ (31 - k)) := Int.mul_le_mul_of_nonneg_left (by omega) (by omega)
  omega
 have hq := p2_pos k
 rw [u32_or x (2 ^ k) hx.1 hx.2 (by omega) hp]
 obtain ⟨n, rfl⟩ := Int.eq_ofNat_of_zero_le hx.1
 have e2 : ((2 : Int) ^ k).toNat = 2 ^ k := by
  have : ((2 : Int) ^ k) = ((2 ^ k : Nat) : Int) := by simp
  rw [this]; exact Int.toNat_natCast _
 have h' : n / 2 ^ k % 2 = 0 := by
  have : ((n / 2 ^ k % 2 : Nat) : Int) = 0 := by
   rw [Int.natCast_emod, Int.natCast_ediv, Int.natCast_pow]; exact h
  omega
 rw [e2, Int.toNat_natCast, nat_or_bit n k h', Int.natCast_add, Int.natCast_pow]
 rfl
theorem or_bit_lt {x : Int} {k : Nat} (hx : 0 ≤ x ∧ x < 4294967296) (hk : k < 32) (h : x / 2 ^ k % 2 = 0) : 0 ≤ x + 2 ^ k ∧ x + 2 ^ k < 4294967296 := by
 have hq := p2_pos k
 refine ⟨by omega, ?_⟩
 have hp : (2 : Int) ^ k < 4294967296 := by
  have e : (4294967296 : Int) = 2 ^ k * (2 * 2 ^ (31 - k)) := by
   rw [← p2_32, show 32 = k + (1 + (31 - k)) by omega, Int.pow_add, Int.pow_add]; rfl
  have h2 := p2_pos (31 - k)
  have : (2 : Int) ^ k * 2 ≤ 2 ^ k * (2 * 2 ^ (31 - k)) := Int.mul_le_mul_of_nonneg_left (by omega) (by omega)
  omega
 rw [← or_bit32 hx hk h, u32_or x (2 ^ k) hx.1 hx.2 (by omega) hp]
 have : x.toNat ||| ((2 : Int) ^ k).toNat < 2 ^ 32 := Nat.or_lt_two_pow (by omega) (by omega)
 omega
theorem p2_mod {k : Nat} (hk : k < 32) : (2 : Int) ^ k % 4294967296 = 2 ^ k := by
 have hq := p2_pos k
 refine Int.emod_eq_of_lt (by omega) ?_
 have e : (4294967296 : Int) = 2 ^ k * (2 * 2 ^ (31 - k)) := by
  rw [← p2_32, show 32 = k + (1 + (31 - k)) by omega, Int.pow_add, Int.pow_add]; rfl
 have h2 := p2_pos (31 - k)
 have : (2 : Int) ^ k * 2 ≤ 2 ^ k * (2 * 2 ^ (31 - k)) := Int.mul_le_mul_of_nonneg_left (by omega) (by omega)
 omega
theorem or_bit_walk {x : Int} {k : Nat} (hx : 0 ≤ x ∧ x < 4294967296) (hk : k < 32) (h : x / 2 ^ k % 2 = 0) : bits BinOp.or IntKind.u32 x (2 ^ k % 4294967296) = x + 2 ^ k := by
 rw [p2_mod hk]; exact or_bit32 hx hk h
theorem set_bit {qs : List Int} {i : Nat} (hi : i / 32 < qs.length) : val (qs.set (i / 32) (qs[i / 32]?.getD 0 + 2 ^ (i % 32))) = val qs + 2 ^ i := by
 rw [val_set hi, Int.add_comm (qs[i / 32]?.getD 0), Int.add_sub_cancel, place_bit]
theorem or_low32 {x b : Int} (hx : 0 ≤ x ∧ x < 4294967296) (h2 : x % 2 = 0) (hb : 0 ≤ b ∧ b ≤ 1) : bits BinOp.or IntKind.u32 x b = x + b := by
 rw [u32_or x b hx.1 hx.2 hb.1 (by omega), nat_join 1 _ _ (by omega) (by omega)]
 omega
theorem and_one32 {x : Int} (hx : 0 ≤ x ∧ x < 4294967296) : bits BinOp.and IntKind.u32 x 1 = x % 2 := by
 rw [u32_and x 1 hx.1 hx.2 (by decide) (by decide)]
 have : x.toNat &&& (1 : Int).toNat = x.toNat % 2 := nat_mask1 _
 rw [this]
 omega

def DivAt (A b : Int) (t : Nat) (q r : Int) : Prop := q = 2 ^ t * (A / 2 ^ t / b) ∧ r = A / 2 ^ t % b
theorem DivAt.start {A b : Int} {t : Nat} (h0 : 0 ≤ A) (h : A < 2 ^ t) : DivAt A b t 0 0 := by
 have : A / 2 ^ t = 0 := Int.ediv_eq_zero_of_lt h0 h
 exact ⟨by rw [this]; simp, by rw [this]; simp⟩
theorem DivAt.free {A b q r : Int} {t : Nat} (h : DivAt A b (t + 1) q r) : q / 2 ^ t % 2 = 0 := by
 have hp := p2_pos t
 rw [h.1, Int.pow_succ, Int.mul_assoc, Int.mul_ediv_cancel_left _ (by omega)]
 omega
theorem DivAt.yes {A b q r : Int} {t : Nat} (hb : 0 < b) (h : DivAt A b (t + 1) q r) (hr : b ≤ 2 * r + A / 2 ^ t % 2) : DivAt A b t (q + 2 ^ t) (2 * r + A / 2 ^ t % 2 - b) := by
 have hm := bit_more A t
 have hd := Int.mul_ediv_add_emod (A / 2 ^ (t + 1)) b
 have hlt := Int.emod_lt_of_pos (A / 2 ^ (t + 1)) hb
 have hge := Int.emod_nonneg (A / 2 ^ (t + 1)) (show b ≠ 0 by omega)
 have hbit := Int.emod_two_eq (A / 2 ^ t)
 obtain ⟨h1, h2⟩ := h
 have key : A / 2 ^ t / b = 2 * (A / 2 ^ (t + 1) / b) + 1 ∧ A / 2 ^ t % b = 2 * r + A / 2 ^ t % 2 - b := by
  rw [Int.ediv_emod_unique hb]
  refine ⟨?_, by omega, by omega⟩
  rw [Int.mul_add, Int.mul_one, ← Int.mul_assoc, Int.mul_comm b 2, Int.mul_assoc]
  omega
 refine ⟨?_, key.2.symm⟩
 rw [key.1, h1, Int.pow_succ, Int.mul_add, Int.mul_one, Int.mul_assoc]
theorem DivAt.no {A b q r : Int} {t : Nat} (hb : 0 < b) (h : DivAt A b (t + 1) q r) (hr : ¬ b ≤ 2 * r + A / 2 ^ t % 2) : DivAt A b t q (2 * r + A / 2 ^ t % 2) := by
 have hm := bit_more A t
 have hd := Int.mul_ediv_add_emod (A / 2 ^ (t + 1)) b
 have hge := Int.emod_nonneg (A / 2 ^ (t + 1)) (show b ≠ 0 by omega)
 have hbit := Int.emod_two_eq (A / 2 ^ t)
 obtain ⟨h1, h2⟩ := h
 have key : A / 2 ^ t / b = 2 * (A / 2 ^ (t + 1) / b) ∧ A / 2 ^ t % b = 2 * r + A / 2 ^ t % 2 := by
  rw [Int.ediv_emod_unique hb]
  refine ⟨?_, by omega, by omega⟩
  rw [← Int.mul_assoc, Int.mul_comm b 2, Int.mul_assoc]
  omega
 refine ⟨?_, key.2.symm⟩
 rw [key.1, h1, Int.pow_succ, Int.mul_assoc]
theorem DivAt.bound {A b q r : Int} {t : Nat} (hb : 0 < b) (h : DivAt A b t q r) : 0 ≤ r ∧ r < b := by
 rw [h.2]; exact ⟨Int.emod_nonneg _ (by omega), Int.emod_lt_of_pos _ hb⟩
theorem DivAt.done {A b q r : Int} (h : DivAt A b 0 q r) : q = A / b ∧ r = A % b := by
 obtain ⟨h1, h2⟩ := h
 simp at h1 h2
 exact ⟨h1, h2⟩
end Go.Proofs.YtnjbedhealpgcaaGreat
