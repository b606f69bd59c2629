/- Turns, segments and whether they meet, over the whole numbers: the program's test and the specification's are the same. No program is named here. -/
namespace Go.Proofs.YtecjeomcbcpfiaaGreat
/-- twice the area of a triangle, with its sign -/
def ar (ax ay bx bz cx cy : Int) : Int := (bx - ax) * (cy - ay) - (bz - ay) * (cx - ax)
def sgn1 (n : Int) : Int := if 0 < n then 1 else if n < 0 then -1 else 0
def inB (x lo hi : Int) : Bool := decide (lo ≤ x) && decide (x ≤ hi)
def btw (a b x : Int) : Bool := inB x a b || inB x b a
def onB (ax ay bx bz px py : Int) : Bool := decide (ar ax ay bx bz px py = 0) && (btw ax bx px && btw ay bz py)
def rng (a b c d : Int) : Bool := decide (min a b ≤ max c d) && decide (min c d ≤ max a b)

theorem btw_iff {a b x : Int} : btw a b x = true ↔ (a ≤ x ∧ x ≤ b) ∨ (b ≤ x ∧ x ≤ a) := by simp [btw, inB]

theorem btw_mul {a b x : Int} : btw a b x = true ↔ (a - x) * (b - x) ≤ 0 := by
  rw [btw_iff]
  constructor
  · rintro (⟨h1, h2⟩ | ⟨h1, h2⟩)
    · have := Int.mul_nonneg (a := x - a) (b := b - x) (by omega) (by omega)
      grind
    · have := Int.mul_nonneg (a := a - x) (b := x - b) (by omega) (by omega)
      grind
  · intro h
    by_cases h1 : a ≤ x
    · by_cases h2 : x ≤ b
      · exact .inl ⟨h1, h2⟩
      · by_cases h3 : a = x
        · exact .inr ⟨by omega, by omega⟩
        · have := Int.mul_pos (a := x - a) (b := x - b) (by omega) (by omega)
          grind
    · by_cases h2 : b ≤ x
      · exact .inr ⟨h2, by omega⟩
      · have := Int.mul_pos (a := a - x) (b := b - x) (by omega) (by omega)
        grind

theorem sq_nonneg (x : Int) : 0 ≤ x * x := by
  rcases Int.le_total 0 x with h | h
  · exact Int.mul_nonneg h h
  · have := Int.mul_nonneg (a := -x) (b := -x) (by omega) (by omega); grind

theorem sq_pos {x : Int} (h : x ≠ 0) : 0 < x * x := by
  have := sq_nonneg x
  have h2 : x * x ≠ 0 := fun e => h (by rcases Int.mul_eq_zero.1 e with e | e <;> exact e)
  omega

theorem nonpos_of_pos_mul {p x : Int} (hp : 0 < p) (h : p * x ≤ 0) : x ≤ 0 := by
  by_cases hx : 0 < x
  · have := Int.mul_pos hp hx; omega
  · omega

theorem nonpos_of_neg_mul {p x : Int} (hp : p < 0) (h : 0 ≤ p * x) : x ≤ 0 := by
  by_cases hx : 0 < x
  · have := Int.mul_pos (a := -p) (b := x) (by omega) hx; grind
  · omega

/-- what lies on a side parts nothing -/
theorem onSides {ux uy vx vy wx wy : Int} (h : ux * vy = uy * vx) (hx : ux * vx ≤ 0) (hy : uy * vy ≤ 0) : (wx * uy - wy * ux) * (wx * vy - wy * vx) ≤ 0 := by
  by_cases hP : uy * vy = 0
  · have hQ : (ux * vy) * (ux * vy) = 0 := by grind
    have hQ' : ux * vy = 0 := by rcases Int.mul_eq_zero.1 hQ with e | e <;> exact e
    have hs := Int.mul_nonneg (sq_nonneg wy) (show 0 ≤ -(ux * vx) by omega)
    have e : (wx * uy - wy * ux) * (wx * vy - wy * vx) = -(wy * wy * -(ux * vx)) := by grind
    omega
  · refine nonpos_of_neg_mul (p := uy * vy) (by omega) ?_
    have := sq_nonneg (uy * vy * wx - ux * vy * wy)
    have e : uy * vy * ((wx * uy - wy * ux) * (wx * vy - wy * vx)) = (uy * vy * wx - ux * vy * wy) * (uy * vy * wx - ux * vy * wy) := by grind
    omega

/-- what is parted, and on one line, lies between -/
theorem parted {ux uy vx vy wx wy : Int} (h : ux * vy = uy * vx) (hp : (wx * uy - wy * ux) * (wx * vy - wy * vx) < 0) : ux * vx ≤ 0 ∧ uy * vy ≤ 0 := by
  constructor
  · refine nonpos_of_neg_mul hp ?_
    have := sq_nonneg ((wx * vy - wy * vx) * ux)
    have e : (wx * uy - wy * ux) * (wx * vy - wy * vx) * (ux * vx) = ((wx * vy - wy * vx) * ux) * ((wx * vy - wy * vx) * ux) := by grind
    omega
  · refine nonpos_of_neg_mul hp ?_
    have := sq_nonneg ((wx * vy - wy * vx) * uy)
    have e : (wx * uy - wy * ux) * (wx * vy - wy * vx) * (uy * vy) = ((wx * vy - wy * vx) * uy) * ((wx * vy - wy * vx) * uy) := by grind
    omega

/-- all on one way: what lies between by one coordinate does by the other -/
theorem alongX {ux uy vx vy wx wy : Int} (hw : wx ≠ 0) (hu : ux * wy = uy * wx) (hv : vx * wy = vy * wx) (h : ux * vx ≤ 0) : uy * vy ≤ 0 := by
  refine nonpos_of_pos_mul (sq_pos hw) ?_
  have := Int.mul_nonneg (sq_nonneg wy) (show 0 ≤ -(ux * vx) by omega)
  have e : wx * wx * (uy * vy) = wy * wy * (ux * vx) := by grind
  grind

/-- It lies on the segment. -/
def ON (ax ay bx bz px py : Int) : Prop := ar ax ay bx bz px py = 0 ∧ (ax - px) * (bx - px) ≤ 0 ∧ (ay - py) * (bz - py) ≤ 0
theorem onB_iff {ax ay bx bz px py : Int} : onB ax ay bx bz px py = true ↔ ON ax ay bx bz px py := by
  simp [onB, ON, btw_mul]

def RG (a b c d : Int) : Prop := min a b ≤ max c d ∧ min c d ≤ max a b
theorem rng_iff {a b c d : Int} : rng a b c d = true ↔ RG a b c d := by simp [rng, RG]

/-- The ranges meet, and neither segment lies on one side of the other one's line. -/
def MT (ax ay bx bz cx cy dx dy : Int) : Prop :=
  RG ax bx cx dx ∧ RG ay bz cy dy ∧ ar ax ay bx bz cx cy * ar ax ay bx bz dx dy ≤ 0 ∧ ar cx cy dx dy ax ay * ar cx cy dx dy bx bz ≤ 0
theorem ar_swap (ax ay bx bz cx cy : Int) : ar bx bz ax ay cx cy = - ar ax ay bx bz cx cy := by unfold ar; grind
theorem MT.flip {ax ay bx bz cx cy dx dy : Int} (h : MT ax ay bx bz cx cy dx dy) : MT ax ay bx bz dx dy cx cy := by
  obtain ⟨h1, h2, h3, h4⟩ := h
  unfold RG at h1 h2
  refine ⟨by unfold RG; omega, by unfold RG; omega, by rw [Int.mul_comm]; exact h3, ?_⟩
  rw [ar_swap cx cy dx dy, ar_swap cx cy dx dy]; rw [Int.neg_mul_neg]; exact h4
theorem MT.other {ax ay bx bz cx cy dx dy : Int} (h : MT ax ay bx bz cx cy dx dy) : MT cx cy dx dy ax ay bx bz := by
  obtain ⟨h1, h2, h3, h4⟩ := h
  unfold RG at h1 h2
  exact ⟨by unfold RG; omega, by unfold RG; omega, h4, h3⟩

theorem MT_of_on {ax ay bx bz cx cy : Int} (dx dy : Int) (h : ON ax ay bx bz cx cy) : MT ax ay bx bz cx cy dx dy := by
  obtain ⟨h1, h2, h3⟩ := h
  refine ⟨?_, ?_, by rw [h1]; simp, ?_⟩
  · have := btw_iff.1 (btw_mul.2 h2); unfold RG; omega
  · have := btw_iff.1 (btw_mul.2 h3); unfold RG; omega
  · have e : (ax - cx) * (bz - cy) = (ay - cy) * (bx - cx) := by unfold ar at h1; grind
    have := onSides (wx := dx - cx) (wy := dy - cy) e h2 h3
    unfold ar; exact this

/-- Where each parts the other one, the ranges meet. -/
theorem range_of_cross {ax bx cx dx A1 A2 A3 A4 : Int} (hd : A1 - A2 = A4 - A3) (he : A4 * ax - A3 * bx = A1 * dx - A2 * cx) (h1 : A1 * A2 < 0) (h2 : A3 * A4 < 0) : RG ax bx cx dx := by
  have parts : ∀ x y : Int, x * y < 0 → (0 < x ∧ y < 0) ∨ (x < 0 ∧ 0 < y) := by
    intro x y h
    rcases Int.lt_trichotomy x 0 with hx | hx | hx
    · right
      refine ⟨hx, ?_⟩
      by_cases hy : 0 < y
      · exact hy
      · have := Int.mul_nonneg (a := -x) (b := -y) (by omega) (by omega); rw [Int.neg_mul_neg] at this; omega
    · subst hx; simp at h
    · left
      refine ⟨hx, ?_⟩
      by_cases hy : y < 0
      · exact hy
      · have := Int.mul_nonneg (a := x) (b := y) (by omega) (by omega); omega
  have key : ∀ (P Q R S p q r s : Int), 0 < P → 0 < Q → 0 < R → 0 < S → P + Q = R + S → P * p + Q * q = R * r + S * s → ¬ (r < p ∧ r < q ∧ s < p ∧ s < q) := by
    intro P Q R S p q r s hP hQ hR hS hsum heq ⟨h1, h2, h3, h4⟩
    have m1 : ∃ m, r ≤ m ∧ s ≤ m ∧ m < p ∧ m < q := by
      by_cases hrs : r ≤ s
      · exact ⟨s, hrs, Int.le_refl _, h3, h4⟩
      · exact ⟨r, Int.le_refl _, by omega, h1, h2⟩
    obtain ⟨m, a1, a2, a3, a4⟩ := m1
    have t1 := Int.mul_pos hP (show 0 < p - m by omega)
    have t2 := Int.mul_pos hQ (show 0 < q - m by omega)
    have t3 := Int.mul_nonneg (Int.le_of_lt hR) (show 0 ≤ m - r by omega)
    have t4 := Int.mul_nonneg (Int.le_of_lt hS) (show 0 ≤ m - s by omega)
    have e1 : P * (p - m) + Q * (q - m) + R * (m - r) + S * (m - s) = 0 := by
      have : P * (p - m) + Q * (q - m) + R * (m - r) + S * (m - s) = (P * p + Q * q) - (R * r + S * s) - (P + Q) * m + (R + S) * m := by grind
      rw [this, heq, hsum]; omega
    omega
  rcases parts _ _ h1 with ⟨a1, a2⟩ | ⟨a1, a2⟩ <;> rcases parts _ _ h2 with ⟨a3, a4⟩ | ⟨a3, a4⟩
  · omega
  · have k1 := key A4 (-A3) A1 (-A2) ax bx dx cx a4 (by omega) a1 (by omega) (by omega) (by grind)
    have k2 := key A1 (-A2) A4 (-A3) dx cx ax bx a1 (by omega) a4 (by omega) (by omega) (by grind)
    unfold RG; omega
  · have k1 := key (-A4) A3 (-A1) A2 ax bx dx cx (by omega) a3 (by omega) a2 (by omega) (by grind)
    have k2 := key (-A1) A2 (-A4) A3 dx cx ax bx (by omega) a2 (by omega) a3 (by omega) (by grind)
    unfold RG; omega
  · omega

theorem MT_of_cross {ax ay bx bz cx cy dx dy : Int} (h1 : ar ax ay bx bz cx cy * ar ax ay bx bz dx dy < 0) (h2 : ar cx cy dx dy ax ay * ar cx cy dx dy bx bz < 0) : MT ax ay bx bz cx cy dx dy := by
  have hd : ar ax ay bx bz cx cy - ar ax ay bx bz dx dy = ar cx cy dx dy bx bz - ar cx cy dx dy ax ay := by unfold ar; grind
  refine ⟨range_of_cross hd ?_ h1 h2, range_of_cross hd ?_ h1 h2, by omega, by omega⟩
  · unfold ar; grind
  · unfold ar; grind

theorem on_of_parted {ax ay bx bz cx cy dx dy : Int} (h1 : ar ax ay bx bz cx cy * ar ax ay bx bz dx dy < 0) (h2 : ar cx cy dx dy ax ay = 0) : ON cx cy dx dy ax ay := by
  have e : (cx - ax) * (dy - ay) = (cy - ay) * (dx - ax) := by unfold ar at h2; grind
  obtain ⟨p1, p2⟩ := parted (wx := bx - ax) (wy := bz - ay) e (by unfold ar at h1; exact h1)
  exact ⟨h2, p1, p2⟩
theorem on_of_parted' {ax ay bx bz cx cy dx dy : Int} (h1 : ar ax ay bx bz cx cy * ar ax ay bx bz dx dy < 0) (h2 : ar cx cy dx dy bx bz = 0) : ON cx cy dx dy bx bz := by
  refine on_of_parted (bx := ax) (bz := ay) ?_ h2
  rw [ar_swap ax ay bx bz, ar_swap ax ay bx bz, Int.neg_mul_neg]; exact h1

theorem mul_zero_right {x y : Int} (hy : y ≠ 0) (h : x * y = 0) : x = 0 := by
  rcases Int.mul_eq_zero.1 h with e | e
  · exact e
  · exact absurd e hy

/-- Two lines that are not parallel have but one point: a corner of each on the other one is it. -/
theorem same_of_two {ax ay bx bz cx cy dx dy : Int} (hD : (bx - ax) * (dy - cy) - (bz - ay) * (dx - cx) ≠ 0) (h1 : ar ax ay bx bz cx cy = 0) (h2 : ar cx cy dx dy ax ay = 0) : ax = cx ∧ ay = cy := by
  unfold ar at h1 h2
  have e1 : (cx - ax) * ((bx - ax) * (dy - cy) - (bz - ay) * (dx - cx)) = 0 := by
    have : (cx - ax) * ((bx - ax) * (dy - cy) - (bz - ay) * (dx - cx)) = (dx - cx) * ((bx - ax) * (cy - ay) - (bz - ay) * (cx - ax)) + (bx - ax) * ((dx - cx) * (ay - cy) - (dy - cy) * (ax - cx)) := by grind
    rw [this, h1, h2]; simp
  have e2 : (cy - ay) * ((bx - ax) * (dy - cy) - (bz - ay) * (dx - cx)) = 0 := by
    have : (cy - ay) * ((bx - ax) * (dy - cy) - (bz - ay) * (dx - cx)) = (dy - cy) * ((bx - ax) * (cy - ay) - (bz - ay) * (cx - ax)) + (bz - ay) * ((dx - cx) * (ay - cy) - (dy - cy) * (ax - cx)) := by grind
    rw [this, h1, h2]; simp
  have := mul_zero_right hD e1
  have := mul_zero_right hD e2
  omega

theorem on_end {ax ay bx bz : Int} : ON ax ay bx bz ax ay := ⟨by unfold ar; grind, by simp, by simp⟩
theorem on_end' {ax ay bx bz : Int} : ON ax ay bx bz bx bz := ⟨by unfold ar; grind, by simp, by simp⟩

def ANY (ax ay bx bz cx cy dx dy : Int) : Prop := ON ax ay bx bz cx cy ∨ ON ax ay bx bz dx dy ∨ ON cx cy dx dy ax ay ∨ ON cx cy dx dy bx bz

theorem any_of_two {ax ay bx bz cx cy dx dy : Int} (hD : (bx - ax) * (dy - cy) - (bz - ay) * (dx - cx) ≠ 0)
    (h1 : ar ax ay bx bz cx cy = 0 ∨ ar ax ay bx bz dx dy = 0) (h2 : ar cx cy dx dy ax ay = 0 ∨ ar cx cy dx dy bx bz = 0) : ANY ax ay bx bz cx cy dx dy := by
  rcases h1 with h1 | h1 <;> rcases h2 with h2 | h2
  · obtain ⟨rfl, rfl⟩ := same_of_two hD h1 h2; exact .inl on_end
  · have hD' : (ax - bx) * (dy - cy) - (ay - bz) * (dx - cx) ≠ 0 := by intro e; apply hD; grind
    obtain ⟨rfl, rfl⟩ := same_of_two hD' (by rw [ar_swap, h1]; rfl) h2; exact .inl on_end'
  · have hD' : (bx - ax) * (cy - dy) - (bz - ay) * (cx - dx) ≠ 0 := by intro e; apply hD; grind
    obtain ⟨rfl, rfl⟩ := same_of_two hD' h1 (by rw [ar_swap, h2]; rfl); exact .inr (.inl on_end)
  · have hD' : (ax - bx) * (cy - dy) - (ay - bz) * (cx - dx) ≠ 0 := by intro e; apply hD; grind
    obtain ⟨rfl, rfl⟩ := same_of_two hD' (by rw [ar_swap, h1]; rfl) (by rw [ar_swap, h2]; rfl); exact .inr (.inl on_end')

/-- ranges that meet have an end of one in the other one -/
theorem rg_end {a b c d : Int} (h : RG a b c d) : (a - c) * (b - c) ≤ 0 ∨ (a - d) * (b - d) ≤ 0 ∨ (c - a) * (d - a) ≤ 0 ∨ (c - b) * (d - b) ≤ 0 := by
  unfold RG at h
  simp only [← btw_mul, btw_iff]
  omega

/-- All on one line that is no point. -/
theorem any_of_line {ax ay bx bz cx cy dx dy : Int} (hx : RG ax bx cx dx) (hy : RG ay bz cy dy) (hw : bx ≠ ax ∨ bz ≠ ay)
    (h1 : ar ax ay bx bz cx cy = 0) (h2 : ar ax ay bx bz dx dy = 0) (h3 : ar cx cy dx dy ax ay = 0) (h4 : ar cx cy dx dy bx bz = 0) : ANY ax ay bx bz cx cy dx dy := by
  by_cases hX : bx - ax ≠ 0
  · rcases rg_end hx with h | h | h | h
    · exact .inl ⟨h1, h, alongX (wx := bx - ax) (wy := bz - ay) hX (by unfold ar at h1; grind) (by unfold ar at h1; grind) h⟩
    · exact .inr (.inl ⟨h2, h, alongX (wx := bx - ax) (wy := bz - ay) hX (by unfold ar at h2; grind) (by unfold ar at h2; grind) h⟩)
    · exact .inr (.inr (.inl ⟨h3, h, alongX (wx := bx - ax) (wy := bz - ay) hX (by unfold ar at h1; grind) (by unfold ar at h2; grind) h⟩))
    · exact .inr (.inr (.inr ⟨h4, h, alongX (wx := bx - ax) (wy := bz - ay) hX (by unfold ar at h1; grind) (by unfold ar at h2; grind) h⟩))
  · have eX : bx = ax := by omega
    have hY : bz - ay ≠ 0 := by omega
    subst eX
    have c0 : cx = bx := by
      have := mul_zero_right hY (x := cx - bx) (by unfold ar at h1; grind); omega
    have d0 : dx = bx := by
      have := mul_zero_right hY (x := dx - bx) (by unfold ar at h2; grind); omega
    subst c0 d0
    rcases rg_end hy with h | h | h | h
    · exact .inl ⟨h1, by simp, h⟩
    · exact .inr (.inl ⟨h2, by simp, h⟩)
    · exact .inr (.inr (.inl ⟨h3, by simp, h⟩))
    · exact .inr (.inr (.inr ⟨h4, by simp, h⟩))

theorem any_of_MT {ax ay bx bz cx cy dx dy : Int} (h : MT ax ay bx bz cx cy dx dy)
    (hn : ¬ (ar ax ay bx bz cx cy * ar ax ay bx bz dx dy < 0 ∧ ar cx cy dx dy ax ay * ar cx cy dx dy bx bz < 0)) : ANY ax ay bx bz cx cy dx dy := by
  obtain ⟨hx, hy, h1, h2⟩ := h
  by_cases z1 : ar ax ay bx bz cx cy * ar ax ay bx bz dx dy < 0
  · have z2 : ar cx cy dx dy ax ay * ar cx cy dx dy bx bz = 0 := by
      by_cases q : ar cx cy dx dy ax ay * ar cx cy dx dy bx bz < 0
      · exact absurd ⟨z1, q⟩ hn
      · omega
    rcases Int.mul_eq_zero.1 z2 with e | e
    · exact .inr (.inr (.inl (on_of_parted z1 e)))
    · exact .inr (.inr (.inr (on_of_parted' z1 e)))
  · have z1' := Int.mul_eq_zero.1 (show ar ax ay bx bz cx cy * ar ax ay bx bz dx dy = 0 by omega)
    by_cases z2 : ar cx cy dx dy ax ay * ar cx cy dx dy bx bz < 0
    · rcases z1' with e | e
      · exact .inl (on_of_parted z2 e)
      · exact .inr (.inl (on_of_parted' z2 e))
    · have z2' := Int.mul_eq_zero.1 (show ar cx cy dx dy ax ay * ar cx cy dx dy bx bz = 0 by omega)
      by_cases hD : (bx - ax) * (dy - cy) - (bz - ay) * (dx - cx) = 0
      · have e1 : ar ax ay bx bz cx cy = ar ax ay bx bz dx dy := by unfold ar; grind
        have e2 : ar cx cy dx dy ax ay = ar cx cy dx dy bx bz := by unfold ar; grind
        have a1 : ar ax ay bx bz cx cy = 0 := by rcases z1' with e | e <;> omega
        have a2 : ar ax ay bx bz dx dy = 0 := by omega
        have a3 : ar cx cy dx dy ax ay = 0 := by rcases z2' with e | e <;> omega
        have a4 : ar cx cy dx dy bx bz = 0 := by omega
        by_cases hw : bx ≠ ax ∨ bz ≠ ay
        · exact any_of_line hx hy hw a1 a2 a3 a4
        · by_cases hw' : dx ≠ cx ∨ dy ≠ cy
          · have hx' : RG cx dx ax bx := by unfold RG at hx ⊢; omega
            have hy' : RG cy dy ay bz := by unfold RG at hy ⊢; omega
            rcases any_of_line hx' hy' hw' a3 a4 a1 a2 with h | h | h | h
            · exact .inr (.inr (.inl h))
            · exact .inr (.inr (.inr h))
            · exact .inl h
            · exact .inr (.inl h)
          · have : bx = ax := by omega
            have : bz = ay := by omega
            have : dx = cx := by omega
            have : dy = cy := by omega
            subst bx bz dx dy
            unfold RG at hx hy
            have : ax = cx := by omega
            have : ay = cy := by omega
            subst ax ay
            exact .inl on_end
      · exact any_of_two hD z1' z2'

theorem sgn1_mul_le (m n : Int) : (sgn1 m * sgn1 n ≤ 0) ↔ m * n ≤ 0 := by
  unfold sgn1
  rcases Int.lt_trichotomy m 0 with hm | hm | hm <;> rcases Int.lt_trichotomy n 0 with hn | hn | hn <;> (try subst hm) <;> (try subst hn)
  · have := Int.mul_pos (a := -m) (b := -n) (by omega) (by omega); rw [Int.neg_mul_neg] at this
    rw [if_neg (by omega), if_pos hm, if_neg (by omega), if_pos hn]; omega
  · simp
  · have := Int.mul_pos (a := -m) (b := n) (by omega) (by omega); rw [Int.neg_mul] at this
    rw [if_neg (by omega), if_pos hm, if_pos hn]; omega
  · simp
  · simp
  · simp
  · have := Int.mul_pos (a := m) (b := -n) (by omega) (by omega); rw [Int.mul_neg] at this
    rw [if_pos hm, if_neg (by omega), if_pos hn]; omega
  · simp
  · have := Int.mul_pos hm hn
    rw [if_pos hm, if_pos hn]; omega

theorem sgn1_mul_lt (m n : Int) : (sgn1 m * sgn1 n < 0) ↔ m * n < 0 := by
  unfold sgn1
  rcases Int.lt_trichotomy m 0 with hm | hm | hm <;> rcases Int.lt_trichotomy n 0 with hn | hn | hn <;> (try subst hm) <;> (try subst hn)
  · have := Int.mul_pos (a := -m) (b := -n) (by omega) (by omega); rw [Int.neg_mul_neg] at this
    rw [if_neg (by omega), if_pos hm, if_neg (by omega), if_pos hn]; omega
  · simp
  · have := Int.mul_pos (a := -m) (b := n) (by omega) (by omega); rw [Int.neg_mul] at this
    rw [if_neg (by omega), if_pos hm, if_pos hn]; omega
  · simp
  · simp
  · simp
  · have := Int.mul_pos (a := m) (b := -n) (by omega) (by omega); rw [Int.mul_neg] at this
    rw [if_pos hm, if_neg (by omega), if_pos hn]; omega
  · simp
  · have := Int.mul_pos hm hn
    rw [if_pos hm, if_pos hn]; omega

/-- The program's test. -/
def metI (ax ay bx bz cx cy dx dy : Int) : Bool :=
  rng ax bx cx dx && (rng ay bz cy dy && (decide (sgn1 (ar ax ay bx bz cx cy) * sgn1 (ar ax ay bx bz dx dy) ≤ 0) && decide (sgn1 (ar cx cy dx dy ax ay) * sgn1 (ar cx cy dx dy bx bz) ≤ 0)))
/-- The specification's. -/
def metS (ax ay bx bz cx cy dx dy : Int) : Bool :=
  (onB ax ay bx bz cx cy || (onB ax ay bx bz dx dy || (onB cx cy dx dy ax ay || onB cx cy dx dy bx bz))) ||
    (decide (sgn1 (ar ax ay bx bz cx cy) * sgn1 (ar ax ay bx bz dx dy) < 0) && decide (sgn1 (ar cx cy dx dy ax ay) * sgn1 (ar cx cy dx dy bx bz) < 0))

theorem metI_iff {ax ay bx bz cx cy dx dy : Int} : metI ax ay bx bz cx cy dx dy = true ↔ MT ax ay bx bz cx cy dx dy := by
  simp only [metI, MT, Bool.and_eq_true, rng_iff, decide_eq_true_eq, sgn1_mul_le]
theorem metS_iff {ax ay bx bz cx cy dx dy : Int} : metS ax ay bx bz cx cy dx dy = true ↔ ANY ax ay bx bz cx cy dx dy ∨ (ar ax ay bx bz cx cy * ar ax ay bx bz dx dy < 0 ∧ ar cx cy dx dy ax ay * ar cx cy dx dy bx bz < 0) := by
  simp only [metS, ANY, Bool.and_eq_true, Bool.or_eq_true, onB_iff, decide_eq_true_eq, sgn1_mul_lt]

theorem met_same (ax ay bx bz cx cy dx dy : Int) : metI ax ay bx bz cx cy dx dy = metS ax ay bx bz cx cy dx dy := by
  rw [Bool.eq_iff_iff, metI_iff, metS_iff]
  constructor
  · intro h
    by_cases hn : ar ax ay bx bz cx cy * ar ax ay bx bz dx dy < 0 ∧ ar cx cy dx dy ax ay * ar cx cy dx dy bx bz < 0
    · exact .inr hn
    · exact .inl (any_of_MT h hn)
  · rintro ((h | h | h | h) | ⟨h1, h2⟩)
    · exact MT_of_on _ _ h
    · exact (MT_of_on _ _ h).flip
    · exact (MT_of_on _ _ h).other
    · exact (MT_of_on _ _ h).flip.other
    · exact MT_of_cross h1 h2

/-- A point is a segment, too. -/
theorem met_point (ax ay bx bz px py : Int) : metI ax ay bx bz px py px py = onB ax ay bx bz px py := by
  rw [Bool.eq_iff_iff, met_same, metS_iff, onB_iff]
  constructor
  · rintro ((h | h | h | h) | ⟨h1, h2⟩)
    · exact h
    · exact h
    · obtain ⟨_, h2, h3⟩ := h
      have := btw_iff.1 (btw_mul.2 h2)
      have := btw_iff.1 (btw_mul.2 h3)
      have : px = ax := by omega
      have : py = ay := by omega
      subst px py; exact on_end
    · obtain ⟨_, h2, h3⟩ := h
      have := btw_iff.1 (btw_mul.2 h2)
      have := btw_iff.1 (btw_mul.2 h3)
      have : px = bx := by omega
      have : py = bz := by omega
      subst px py; exact on_end'
    · have := sq_nonneg (ar ax ay bx bz px py); omega
  · intro h; exact .inl (.inl h)
end Go.Proofs.YtecjeomcbcpfiaaGreat

/- Whether a point lies in a ring, by the ways of the program and of the specification: the same, where it is on no edge. Mathematics. -/
namespace Go.Proofs.YtecjeomcbcpfiaaGreat

/-- The edge counts, as the specification has it. -/
def hitS (ax ay bx bz px py : Int) : Bool := ((decide (py < ay)) != (decide (py < bz))) && ((decide (ay < bz) && decide (0 < ar ax ay bx bz px py)) || (decide (bz < ay) && decide (ar ax ay bx bz px py < 0)))
/-- .. and as the program has it. -/
def hitI (ax ay bx bz px py : Int) : Bool := (decide (ay < py) && (decide (py ≤ bz) && decide (0 < ar ax ay bx bz px py))) || (decide (bz < py) && (decide (py ≤ ay) && decide (ar ax ay bx bz px py < 0)))
/-- The corner is at the point's height, to its right. -/
def rgt (vx vy px py : Int) : Bool := decide (vy = py) && decide (px < vx)
theorem pos_mul_iff {a b : Int} (h : 0 < a) : 0 < a * b ↔ 0 < b := by
  constructor
  · intro k
    rcases Int.lt_or_le 0 b with c | c
    · exact c
    · have := Int.mul_nonneg (Int.le_of_lt h) (show 0 ≤ -b by omega)
      rw [Int.mul_neg] at this
      omega
  · exact Int.mul_pos h
theorem neg_mul_iff {a b : Int} (h : 0 < a) : a * b < 0 ↔ b < 0 := by
  have := pos_mul_iff (a := a) (b := -b) h
  rw [Int.mul_neg] at this
  omega
/-- An edge that ends at the point's height, from below or above: what its area tells. -/
theorem ar_at_end {ax ay bx bz px py : Int} (h : bz = py) : ar ax ay bx bz px py = (bz - ay) * (bx - px) := by subst h; unfold ar; grind
theorem ar_at_start {ax ay bx bz px py : Int} (h : ay = py) : ar ax ay bx bz px py = (bz - ay) * (ax - px) := by subst h; unfold ar; grind
theorem hit_parts {ax ay bx bz px py : Int} (hn : onB ax ay bx bz px py = false) : (hitS ax ay bx bz px py ^^ hitI ax ay bx bz px py) = (rgt ax ay px py ^^ rgt bx bz px py) := by
  have hon : ¬ ON ax ay bx bz px py := by
    intro h
    rw [onB_iff.2 h] at hn
    cases hn
  -- what the area tells where an end is at the point's height
  have eU : bz = py → ay < py → (0 < ar ax ay bx bz px py ↔ px < bx) := fun h k => by
    rw [ar_at_end h, pos_mul_iff (show 0 < bz - ay by omega)]
    omega
  have eD : bz = py → py < ay → (ar ax ay bx bz px py < 0 ↔ px < bx) := fun h k => by
    have e : ar ax ay bx bz px py = -((ay - bz) * (bx - px)) := by rw [ar_at_end h]; grind
    have q := pos_mul_iff (a := ay - bz) (b := bx - px) (by omega)
    rw [e]
    omega
  have sU : ay = py → py < bz → (0 < ar ax ay bx bz px py ↔ px < ax) := fun h k => by
    rw [ar_at_start h, pos_mul_iff (show 0 < bz - ay by omega)]
    omega
  have sD : ay = py → bz < py → (ar ax ay bx bz px py < 0 ↔ px < ax) := fun h k => by
    have e : ar ax ay bx bz px py = -((ay - bz) * (ax - px)) := by rw [ar_at_start h]; grind
    have q := pos_mul_iff (a := ay - bz) (b := ax - px) (by omega)
    rw [e]
    omega
  have al : ay = py → bz = py → (px < ax ↔ px < bx) := fun h k => by
    have hx : ¬ (ax - px) * (bx - px) ≤ 0 := by
      intro kk
      refine hon ⟨?_, kk, ?_⟩
      · rw [ar_at_end k]
        have : bz - ay = 0 := by omega
        rw [this, Int.zero_mul]
      · have : ay - py = 0 := by omega
        rw [this, Int.zero_mul]
        omega
    constructor
    · intro c
      rcases Int.lt_or_le px bx with d | d
      · exact d
      · exfalso
        apply hx
        have := Int.mul_nonneg (show 0 ≤ ax - px by omega) (show 0 ≤ -(bx - px) by omega)
        rw [Int.mul_neg] at this
        omega
    · intro c
      rcases Int.lt_or_le px ax with d | d
      · exact d
      · exfalso
        apply hx
        have := Int.mul_nonneg (show 0 ≤ -(ax - px) by omega) (show 0 ≤ bx - px by omega)
        rw [Int.neg_mul] at this
        omega
  clear hon hn
  unfold hitS hitI rgt
  generalize ar ax ay bx bz px py = A at *
  rcases Int.lt_trichotomy ay py with h1 | h1 | h1 <;> rcases Int.lt_trichotomy bz py with h2 | h2 | h2 <;> grind

/-- Whether an odd number of the first k is true. -/
def par (f : Nat → Bool) : Nat → Bool
  | 0 => false
  | k + 1 => par f k ^^ f k
theorem par_xor (f g : Nat → Bool) : ∀ k, par (fun i => f i ^^ g i) k = (par f k ^^ par g k)
  | 0 => rfl
  | k + 1 => by
    simp only [par]
    rw [par_xor f g k]
    cases par f k <;> cases par g k <;> cases f k <;> cases g k <;> rfl
theorem par_congr {f g : Nat → Bool} : ∀ k, (∀ i, i < k → f i = g i) → par f k = par g k
  | 0, _ => rfl
  | k + 1, h => by
    simp only [par]
    rw [par_congr k (fun i hi => h i (by omega)), h k (by omega)]
theorem par_tele (r : Nat → Bool) : ∀ k, par (fun i => r i ^^ r (i + 1)) k = (r 0 ^^ r k)
  | 0 => by simp [par]
  | k + 1 => by
    simp only [par]
    rw [par_tele r k]
    cases r 0 <;> cases r k <;> cases r (k + 1) <;> rfl
/-- Around a ring what each edge's ends tell cancels out. -/
theorem par_ring (r : Nat → Bool) (n : Nat) (hn : 0 < n) : par (fun i => r i ^^ r ((i + 1) % n)) n = false := by
  obtain ⟨m, rfl⟩ : ∃ m, n = m + 1 := ⟨n - 1, by omega⟩
  simp only [par]
  rw [par_congr (g := fun i => r i ^^ r (i + 1)) m (fun i hi => by rw [Nat.mod_eq_of_lt (by omega)]), par_tele, Nat.mod_self]
  cases r 0 <;> cases r m <;> rfl
/-- Both ways tell the same of a point that is on no edge. -/
theorem in_same {X Y : Nat → Int} {n : Nat} {px py : Int} (h0 : 0 < n) (h : ∀ i, i < n → onB (X i) (Y i) (X ((i + 1) % n)) (Y ((i + 1) % n)) px py = false) :
    par (fun i => hitS (X i) (Y i) (X ((i + 1) % n)) (Y ((i + 1) % n)) px py) n = par (fun i => hitI (X i) (Y i) (X ((i + 1) % n)) (Y ((i + 1) % n)) px py) n := by
  have h1 := par_xor (fun i => hitS (X i) (Y i) (X ((i + 1) % n)) (Y ((i + 1) % n)) px py) (fun i => hitI (X i) (Y i) (X ((i + 1) % n)) (Y ((i + 1) % n)) px py) n
  rw [par_congr n (fun i hi => hit_parts (h i hi))] at h1
  have h3 : par (fun i => rgt (X i) (Y i) px py ^^ rgt (X ((i + 1) % n)) (Y ((i + 1) % n)) px py) n = false := par_ring (fun i => rgt (X i) (Y i) px py) n h0
  rw [h3] at h1
  revert h1
  generalize par _ _ = u
  generalize par _ _ = v
  cases u <;> cases v <;> simp
end Go.Proofs.YtecjeomcbcpfiaaGreat

/- Along a segment that meets no edge of a ring, the number of edges to the right is odd everywhere or even everywhere. Mathematics. -/
namespace Go.Proofs.YtecjeomcbcpfiaaGreat

theorem neg_of {g X p Y q Z : Int} (hg : 0 < g) (e : g * X + p * Y + q * Z = 0) (hp : 0 < p) (hY : 0 < Y) (hq : 0 ≤ q) (hZ : 0 ≤ Z) : X < 0 := by
  have h1 := Int.mul_pos hp hY
  have h2 := Int.mul_nonneg hq hZ
  have h3 : g * X < 0 := by omega
  exact (neg_mul_iff hg).1 h3
theorem pos_of {g X p Y q Z : Int} (hg : 0 < g) (e : g * X + p * Y + q * Z = 0) (hp : 0 < p) (hY : Y < 0) (hq : 0 ≤ q) (hZ : Z ≤ 0) : 0 < X := by
  have := neg_of (X := -X) (Y := -Y) (Z := -Z) hg (by rw [Int.mul_neg, Int.mul_neg, Int.mul_neg]; omega) hp (by omega) hq (by omega)
  omega
/-- A point on a line, between two of it by height. -/
theorem on_line {ux uy vx vy bx bz : Int} (h : ar ux uy vx vy bx bz = 0) (h1 : uy ≤ bz) (h2 : bz ≤ vy) (h3 : uy < vy) : ON ux uy vx vy bx bz := by
  refine ⟨h, ?_, ?_⟩
  · have hk : 0 < (vy - uy) * (vy - uy) := Int.mul_pos (by omega) (by omega)
    have e1 : (vy - uy) * (bx - ux) = (bz - uy) * (vx - ux) := by unfold ar at h; grind
    have e2 : (vy - uy) * (vx - bx) = (vy - bz) * (vx - ux) := by unfold ar at h; grind
    have e3 : (vy - uy) * (vy - uy) * ((bx - ux) * (vx - bx)) = ((bz - uy) * (vy - bz)) * ((vx - ux) * (vx - ux)) := by
      have : ((vy - uy) * (bx - ux)) * ((vy - uy) * (vx - bx)) = ((bz - uy) * (vx - ux)) * ((vy - bz) * (vx - ux)) := by rw [e1, e2]
      grind
    have h4 : 0 ≤ ((bz - uy) * (vy - bz)) * ((vx - ux) * (vx - ux)) := Int.mul_nonneg (Int.mul_nonneg (by omega) (by omega)) (sq_nonneg _)
    have h5 : 0 ≤ (bx - ux) * (vx - bx) := by
      rcases Int.lt_or_le ((bx - ux) * (vx - bx)) 0 with c | c
      · have := Int.mul_neg_of_pos_of_neg hk c
        omega
      · exact c
    have e4 : (ux - bx) * (vx - bx) = -((bx - ux) * (vx - bx)) := by grind
    omega
  · have := Int.mul_nonneg (show 0 ≤ bz - uy by omega) (show 0 ≤ vy - bz by omega)
    have e : (uy - bz) * (vy - bz) = -((bz - uy) * (vy - bz)) := by grind
    omega
/-- The point lies to the right of the segment, at its height. -/
def rgtS (ux uy vx vy zx zy : Int) : Bool := ((decide (uy < zy)) != (decide (vy < zy))) && ((decide (uy < vy) && decide (ar ux uy vx vy zx zy < 0)) || (decide (vy < uy) && decide (0 < ar ux uy vx vy zx zy)))
theorem hitS_flip (ax ay bx bz px py : Int) : hitS bx bz ax ay px py = hitS ax ay bx bz px py := by
  unfold hitS
  rw [ar_swap ax ay bx bz px py]
  generalize ar ax ay bx bz px py = A
  rw [show decide (0 < -A) = decide (A < 0) by simp, show decide (-A < 0) = decide (0 < A) by simp]
  cases decide (py < ay) <;> cases decide (py < bz) <;> cases decide (ay < bz) <;> cases decide (bz < ay) <;> cases decide (A < 0) <;> cases decide (0 < A) <;> rfl
theorem rgtS_flip (ux uy vx vy zx zy : Int) : rgtS vx vy ux uy zx zy = rgtS ux uy vx vy zx zy := by
  unfold rgtS
  rw [ar_swap ux uy vx vy zx zy]
  generalize ar ux uy vx vy zx zy = A
  rw [show decide (0 < -A) = decide (A < 0) by simp, show decide (-A < 0) = decide (0 < A) by simp]
  cases decide (uy < zy) <;> cases decide (vy < zy) <;> cases decide (uy < vy) <;> cases decide (vy < uy) <;> cases decide (A < 0) <;> cases decide (0 < A) <;> rfl
theorem MT.turned {ax ay bx bz cx cy dx dy : Int} (h : MT ax ay bx bz cx cy dx dy) : MT bx bz ax ay cx cy dx dy := h.other.flip.other

section
variable {ax ay bx bz ux uy vx vy : Int}
theorem case1 (hn : ¬ MT ax ay bx bz ux uy vx vy) (h1 : ay ≤ uy) (h2 : uy < bz) (h3 : bz ≤ vy) : 0 < ar ax ay bx bz ux uy ↔ ar ux uy vx vy bx bz < 0 := by
  have I1 : (bz - uy) * ar ax ay bx bz vx vy + (bz - ay) * ar ux uy vx vy bx bz + (vy - bz) * ar ax ay bx bz ux uy = 0 := by unfold ar; grind
  have I2 : (bz - uy) * ar ux uy vx vy ax ay + (vy - uy) * ar ax ay bx bz ux uy + (uy - ay) * ar ux uy vx vy bx bz = 0 := by unfold ar; grind
  constructor
  · intro p
    rcases Int.lt_trichotomy (ar ux uy vx vy bx bz) 0 with c | c | c
    · exact c
    · exact absurd (MT_of_on ax ay (on_line c (by omega) h3 (by omega))).other.turned hn
    · have n2 := neg_of (by omega) I1 (by omega) c (by omega) (by omega)
      have n3 := neg_of (by omega) I2 (by omega) p (by omega) (by omega)
      exact absurd (MT_of_cross (Int.mul_neg_of_pos_of_neg p n2) (Int.mul_neg_of_neg_of_pos n3 c)) hn
  · intro c
    rcases Int.lt_trichotomy (ar ax ay bx bz ux uy) 0 with p | p | p
    · have n2 := pos_of (by omega) I1 (by omega) c (by omega) (by omega)
      have n3 := pos_of (by omega) I2 (by omega) p (by omega) (by omega)
      exact absurd (MT_of_cross (Int.mul_neg_of_neg_of_pos p n2) (Int.mul_neg_of_pos_of_neg n3 c)) hn
    · exact absurd (MT_of_on vx vy (on_line p h1 (by omega) (by omega))) hn
    · exact p
theorem case4 (hn : ¬ MT ax ay bx bz ux uy vx vy) (h1 : uy < ay) (h2 : ay ≤ vy) (h3 : vy < bz) : 0 < ar ax ay bx bz vx vy ↔ ar ux uy vx vy ax ay < 0 := by
  have I1 : (vy - ay) * ar ax ay bx bz ux uy + (bz - ay) * ar ux uy vx vy ax ay + (ay - uy) * ar ax ay bx bz vx vy = 0 := by unfold ar; grind
  have I2 : (vy - ay) * ar ux uy vx vy bx bz + (vy - uy) * ar ax ay bx bz vx vy + (bz - vy) * ar ux uy vx vy ax ay = 0 := by unfold ar; grind
  have hg : ∀ {p : Int} {Y q Z : Int}, 0 < Y → 0 < p → 0 ≤ q → 0 ≤ Z → p * Y + q * Z ≠ 0 := by
    intro p Y q Z hY hp hq hZ e
    have h1 := Int.mul_pos hp hY
    have h2 := Int.mul_nonneg hq hZ
    omega
  constructor
  · intro p
    rcases Int.lt_trichotomy (ar ux uy vx vy ax ay) 0 with c | c | c
    · exact c
    · exact absurd (MT_of_on bx bz (on_line c (by omega) h2 (by omega))).other hn
    · have g0 : 0 < vy - ay := by
        rcases Int.lt_or_le 0 (vy - ay) with z | z
        · exact z
        · have : vy - ay = 0 := by omega
          rw [this, Int.zero_mul, Int.zero_add] at I1
          exact absurd I1 (hg c (by omega) (by omega) (by omega))
      have n1 := neg_of g0 I1 (by omega) c (by omega) (by omega)
      have n4 := neg_of g0 I2 (by omega) p (by omega) (by omega)
      exact absurd (MT_of_cross (Int.mul_neg_of_neg_of_pos n1 p) (Int.mul_neg_of_pos_of_neg c n4)) hn
  · intro c
    rcases Int.lt_trichotomy (ar ax ay bx bz vx vy) 0 with p | p | p
    · have g0 : 0 < vy - ay := by
        rcases Int.lt_or_le 0 (vy - ay) with z | z
        · exact z
        · have : vy - ay = 0 := by omega
          rw [this, Int.zero_mul, Int.zero_add] at I1
          have := hg (p := bz - ay) (Y := -ar ux uy vx vy ax ay) (q := ay - uy) (Z := -ar ax ay bx bz vx vy) (by omega) (by omega) (by omega) (by omega)
          rw [Int.mul_neg, Int.mul_neg] at this
          exact absurd (by omega) this
      have n1 := pos_of g0 I1 (by omega) c (by omega) (by omega)
      have n4 := pos_of g0 I2 (by omega) p (by omega) (by omega)
      exact absurd (MT_of_cross (Int.mul_neg_of_pos_of_neg n1 p) (Int.mul_neg_of_neg_of_pos c n4)) hn
    · exact absurd (MT_of_on ux uy (on_line p h2 (by omega) (by omega))).flip hn
    · exact p
theorem case2 (hn : ¬ MT ax ay bx bz ux uy vx vy) (h0 : uy ≤ vy) (h1 : ay ≤ uy) (h3 : vy < bz) : 0 < ar ax ay bx bz ux uy ↔ 0 < ar ax ay bx bz vx vy := by
  have I3 : (bz - ay) * ar ux uy vx vy ax ay + (vy - uy) * ar ax ay bx bz ux uy + (uy - ay) * (ar ax ay bx bz ux uy - ar ax ay bx bz vx vy) = 0 := by unfold ar; grind
  have I4 : (bz - ay) * ar ux uy vx vy bx bz + (bz - vy) * (ar ax ay bx bz vx vy - ar ax ay bx bz ux uy) + (vy - uy) * ar ax ay bx bz vx vy = 0 := by unfold ar; grind
  have E1 : ay = uy → ar ax ay bx bz ux uy = (bz - ay) * (ax - ux) := fun e => by unfold ar; grind
  have E2 : ay = vy → ar ax ay bx bz vx vy = (bz - ay) * (ax - vx) := fun e => by unfold ar; grind
  have E3 : uy = vy → ay = uy → ar ux uy vx vy ax ay = 0 := fun e f => by unfold ar; grind
  have hh : 0 < bz - ay := by omega
  constructor
  · intro p
    rcases Int.lt_trichotomy (ar ax ay bx bz vx vy) 0 with c | c | c
    · exfalso
      have n4 := pos_of hh I4 (by omega) (by omega) (by omega) (by omega)
      by_cases z : uy = vy ∧ ay = uy
      · have q1 := (pos_mul_iff hh).1 (by rw [← E1 z.2]; exact p)
        have q2 := (neg_mul_iff hh).1 (by rw [← E2 (by omega)]; exact c)
        have on : ON ux uy vx vy ax ay := ⟨E3 z.1 z.2, by
          have := Int.mul_nonneg (show 0 ≤ ax - ux by omega) (show 0 ≤ vx - ax by omega)
          have e : (ux - ax) * (vx - ax) = -((ax - ux) * (vx - ax)) := by grind
          omega, by rw [show uy - ay = 0 by omega, Int.zero_mul]; omega⟩
        exact hn (MT_of_on bx bz on).other
      · have n3 : ar ux uy vx vy ax ay < 0 := by
          by_cases y : uy = vy
          · exact neg_of (p := uy - ay) (Y := ar ax ay bx bz ux uy - ar ax ay bx bz vx vy) (q := vy - uy) (Z := ar ax ay bx bz ux uy) hh (by omega) (by omega) (by omega) (by omega) (by omega)
          · exact neg_of hh I3 (by omega) p (by omega) (by omega)
        exact hn (MT_of_cross (Int.mul_neg_of_pos_of_neg p c) (Int.mul_neg_of_neg_of_pos n3 n4))
    · exact absurd (MT_of_on ux uy (on_line c (by omega) (by omega) (by omega))).flip hn
    · exact c
  · intro c
    rcases Int.lt_trichotomy (ar ax ay bx bz ux uy) 0 with p | p | p
    · exfalso
      have n4 := neg_of hh I4 (by omega) (by omega) (by omega) (by omega)
      by_cases z : uy = vy ∧ ay = uy
      · have q1 := (neg_mul_iff hh).1 (by rw [← E1 z.2]; exact p)
        have q2 := (pos_mul_iff hh).1 (by rw [← E2 (by omega)]; exact c)
        have on : ON ux uy vx vy ax ay := ⟨E3 z.1 z.2, by
          have := Int.mul_nonneg (show 0 ≤ ux - ax by omega) (show 0 ≤ ax - vx by omega)
          have e : (ux - ax) * (vx - ax) = -((ux - ax) * (ax - vx)) := by grind
          omega, by rw [show uy - ay = 0 by omega, Int.zero_mul]; omega⟩
        exact hn (MT_of_on bx bz on).other
      · have n3 : 0 < ar ux uy vx vy ax ay := by
          by_cases y : uy = vy
          · exact pos_of (p := uy - ay) (Y := ar ax ay bx bz ux uy - ar ax ay bx bz vx vy) (q := vy - uy) (Z := ar ax ay bx bz ux uy) hh (by omega) (by omega) (by omega) (by omega) (by omega)
          · exact pos_of hh I3 (by omega) p (by omega) (by omega)
        exact hn (MT_of_cross (Int.mul_neg_of_neg_of_pos p c) (Int.mul_neg_of_pos_of_neg n3 n4))
    · exact absurd (MT_of_on vx vy (on_line p (by omega) (by omega) (by omega))) hn
    · exact p
theorem case3 (hn : ¬ MT ax ay bx bz ux uy vx vy) (h0 : ay ≤ bz) (h1 : uy < ay) (h3 : bz ≤ vy) : ar ux uy vx vy ax ay < 0 ↔ ar ux uy vx vy bx bz < 0 := by
  have I3 : (vy - uy) * ar ax ay bx bz ux uy + (ay - uy) * (ar ux uy vx vy ax ay - ar ux uy vx vy bx bz) + (bz - ay) * ar ux uy vx vy ax ay = 0 := by unfold ar; grind
  have I4 : (vy - uy) * ar ax ay bx bz vx vy + (bz - ay) * ar ux uy vx vy bx bz + (vy - bz) * (ar ux uy vx vy bx bz - ar ux uy vx vy ax ay) = 0 := by unfold ar; grind
  have E1 : bz = vy → ar ux uy vx vy bx bz = (vy - uy) * (vx - bx) := fun e => by unfold ar; grind
  have E2 : ay = vy → ar ux uy vx vy ax ay = (vy - uy) * (vx - ax) := fun e => by unfold ar; grind
  have E3 : ay = bz → bz = vy → ar ax ay bx bz vx vy = 0 := fun e f => by unfold ar; grind
  have hh : 0 < vy - uy := by omega
  constructor
  · intro p
    rcases Int.lt_trichotomy (ar ux uy vx vy bx bz) 0 with c | c | c
    · exact c
    · exact absurd (MT_of_on ax ay (on_line c (by omega) h3 (by omega))).other.turned hn
    · exfalso
      have n1 := pos_of hh I3 (by omega) (by omega) (by omega) (by omega)
      by_cases z : ay = bz ∧ bz = vy
      · have q1 := (neg_mul_iff hh).1 (by rw [← E2 (by omega)]; exact p)
        have q2 := (pos_mul_iff hh).1 (by rw [← E1 z.2]; exact c)
        have on : ON ax ay bx bz vx vy := ⟨E3 z.1 z.2, by
          have := Int.mul_nonneg (show 0 ≤ ax - vx by omega) (show 0 ≤ vx - bx by omega)
          have e : (ax - vx) * (bx - vx) = -((ax - vx) * (vx - bx)) := by grind
          omega, by rw [show ay - vy = 0 by omega, Int.zero_mul]; omega⟩
        exact hn (MT_of_on ux uy on).flip
      · have n2 : ar ax ay bx bz vx vy < 0 := by
          by_cases y : ay = bz
          · exact neg_of (p := vy - bz) (Y := ar ux uy vx vy bx bz - ar ux uy vx vy ax ay) (q := bz - ay) (Z := ar ux uy vx vy bx bz) hh (by omega) (by omega) (by omega) (by omega) (by omega)
          · exact neg_of hh I4 (by omega) c (by omega) (by omega)
        exact hn (MT_of_cross (Int.mul_neg_of_pos_of_neg n1 n2) (Int.mul_neg_of_neg_of_pos p c))
  · intro c
    rcases Int.lt_trichotomy (ar ux uy vx vy ax ay) 0 with p | p | p
    · exact p
    · exact absurd (MT_of_on bx bz (on_line p (by omega) (by omega) (by omega))).other hn
    · exfalso
      have n1 := neg_of hh I3 (by omega) (by omega) (by omega) (by omega)
      by_cases z : ay = bz ∧ bz = vy
      · have q1 := (pos_mul_iff hh).1 (by rw [← E2 (by omega)]; exact p)
        have q2 := (neg_mul_iff hh).1 (by rw [← E1 z.2]; exact c)
        have on : ON ax ay bx bz vx vy := ⟨E3 z.1 z.2, by
          have := Int.mul_nonneg (show 0 ≤ vx - ax by omega) (show 0 ≤ bx - vx by omega)
          have e : (ax - vx) * (bx - vx) = -((vx - ax) * (bx - vx)) := by grind
          omega, by rw [show ay - vy = 0 by omega, Int.zero_mul]; omega⟩
        exact hn (MT_of_on ux uy on).flip
      · have n2 : 0 < ar ax ay bx bz vx vy := by
          by_cases y : ay = bz
          · exact pos_of (p := vy - bz) (Y := ar ux uy vx vy bx bz - ar ux uy vx vy ax ay) (q := bz - ay) (Z := ar ux uy vx vy bx bz) hh (by omega) (by omega) (by omega) (by omega) (by omega)
          · exact pos_of hh I4 (by omega) c (by omega) (by omega)
        exact hn (MT_of_cross (Int.mul_neg_of_neg_of_pos n1 n2) (Int.mul_neg_of_pos_of_neg p c))

/-- An edge and a segment that do not meet: what the one counts at the other's ends is what the other tells of the one's. -/
theorem edge_core (hn : ¬ MT ax ay bx bz ux uy vx vy) (hu : uy ≤ vy) (ha : ay ≤ bz) : (hitS ax ay bx bz ux uy ^^ hitS ax ay bx bz vx vy) = (rgtS ux uy vx vy ax ay ^^ rgtS ux uy vx vy bx bz) := by
  have c1 := case1 hn
  have c2 := case2 hn hu
  have c3 := case3 hn ha
  have c4 := case4 hn
  clear hn
  unfold hitS rgtS
  generalize ar ax ay bx bz ux uy = A1 at *
  generalize ar ax ay bx bz vx vy = A2 at *
  generalize ar ux uy vx vy ax ay = A3 at *
  generalize ar ux uy vx vy bx bz = A4 at *
  have hna : ¬ bz < ay := by omega
  have hnu : ¬ vy < uy := by omega
  rw [decide_eq_false hna, decide_eq_false hnu]
  simp only [Bool.false_and, Bool.or_false]
  by_cases p1 : uy < ay
  · have p2 : uy < bz := by omega
    rw [decide_eq_true p1, decide_eq_true p2]
    by_cases p3 : vy < ay
    · rw [decide_eq_true p3, decide_eq_true (show vy < bz by omega)]
      rfl
    · rw [decide_eq_false p3, decide_eq_true (show uy < vy by omega)]
      by_cases p4 : vy < bz
      · rw [decide_eq_true p4, decide_eq_true (show ay < bz by omega), decide_eq_decide.2 (c4 p1 (by omega) p4)]
        cases decide (A3 < 0) <;> rfl
      · rw [decide_eq_false p4, decide_eq_decide.2 (c3 p1 (by omega))]
        cases decide (A4 < 0) <;> rfl
  · rw [decide_eq_false p1, decide_eq_false (show ¬ vy < ay by omega)]
    by_cases p2 : uy < bz
    · rw [decide_eq_true p2, decide_eq_true (show ay < bz by omega)]
      by_cases p4 : vy < bz
      · rw [decide_eq_true p4, decide_eq_decide.2 (c2 (by omega) p4)]
        cases decide (0 < A2) <;> rfl
      · rw [decide_eq_false p4, decide_eq_true (show uy < vy by omega), decide_eq_decide.2 (c1 (by omega) p2 (by omega))]
        cases decide (A4 < 0) <;> rfl
    · rw [decide_eq_false p2, decide_eq_false (show ¬ vy < bz by omega)]
      rfl
theorem edge_seg (hn : ¬ MT ax ay bx bz ux uy vx vy) : (hitS ax ay bx bz ux uy ^^ hitS ax ay bx bz vx vy) = (rgtS ux uy vx vy ax ay ^^ rgtS ux uy vx vy bx bz) := by
  rcases Int.le_total uy vy with hu | hu <;> rcases Int.le_total ay bz with ha | ha
  · exact edge_core hn hu ha
  · have := edge_core (fun h => hn h.turned) hu ha
    rw [hitS_flip ax ay bx bz ux uy, hitS_flip ax ay bx bz vx vy] at this
    rw [this, Bool.xor_comm]
  · have := edge_core (fun h => hn h.flip) hu ha
    rw [rgtS_flip ux uy vx vy ax ay, rgtS_flip ux uy vx vy bx bz] at this
    rw [← this, Bool.xor_comm]
  · have := edge_core (fun h => hn h.turned.flip) hu ha
    rw [hitS_flip ax ay bx bz ux uy, hitS_flip ax ay bx bz vx vy, rgtS_flip ux uy vx vy ax ay, rgtS_flip ux uy vx vy bx bz] at this
    rw [Bool.xor_comm, this, Bool.xor_comm]
end
/-- A ring that a segment does not meet: at both of its ends it counts the same. -/
theorem par_along {X Y : Nat → Int} {n : Nat} {ux uy vx vy : Int} (h0 : 0 < n) (h : ∀ i, i < n → metI (X i) (Y i) (X ((i + 1) % n)) (Y ((i + 1) % n)) ux uy vx vy = false) :
    par (fun i => hitS (X i) (Y i) (X ((i + 1) % n)) (Y ((i + 1) % n)) ux uy) n = par (fun i => hitS (X i) (Y i) (X ((i + 1) % n)) (Y ((i + 1) % n)) vx vy) n := by
  have h1 := par_xor (fun i => hitS (X i) (Y i) (X ((i + 1) % n)) (Y ((i + 1) % n)) ux uy) (fun i => hitS (X i) (Y i) (X ((i + 1) % n)) (Y ((i + 1) % n)) vx vy) n
  rw [par_congr n (fun i hi => edge_seg (fun m => by have := h i hi; rw [metI_iff.2 m] at this; cases this))] at h1
  have h3 : par (fun i => rgtS ux uy vx vy (X i) (Y i) ^^ rgtS ux uy vx vy (X ((i + 1) % n)) (Y ((i + 1) % n))) n = false := par_ring (fun i => rgtS ux uy vx vy (X i) (Y i)) n h0
  rw [h3] at h1
  revert h1
  generalize par _ _ = u
  generalize par _ _ = v
  cases u <;> cases v <;> simp
end Go.Proofs.YtecjeomcbcpfiaaGreat
