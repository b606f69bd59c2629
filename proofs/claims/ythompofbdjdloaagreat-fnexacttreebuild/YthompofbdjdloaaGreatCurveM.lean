import Derived.Test.YthompofbdjdloaaGreatPtG
/- The curve of chapter 10 as whole numbers: a cell's place, a place's cell, each the other's inverse; cells whose places differ by one are neighbours. No program is named here. -/
namespace Go.Proofs.YthompofbdjdloaaGreat

/-- A cell's place on the curve of so many bits. -/
def hOf : Nat → Int → Int → Int
  | 0, _, _ => 0
  | b + 1, x, y =>
    if x < 2 ^ b then (if y < 2 ^ b then hOf b y x else 4 ^ b + hOf b x (y - 2 ^ b))
    else if 2 ^ b ≤ y then 2 * 4 ^ b + hOf b (x - 2 ^ b) (y - 2 ^ b)
    else 3 * 4 ^ b + hOf b (2 ^ b - 1 - y) (2 * 2 ^ b - 1 - x)
/-- What a quarter makes of a cell. -/
def hQ (h q : Int) (c : Int × Int) : Int × Int :=
  if q = 1 then (c.1, c.2 + h) else if q = 2 then (c.1 + h, c.2 + h) else if q = 3 then (2 * h - 1 - c.2, h - 1 - c.1) else (c.2, c.1)
/-- The cell of a place on the curve of so many bits. -/
def hPt : Nat → Int → Int × Int
  | 0, _ => (0, 0)
  | b + 1, n => hQ (2 ^ b) (n / 4 ^ b) (hPt b (n % 4 ^ b))

theorem cvTwo (b : Nat) : (0 : Int) < 2 ^ b := Int.pow_pos (by decide)
theorem cvFour (b : Nat) : (0 : Int) < 4 ^ b := Int.pow_pos (by decide)
theorem cvTwoS (b : Nat) : (2 : Int) ^ (b + 1) = 2 * 2 ^ b := by rw [Int.pow_succ, Int.mul_comm]
theorem cvFourS (b : Nat) : (4 : Int) ^ (b + 1) = 4 * 4 ^ b := by rw [Int.pow_succ, Int.mul_comm]

/-- A place of four quarters: which, and where in it. -/
theorem cvQuarter {F n : Int} (hF : 0 < F) (h0 : 0 ≤ n) (h4 : n < 4 * F) : ∃ q r, n = q * F + r ∧ n / F = q ∧ n % F = r ∧ 0 ≤ r ∧ r < F ∧ (q = 0 ∨ q = 1 ∨ q = 2 ∨ q = 3) := by
  have e := Int.mul_ediv_add_emod n F
  have r0 := Int.emod_nonneg n (Int.ne_of_gt hF)
  have r1 := Int.emod_lt_of_pos n hF
  have q0 : 0 ≤ n / F := Int.ediv_nonneg h0 (Int.le_of_lt hF)
  have q4 : n / F < 4 := Int.ediv_lt_of_lt_mul hF h4
  refine ⟨n / F, n % F, by rw [Int.mul_comm]; exact e.symm, rfl, rfl, r0, r1, by omega⟩
theorem cvPart {F q r : Int} (hF : 0 < F) (h0 : 0 ≤ r) (h1 : r < F) : (q * F + r) / F = q ∧ (q * F + r) % F = r := by
  refine ⟨?_, ?_⟩
  · rw [Int.add_comm, Int.add_mul_ediv_right _ _ (Int.ne_of_gt hF), Int.ediv_eq_zero_of_lt h0 h1, Int.zero_add]
  · rw [Int.add_comm, Int.add_mul_emod_self_right, Int.emod_eq_of_lt h0 h1]

theorem hOf_in : ∀ b x y, 0 ≤ x → x < 2 ^ b → 0 ≤ y → y < 2 ^ b → 0 ≤ hOf b x y ∧ hOf b x y < 4 ^ b
  | 0, _, _, _, _, _, _ => by simp [hOf]
  | b + 1, x, y, x0, x1, y0, y1 => by
    have h := cvTwo b
    have f := cvFour b
    rw [cvTwoS] at x1 y1
    rw [cvFourS, hOf]
    split
    · split
      · have := hOf_in b y x y0 (by omega) x0 (by omega)
        omega
      · have := hOf_in b x (y - 2 ^ b) x0 (by omega) (by omega) (by omega)
        omega
    · split
      · have := hOf_in b (x - 2 ^ b) (y - 2 ^ b) (by omega) (by omega) (by omega) (by omega)
        omega
      · have := hOf_in b (2 ^ b - 1 - y) (2 * 2 ^ b - 1 - x) (by omega) (by omega) (by omega) (by omega)
        omega
theorem hPt_in : ∀ b n, 0 ≤ n → n < 4 ^ b → 0 ≤ (hPt b n).1 ∧ (hPt b n).1 < 2 ^ b ∧ 0 ≤ (hPt b n).2 ∧ (hPt b n).2 < 2 ^ b
  | 0, _, _, _ => by simp [hPt]
  | b + 1, n, n0, n1 => by
    have h := cvTwo b
    rw [cvFourS] at n1
    obtain ⟨q, r, _, e2, e3, r0, r1, hq⟩ := cvQuarter (cvFour b) n0 n1
    rw [cvTwoS, hPt, e2, e3]
    have := hPt_in b r r0 r1
    rcases hq with rfl | rfl | rfl | rfl <;> simp [hQ] <;> omega
theorem hPt_hOf : ∀ b x y, 0 ≤ x → x < 2 ^ b → 0 ≤ y → y < 2 ^ b → hPt b (hOf b x y) = (x, y)
  | 0, x, y, x0, x1, y0, y1 => by
    simp at x1 y1
    simp [hPt]
    omega
  | b + 1, x, y, x0, x1, y0, y1 => by
    have h := cvTwo b
    have f := cvFour b
    rw [cvTwoS] at x1 y1
    rw [hOf]
    split
    · split
      · have i := hOf_in b y x y0 (by omega) x0 (by omega)
        have e := hPt_hOf b y x y0 (by omega) x0 (by omega)
        obtain ⟨p1, p2⟩ := cvPart (q := 0) f i.1 i.2
        rw [Int.zero_mul, Int.zero_add] at p1 p2
        rw [hPt, p1, p2, e]
        simp [hQ]
      · have i := hOf_in b x (y - 2 ^ b) x0 (by omega) (by omega) (by omega)
        have e := hPt_hOf b x (y - 2 ^ b) x0 (by omega) (by omega) (by omega)
        obtain ⟨p1, p2⟩ := cvPart (q := 1) f i.1 i.2
        rw [Int.one_mul] at p1 p2
        rw [hPt, p1, p2, e]
        simp [hQ]
    · split
      · have i := hOf_in b (x - 2 ^ b) (y - 2 ^ b) (by omega) (by omega) (by omega) (by omega)
        have e := hPt_hOf b (x - 2 ^ b) (y - 2 ^ b) (by omega) (by omega) (by omega) (by omega)
        obtain ⟨p1, p2⟩ := cvPart (q := 2) f i.1 i.2
        rw [hPt, p1, p2, e]
        simp [hQ]
      · have i := hOf_in b (2 ^ b - 1 - y) (2 * 2 ^ b - 1 - x) (by omega) (by omega) (by omega) (by omega)
        have e := hPt_hOf b (2 ^ b - 1 - y) (2 * 2 ^ b - 1 - x) (by omega) (by omega) (by omega) (by omega)
        obtain ⟨p1, p2⟩ := cvPart (q := 3) f i.1 i.2
        rw [hPt, p1, p2, e]
        simp [hQ]
        omega
theorem hOf_hPt : ∀ b n, 0 ≤ n → n < 4 ^ b → hOf b (hPt b n).1 (hPt b n).2 = n
  | 0, n, n0, n1 => by
    simp at n1
    simp [hOf]
    omega
  | b + 1, n, n0, n1 => by
    have h := cvTwo b
    rw [cvFourS] at n1
    obtain ⟨q, r, e1, e2, e3, r0, r1, hq⟩ := cvQuarter (cvFour b) n0 n1
    have i := hPt_in b r r0 r1
    have e := hOf_hPt b r r0 r1
    rw [hPt, e2, e3, hOf]
    generalize hPt b r = c at *
    obtain ⟨u, v⟩ := c
    dsimp only at i e
    rcases hq with rfl | rfl | rfl | rfl
    · simp only [hQ]
      simp
      rw [if_pos (by omega), if_pos (by omega), e]
      omega
    · simp only [hQ]
      simp
      rw [if_pos (by omega), if_neg (by omega), e]
      omega
    · simp only [hQ]
      simp
      rw [if_neg (by omega), if_pos (by omega), e]
      omega
    · simp only [hQ]
      simp
      rw [if_neg (by omega), if_neg (by omega), show 2 ^ b - 1 - (2 ^ b - 1 - u) = u by omega, show 2 * 2 ^ b - 1 - (2 * 2 ^ b - 1 - v) = v by omega, e]
      omega
theorem hPt_first : ∀ b, hPt b 0 = (0, 0)
  | 0 => rfl
  | b + 1 => by
    rw [hPt, Int.zero_ediv, Int.zero_emod, hPt_first b]
    simp [hQ]
theorem hPt_last : ∀ b, hPt b (4 ^ b - 1) = (2 ^ b - 1, 0)
  | 0 => by simp [hPt]
  | b + 1 => by
    have f := cvFour b
    obtain ⟨p1, p2⟩ := cvPart (F := 4 ^ b) (q := 3) (r := 4 ^ b - 1) f (by omega) (by omega)
    rw [hPt, show (4 : Int) ^ (b + 1) - 1 = 3 * 4 ^ b + (4 ^ b - 1) by rw [cvFourS]; omega, p1, p2, hPt_last b, cvTwoS]
    simp [hQ]
/-- Two cells lie side by side. -/
def side (c d : Int × Int) : Prop := (d.1 - c.1) * (d.1 - c.1) + (d.2 - c.2) * (d.2 - c.2) = 1
theorem side_Q {h q : Int} {c d : Int × Int} (s : side c d) : side (hQ h q c) (hQ h q d) := by
  have m : ∀ a k : Int, (k - a) * (k - a) = (a - k) * (a - k) := fun a k => by rw [← Int.neg_sub a k, Int.neg_mul_neg]
  unfold side at *
  unfold hQ
  split
  · simp only []
    rw [show d.2 + h - (c.2 + h) = d.2 - c.2 by omega]
    exact s
  · split
    · simp only []
      rw [show d.2 + h - (c.2 + h) = d.2 - c.2 by omega, show d.1 + h - (c.1 + h) = d.1 - c.1 by omega]
      exact s
    · split
      · simp only []
        rw [show 2 * h - 1 - d.2 - (2 * h - 1 - c.2) = c.2 - d.2 by omega, show h - 1 - d.1 - (h - 1 - c.1) = c.1 - d.1 by omega, ← m c.1, ← m c.2]
        omega
      · simp only []
        omega
theorem hPt_next : ∀ b n, 0 ≤ n → n + 1 < 4 ^ b → side (hPt b n) (hPt b (n + 1))
  | 0, n, n0, n1 => by simp at n1; omega
  | b + 1, n, n0, n1 => by
    have f := cvFour b
    have h := cvTwo b
    rw [cvFourS] at n1
    obtain ⟨q, r, e1, e2, e3, r0, r1, hq⟩ := cvQuarter f n0 (by omega)
    by_cases hr : r + 1 < 4 ^ b
    · obtain ⟨p1, p2⟩ := cvPart (F := 4 ^ b) (q := q) (r := r + 1) f (by omega) hr
      rw [hPt, hPt, e2, e3, show n + 1 = q * 4 ^ b + (r + 1) by omega, p1, p2]
      exact side_Q (hPt_next b r r0 hr)
    · obtain rfl : r = 4 ^ b - 1 := by omega
      obtain ⟨p1, p2⟩ := cvPart (F := 4 ^ b) (q := q + 1) (r := 0) f (by omega) f
      have em : (q + 1) * 4 ^ b = q * 4 ^ b + 4 ^ b := by rw [Int.add_mul, Int.one_mul]
      rw [hPt, hPt, e2, e3, show n + 1 = (q + 1) * 4 ^ b + 0 by omega, p1, p2, hPt_first, hPt_last]
      unfold side
      rcases hq with rfl | rfl | rfl | rfl
      · simp [hQ]
        rw [show (2 : Int) ^ b - (2 ^ b - 1) = 1 by omega]
        rfl
      · simp [hQ]
        rw [show (2 : Int) ^ b - (2 ^ b - 1) = 1 by omega]
        rfl
      · simp [hQ]
        omega
      · omega
/-- So far it was gone: what is left of the cell and of the place, of a whole place N. -/
def cvAt (k : Nat) (u v m N : Int) : Prop := 0 ≤ u ∧ u < 2 ^ k ∧ 0 ≤ v ∧ v < 2 ^ k ∧ 0 ≤ m ∧ m * 4 ^ k + hOf k u v = N
theorem cvEnd {u v m N : Int} (h : cvAt 0 u v m N) : m = N := by
  have := h.2.2.2.2.2
  simp [hOf] at this
  exact this
theorem cvStart {x y : Int} (hx : 0 ≤ x ∧ x < 33554432) (hy : 0 ≤ y ∧ y < 33554432) : cvAt 25 x y 0 (hOf 25 x y) := ⟨hx.1, hx.2, hy.1, hy.2, Int.le_refl _, by rw [Int.zero_mul, Int.zero_add]⟩
theorem cvLe {k : Nat} {u v m N : Int} (h : cvAt k u v m N) : m ≤ N := by
  obtain ⟨u0, u1, v0, v1, m0, e⟩ := h
  have i := (hOf_in k u v u0 u1 v0 v1).1
  have := Int.mul_le_mul_of_nonneg_left (show (1 : Int) ≤ 4 ^ k from cvFour k) m0
  omega
theorem cvStep {k : Nat} {u v m N : Int} (h : cvAt (k + 1) u v m N) : (u < 2 ^ k → v < 2 ^ k → cvAt k v u (m * 4) N) ∧ (u < 2 ^ k → ¬ v < 2 ^ k → cvAt k u (v - 2 ^ k) (m * 4 + 1) N) ∧ (¬ u < 2 ^ k → 2 ^ k ≤ v → cvAt k (u - 2 ^ k) (v - 2 ^ k) (m * 4 + 2) N) ∧ (¬ u < 2 ^ k → ¬ 2 ^ k ≤ v → cvAt k (2 ^ k - 1 - v) (2 * 2 ^ k - 1 - u) (m * 4 + 3) N) := by
  obtain ⟨u0, u1, v0, v1, m0, e⟩ := h
  rw [cvTwoS] at u1 v1
  rw [cvFourS, hOf, ← Int.mul_assoc] at e
  unfold cvAt
  refine ⟨fun a b => ?_, fun a b => ?_, fun a b => ?_, fun a b => ?_⟩
  · rw [if_pos a, if_pos b] at e
    exact ⟨v0, b, u0, a, by omega, e⟩
  · rw [if_pos a, if_neg b] at e
    exact ⟨u0, a, by omega, by omega, by omega, by rw [Int.add_mul, Int.one_mul]; omega⟩
  · rw [if_neg a, if_pos b] at e
    exact ⟨by omega, by omega, by omega, by omega, by omega, by rw [Int.add_mul]; omega⟩
  · rw [if_neg a, if_neg b] at e
    exact ⟨by omega, by omega, by omega, by omega, by omega, by rw [Int.add_mul]; omega⟩
theorem pow25 {k : Nat} (h : k < 25) : (1 : Int) ≤ 2 ^ k ∧ (2 : Int) ^ k ≤ 16777216 := by
  refine ⟨cvTwo k, ?_⟩
  have t : (2 : Nat) ^ k ≤ 16777216 := Nat.le_trans (Nat.pow_le_pow_right (by decide) (show k ≤ 24 by omega)) (by decide)
  have e : ((2 ^ k : Nat) : Int) = 2 ^ k := by simp
  rw [← e]
  exact Int.ofNat_le.2 t
theorem hOf_room {x y : Int} (hx : 0 ≤ x ∧ x < 33554432) (hy : 0 ≤ y ∧ y < 33554432) : 0 ≤ hOf 25 x y ∧ hOf 25 x y < 1125899906842624 := hOf_in 25 x y hx.1 hx.2 hy.1 hy.2
end Go.Proofs.YthompofbdjdloaaGreat

/- The place of a cell on the curve: the specification's. -/
namespace Go.Proofs.YthompofbdjdloaaGreat
open Go.RowKit

set_option maxRecDepth 20000 in
set_option maxHeartbeats 2000000 in
theorem l10Of_any (x y : Int) (w : World) (hx : 0 ≤ x ∧ x < 33554432) (hy : 0 ≤ y ∧ y < 33554432) :
    Calls Tryz.prog 156 #[.int .i64 x, .int .i64 y, .int .i64 25] w fun e w' => e = .returned (.int .i64 (hOf 25 x y)) ∧ Below w.heap.size w w' := by
  have H0 : Hid (cvAt 25 x y 0 (hOf 25 x y)) := cvStart hx hy
  have R0 := hOf_room hx hy
  generalize hOf 25 x y = N at *
  clear hx hy
  go_enter Tryz.func156, Tryz.ntmps156
  go_wp2
  go_loopw [0, 1, 7, 8] (fun sx sy sn sb wr => ∃ (j : Nat) (u v m : Int), sx = .int .i64 u ∧ sy = .int .i64 v ∧ sn = .int .i64 m ∧ sb = .int .i64 j ∧ j ≤ 25 ∧ Hid (cvAt j u v m N) ∧ Hid (Below w.heap.size w wr)) (fun _ _ _ sb _ => (intOf sb).toNat)
  case atStart => exact ⟨25, x, y, 0, rfl, rfl, rfl, rfl, by omega, H0, Below.refl _ _⟩
  case round =>
    obtain ⟨j, u, v, m, rfl, rfl, rfl, rfl, hj, H, B⟩ := hrel
    rename World => wr
    clear H0
    by_cases h0 : 0 < j
    · obtain ⟨k, hk⟩ : ∃ k : Nat, Hid (j = k + 1) := ⟨j - 1, by show _ = _; omega⟩
      have hjk : ((j : Int) - 1) = (k : Int) := by have := hk.out; omega
      have hk2 : k < 25 := by have := hk.out; omega
      have wk : IntKind.i64.wrap (k : Int) = (k : Int) := by rw [IntKind.wrap_i64]; omega
      obtain ⟨P0, P1⟩ := pow25 hk2
      have wP : wrap64 ((2 : Int) ^ k) = 2 ^ k := by unfold wrap64; omega
      have HS := cvStep (by have := H.out; rw [hk.out] at this; exact this)
      have m4 := cvLe H.out
      obtain ⟨u0, u1, v0, v1, m0, _⟩ := H.out
      have u2 : u < 2 * 2 ^ k := by rw [hk.out, cvTwoS] at u1; exact u1
      have v2 : v < 2 * 2 ^ k := by rw [hk.out, cvTwoS] at v1; exact v1
      clear u1 v1 H
      by_cases c1 : u < 2 ^ k
      · by_cases c2 : v < 2 ^ k
        · have H2 : Hid (cvAt k v u (m * 4) N) := HS.1 c1 c2
          clear HS
          have m5 := cvLe H2.out
          go_wp2
          go_roundw
          case rel => exact ⟨k, _, _, _, by congr 1; first | done | (unfold wrap64; omega), by congr 1; first | done | (unfold wrap64; omega), by congr 1; first | done | (unfold wrap64; omega), by go_num, by omega, H2, B⟩
          case measure => simp [intOf]; omega
        · have H2 : Hid (cvAt k u (v - 2 ^ k) (m * 4 + 1) N) := HS.2.1 c1 c2
          clear HS
          have m5 := cvLe H2.out
          go_wp2
          go_roundw
          case rel => exact ⟨k, _, _, _, by congr 1; first | done | (unfold wrap64; omega), by congr 1; first | done | (unfold wrap64; omega), by congr 1; first | done | (unfold wrap64; omega), by go_num, by omega, H2, B⟩
          case measure => simp [intOf]; omega
      · by_cases c2 : (2 : Int) ^ k ≤ v
        · have H2 : Hid (cvAt k (u - 2 ^ k) (v - 2 ^ k) (m * 4 + 2) N) := HS.2.2.1 c1 c2
          clear HS
          have m5 := cvLe H2.out
          go_wp2
          go_roundw
          case rel => exact ⟨k, _, _, _, by congr 1; first | done | (unfold wrap64; omega), by congr 1; first | done | (unfold wrap64; omega), by congr 1; first | done | (unfold wrap64; omega), by go_num, by omega, H2, B⟩
          case measure => simp [intOf]; omega
        · have H2 : Hid (cvAt k (2 ^ k - 1 - v) (2 * 2 ^ k - 1 - u) (m * 4 + 3) N) := HS.2.2.2 c1 c2
          clear HS
          have m5 := cvLe H2.out
          go_wp2
          go_roundw
          case rel => exact ⟨k, _, _, _, by congr 1; first | done | (unfold wrap64; omega), by congr 1; first | done | (unfold wrap64; omega), by congr 1; first | done | (unfold wrap64; omega), by go_num, by omega, H2, B⟩
          case measure => simp [intOf]; omega
    · obtain rfl : j = 0 := by omega
      obtain rfl := cvEnd H.out
      go_wp2
      go_ret
      exact ⟨rfl, B.out⟩
end Go.Proofs.YthompofbdjdloaaGreat

/- CurveOf of the specification: a point's place on the curve. -/
namespace Go.Proofs.YthompofbdjdloaaGreat
open Go.RowKit

/-- A point's place on the curve, -1 where it is none. -/
def cvOf (x y : Int) : Int := if ptOk x y then hOf 25 (x + 10000000) (y + 10000000) else -1
theorem cvCrd {x y : Int} (h : ptOk x y = true) : (-10000000 ≤ x ∧ x ≤ 10000000) ∧ (-10000000 ≤ y ∧ y ≤ 10000000) := by
  unfold ptOk inB at h
  simp only [Bool.and_eq_true, decide_eq_true_eq] at h
  omega
theorem l10Half_any (n : Int) (w : World) (h : -9223372036854775808 ≤ n ∧ n ≤ 9223372036854775807) :
    Calls Tryz.prog 113 #[.int .i64 n] w fun e w' => e = .returned (.int .i64 (n / 2)) ∧ Below w.heap.size w w' := by
  have wh : wrap64 (n / 2) = n / 2 := by unfold wrap64; omega
  go_enter Tryz.func113, Tryz.ntmps113
  go_wp2
  go_ret
  exact ⟨rfl, Below.refl _ _⟩

set_option maxRecDepth 20000 in
set_option maxHeartbeats 1000000 in
theorem specCurveOf (x y : Int) (w : World) :
    Calls Tryz.prog 112 #[.agg #[.int .i64 x, .int .i64 y]] w fun e w' => e = .returned (.int .i64 (cvOf x y)) ∧ Below w.heap.size w w' := by
  have B0 := below1 w (.cells #[.int .i64 x, .int .i64 y] 26)
  obtain ⟨k0, k1, _, _⟩ := Box2.new w (lo := w.heap.size) (Nat.le_refl _) (.int .i64 x) (.int .i64 y) 26
  cases ok : ptOk x y
  · have V : Hid (cvOf x y = -1) := by show _ = _; unfold cvOf; rw [ok]; rfl
    go_enter Tryz.func112, Tryz.ntmps112
    go_wp2_with fail
    generalize w.alloc (.cells #[.int .i64 x, .int .i64 y] 26) = W0 at *
    refine (specPtOk x y _).mono ?_
    rintro e w1 ⟨rfl, hb⟩
    rw [ok]
    have B1 := B0.trans (hb.mono B0.size)
    clear hb
    go_wp2
    go_ret
    exact ⟨by rw [V.out]; rfl, B1⟩
  · have V : Hid (cvOf x y = hOf 25 (x + 10000000) (y + 10000000)) := by show _ = _; unfold cvOf; rw [ok]; rfl
    have C := cvCrd ok
    have wx : wrap64 (x + 10000000) = x + 10000000 := by unfold wrap64; omega
    have wy : wrap64 (y + 10000000) = y + 10000000 := by unfold wrap64; omega
    go_enter Tryz.func112, Tryz.ntmps112
    go_wp2_with fail
    generalize w.alloc (.cells #[.int .i64 x, .int .i64 y] 26) = W0 at *
    refine (specPtOk x y _).mono ?_
    rintro e w1 ⟨rfl, hb⟩
    rw [ok]
    have B1 := B0.trans (hb.mono B0.size)
    replace k0 := bat hb k0
    replace k1 := bat hb k1
    clear hb
    go_wp2_with fail
    refine (l10Of_any (x + 10000000) (y + 10000000) _ (by omega) (by omega)).mono ?_
    rintro e w2 ⟨rfl, hb⟩
    have B2 := B1.trans (hb.mono B1.size)
    clear hb
    go_wp2
    go_ret
    exact ⟨by rw [V.out]; rfl, B2⟩
end Go.Proofs.YthompofbdjdloaaGreat
