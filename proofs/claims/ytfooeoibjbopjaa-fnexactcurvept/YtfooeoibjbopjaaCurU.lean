/- CurvePt of the specification. -/
import Derived.Test.YtfooeoibjbopjaaCurT
namespace Go.Proofs.Ytfooeoibjbopjaa
open Go.RowKit

theorem cvUp (k : Nat) (n : Int) : hPt (k + 1) (n % 4 ^ (k + 1)) = hQ (2 ^ k) (n / 4 ^ k % 4) (hPt k (n % 4 ^ k)) := by
  have f := cvFour k
  have e := Int.mul_ediv_add_emod n (4 ^ k)
  have r0 := Int.emod_nonneg n (Int.ne_of_gt f)
  have r1 := Int.emod_lt_of_pos n f
  have e2 := Int.mul_ediv_add_emod (n / 4 ^ k) 4
  have s0 := Int.emod_nonneg (n / 4 ^ k) (show (4 : Int) ≠ 0 by decide)
  have s1 := Int.emod_lt_of_pos (n / 4 ^ k) (show (0 : Int) < 4 by decide)
  generalize n / 4 ^ k % 4 = s at *
  generalize n / 4 ^ k / 4 = t at *
  generalize n / 4 ^ k = q at *
  generalize n % 4 ^ k = r at *
  have m : n % 4 ^ (k + 1) = s * 4 ^ k + r := by
    have a : n = t * (4 ^ (k + 1)) + (s * 4 ^ k + r) := by
      rw [← e, ← e2, cvFourS, Int.mul_add, Int.mul_comm (4 ^ k) s, Int.mul_comm (4 ^ k) (4 * t), Int.mul_comm 4 t, Int.mul_assoc, Int.add_assoc]
    have b : s * 4 ^ k + r < 4 ^ (k + 1) := by
      rw [cvFourS]
      have := Int.mul_le_mul_of_nonneg_right (show s ≤ 3 by omega) (Int.le_of_lt f)
      omega
    have c : 0 ≤ s * 4 ^ k + r := Int.add_nonneg (Int.mul_nonneg s0 (Int.le_of_lt f)) r0
    rw [a]
    exact (cvPart (cvFour (k + 1)) c b).2
  obtain ⟨p1, p2⟩ := cvPart (q := s) f r0 r1
  rw [m, hPt, p1, p2]

theorem i64_and3 (n : Int) : bits .and .i64 n 3 = n % 4 := by
  have h127 : (BitVec.ofInt 64 3).toNat = 2 ^ 2 - 1 := by decide
  have key : (BitVec.ofInt 64 n &&& BitVec.ofInt 64 3).toNat = (n % ((2 ^ 64 : Nat) : Int)).toNat % 2 ^ 2 := by
    rw [BitVec.toNat_and, BitVec.toNat_ofInt, h127, Nat.and_two_pow_sub_one_eq_mod]
  show IntKind.i64.wrap ((BitVec.ofInt 64 n &&& BitVec.ofInt 64 3).toNat : Nat) = n % 4
  rw [key, IntKind.wrap_i64]
  omega
theorem cvBits (k : Nat) (n : Int) : bits BinOp.and IntKind.i64 (n / 2 ^ (2 * k)) 3 = n / 4 ^ k % 4 := by
  rw [i64_and3, Int.pow_mul]
  rfl
theorem cvIn (x a b : Int) (w : World) :
    Calls Try.prog 20 #[.int .i64 x, .int .i64 a, .int .i64 b] w fun e w' => e = .returned (.bool (decide (a ≤ x) && decide (x ≤ b))) ∧ w' = w := by
  by_cases h1 : a ≤ x
  · by_cases h2 : x ≤ b
    · go_enter Try.func20, Try.ntmps20
      go_wp2
      go_ret
      exact ⟨by simp [h1, h2], rfl⟩
    · go_enter Try.func20, Try.ntmps20
      go_wp2
      go_ret
      exact ⟨by simp [h2], rfl⟩
  · go_enter Try.func20, Try.ntmps20
    go_wp2
    go_ret
    exact ⟨by rw [decide_eq_false (show ¬ a ≤ x by omega)]; rfl, rfl⟩
/-- The point of a place on the curve. -/
def cvPt (n : Int) : (Int × Int) × Bool := if 0 ≤ n ∧ n ≤ 1125899906842623 then (if ptOk ((hPt 25 n).1 - 10000000) ((hPt 25 n).2 - 10000000) then (((hPt 25 n).1 - 10000000, (hPt 25 n).2 - 10000000), true) else ((0, 0), false)) else ((0, 0), false)

set_option maxRecDepth 20000 in
set_option maxHeartbeats 1000000 in
theorem specCurvePt (n : Int) (w : World) :
    Calls Try.prog 9 #[.int .i64 n] w fun e w' => e = .returned (.tuple #[.agg #[.int .i64 (cvPt n).1.1, .int .i64 (cvPt n).1.2], .bool (cvPt n).2]) ∧ Below w.heap.size w w' := by
  have B0 := below1 w (.cells #[.int .i64 0, .int .i64 0] 25)
  have BX := Box2.new w (lo := w.heap.size) (Nat.le_refl _) (.int .i64 0) (.int .i64 0) 25
  by_cases hn : 0 ≤ n ∧ n ≤ 1125899906842623
  · have d : (decide (0 ≤ n) && decide (n ≤ 1125899906842623)) = true := by simp [hn.1, hn.2]
    go_enter Try.func9, Try.ntmps9
    go_wp2_with fail
    refine (cvIn _ _ _ _).mono ?_
    rintro e w1 ⟨rfl, rfl⟩
    rw [d]
    generalize w.alloc (.cells #[.int .i64 0, .int .i64 0] 25) = W0 at *
    go_wp2
    go_loopw [4, 5, 6] (fun su sv sb wr => ∃ k : Nat, k ≤ 25 ∧ sb = .int .i64 ((k : Int) + 1) ∧ su = .int .i64 (hPt k (n % 4 ^ k)).1 ∧ sv = .int .i64 (hPt k (n % 4 ^ k)).2 ∧ wr = W0) (fun _ _ sb _ => 26 - (intOf sb).toNat)
    case atStart => exact ⟨0, by omega, rfl, rfl, rfl, rfl⟩
    case round =>
      obtain ⟨k, hk, rfl, rfl, rfl, rfl⟩ := hrel
      by_cases h0 : k < 25
      · have i := hPt_in k (n % 4 ^ k) (Int.emod_nonneg n (Int.ne_of_gt (cvFour k))) (Int.emod_lt_of_pos n (cvFour k))
        have U := cvUp k n
        obtain ⟨P0, P1⟩ := pow25 h0
        have wP : wrap64 ((2 : Int) ^ k) = 2 ^ k := by unfold wrap64; omega
        have hk1 : ((k : Int) + 1 - 1) = (k : Int) := by omega
        generalize hPt k (n % 4 ^ k) = c at *
        obtain ⟨u, v⟩ := c
        dsimp only at i
        have hb := cvBits k n
        have s0 := Int.emod_nonneg (n / 4 ^ k) (show (4 : Int) ≠ 0 by decide)
        have s1 := Int.emod_lt_of_pos (n / 4 ^ k) (show (0 : Int) < 4 by decide)
        generalize n / 4 ^ k % 4 = q at *
        have hq : q = 0 ∨ q = 1 ∨ q = 2 ∨ q = 3 := by omega
        clear s0 s1
        rcases hq with e | e | e | e
        · rw [e] at hb
          have U2 : Hid (hPt (k + 1) (n % 4 ^ (k + 1)) = (v, u)) := by show _ = _; rw [U, e]; simp [hQ]
          clear U
          go_wp2
          go_roundw
          case rel => exact ⟨k + 1, by omega, by go_num, by rw [U2.out], by rw [U2.out], trivial⟩
          case measure => simp [intOf]; omega
        · rw [e] at hb
          have U2 : Hid (hPt (k + 1) (n % 4 ^ (k + 1)) = (u, v + 2 ^ k)) := by show _ = _; rw [U, e]; simp [hQ]
          clear U
          go_wp2
          go_roundw
          case rel => exact ⟨k + 1, by omega, by go_num, by rw [U2.out], by rw [U2.out], trivial⟩
          case measure => simp [intOf]; omega
        · rw [e] at hb
          have U2 : Hid (hPt (k + 1) (n % 4 ^ (k + 1)) = (u + 2 ^ k, v + 2 ^ k)) := by show _ = _; rw [U, e]; simp [hQ]
          clear U
          go_wp2
          go_roundw
          case rel => exact ⟨k + 1, by omega, by go_num, by rw [U2.out], by rw [U2.out], trivial⟩
          case measure => simp [intOf]; omega
        · rw [e] at hb
          have U2 : Hid (hPt (k + 1) (n % 4 ^ (k + 1)) = (2 * 2 ^ k - 1 - v, 2 ^ k - 1 - u)) := by show _ = _; rw [U, e]; simp [hQ]
          clear U
          go_wp2
          go_roundw
          case rel => exact ⟨k + 1, by omega, by go_num, by rw [U2.out], by rw [U2.out], trivial⟩
          case measure => simp [intOf]; omega
      · obtain rfl : k = 25 := by omega
        rw [show n % 4 ^ 25 = n from Int.emod_eq_of_lt hn.1 (by omega)]
        have i := hPt_in 25 n hn.1 (by omega)
        have V : Hid (cvPt n = if ptOk ((hPt 25 n).1 - 10000000) ((hPt 25 n).2 - 10000000) then (((hPt 25 n).1 - 10000000, (hPt 25 n).2 - 10000000), true) else ((0, 0), false)) := by show _ = _; unfold cvPt; rw [if_pos hn]
        generalize hPt 25 n = c at *
        obtain ⟨u, v⟩ := c
        dsimp only at i V
        have wx : wrap64 (u - 10000000) = u - 10000000 := by unfold wrap64; omega
        have wy : wrap64 (v - 10000000) = v - 10000000 := by unfold wrap64; omega
        obtain ⟨X, hX⟩ : ∃ X, u - 10000000 = X := ⟨_, rfl⟩
        obtain ⟨Y, hY⟩ : ∃ Y, v - 10000000 = Y := ⟨_, rfl⟩
        rw [hX] at wx V
        rw [hY] at wy V
        have B1 := below1 wr (.cells #[.int .i64 X, .int .i64 Y] 25)
        have NX2 := Box2.new wr (lo := w.heap.size) B0.size (.int .i64 X) (.int .i64 Y) 25
        have RX2 := BX.below B1
        have B2 := B0.trans (B1.mono B0.size)
        obtain ⟨p0, p1, nf, _⟩ := id NX2
        clear BX B0 B1
        go_wp2_with fail
        generalize wr.alloc (.cells #[.int .i64 X, .int .i64 Y] 25) = W2 at *
        refine (specPtOk X Y _).mono ?_
        rintro e w3 ⟨rfl, hb⟩
        have B3 := B2.trans (hb.mono B2.size)
        replace NX2 := NX2.below hb
        replace RX2 := RX2.below hb
        clear hb nf p0 p1
        obtain ⟨p0, p1, _, _⟩ := id NX2
        obtain ⟨z0, z1, zf, _⟩ := id RX2
        cases ok : ptOk X Y
        · rw [ok] at V
          have Z := Box2.chain B3 RX2 (.int .i64 0) (.int .i64 0)
          obtain ⟨y0, y1, _, _⟩ := RX2.put (.int .i64 0) (.int .i64 0)
          go_wp2
          refine bodyPost_ret (v := .tuple #[.agg #[.int .i64 0, .int .i64 0], .bool false]) (by simp [results, Try.results9, go_sem, y0, y1]) rfl ?_
          refine ⟨?_, Z⟩
          rw [V.out]
          rfl
        · rw [ok] at V
          have Z := Box2.chain B3 RX2 (.int .i64 X) (.int .i64 Y)
          obtain ⟨y0, y1, _, _⟩ := RX2.put (.int .i64 X) (.int .i64 Y)
          go_wp2
          refine bodyPost_ret (v := .tuple #[.agg #[.int .i64 X, .int .i64 Y], .bool true]) (by simp [results, Try.results9, go_sem, y0, y1]) rfl ?_
          refine ⟨?_, Z⟩
          rw [V.out]
          rfl
  · have d : (decide (0 ≤ n) && decide (n ≤ 1125899906842623)) = false := by
      cases e : (decide (0 ≤ n) && decide (n ≤ 1125899906842623))
      · rfl
      · simp only [Bool.and_eq_true, decide_eq_true_eq] at e
        exact absurd e hn
    have V : Hid (cvPt n = ((0, 0), false)) := by show _ = _; unfold cvPt; rw [if_neg hn]
    go_enter Try.func9, Try.ntmps9
    go_wp2_with fail
    refine (cvIn _ _ _ _).mono ?_
    rintro e w1 ⟨rfl, rfl⟩
    rw [d]
    generalize w.alloc (.cells #[.int .i64 0, .int .i64 0] 25) = W0 at *
    have Z := Box2.chain B0 BX (.int .i64 0) (.int .i64 0)
    obtain ⟨y0, y1, _, _⟩ := BX.put (.int .i64 0) (.int .i64 0)
    obtain ⟨z0, z1, zf, _⟩ := BX
    go_wp2
    refine bodyPost_ret (v := .tuple #[.agg #[.int .i64 0, .int .i64 0], .bool false]) (by simp [results, Try.results9, go_sem, y0, y1]) rfl ?_
    refine ⟨?_, Z⟩
    rw [V.out]
end Go.Proofs.Ytfooeoibjbopjaa
