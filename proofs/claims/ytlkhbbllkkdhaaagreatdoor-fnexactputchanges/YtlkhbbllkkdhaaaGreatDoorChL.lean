/- A change: the laws' helpers on it; whether it is right, of both sides. -/
import Derived.Test.YtlkhbbllkkdhaaaGreatDoorGoodI
import Derived.Test.YtlkhbbllkkdhaaaGreatDoorSameS
import Derived.Test.YtlkhbbllkkdhaaaGreatDoorPtsL
namespace Go.Proofs.YtlkhbbllkkdhaaaGreatDoor
open Go.RowKit

set_option maxHeartbeats 1000000 in
theorem szChange_any (kd ix k : Int) (a : Option Addr) (c : Nat) (rs : List (List (Int × Int))) (left : Int) (w : World) (h : SeesS w a c rs) (hl : 0 ≤ left ∧ left ≤ 1048576) :
    Calls Tryz.prog 13 #[.agg #[.int .i64 kd, .int .i64 ix, .int .i64 k, .slice a rs.length c], .int .i64 left] w fun e w' => ∃ z : Int, e = .returned (.int .i64 z) ∧ (z = -1 ∨ (0 ≤ z ∧ z + (upto rs rs.length : Nat) = left)) ∧ Below w.heap.size w w' := by
  have bn := below1 w (.cells #[.int .i64 kd, .int .i64 ix, .int .i64 k, .slice a rs.length c] 38)
  go_enter Tryz.func13, Tryz.ntmps13
  go_wp2_with fail
  refine (szShape_any k a c rs left _ (h.below bn) hl).mono ?_
  rintro e w1 ⟨z, rfl, hz, hb⟩
  replace bn := bn.trans (hb.mono bn.size)
  have HZ : Hid (z = -1 ∨ (0 ≤ z ∧ z + (upto rs rs.length : Nat) = left)) := hz
  clear hb
  by_cases h0 : z < 0
  · clear hz
    go_wp2
    go_ret
    exact ⟨-1, rfl, .inl rfl, bn⟩
  · have h0' : 0 ≤ z := by omega
    clear hz
    go_wp2
    go_ret
    exact ⟨z, rfl, HZ.out, bn⟩

set_option maxRecDepth 20000 in
set_option maxHeartbeats 1000000 in
theorem toChangeE (kd ix k : Int) (a : Option Addr) (cap : Nat) (rs : List (List (Int × Int))) (w : World) (h : SeesS w a cap rs) (hs : upto rs rs.length ≤ 1048576) :
    Calls Tryz.prog 17 #[.agg #[.int .i64 kd, .int .i64 ix, .int .i64 k, .slice a rs.length cap]] w fun e w' => e = .returned (.agg #[.int .i64 kd, .int .i64 ix, .int .i64 k, .slice (some ⟨w.heap.size + 6, 0, none⟩) rs.length rs.length]) ∧ OwnS (w.heap.size + 6) w' (some ⟨w.heap.size + 6, 0, none⟩) rs.length rs ∧ Below w.heap.size w w' ∧ Somes w' (some ⟨w.heap.size + 6, 0, none⟩) rs.length ∧ w.heap.size + 6 < w'.heap.size := by
  have B := below3 w (.cells #[.int .i64 kd, .int .i64 ix, .int .i64 k, .slice a rs.length cap] 38) (.cells #[.int .i64 0, .int .i64 0, .int .i64 0, .slice none 0 0] 44) (.cells #[.int .i64 kd, .int .i64 ix, .int .i64 0, .slice none 0 0] 44)
  have HS : Hid (upto rs rs.length ≤ 1048576) := hs
  clear hs
  have R1 : Box4 w.heap.size (((w.alloc (.cells #[.int .i64 kd, .int .i64 ix, .int .i64 k, .slice a rs.length cap] 38)).alloc (.cells #[.int .i64 0, .int .i64 0, .int .i64 0, .slice none 0 0] 44)).alloc (.cells #[.int .i64 kd, .int .i64 ix, .int .i64 0, .slice none 0 0] 44)) (w.heap.size + 1) (.int .i64 0) (.int .i64 0) (.int .i64 0) (.slice none 0 0) := by
    have := (Box4.new (w.alloc (.cells #[.int .i64 kd, .int .i64 ix, .int .i64 k, .slice a rs.length cap] 38)) (lo := w.heap.size) (by simp) (.int .i64 0) (.int .i64 0) (.int .i64 0) (.slice none 0 0) 44).below (below1 _ (.cells #[.int .i64 kd, .int .i64 ix, .int .i64 0, .slice none 0 0] 44))
    simpa using this
  have R2 : Box4 w.heap.size (((w.alloc (.cells #[.int .i64 kd, .int .i64 ix, .int .i64 k, .slice a rs.length cap] 38)).alloc (.cells #[.int .i64 0, .int .i64 0, .int .i64 0, .slice none 0 0] 44)).alloc (.cells #[.int .i64 kd, .int .i64 ix, .int .i64 0, .slice none 0 0] 44)) (w.heap.size + 2) (.int .i64 kd) (.int .i64 ix) (.int .i64 0) (.slice none 0 0) := by
    have := Box4.new ((w.alloc (.cells #[.int .i64 kd, .int .i64 ix, .int .i64 k, .slice a rs.length cap] 38)).alloc (.cells #[.int .i64 0, .int .i64 0, .int .i64 0, .slice none 0 0] 44)) (lo := w.heap.size) (by simp; omega) (.int .i64 kd) (.int .i64 ix) (.int .i64 0) (.slice none 0 0) 44
    simpa using this
  have zz : (((w.alloc (.cells #[.int .i64 kd, .int .i64 ix, .int .i64 k, .slice a rs.length cap] 38)).alloc (.cells #[.int .i64 0, .int .i64 0, .int .i64 0, .slice none 0 0] 44)).alloc (.cells #[.int .i64 kd, .int .i64 ix, .int .i64 0, .slice none 0 0] 44)).heap.size = w.heap.size + 3 := by simp
  go_enter Tryz.func17, Tryz.ntmps17
  go_wp2_with fail
  refine (toShapeE k a cap rs _ (h.below B) HS.out).mono ?_
  rintro e w3 ⟨rfl, O3, hb, M3, L3⟩
  replace B := B.trans (hb.mono B.size)
  replace R1 := R1.below hb
  replace R2 := R2.below hb
  rw [zz] at O3 M3 L3 ⊢
  clear hb h zz
  obtain ⟨r0, r1, r2, r3, rf, _⟩ := id R1
  obtain ⟨q0, q1, q2, q3, qf, _⟩ := id R2
  have O4 := ((((((O3.put (g := w.heap.size + 2) (by omega) 2 (.int .i64 k)).put (g := w.heap.size + 2) (by omega) 3 (.slice (some ⟨w.heap.size + 6, 0, none⟩) rs.length rs.length)).put (g := w.heap.size + 1) (by omega) 0 (.int .i64 kd)).put (g := w.heap.size + 1) (by omega) 1 (.int .i64 ix)).put (g := w.heap.size + 1) (by omega) 2 (.int .i64 k)).put (g := w.heap.size + 1) (by omega) 3 (.slice (some ⟨w.heap.size + 6, 0, none⟩) rs.length rs.length))
  have M4 : Hid (Somes _ (some ⟨w.heap.size + 6, 0, none⟩) rs.length) := ((((((M3.put (g := w.heap.size + 2) (by omega) 2 (.int .i64 k)).put (g := w.heap.size + 2) (by omega) 3 (.slice (some ⟨w.heap.size + 6, 0, none⟩) rs.length rs.length)).put (g := w.heap.size + 1) (by omega) 0 (.int .i64 kd)).put (g := w.heap.size + 1) (by omega) 1 (.int .i64 ix)).put (g := w.heap.size + 1) (by omega) 2 (.int .i64 k)).put (g := w.heap.size + 1) (by omega) 3 (.slice (some ⟨w.heap.size + 6, 0, none⟩) rs.length rs.length))
  have B4 := ((((((B.setCell (p := ⟨w.heap.size + 2, 2, none⟩) (by dsimp only; omega) (.int .i64 k)).setCell (p := ⟨w.heap.size + 2, 3, none⟩) (by dsimp only; omega) (.slice (some ⟨w.heap.size + 6, 0, none⟩) rs.length rs.length)).setCell (p := ⟨w.heap.size + 1, 0, none⟩) (by dsimp only; omega) (.int .i64 kd)).setCell (p := ⟨w.heap.size + 1, 1, none⟩) (by dsimp only; omega) (.int .i64 ix)).setCell (p := ⟨w.heap.size + 1, 2, none⟩) (by dsimp only; omega) (.int .i64 k)).setCell (p := ⟨w.heap.size + 1, 3, none⟩) (by dsimp only; omega) (.slice (some ⟨w.heap.size + 6, 0, none⟩) rs.length rs.length))
  have L4 : Hid (w.heap.size + 6 < w3.heap.size) := L3
  clear O3 B R1 R2 M3 L3
  go_wp2
  exact bodyPost_ret (v := .agg #[.int .i64 kd, .int .i64 ix, .int .i64 k, .slice (some ⟨w.heap.size + 6, 0, none⟩) rs.length rs.length]) (by simp [results, Tryz.results17, go_sem, r0, r1, r2, r3]) rfl ⟨rfl, O4, B4, M4.out, by simpa using L4.out⟩

set_option maxHeartbeats 1000000 in
theorem eqChange_any (kd ix n : Int) (a b : Option Addr) (c d : Nat) (rs : List (List (Int × Int))) (w : World) (h : SeesS w a c rs) (k : SeesS w b d rs) :
    Calls Tryz.prog 21 #[.agg #[.int .i64 kd, .int .i64 ix, .int .i64 n, .slice a rs.length c], .agg #[.int .i64 kd, .int .i64 ix, .int .i64 n, .slice b rs.length d]] w fun e w' => e = .returned (.bool true) ∧ Below w.heap.size w w' := by
  have h1 : (kd != kd) = false := by simp
  have h2 : (ix != ix) = false := by simp
  have B := below2 w (.cells #[.int .i64 kd, .int .i64 ix, .int .i64 n, .slice a rs.length c] 44) (.cells #[.int .i64 kd, .int .i64 ix, .int .i64 n, .slice b rs.length d] 44)
  go_enter Tryz.func21, Tryz.ntmps21
  go_wp2_with fail
  refine (eqShape_any n a b c d rs _ (h.below B) (k.below B)).mono ?_
  rintro e w1 ⟨rfl, hb⟩
  replace B := B.trans (hb.mono B.size)
  go_wp2
  go_ret
  exact ⟨rfl, B⟩

/-- Whether a change is right. -/
def chB (kd ix k : Int) (rs : List (List (Int × Int))) : Bool := inB ix 1 1000000 && (((kd == 1) && goodB k rs) || ((kd == 2) && ((k == 0) && rs.isEmpty)))
theorem isId_any (n : Int) (w : World) :
    Calls Tryz.prog 42 #[.int .i64 n] w fun e w' => e = .returned (.bool (inB n 1 1000000)) ∧ w' = w := by
  have H : Hid (inB n 1 1000000 = (decide (1 ≤ n) && decide (n ≤ 1000000))) := (rfl : inB n 1 1000000 = _)
  by_cases h1 : 1 ≤ n <;> by_cases h2 : n ≤ 1000000
  all_goals
    go_enter Tryz.func42, Tryz.ntmps42
    go_wp2
    go_ret
    exact ⟨by rw [H.out]; simp [h1, h2], rfl⟩
theorem SeesS.none (w : World) : SeesS w none 0 [] := ⟨Nat.le_refl _, Nat.zero_le _, fun h => absurd rfl h⟩
set_option maxRecDepth 20000 in
set_option maxHeartbeats 1000000 in
theorem implChangeOk (kd ix k : Int) (a : Option Addr) (c : Nat) (rs : List (List (Int × Int))) (w : World) (h : SeesS w a c rs) :
    Calls Tryz.prog 30 #[.agg #[.int .i64 kd, .int .i64 ix, .int .i64 k, .slice a rs.length c]] w fun e w' => e = .returned (.bool (chB kd ix k rs)) ∧ Below w.heap.size w w' := by
  have B := below1 w (.cells #[.int .i64 kd, .int .i64 ix, .int .i64 k, .slice a rs.length c] 44)
  have V := Box4.new w (lo := 0) (by omega) (.int .i64 kd) (.int .i64 ix) (.int .i64 k) (.slice a rs.length c) 44
  have S := h.below B
  obtain ⟨z, HZ⟩ : ∃ z, Hid (chB kd ix k rs = z) := ⟨_, rfl⟩
  rw [HZ.out]
  cases hi : inB ix 1 1000000
  · have Z : Hid (z = false) := by show _ = _; rw [← HZ.out]; unfold chB; rw [hi]; rfl
    clear HZ
    go_enter Tryz.func30, Tryz.ntmps30
    go_wp2_with (go_at_call 42; refine (isId_any _ _).mono ?_; rintro e w1 ⟨rfl, rfl⟩; rw [hi])
    go_ret
    exact ⟨by rw [Z.out]; rfl, B⟩
  · by_cases h1 : kd = 1
    · subst h1
      have Z : Hid (z = goodB k rs) := by show _ = _; rw [← HZ.out]; unfold chB; rw [hi]; simp
      clear HZ
      go_enter Tryz.func30, Tryz.ntmps30
      go_wp2_with (go_at_call 42; refine (isId_any _ _).mono ?_; rintro e w1 ⟨rfl, rfl⟩; rw [hi])
      refine (good_any k a c rs _ S).mono ?_
      rintro e w2 ⟨rfl, hb⟩
      rw [← Z.out]
      replace B := B.trans (hb.mono B.size)
      go_wp2
      go_ret
      exact ⟨rfl, B⟩
    · have n1 : (kd == 1) = false := by simp [h1]
      by_cases h2 : kd = 2
      · subst h2
        have Z : Hid (z = shB k 0 rs []) := by
          show _ = _
          rw [← HZ.out]
          unfold chB shB rsB
          rw [hi]
          cases rs <;> simp
        clear HZ h1
        go_enter Tryz.func30, Tryz.ntmps30
        go_wp2_with (go_at_call 42; refine (isId_any _ _).mono ?_; rintro e w1 ⟨rfl, rfl⟩; rw [hi])
        refine (implSame k 0 a none c 0 rs [] _ S (SeesS.none _)).mono ?_
        rintro e w2 ⟨rfl, hb⟩
        rw [← Z.out]
        replace B := B.trans (hb.mono B.size)
        go_wp2
        go_ret
        exact ⟨rfl, B⟩
      · have n2 : (kd == 2) = false := by simp [h2]
        have Z : Hid (z = false) := by show _ = _; rw [← HZ.out]; unfold chB; rw [n1, n2]; simp
        clear HZ h1 h2
        go_enter Tryz.func30, Tryz.ntmps30
        go_wp2_with (go_at_call 42; refine (isId_any _ _).mono ?_; rintro e w1 ⟨rfl, rfl⟩; rw [hi])
        go_ret
        exact ⟨by rw [Z.out]; rfl, B⟩

set_option maxRecDepth 20000 in
set_option maxHeartbeats 1000000 in
theorem noShape_any (k : Int) (a : Option Addr) (n c : Nat) (w : World) :
    Calls Tryz.prog 39 #[.agg #[.int .i64 k, .slice a n c]] w fun e w' => e = .returned (.bool ((k == 0) && decide (n = 0))) ∧ Below w.heap.size w w' := by
  have B := below1 w (.cells #[.int .i64 k, .slice a n c] 42)
  obtain ⟨z, HZ⟩ : ∃ z, Hid (((k == 0) && decide (n = 0)) = z) := ⟨_, rfl⟩
  rw [HZ.out]
  by_cases h1 : k = 0
  · subst h1
    have Z : Hid ((((n : Int) == 0)) = z) := by
      show _ = _
      rw [← HZ.out]
      by_cases q : n = 0
      · subst q; rfl
      · rw [decide_eq_false q, show (((n : Int) == 0)) = false from by rw [beq_eq_false_iff_ne]; omega]; rfl
    clear HZ
    go_enter Tryz.func39, Tryz.ntmps39
    go_wp2
    go_ret
    exact ⟨by rw [← Z.out]; rfl, B⟩
  · have n1 : (k == 0) = false := by simp [h1]
    have Z : Hid (z = false) := by show _ = _; rw [← HZ.out, n1]; rfl
    clear HZ h1
    go_enter Tryz.func39, Tryz.ntmps39
    go_wp2
    go_ret
    exact ⟨by rw [Z.out]; rfl, B⟩

set_option maxRecDepth 20000 in
set_option maxHeartbeats 1000000 in
theorem specChangeOk (kd ix k : Int) (a : Option Addr) (c : Nat) (rs : List (List (Int × Int))) (w : World) (h : SeesS w a c rs) :
    Calls Tryz.prog 24 #[.agg #[.int .i64 kd, .int .i64 ix, .int .i64 k, .slice a rs.length c]] w fun e w' => e = .returned (.bool (chB kd ix k rs)) ∧ Below w.heap.size w w' := by
  have B := below1 w (.cells #[.int .i64 kd, .int .i64 ix, .int .i64 k, .slice a rs.length c] 44)
  have V := Box4.new w (lo := 0) (by omega) (.int .i64 kd) (.int .i64 ix) (.int .i64 k) (.slice a rs.length c) 44
  have S := h.below B
  obtain ⟨z, HZ⟩ : ∃ z, Hid (chB kd ix k rs = z) := ⟨_, rfl⟩
  rw [HZ.out]
  cases hi : inB ix 1 1000000
  · have Z : Hid (z = false) := by show _ = _; rw [← HZ.out]; unfold chB; rw [hi]; rfl
    clear HZ
    go_enter Tryz.func24, Tryz.ntmps24
    go_wp2_with (go_at_call 37; refine (l1In_any _ _ _ _).mono ?_; rintro e w1 ⟨rfl, rfl⟩; rw [hi])
    go_ret
    exact ⟨by rw [Z.out]; rfl, B⟩
  · by_cases h1 : kd = 1
    · subst h1
      cases hg : goodB k rs
      · have Z : Hid (z = false) := by show _ = _; rw [← HZ.out]; unfold chB; rw [hi, hg]; simp
        clear HZ
        go_enter Tryz.func24, Tryz.ntmps24
        go_wp2_with (go_at_call 37; refine (l1In_any _ _ _ _).mono ?_; rintro e w1 ⟨rfl, rfl⟩; rw [hi])
        refine (l5Good_any k a c rs _ S).mono ?_
        rintro e w2 ⟨rfl, hb⟩
        rw [hg]
        replace B := B.trans (hb.mono B.size)
        replace V := V.below hb
        obtain ⟨v0, v1, v2, v3, _, _⟩ := id V
        clear hb
        go_wp2
        go_ret
        exact ⟨by rw [Z.out]; rfl, B⟩
      · have Z : Hid (z = true) := by show _ = _; rw [← HZ.out]; unfold chB; rw [hi, hg]; simp
        clear HZ
        go_enter Tryz.func24, Tryz.ntmps24
        go_wp2_with (go_at_call 37; refine (l1In_any _ _ _ _).mono ?_; rintro e w1 ⟨rfl, rfl⟩; rw [hi])
        refine (l5Good_any k a c rs _ S).mono ?_
        rintro e w2 ⟨rfl, hb⟩
        rw [hg]
        replace B := B.trans (hb.mono B.size)
        clear hb
        go_wp2
        go_ret
        exact ⟨by rw [Z.out]; rfl, B⟩
    · have n1 : (kd == 1) = false := by simp [h1]
      by_cases h2 : kd = 2
      · subst h2
        have Z : Hid (z = ((k == 0) && decide (rs.length = 0))) := by
          show _ = _
          rw [← HZ.out]
          unfold chB
          rw [hi]
          cases rs <;> simp
        clear HZ h1
        go_enter Tryz.func24, Tryz.ntmps24
        go_wp2_with (go_at_call 37; refine (l1In_any _ _ _ _).mono ?_; rintro e w1 ⟨rfl, rfl⟩; rw [hi])
        refine (noShape_any k a rs.length c _).mono ?_
        rintro e w2 ⟨rfl, hb⟩
        rw [← Z.out]
        replace B := B.trans (hb.mono B.size)
        go_wp2
        go_ret
        exact ⟨rfl, B⟩
      · have n2 : (kd == 2) = false := by simp [h2]
        have Z : Hid (z = false) := by show _ = _; rw [← HZ.out]; unfold chB; rw [n1, n2]; simp
        clear HZ h1 h2
        go_enter Tryz.func24, Tryz.ntmps24
        go_wp2_with (go_at_call 37; refine (l1In_any _ _ _ _).mono ?_; rintro e w1 ⟨rfl, rfl⟩; rw [hi])
        go_ret
        exact ⟨by rw [Z.out]; rfl, B⟩
end Go.Proofs.YtlkhbbllkkdhaaaGreatDoor
