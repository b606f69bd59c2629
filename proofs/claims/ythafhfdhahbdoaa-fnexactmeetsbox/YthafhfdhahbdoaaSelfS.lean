/- Whether an edge of a ring meets a later one where it may not: of the specification (l5Self). -/
import Derived.Test.YthafhfdhahbdoaaTouch
import Derived.Deep.DeepCutAuto
namespace Go.Proofs.Ythafhfdhahbdoaa
open Go.RowKit

/-- The edges at i and at a later k have a point together that they may not have. -/
def badE (ps : List (Int × Int)) (i k : Nat) : Bool :=
  if k = i + 1 then
    onB (ptA ps i).1 (ptA ps i).2 (ptA ps (nx ps.length i)).1 (ptA ps (nx ps.length i)).2 (ptA ps (nx ps.length k)).1 (ptA ps (nx ps.length k)).2 || onB (ptA ps k).1 (ptA ps k).2 (ptA ps (nx ps.length k)).1 (ptA ps (nx ps.length k)).2 (ptA ps i).1 (ptA ps i).2
  else if i = 0 ∧ k = ps.length - 1 then
    onB (ptA ps i).1 (ptA ps i).2 (ptA ps (nx ps.length i)).1 (ptA ps (nx ps.length i)).2 (ptA ps k).1 (ptA ps k).2 || onB (ptA ps k).1 (ptA ps k).2 (ptA ps (nx ps.length k)).1 (ptA ps (nx ps.length k)).2 (ptA ps (nx ps.length i)).1 (ptA ps (nx ps.length i)).2
  else metI (ptA ps i).1 (ptA ps i).2 (ptA ps (nx ps.length i)).1 (ptA ps (nx ps.length i)).2 (ptA ps k).1 (ptA ps k).2 (ptA ps (nx ps.length k)).1 (ptA ps (nx ps.length k)).2
/-- .. one of the edges behind i, below k. -/
def slfE (ps : List (Int × Int)) (i : Nat) : Nat → Bool
  | 0 => false
  | k + 1 => slfE ps i k || (decide (i < k) && badE ps i k)
/-- Some of the first edges does. -/
def slf (ps : List (Int × Int)) : Nat → Bool
  | 0 => false
  | i + 1 => slf ps i || slfE ps i ps.length
theorem slfE_low (ps : List (Int × Int)) (i : Nat) : ∀ k, k ≤ i + 1 → slfE ps i k = false
  | 0, _ => rfl
  | k + 1, h => by
    simp only [slfE]
    rw [slfE_low ps i k (by omega), decide_eq_false (by omega)]
    rfl
theorem slfE_mono {ps : List (Int × Int)} {i : Nat} : ∀ {k m : Nat}, k ≤ m → slfE ps i k = true → slfE ps i m = true
  | k, 0, h, e => by obtain rfl : k = 0 := by omega
                     exact e
  | k, m + 1, h, e => by
    rcases Nat.lt_or_ge m k with c | c
    · obtain rfl : k = m + 1 := by omega
      exact e
    · simp only [slfE]
      rw [slfE_mono c e]
      rfl
theorem slf_mono {ps : List (Int × Int)} : ∀ {k m : Nat}, k ≤ m → slf ps k = true → slf ps m = true
  | k, 0, h, e => by obtain rfl : k = 0 := by omega
                     exact e
  | k, m + 1, h, e => by
    rcases Nat.lt_or_ge m k with c | c
    · obtain rfl : k = m + 1 := by omega
      exact e
    · simp only [slf]
      rw [slf_mono c e]
      rfl
theorem slf_found {ps : List (Int × Int)} {i k : Nat} (hi : i < k) (hk : k < ps.length) (h : badE ps i k = true) : slf ps ps.length = true := by
  have h1 : slfE ps i (k + 1) = true := by simp only [slfE]; rw [h, decide_eq_true hi]; simp
  have h2 := slfE_mono (show k + 1 ≤ ps.length by omega) h1
  have h3 : slf ps (i + 1) = true := by simp only [slf]; rw [h2]; simp
  exact slf_mono (show i + 1 ≤ ps.length by omega) h3
theorem slfE_step {ps : List (Int × Int)} {i k : Nat} (h : slfE ps i k = false) (hb : badE ps i k = false) : slfE ps i (k + 1) = false := by simp only [slfE]; rw [h, hb]; simp

set_option maxRecDepth 20000 in
set_option maxHeartbeats 2500000 in
theorem l5Self_any (a : Option Addr) (c : Nat) (ps : List (Int × Int)) (w : World) (h : SeesP w a c ps) (ok : okL ps = true) :
    Calls Try.prog 47 #[.slice a ps.length c] w fun e w' => ∃ z : Int, e = .returned (.int .i64 z) ∧ Hid (decide (0 ≤ z) = slf ps ps.length ∧ -1 ≤ z ∧ z < ps.length + 1) ∧ Below w.heap.size w w' := by
  have hm := h.max
  have hf := h.fits
  unfold maxLen at hm
  go_enter Try.func47, Try.ntmps47
  go_wp2
  go_loopw [4, 5, 6, 7, 8, 9] (fun s4 _ _ _ _ _ wr => ∃ j : Nat, j ≤ ps.length ∧ s4 = .int .i64 j ∧ Hid (slf ps j = false) ∧ Below w.heap.size w wr) (fun s4 _ _ _ _ _ _ => ps.length - (intOf s4).toNat)
  case atStart => exact ⟨0, Nat.zero_le _, rfl, rfl, Below.refl _ _⟩
  case round =>
    obtain ⟨j, hj, rfl, T, B⟩ := hrel
    rename World => wr
    by_cases hlt : j < ps.length
    · obtain ⟨a1, a2⟩ := okL_at ok hlt
      obtain ⟨a3, a4⟩ := okL_at ok (nx_lt hlt)
      go_wp2_with fail
      refine (l5Edge_any a c ps j _ (h.below B) hlt).mono ?_
      rintro e w1 ⟨rfl, hb⟩
      replace B := B.trans (hb.mono B.size)
      clear hb
      obtain ⟨x, hx⟩ : ∃ z, Hid ((ptA ps j).1 = z) := ⟨_, rfl⟩
      obtain ⟨y, hy⟩ : ∃ z, Hid ((ptA ps j).2 = z) := ⟨_, rfl⟩
      obtain ⟨u, hu⟩ : ∃ z, Hid ((ptA ps (nx ps.length j)).1 = z) := ⟨_, rfl⟩
      obtain ⟨v, hv⟩ : ∃ z, Hid ((ptA ps (nx ps.length j)).2 = z) := ⟨_, rfl⟩
      rw [hx.out, hy.out, hu.out, hv.out]
      rw [hx.out] at a1
      rw [hy.out] at a2
      rw [hu.out] at a3
      rw [hv.out] at a4
      have V1 := (Box2.new w1 (lo := w.heap.size) B.size (.int .i64 x) (.int .i64 y) 35).below (below1 _ (.cells #[.int .i64 u, .int .i64 v] 35))
      have V2 := Box2.new (w1.alloc (.cells #[.int .i64 x, .int .i64 y] 35)) (lo := w.heap.size) (by have := B.size; simp; omega) (.int .i64 u) (.int .i64 v) 35
      rw [World.size_alloc] at V2
      have bn := below2 w1 (.cells #[.int .i64 x, .int .i64 y] 35) (.cells #[.int .i64 u, .int .i64 v] 35)
      replace B := B.trans (bn.mono B.size)
      clear bn
      go_wp2_with fail
      generalize (w1.alloc (.cells #[.int .i64 x, .int .i64 y] 35)).alloc (.cells #[.int .i64 u, .int .i64 v] 35) = W1 at *
      generalize w1.heap.size = q1 at *
      go_loopw [7, 8, 9] (fun s7 _ _ wi => ∃ i : Nat, j + 1 ≤ i ∧ i ≤ ps.length ∧ s7 = .int .i64 i ∧ Hid (slfE ps j i = false) ∧ Below W1.heap.size W1 wi) (fun s7 _ _ _ => ps.length - (intOf s7).toNat)
      case atStart => exact ⟨j + 1, by omega, by omega, by go_num, slfE_low ps j (j + 1) (by omega), Below.refl _ _⟩
      case round =>
        obtain ⟨i, hji, hi, rfl, M, Bi⟩ := hrel
        rename World => wi
        by_cases hli : i < ps.length
        · obtain ⟨c1, c2⟩ := okL_at ok hli
          obtain ⟨c3, c4⟩ := okL_at ok (nx_lt hli)
          go_wp2_with fail
          refine (l5Edge_any a c ps i _ ((h.below B).below Bi) hli).mono ?_
          rintro e w2 ⟨rfl, hb⟩
          replace Bi := Bi.trans (hb.mono Bi.size)
          clear hb
          have E : Hid (badE ps j i = if i = j + 1 then onB x y u v (ptA ps (nx ps.length i)).1 (ptA ps (nx ps.length i)).2 || onB (ptA ps i).1 (ptA ps i).2 (ptA ps (nx ps.length i)).1 (ptA ps (nx ps.length i)).2 x y else if j = 0 ∧ i = ps.length - 1 then onB x y u v (ptA ps i).1 (ptA ps i).2 || onB (ptA ps i).1 (ptA ps i).2 (ptA ps (nx ps.length i)).1 (ptA ps (nx ps.length i)).2 u v else metI x y u v (ptA ps i).1 (ptA ps i).2 (ptA ps (nx ps.length i)).1 (ptA ps (nx ps.length i)).2) := by
            show _ = _
            unfold badE
            rw [hx.out, hy.out, hu.out, hv.out]
          generalize (ptA ps i).1 = x2 at *
          generalize (ptA ps i).2 = y2 at *
          generalize (ptA ps (nx ps.length i)).1 = u2 at *
          generalize (ptA ps (nx ps.length i)).2 = v2 at *
          have V3 := (Box2.new w2 (lo := w.heap.size) (Nat.le_trans B.size Bi.size) (.int .i64 x2) (.int .i64 y2) 35).below (below1 _ (.cells #[.int .i64 u2, .int .i64 v2] 35))
          have V4 := Box2.new (w2.alloc (.cells #[.int .i64 x2, .int .i64 y2] 35)) (lo := w.heap.size) (by have := Nat.le_trans B.size Bi.size; simp; omega) (.int .i64 u2) (.int .i64 v2) 35
          rw [World.size_alloc] at V4
          have bn := below2 w2 (.cells #[.int .i64 x2, .int .i64 y2] 35) (.cells #[.int .i64 u2, .int .i64 v2] 35)
          replace Bi := Bi.trans (bn.mono Bi.size)
          clear bn
          have RF : Hid (badE ps j i = true → decide (0 ≤ (j : Int)) = slf ps ps.length ∧ -1 ≤ (j : Int) ∧ (j : Int) < ps.length + 1) := fun q => ⟨by rw [slf_found (show j < i by omega) hli q]; simp, by omega, by omega⟩
          have RN : Hid (badE ps j i = false → slfE ps j (i + 1) = false) := fun q => slfE_step M.out q
          clear M
          obtain ⟨g0, g1, _, _⟩ := V1.below Bi
          obtain ⟨g2, g3, _, _⟩ := V2.below Bi
          obtain ⟨g4, g5, _, _⟩ := id V3
          obtain ⟨g6, g7, _, _⟩ := id V4
          by_cases hk : i = j + 1
          · have E2 := E
            rw [if_pos hk] at E2
            have hkb : ((i : Int) == (j : Int) + 1) = true := by rw [hk]; simp
            clear E
            go_upto_region 12 with fail
            clear g0 g1 g2 g3 g4 g5 g6 g7
            generalize (w2.alloc (.cells #[.int .i64 x2, .int .i64 y2] 35)).alloc (.cells #[.int .i64 u2, .int .i64 v2] 35) = W2 at *
            generalize w2.heap.size = q2 at *
            obtain ⟨g0, g1, _, _⟩ := V1.below Bi
            obtain ⟨g2, g3, _, _⟩ := V2.below Bi
            obtain ⟨g4, g5, _, _⟩ := id V3
            obtain ⟨g6, g7, _, _⟩ := id V4
            go_wp2_with fail
            refine (l3On_any x y u v u2 v2 _ a1 a2 a3 a4 c3 c4).mono ?_
            rintro e w3 ⟨rfl, hb⟩
            replace Bi := Bi.trans (hb.mono Bi.size)
            replace V3 := V3.below hb
            replace V4 := V4.below hb
            clear hb g0 g1 g2 g3 g4 g5 g6 g7
            cases o1 : onB x y u v u2 v2
            · rw [o1, Bool.false_or] at E2
              obtain ⟨g0, g1, _, _⟩ := V1.below Bi
              obtain ⟨g4, g5, _, _⟩ := id V3
              obtain ⟨g6, g7, _, _⟩ := id V4
              go_wp2_with fail
              refine (l3On_any x2 y2 u2 v2 x y _ c1 c2 c3 c4 a1 a2).mono ?_
              rintro e w4 ⟨rfl, hb⟩
              replace Bi := Bi.trans (hb.mono Bi.size)
              clear hb g0 g1 g4 g5 g6 g7
              cases o2 : onB x2 y2 u2 v2 x y
              · rw [o2] at E2
                have R := RN.out E2.out
                clear RN RF
                go_wp2
                go_roundw
                case rel => exact ⟨i + 1, by omega, by omega, by go_num, R, Bi⟩
                case measure => simp [intOf]; omega
              · rw [o2] at E2
                have R4 : Hid (decide (0 ≤ (j : Int)) = slf ps ps.length ∧ -1 ≤ (j : Int) ∧ (j : Int) < ps.length + 1) := RF.out E2.out
                clear RN RF
                go_wp2
                go_ret
                exact ⟨_, rfl, R4, B.trans (Bi.mono B.size)⟩
            · rw [o1, Bool.true_or] at E2
              have R4 : Hid (decide (0 ≤ (j : Int)) = slf ps ps.length ∧ -1 ≤ (j : Int) ∧ (j : Int) < ps.length + 1) := RF.out E2.out
              clear RN RF
              go_wp2
              go_ret
              exact ⟨_, rfl, R4, B.trans (Bi.mono B.size)⟩
          · by_cases hz : j = 0 ∧ i = ps.length - 1
            · have E2 := E
              rw [if_neg hk, if_pos hz] at E2
              have hkb : ((i : Int) == (j : Int) + 1) = false := by rw [beq_eq_false_iff_ne]; omega
              have hj0 : ((j : Int) == 0) = true := by rw [hz.1]; rfl
              have hin : ((i : Int) == (ps.length : Int) - 1) = true := by rw [beq_iff_eq]; omega
              clear E hz
              go_upto_region 12 with fail
              clear g0 g1 g2 g3 g4 g5 g6 g7
              generalize (w2.alloc (.cells #[.int .i64 x2, .int .i64 y2] 35)).alloc (.cells #[.int .i64 u2, .int .i64 v2] 35) = W2 at *
              generalize w2.heap.size = q2 at *
              obtain ⟨g0, g1, _, _⟩ := V1.below Bi
              obtain ⟨g2, g3, _, _⟩ := V2.below Bi
              obtain ⟨g4, g5, _, _⟩ := id V3
              obtain ⟨g6, g7, _, _⟩ := id V4
              go_wp2_with fail
              refine (l3On_any x y u v x2 y2 _ a1 a2 a3 a4 c1 c2).mono ?_
              rintro e w3 ⟨rfl, hb⟩
              replace Bi := Bi.trans (hb.mono Bi.size)
              replace V3 := V3.below hb
              replace V4 := V4.below hb
              clear hb g0 g1 g2 g3 g4 g5 g6 g7
              cases o1 : onB x y u v x2 y2
              · rw [o1, Bool.false_or] at E2
                obtain ⟨g0, g1, _, _⟩ := V2.below Bi
                obtain ⟨g4, g5, _, _⟩ := id V3
                obtain ⟨g6, g7, _, _⟩ := id V4
                go_wp2_with fail
                refine (l3On_any x2 y2 u2 v2 u v _ c1 c2 c3 c4 a3 a4).mono ?_
                rintro e w4 ⟨rfl, hb⟩
                replace Bi := Bi.trans (hb.mono Bi.size)
                clear hb g0 g1 g4 g5 g6 g7
                cases o2 : onB x2 y2 u2 v2 u v
                · rw [o2] at E2
                  have R := RN.out E2.out
                  clear RN RF
                  go_wp2
                  go_roundw
                  case rel => exact ⟨i + 1, by omega, by omega, by go_num, R, Bi⟩
                  case measure => simp [intOf]; omega
                · rw [o2] at E2
                  have R4 : Hid (decide (0 ≤ (j : Int)) = slf ps ps.length ∧ -1 ≤ (j : Int) ∧ (j : Int) < ps.length + 1) := RF.out E2.out
                  clear RN RF
                  go_wp2
                  go_ret
                  exact ⟨_, rfl, R4, B.trans (Bi.mono B.size)⟩
              · rw [o1, Bool.true_or] at E2
                have R4 : Hid (decide (0 ≤ (j : Int)) = slf ps ps.length ∧ -1 ≤ (j : Int) ∧ (j : Int) < ps.length + 1) := RF.out E2.out
                clear RN RF
                go_wp2
                go_ret
                exact ⟨_, rfl, R4, B.trans (Bi.mono B.size)⟩
            · by_cases hjz : j = 0
              · have E2 := E
                rw [if_neg hk, if_neg hz] at E2
                have hkb : ((i : Int) == (j : Int) + 1) = false := by rw [beq_eq_false_iff_ne]; omega
                have hj0 : ((j : Int) == 0) = true := by rw [hjz]; rfl
                have hin : ((i : Int) == (ps.length : Int) - 1) = false := by rw [beq_eq_false_iff_ne]; intro q; exact hz ⟨hjz, by omega⟩
                clear E hz hjz
                go_upto_region 12 with fail
                clear g0 g1 g2 g3 g4 g5 g6 g7
                generalize (w2.alloc (.cells #[.int .i64 x2, .int .i64 y2] 35)).alloc (.cells #[.int .i64 u2, .int .i64 v2] 35) = W2 at *
                generalize w2.heap.size = q2 at *
                obtain ⟨g0, g1, _, _⟩ := V1.below Bi
                obtain ⟨g2, g3, _, _⟩ := V2.below Bi
                obtain ⟨g4, g5, _, _⟩ := id V3
                obtain ⟨g6, g7, _, _⟩ := id V4
                go_wp2_with fail
                refine (l3Meet_any x y u v x2 y2 u2 v2 _ a1 a2 a3 a4 c1 c2 c3 c4).mono ?_
                rintro e w3 ⟨rfl, hb⟩
                rw [← met_same]
                replace Bi := Bi.trans (hb.mono Bi.size)
                clear hb g0 g1 g2 g3 g4 g5 g6 g7
                cases o1 : metI x y u v x2 y2 u2 v2
                · rw [o1] at E2
                  have R := RN.out E2.out
                  clear RN RF
                  go_wp2
                  go_roundw
                  case rel => exact ⟨i + 1, by omega, by omega, by go_num, R, Bi⟩
                  case measure => simp [intOf]; omega
                · rw [o1] at E2
                  have R4 : Hid (decide (0 ≤ (j : Int)) = slf ps ps.length ∧ -1 ≤ (j : Int) ∧ (j : Int) < ps.length + 1) := RF.out E2.out
                  clear RN RF
                  go_wp2
                  go_ret
                  exact ⟨_, rfl, R4, B.trans (Bi.mono B.size)⟩
              · have E2 := E
                rw [if_neg hk, if_neg hz] at E2
                have hkb : ((i : Int) == (j : Int) + 1) = false := by rw [beq_eq_false_iff_ne]; omega
                have hj0 : ((j : Int) == 0) = false := by rw [beq_eq_false_iff_ne]; omega
                clear E hz hjz
                go_upto_region 12 with fail
                clear g0 g1 g2 g3 g4 g5 g6 g7
                generalize (w2.alloc (.cells #[.int .i64 x2, .int .i64 y2] 35)).alloc (.cells #[.int .i64 u2, .int .i64 v2] 35) = W2 at *
                generalize w2.heap.size = q2 at *
                obtain ⟨g0, g1, _, _⟩ := V1.below Bi
                obtain ⟨g2, g3, _, _⟩ := V2.below Bi
                obtain ⟨g4, g5, _, _⟩ := id V3
                obtain ⟨g6, g7, _, _⟩ := id V4
                go_wp2_with fail
                refine (l3Meet_any x y u v x2 y2 u2 v2 _ a1 a2 a3 a4 c1 c2 c3 c4).mono ?_
                rintro e w3 ⟨rfl, hb⟩
                rw [← met_same]
                replace Bi := Bi.trans (hb.mono Bi.size)
                clear hb g0 g1 g2 g3 g4 g5 g6 g7
                cases o1 : metI x y u v x2 y2 u2 v2
                · rw [o1] at E2
                  have R := RN.out E2.out
                  clear RN RF
                  go_wp2
                  go_roundw
                  case rel => exact ⟨i + 1, by omega, by omega, by go_num, R, Bi⟩
                  case measure => simp [intOf]; omega
                · rw [o1] at E2
                  have R4 : Hid (decide (0 ≤ (j : Int)) = slf ps ps.length ∧ -1 ≤ (j : Int) ∧ (j : Int) < ps.length + 1) := RF.out E2.out
                  clear RN RF
                  go_wp2
                  go_ret
                  exact ⟨_, rfl, R4, B.trans (Bi.mono B.size)⟩
        · obtain rfl : i = ps.length := by omega
          go_wp2
          go_roundw
          case rel => exact ⟨j + 1, by omega, by go_num, (by show _ = _; simp only [slf]; rw [T.out, M.out]; rfl), B.trans (Bi.mono B.size)⟩
          case measure => simp [intOf]; omega
    · obtain rfl : j = ps.length := by omega
      go_wp2
      go_ret
      exact ⟨-1, rfl, ⟨by rw [T.out]; rfl, by omega, by omega⟩, B⟩
end Go.Proofs.Ythafhfdhahbdoaa
