/- Whether an edge of a ring meets one of another one: of the specification (l5Touch). -/
import Derived.Test.YthafhfdhahbdoaaRing
import Derived.Test.YthafhfdhahbdoaaPtM
namespace Go.Proofs.Ythafhfdhahbdoaa
open Go.RowKit

/-- The edge at i of the one meets the edge at k of the other. -/
def mtE (ps qs : List (Int × Int)) (i k : Nat) : Bool := metI (ptA ps i).1 (ptA ps i).2 (ptA ps (nx ps.length i)).1 (ptA ps (nx ps.length i)).2 (ptA qs k).1 (ptA qs k).2 (ptA qs (nx qs.length k)).1 (ptA qs (nx qs.length k)).2
/-- .. some edge of the other. -/
def mtR (ps qs : List (Int × Int)) (i : Nat) : Nat → Bool
  | 0 => false
  | k + 1 => mtR ps qs i k || mtE ps qs i k
/-- Some of the first edges meets one of the other ring's. -/
def tch (ps qs : List (Int × Int)) : Nat → Bool
  | 0 => false
  | i + 1 => tch ps qs i || mtR ps qs i qs.length
theorem mtR_mono {ps qs : List (Int × Int)} {i : Nat} : ∀ {k m : Nat}, k ≤ m → mtR ps qs i k = true → mtR ps qs i m = true
  | k, 0, h, e => by obtain rfl : k = 0 := by omega
                     exact e
  | k, m + 1, h, e => by
    rcases Nat.lt_or_ge m k with c | c
    · obtain rfl : k = m + 1 := by omega
      exact e
    · simp only [mtR]
      rw [mtR_mono c e]
      rfl
theorem tch_mono {ps qs : List (Int × Int)} : ∀ {k m : Nat}, k ≤ m → tch ps qs k = true → tch ps qs m = true
  | k, 0, h, e => by obtain rfl : k = 0 := by omega
                     exact e
  | k, m + 1, h, e => by
    rcases Nat.lt_or_ge m k with c | c
    · obtain rfl : k = m + 1 := by omega
      exact e
    · simp only [tch]
      rw [tch_mono c e]
      rfl

set_option maxRecDepth 20000 in
set_option maxHeartbeats 1500000 in
theorem l5Touch_any (a b : Option Addr) (c d : Nat) (ps qs : List (Int × Int)) (w : World) (h : SeesP w a c ps) (k : SeesP w b d qs) (ok : okL ps = true) (oq : okL qs = true) :
    Calls Try.prog 49 #[.slice a ps.length c, .slice b qs.length d] w fun e w' => ∃ z : Int, e = .returned (.int .i64 z) ∧ Hid (decide (0 ≤ z) = tch ps qs ps.length ∧ -1 ≤ z ∧ z < ps.length + 1) ∧ Below w.heap.size w w' := by
  have hm := h.max
  have hf := h.fits
  unfold maxLen at hm
  have km := k.max
  have kf := k.fits
  unfold maxLen at km
  go_enter Try.func49, Try.ntmps49
  go_wp2
  go_loopw [5, 6, 7, 8, 9, 10] (fun s5 _ _ _ _ _ wr => ∃ j : Nat, j ≤ ps.length ∧ s5 = .int .i64 j ∧ Hid (tch ps qs j = false) ∧ Below w.heap.size w wr) (fun s5 _ _ _ _ _ _ => ps.length - (intOf s5).toNat)
  case atStart => exact ⟨0, Nat.zero_le _, rfl, rfl, Below.refl _ _⟩
  case round =>
    obtain ⟨j, hj, rfl, T, B⟩ := hrel
    rename World => wr
    by_cases hlt : j < ps.length
    · obtain ⟨a1, a2⟩ := okL_at ok hlt
      obtain ⟨a3, a4⟩ := okL_at ok (nx_lt hlt)
      go_wp2_with fail
      refine (l5Edge_any a c ps j _ (h.below B) hlt).mono ?_
      rintro e w1 ⟨rfl, hb⟩
      replace B := B.trans (hb.mono B.size)
      clear hb
      obtain ⟨x, hx⟩ : ∃ z, Hid ((ptA ps j).1 = z) := ⟨_, rfl⟩
      obtain ⟨y, hy⟩ : ∃ z, Hid ((ptA ps j).2 = z) := ⟨_, rfl⟩
      obtain ⟨u, hu⟩ : ∃ z, Hid ((ptA ps (nx ps.length j)).1 = z) := ⟨_, rfl⟩
      obtain ⟨v, hv⟩ : ∃ z, Hid ((ptA ps (nx ps.length j)).2 = z) := ⟨_, rfl⟩
      rw [hx.out, hy.out, hu.out, hv.out]
      rw [hx.out] at a1
      rw [hy.out] at a2
      rw [hu.out] at a3
      rw [hv.out] at a4
      have V1 := (Box2.new w1 (lo := w.heap.size) B.size (.int .i64 x) (.int .i64 y) 35).below (below1 _ (.cells #[.int .i64 u, .int .i64 v] 35))
      have V2 := Box2.new (w1.alloc (.cells #[.int .i64 x, .int .i64 y] 35)) (lo := w.heap.size) (by have := B.size; simp; omega) (.int .i64 u) (.int .i64 v) 35
      rw [World.size_alloc] at V2
      have bn := below2 w1 (.cells #[.int .i64 x, .int .i64 y] 35) (.cells #[.int .i64 u, .int .i64 v] 35)
      replace B := B.trans (bn.mono B.size)
      clear bn
      go_wp2_with fail
      generalize (w1.alloc (.cells #[.int .i64 x, .int .i64 y] 35)).alloc (.cells #[.int .i64 u, .int .i64 v] 35) = W1 at *
      generalize w1.heap.size = q1 at *
      go_loopw [8, 9, 10] (fun s8 _ _ wi => ∃ i : Nat, i ≤ qs.length ∧ s8 = .int .i64 i ∧ Hid (mtR ps qs j i = false) ∧ Below W1.heap.size W1 wi) (fun s8 _ _ _ => qs.length - (intOf s8).toNat)
      case atStart => exact ⟨0, Nat.zero_le _, rfl, rfl, Below.refl _ _⟩
      case round =>
        obtain ⟨i, hi, rfl, M, Bi⟩ := hrel
        rename World => wi
        by_cases hli : i < qs.length
        · obtain ⟨c1, c2⟩ := okL_at oq hli
          obtain ⟨c3, c4⟩ := okL_at oq (nx_lt hli)
          go_wp2_with fail
          refine (l5Edge_any b d qs i _ ((k.below B).below Bi) hli).mono ?_
          rintro e w2 ⟨rfl, hb⟩
          replace Bi := Bi.trans (hb.mono Bi.size)
          clear hb
          have E : Hid (mtE ps qs j i = metI x y u v (ptA qs i).1 (ptA qs i).2 (ptA qs (nx qs.length i)).1 (ptA qs (nx qs.length i)).2) := by
            show _ = _
            unfold mtE
            rw [hx.out, hy.out, hu.out, hv.out]
          generalize (ptA qs i).1 = x2 at *
          generalize (ptA qs i).2 = y2 at *
          generalize (ptA qs (nx qs.length i)).1 = u2 at *
          generalize (ptA qs (nx qs.length i)).2 = v2 at *
          have V3 := (Box2.new w2 (lo := w.heap.size) (Nat.le_trans B.size Bi.size) (.int .i64 x2) (.int .i64 y2) 35).below (below1 _ (.cells #[.int .i64 u2, .int .i64 v2] 35))
          have V4 := Box2.new (w2.alloc (.cells #[.int .i64 x2, .int .i64 y2] 35)) (lo := w.heap.size) (by have := Nat.le_trans B.size Bi.size; simp; omega) (.int .i64 u2) (.int .i64 v2) 35
          rw [World.size_alloc] at V4
          have bn := below2 w2 (.cells #[.int .i64 x2, .int .i64 y2] 35) (.cells #[.int .i64 u2, .int .i64 v2] 35)
          replace Bi := Bi.trans (bn.mono Bi.size)
          clear bn
          obtain ⟨g0, g1, _, _⟩ := V1.below Bi
          obtain ⟨g2, g3, _, _⟩ := V2.below Bi
          obtain ⟨g4, g5, _, _⟩ := id V3
          obtain ⟨g6, g7, _, _⟩ := id V4
          go_wp2_with fail
          generalize (w2.alloc (.cells #[.int .i64 x2, .int .i64 y2] 35)).alloc (.cells #[.int .i64 u2, .int .i64 v2] 35) = W2 at *
          refine (l3Meet_any x y u v x2 y2 u2 v2 _ a1 a2 a3 a4 c1 c2 c3 c4).mono ?_
          rintro e w3 ⟨rfl, hb⟩
          rw [← met_same]
          replace Bi := Bi.trans (hb.mono Bi.size)
          clear hb g0 g1 g2 g3 g4 g5 g6 g7 V3 V4
          cases hq : metI x y u v x2 y2 u2 v2
          · rw [hq] at E
            go_wp2
            go_roundw
            case rel => exact ⟨i + 1, by omega, by go_num, (by show _ = _; simp only [mtR]; rw [M.out, E.out]; rfl), Bi⟩
            case measure => simp [intOf]; omega
          · rw [hq] at E
            have R1 : mtR ps qs j (i + 1) = true := by simp only [mtR]; rw [E.out]; simp
            have R2 := mtR_mono (show i + 1 ≤ qs.length by omega) R1
            have R3 : tch ps qs (j + 1) = true := by simp only [tch]; rw [R2]; simp
            have R4 : Hid (decide (0 ≤ (j : Int)) = tch ps qs ps.length ∧ -1 ≤ (j : Int) ∧ (j : Int) < ps.length + 1) := ⟨by rw [tch_mono (show j + 1 ≤ ps.length by omega) R3]; simp, by omega, by omega⟩
            clear R1 R2 R3
            go_wp2
            go_ret
            exact ⟨_, rfl, R4, B.trans (Bi.mono B.size)⟩
        · obtain rfl : i = qs.length := by omega
          go_wp2
          go_roundw
          case rel => exact ⟨j + 1, by omega, by go_num, (by show _ = _; simp only [tch]; rw [T.out, M.out]; rfl), B.trans (Bi.mono B.size)⟩
          case measure => simp [intOf]; omega
    · obtain rfl : j = ps.length := by omega
      go_wp2
      go_ret
      exact ⟨-1, rfl, ⟨by rw [T.out]; rfl, by omega, by omega⟩, B⟩
end Go.Proofs.Ythafhfdhahbdoaa
