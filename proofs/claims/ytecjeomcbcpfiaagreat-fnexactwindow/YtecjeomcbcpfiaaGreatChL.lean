import Derived.Test.YtecjeomcbcpfiaaGreatGoodI
import Derived.Test.YtecjeomcbcpfiaaGreatSameS
import Derived.Test.YtecjeomcbcpfiaaGreatShapeM
import Derived.Test.YtecjeomcbcpfiaaGreatEnL
import Derived.Test.YtecjeomcbcpfiaaGreatRing
import Derived.Deep.RegionHeld3
/- A change: the laws' helpers on it; whether it is right, of both sides. -/
namespace Go.Proofs.YtecjeomcbcpfiaaGreat
open Go.RowKit

/-- Whether a change is right. -/
def chB (kd ix k : Int) (rs : List (List (Int × Int))) : Bool := inB ix 1 1000000 && (((kd == 1) && goodB k rs) || ((kd == 2) && ((k == 0) && rs.isEmpty)))
theorem isId_any (n : Int) (w : World) :
    Calls Tryz.prog 53 #[.int .i64 n] w fun e w' => e = .returned (.bool (inB n 1 1000000)) ∧ w' = w := by
  have H : Hid (inB n 1 1000000 = (decide (1 ≤ n) && decide (n ≤ 1000000))) := (rfl : inB n 1 1000000 = _)
  by_cases h1 : 1 ≤ n <;> by_cases h2 : n ≤ 1000000
  all_goals
    go_enter Tryz.func53, Tryz.ntmps53
    go_wp2
    go_ret
    exact ⟨by rw [H.out]; simp [h1, h2], rfl⟩
theorem SeesS.none (w : World) : SeesS w none 0 [] := ⟨Nat.le_refl _, Nat.zero_le _, fun h => absurd rfl h⟩
end Go.Proofs.YtecjeomcbcpfiaaGreat

/- Whether a list of entries is a map: of both sides. -/
namespace Go.Proofs.YtecjeomcbcpfiaaGreat
open Go.RowKit

/-- The Id ahead of an entry, 0 ahead of the first. -/
def ahE (es : List En) : Nat → Int
  | 0 => 0
  | j + 1 => (enA es j).1
/-- The entry at this place may stand there. -/
def atE (es : List En) (i : Nat) : Bool := inB (enA es i).1 1 1000000 && (decide (ahE es i < (enA es i).1) && goodB (enA es i).2.1 (enA es i).2.2)
/-- The first j entries may stand there. -/
def mpTo (es : List En) (j : Nat) : Bool := (List.range j).all (atE es)
/-- Whether it is a map. -/
def mpB (es : List En) : Bool := decide (es.length ≤ 500) && mpTo es es.length
theorem mpTo_succ (es : List En) (j : Nat) : mpTo es (j + 1) = (mpTo es j && atE es j) := by unfold mpTo; rw [List.range_succ, List.all_append]; simp
theorem mpTo_no {es : List En} {j n : Nat} (hj : j < n) (h : atE es j = false) : mpTo es n = false := by
  unfold mpTo
  rw [Bool.eq_false_iff]
  intro q
  rw [List.all_eq_true] at q
  have := q j (List.mem_range.2 hj)
  rw [h] at this
  cases this

set_option maxRecDepth 20000 in
set_option maxHeartbeats 2000000 in
theorem implMapOk (a : Option Addr) (c : Nat) (es : List En) (w : World) (h : SeesEn w a c es) :
    Calls Tryz.prog 34 #[.slice a es.length c] w fun e w' => e = .returned (.bool (mpB es)) ∧ Below w.heap.size w w' := by
  have hm := h.max
  have hf := h.fits
  unfold maxLen at hm
  obtain ⟨z, HZ⟩ : ∃ z, Hid (mpB es = z) := ⟨_, rfl⟩
  rw [HZ.out]
  by_cases hl : es.length ≤ 500
  · have hn5 : ¬ (500 : Int) < es.length := by omega
    have ZN : Hid (∀ j, j < es.length → atE es j = false → z = false) := fun j hj q => by
      rw [← HZ.out]; unfold mpB; rw [mpTo_no hj q, Bool.and_false]
    have ZY : Hid (mpTo es es.length = true → z = true) := fun q => by
      rw [← HZ.out]; unfold mpB; rw [q, decide_eq_true hl]; rfl
    clear HZ
    go_enter Tryz.func34, Tryz.ntmps34
    go_wp2
    go_loopw [3, 11] (fun s3 s11 wr => ∃ (j : Nat) (y : Int), j ≤ es.length ∧ s11 = .int .i64 j ∧ s3 = .int .i64 y ∧ Hid (y = ahE es j) ∧ Hid (mpTo es j = true) ∧ Below w.heap.size w wr) (fun _ s11 _ => es.length - (intOf s11).toNat)
    case atStart => exact ⟨0, 0, Nat.zero_le _, rfl, rfl, rfl, rfl, Below.refl _ _⟩
    case round =>
      obtain ⟨j, y, hj, rfl, rfl, hy, hto, B⟩ := hrel
      rename World => wr
      by_cases hlt : j < es.length
      · obtain ⟨b, off, rfl, hc⟩ := (h.below B).cells (by intro e; simp [e] at hlt)
        obtain ⟨g0, g1, a', c', g2, sp⟩ := hc j hlt
        have EA : Hid (atE es j = (inB (enA es j).1 1 1000000 && (decide (y < (enA es j).1) && goodB (enA es j).2.1 (enA es j).2.2))) := by show _ = _; unfold atE; rw [hy.out]
        have EN : Hid (ahE es (j + 1) = (enA es j).1) := rfl
        clear hc hy
        generalize enA es j = en at *
        obtain ⟨ix, n, rs⟩ := en
        dsimp only at g0 g1 g2 sp EA EN
        have bn := below1 wr (.cells #[.int .i64 ix, .int .i64 n, .slice a' rs.length c'] 58)
        have k0 := cell_new wr #[.int .i64 ix, .int .i64 n, .slice a' rs.length c'] 58 0 rfl
        have k1 := cell_new wr #[.int .i64 ix, .int .i64 n, .slice a' rs.length c'] 58 1 rfl
        have k2 := cell_new wr #[.int .i64 ix, .int .i64 n, .slice a' rs.length c'] 58 2 rfl
        replace sp := sp.below bn
        replace B := B.trans (bn.mono B.size)
        cases hi : inB ix 1 1000000
        · have Z : Hid (z = false) := ZN.out j hlt (by rw [EA.out, hi]; rfl)
          clear EA EN hto
          go_wp2_with (go_at_call 53; refine (isId_any _ _).mono ?_; rintro e w1 ⟨rfl, rfl⟩; rw [hi])
          go_ret
          exact ⟨by rw [Z.out]; rfl, B⟩
        · by_cases hy2 : y < ix
          · have nle : ¬ ix ≤ y := by omega
            cases hg : goodB n rs
            · have Z : Hid (z = false) := ZN.out j hlt (by rw [EA.out, hi, hg, Bool.and_false]; rfl)
              clear EA EN hto
              go_wp2_with (go_at_call 53; refine (isId_any _ _).mono ?_; rintro e w1 ⟨rfl, rfl⟩; rw [hi])
              generalize wr.alloc (.cells #[.int .i64 ix, .int .i64 n, .slice a' rs.length c'] 58) = W1 at *
              generalize wr.heap.size = q1 at *
              refine (good_any n a' c' rs _ sp).mono ?_
              rintro e w2 ⟨rfl, hb⟩
              rw [hg]
              replace B := B.trans (hb.mono B.size)
              clear hb k0 k1 k2 sp
              go_wp2
              go_ret
              exact ⟨by rw [Z.out]; rfl, B⟩
            · have HT : Hid (mpTo es (j + 1) = true) := by show _ = _; rw [mpTo_succ, hto.out, EA.out, hi, hg, decide_eq_true hy2]; rfl
              have HY : Hid (ix = ahE es (j + 1)) := EN.out.symm
              clear EA EN hto
              go_wp2_with (go_at_call 53; refine (isId_any _ _).mono ?_; rintro e w1 ⟨rfl, rfl⟩; rw [hi])
              generalize wr.alloc (.cells #[.int .i64 ix, .int .i64 n, .slice a' rs.length c'] 58) = W1 at *
              generalize wr.heap.size = q1 at *
              refine (good_any n a' c' rs _ sp).mono ?_
              rintro e w2 ⟨rfl, hb⟩
              rw [hg]
              replace B := B.trans (hb.mono B.size)
              replace k0 := bat hb k0
              clear hb k1 k2 sp
              go_wp2
              go_roundw
              case rel => exact ⟨j + 1, ix, by omega, by go_num, rfl, HY, HT, B⟩
              case measure => simp [intOf]; omega
          · have le : ix ≤ y := by omega
            have Z : Hid (z = false) := ZN.out j hlt (by rw [EA.out, hi, decide_eq_false hy2]; rfl)
            clear EA EN hto
            go_wp2_with (go_at_call 53; refine (isId_any _ _).mono ?_; rintro e w1 ⟨rfl, rfl⟩; rw [hi])
            go_ret
            exact ⟨by rw [Z.out]; rfl, B⟩
      · obtain rfl : j = es.length := by omega
        have Z : Hid (z = true) := ZY.out hto.out
        clear hto hy
        go_wp2
        go_ret
        exact ⟨by rw [Z.out]; rfl, B⟩
  · have hn5 : (500 : Int) < es.length := by omega
    have Z : Hid (z = false) := by show _ = _; rw [← HZ.out]; unfold mpB; rw [decide_eq_false hl]; rfl
    clear HZ hl
    go_enter Tryz.func34, Tryz.ntmps34
    go_wp2
    go_ret
    exact ⟨by rw [Z.out]; rfl, Below.refl _ _⟩
end Go.Proofs.YtecjeomcbcpfiaaGreat
