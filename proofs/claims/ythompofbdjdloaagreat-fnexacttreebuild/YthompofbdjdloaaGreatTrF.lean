/- Whether a node's form is wrong, of the program: boxWrong, formWrong. -/
import Derived.Test.YthompofbdjdloaaGreatTrA
import Derived.Test.YthompofbdjdloaaGreatTrQ
namespace Go.Proofs.YthompofbdjdloaaGreat
open Go.RowKit

theorem boxWrong_any (x1 x2 x3 x4 : Int) (w : World) :
    Calls Tryz.prog 33 #[.agg #[.int .i64 x1, .int .i64 x2, .int .i64 x3, .int .i64 x4]] w fun e w' => e = .returned (.bool (!boxOk x1 x2 x3 x4)) ∧ Below w.heap.size w w' := by
  have bn := below1 w (.cells #[.int .i64 x1, .int .i64 x2, .int .i64 x3, .int .i64 x4] 28)
  obtain ⟨t, ht⟩ : ∃ t, Hid (boxOk x1 x2 x3 x4 = t) := ⟨_, rfl⟩
  rw [ht.out]
  cases t
  all_goals
    go_enter Tryz.func33, Tryz.ntmps33
    go_wp2_with fail
    refine (implBoxOk x1 x2 x3 x4 _).mono ?_
    rintro e w1 ⟨rfl, hb⟩
    rw [ht.out]
    replace bn := bn.trans (hb.mono bn.size)
    go_wp2
    go_ret
    exact ⟨rfl, bn⟩

set_option maxRecDepth 20000 in
set_option maxHeartbeats 1000000 in
theorem indexBox (a : Option Addr) (c : Nat) (bs : List Bx) (w : World) (h : SeesX w a c bs) :
    Calls Tryz.prog 59 #[.slice a bs.length c, .func (.func 33) #[] #[]] w fun e w' => ∃ k : Int, e = .returned (.int .i64 k) ∧ decide (0 ≤ k) = !allOk bs bs.length ∧ Below w.heap.size w w' := by
  have hm := h.max
  have hf := h.fits
  unfold maxLen at hm
  go_enter Tryz.func59, Tryz.ntmps59
  go_wp2
  go_loopw [8] (fun s8 wr => ∃ j : Nat, j ≤ bs.length ∧ s8 = .int .i64 j ∧ Hid (allOk bs j = true) ∧ Below w.heap.size w wr) (fun s8 _ => bs.length - (intOf s8).toNat)
  case atStart => exact ⟨0, Nat.zero_le _, rfl, rfl, Below.refl _ _⟩
  case round =>
    obtain ⟨j, hj, rfl, hk, B⟩ := hrel
    rename World => wr
    by_cases hlt : j < bs.length
    · obtain ⟨b1, o1, rfl, hc⟩ := (h.below B).cells (by intro e; simp [e] at hlt)
      obtain ⟨g1, g2, g3, g4⟩ := hc j hlt
      have HS : Hid (allOk bs (j + 1) = okX (bxAt bs j)) := by show _ = _; simp only [allOk, hk.out, Bool.true_and]
      clear hc
      generalize bxAt bs j = y at *
      obtain ⟨y1, y2, y3, y4⟩ := y
      dsimp only at g1 g2 g3 g4
      cases ok : boxOk y1 y2 y3 y4
      · have E : Hid (allOk bs bs.length = false) := allOk_no (HS.out.trans ok) bs.length (by omega)
        clear HS
        go_wp2_with (go_at_call 33; refine (boxWrong_any _ _ _ _ _).mono ?_; rintro e w2 ⟨rfl, hb⟩; rw [ok]; replace B := B.trans (hb.mono B.size); clear hb)
        go_ret
        exact ⟨j, rfl, by rw [E.out]; simp, B⟩
      · have ST2 : Hid (allOk bs (j + 1) = true) := HS.out.trans ok
        clear HS
        go_wp2_with (go_at_call 33; refine (boxWrong_any _ _ _ _ _).mono ?_; rintro e w2 ⟨rfl, hb⟩; rw [ok]; replace B := B.trans (hb.mono B.size); clear hb)
        go_roundw
        case rel => exact ⟨j + 1, by omega, by go_num, ST2, B⟩
        case measure => simp [intOf]; omega
    · obtain rfl : j = bs.length := by omega
      go_wp2
      go_ret
      exact ⟨-1, rfl, by rw [hk.out]; rfl, B⟩

set_option maxHeartbeats 1000000 in
theorem containsBox (a : Option Addr) (c : Nat) (bs : List Bx) (w : World) (h : SeesX w a c bs) :
    Calls Tryz.prog 32 #[.slice a bs.length c, .func (.func 33) #[] #[]] w fun e w' => e = .returned (.bool (!allOk bs bs.length)) ∧ Below w.heap.size w w' := by
  go_enter Tryz.func32, Tryz.ntmps32
  go_wp2_with fail
  refine (indexBox a c bs _ h).mono ?_
  rintro e w1 ⟨k, rfl, hk, hb⟩
  have HK : Hid (decide (0 ≤ k) = !allOk bs bs.length) := hk
  clear hk
  go_wp2
  go_ret
  exact ⟨by rw [← HK.out]; rfl, hb⟩
/-- A node's form is wrong, as the program has it. -/
def formW (bs : List Bx) (is : List Int) (ks : List Nd) : Bool := if 0 < ks.length then (decide (4 < ks.length) || (decide (0 < bs.length) || decide (0 < is.length))) else (decide (bs.length ≠ is.length) || (decide (4 < is.length) || !allOk bs bs.length))

end Go.Proofs.YthompofbdjdloaaGreat
