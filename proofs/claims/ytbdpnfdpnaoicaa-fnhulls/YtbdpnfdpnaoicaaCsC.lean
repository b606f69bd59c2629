/- The closure that CurveSort sorts by: first the keys are compared, then the places. -/
import Derived.Test.YtbdpnfdpnaoicaaBase
import Derived.Sort.Grow
import Derived.Deep.Cut
namespace Go.Proofs.Ytbdpnfdpnaoicaa
open Go.RowKit

/-- Draws, and blocks behind all others. -/
structure Grw (W w' : World) : Prop where
  ex : ∃ q os, w' = Go.Sort.grow (W.drewN q) os
theorem Grw.start (W : World) : Grw W W.drew := ⟨1, #[], by rw [Go.Sort.grow_empty]; rfl⟩
theorem Grw.alloc {W w' : World} (h : Grw W w') (o : Obj) : Grw W (w'.alloc o) := by
  obtain ⟨q, os, rfl⟩ := h.ex
  exact ⟨q, os.push o, by simp [Go.Sort.grow, World.alloc]⟩
theorem Grw.size {W w' : World} (h : Grw W w') : W.heap.size ≤ w'.heap.size := by
  obtain ⟨q, os, rfl⟩ := h.ex
  simp [Go.Sort.grow, World.drewN]
theorem Grw.below {W w' : World} (h : Grw W w') : Below W.heap.size W w' := by
  obtain ⟨q, os, rfl⟩ := h.ex
  refine ⟨rfl, rfl, rfl, by simp [Go.Sort.grow, World.drewN], fun k hk => ?_⟩
  simp [Go.Sort.grow, World.drewN, Array.getElem?_append, hk]

def cmp2 (x y : Int) : Int := if x < y then -1 else if y < x then 1 else 0
set_option maxHeartbeats 1000000 in
theorem compare_any (x y : Int) (w : World) :
    Calls Try.prog 39 #[.int .i64 x, .int .i64 y] w fun e w' => e = .returned (.int .i64 (cmp2 x y)) ∧ w' = w := by
  by_cases h1 : x < y
  · have V : Hid (cmp2 x y = -1) := by show _ = _; unfold cmp2; rw [if_pos h1]
    go_enter Try.func39, Try.ntmps39
    go_wp2_with (go_at_call 59; refine (isNaN_any _ _).mono ?_; rintro e w' ⟨rfl, rfl⟩)
    go_ret
    exact ⟨by rw [V.out]; first | done | rfl, rfl⟩
  · by_cases h2 : y < x
    · have V : Hid (cmp2 x y = 1) := by show _ = _; unfold cmp2; rw [if_neg h1, if_pos h2]
      go_enter Try.func39, Try.ntmps39
      go_wp2_with (go_at_call 59; refine (isNaN_any _ _).mono ?_; rintro e w' ⟨rfl, rfl⟩)
      go_ret
      exact ⟨by rw [V.out]; first | done | rfl, rfl⟩
    · have V : Hid (cmp2 x y = 0) := by show _ = _; unfold cmp2; rw [if_neg h1, if_neg h2]
      go_enter Try.func39, Try.ntmps39
      go_wp2_with (go_at_call 59; refine (isNaN_any _ _).mono ?_; rintro e w' ⟨rfl, rfl⟩)
      go_ret
      exact ⟨by rw [V.out]; first | done | rfl, rfl⟩

/-- The first that is not 0. -/
def or2 (c d : Int) : Int := if c ≠ 0 then c else d
set_option maxHeartbeats 1000000 in
theorem or2_any (b : Nat) (c d : Int) (w : World) (h0 : w.cell? ⟨b, 0, none⟩ = some (.int .i64 c)) (h1 : w.cell? ⟨b, 1, none⟩ = some (.int .i64 d)) :
    Calls Try.prog 38 #[.slice (some ⟨b, 0, none⟩) 2 2] w fun e w' => e = .returned (.int .i64 (or2 c d)) ∧ w' = w := by
  go_enter Try.func38, Try.ntmps38
  go_wp2
  go_loopw [8] (fun s8 wr => ∃ k : Nat, k ≤ 2 ∧ s8 = .int .i64 k ∧ Hid (0 < k → c = 0) ∧ Hid (1 < k → d = 0) ∧ Hid (wr = w)) (fun s8 _ => 2 - (intOf s8).toNat)
  case atStart => exact ⟨0, by omega, rfl, fun h => absurd h (by omega), fun h => absurd h (by omega), rfl⟩
  case round =>
    obtain ⟨k, hk, rfl, H1, H2, hw⟩ := hrel
    have hw' := hw.out
    subst hw'
    have h3 : k = 0 ∨ k = 1 ∨ k = 2 := by omega
    rcases h3 with rfl | rfl | rfl
    · by_cases hc : c = 0
      · subst hc
        go_wp2
        go_roundw
        case rel => exact ⟨1, by omega, by go_num, fun _ => (by first | exact rfl | exact trivial), fun h => absurd h (by omega), (by first | exact trivial | exact rfl)⟩
        case measure => simp [intOf]
      · have V : or2 c d = c := by unfold or2; rw [if_pos hc]
        have V2 : Hid (or2 c d = c) := V
        have hc2 : (c != 0) = true := by simpa using hc
        clear V
        go_wp2
        go_ret
        exact ⟨by rw [V2.out]; first | done | rfl, rfl⟩
    · have hc := H1.out (by omega)
      subst hc
      by_cases hd : d = 0
      · subst hd
        go_wp2
        go_roundw
        case rel => exact ⟨2, by omega, by go_num, fun _ => (by first | exact rfl | exact trivial), fun _ => (by first | exact rfl | exact trivial), (by first | exact trivial | exact rfl)⟩
        case measure => simp [intOf]
      · have V2 : Hid (or2 0 d = d) := by show _ = _; unfold or2; rw [if_neg (by simp)]
        have hc2 : (d != 0) = true := by simpa using hd
        go_wp2
        go_ret
        exact ⟨by rw [V2.out]; first | done | rfl, rfl⟩
    · have hc := H1.out (by omega)
      have hd := H2.out (by omega)
      subst hc hd
      go_wp2
      go_ret
      exact ⟨by first | rfl | simp [or2], rfl⟩

end Go.Proofs.Ytbdpnfdpnaoicaa
