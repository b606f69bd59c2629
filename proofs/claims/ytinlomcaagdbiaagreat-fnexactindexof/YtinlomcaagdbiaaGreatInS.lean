/- Where a point lies by a ring: of the specification (l5In). -/
import Derived.Test.YtinlomcaagdbiaaGreatRing
import Derived.Test.YtinlomcaagdbiaaGreatPtM
import Derived.Test.YtinlomcaagdbiaaGreatParM
namespace Go.Proofs.YtinlomcaagdbiaaGreat
open Go.RowKit

def onE (ps : List (Int × Int)) (px py : Int) (i : Nat) : Bool := onB (ptA ps i).1 (ptA ps i).2 (ptA ps (nx ps.length i)).1 (ptA ps (nx ps.length i)).2 px py
def onR (ps : List (Int × Int)) (px py : Int) : Nat → Bool
 | 0 => false
 | i + 1 => onR ps px py i || onE ps px py i
def hsE (ps : List (Int × Int)) (px py : Int) (i : Nat) : Bool := hitS (ptA ps i).1 (ptA ps i).2 (ptA ps (nx ps.length i)).1 (ptA ps (nx ps.length i)).2 px py
def inV (ps : List (Int × Int)) (px py : Int) : Int := if onR ps px py ps.length then 1 else if par (hsE ps px py) ps.length then 2 else 0
theorem onR_mono {ps : List (Int × Int)} {px py : Int} : ∀ {k m : Nat}, k ≤ m → onR ps px py k = true → onR ps px py m = true
 | k, 0, h, e => by
   obtain rfl : k = 0 := by omega
   exact e
 | k, m + 1, h, e => by
  rcases Nat.lt_or_ge m k with c | c
  ·obtain rfl : k = m + 1 := by omega
   exact e
  ·simp only [onR]
   rw [onR_mono c e]
   rfl
theorem hitS_val {ax ay bx bz px py : Int} {b1 b2 b3 b4 b5 b6 : Bool} (h1 : decide (py < ay) = b1) (h2 : decide (py < bz) = b2) (h3 : decide (ay < bz) = b3) (h4 : decide (0 < ar ax ay bx bz px py) = b4) (h5 : decide (bz < ay) = b5) (h6 : decide (ar ax ay bx bz px py < 0) = b6) : hitS ax ay bx bz px py = ((b1 != b2) && ((b3 && b4) || (b5 && b6))) := by unfold hitS; rw [h1, h2, h3, h4, h5, h6]

set_option maxRecDepth 20000 in
set_option maxHeartbeats 4000000 in
theorem l5In_any (a : Option Addr) (c : Nat) (ps : List (Int × Int)) (px py : Int) (w : World) (h : SeesP w a c ps) (ok : okL ps = true) (cx : Crd px) (cy : Crd py) :
  Calls Tryz.prog 91 #[.slice a ps.length c, .agg #[.int .i64 px, .int .i64 py]] w fun e w' => e = .returned (.int .i64 (inV ps px py)) ∧ Below w.heap.size w w' := by
 have hm := h.max
 have hf := h.fits
 unfold maxLen at hm
 have V0 := Box2.new w (lo := w.heap.size) (Nat.le_refl _) (.int .i64 px) (.int .i64 py) 25
 have B0 := below1 w (.cells #[.int .i64 px, .int .i64 py] 25)
 go_enter Tryz.func91, Tryz.ntmps91
 go_wp2
 generalize w.alloc (.cells #[.int .i64 px, .int .i64 py] 25) = W at *
 go_loopw [5, 6, 7, 8, 9] (fun s5 s6 _ _ _ wr => ∃ j : Nat, j ≤ ps.length ∧ s6 = .int .i64 j ∧ s5 = .bool (par (hsE ps px py) j) ∧ Hid (onR ps px py j = false) ∧ Below W.heap.size W wr) (fun _ s6 _ _ _ _ => ps.length - (intOf s6).toNat)
 case atStart => exact ⟨0, Nat.zero_le _, rfl, rfl, rfl, Below.refl _ _⟩
 case round =>
  obtain ⟨j, hj, rfl, rfl, T, B⟩ := hrel
  rename World => wr
  by_cases hlt : j < ps.length
  ·obtain ⟨a1, a2⟩ := okL_at ok hlt
   obtain ⟨a3, a4⟩ := okL_at ok (nx_lt hlt)
   obtain ⟨od, Hod⟩ : ∃ b, Hid (par (hsE ps px py) j = b) := ⟨_, rfl⟩
   rw [Hod.out]
   go_wp2_with fail
   refine (l5Edge_any a c ps j _ ((h.below B0).below B) hlt).mono ?_
   rintro e w1 ⟨rfl, hb⟩
   replace B := B.trans (hb.mono B.size)
   clear hb
   have E1 : Hid (onE ps px py j = onB (ptA ps j).1 (ptA ps j).2 (ptA ps (nx ps.length j)).1 (ptA ps (nx ps.length j)).2 px py) := (rfl : onE ps px py j = _)
   have E2 : Hid (hsE ps px py j = hitS (ptA ps j).1 (ptA ps j).2 (ptA ps (nx ps.length j)).1 (ptA ps (nx ps.length j)).2 px py) := (rfl : hsE ps px py j = _)
   generalize (ptA ps j).1 = x at *
   generalize (ptA ps j).2 = y at *
   generalize (ptA ps (nx ps.length j)).1 = u at *
   generalize (ptA ps (nx ps.length j)).2 = v at *
   have V1 := (Box2.new w1 (lo := w.heap.size) (Nat.le_trans B0.size B.size) (.int .i64 x) (.int .i64 y) 25).below (below1 _ (.cells #[.int .i64 u, .int .i64 v] 25))
   have V2 := Box2.new (w1.alloc (.cells #[.int .i64 x, .int .i64 y] 25)) (lo := w.heap.size) (by have := Nat.le_trans B0.size B.size; simp; omega) (.int .i64 u) (.int .i64 v) 25
   rw [World.size_alloc] at V2
   have bn := below2 w1 (.cells #[.int .i64 x, .int .i64 y] 25) (.cells #[.int .i64 u, .int .i64 v] 25)
   replace B := B.trans (bn.mono B.size)
   clear bn
   obtain ⟨g0, g1, _, _⟩ := id V1
   obtain ⟨g2, g3, _, _⟩ := id V2
   obtain ⟨g4, g5, _, _⟩ := V0.below B
   go_wp2_with fail
   clear g0 g1 g2 g3 g4 g5
   generalize (w1.alloc (.cells #[.int .i64 x, .int .i64 y] 25)).alloc (.cells #[.int .i64 u, .int .i64 v] 25) = W1 at *
   generalize w1.heap.size = q1 at *
   refine (l3On_any x y u v px py _ a1 a2 a3 a4 cx cy).mono ?_
   rintro e w2 ⟨rfl, hb⟩
   replace B := B.trans (hb.mono B.size)
   replace V1 := V1.below hb
   replace V2 := V2.below hb
   clear hb
   cases ho : onB x y u v px py
   ·rw [ho] at E1
    have T2 : Hid (onR ps px py (j + 1) = false) := by show _ = _; simp only [onR]; rw [T.out, E1.out]; rfl
    clear T E1
    obtain ⟨g0, g1, _, _⟩ := id V1
    obtain ⟨g2, g3, _, _⟩ := id V2
    obtain ⟨g4, g5, _, _⟩ := V0.below B
    cases h1 : decide (py < y) <;> cases h2 : decide (py < v)
    ·have P : Hid (par (hsE ps px py) (j + 1) = od) := by show _ = _; simp only [par]; rw [Hod.out, E2.out, hitS_val h1 h2 rfl rfl rfl rfl]; simp
     go_wp2
     go_roundw
     case rel => exact ⟨j + 1, by omega, by go_num, by rw [P.out], T2, B⟩
     case measure => simp [intOf]; omega
    ·go_wp2_with fail
     clear g0 g1 g2 g3 g4 g5
     refine (l3Area_any x y u v px py _ a1 a2 a3 a4 cx cy).mono ?_
     rintro e w3 ⟨rfl, hb⟩
     replace B := B.trans (hb.mono B.size)
     replace V1 := V1.below hb
     replace V2 := V2.below hb
     clear hb
     have P0 : Hid (par (hsE ps px py) (j + 1) = (od ^^ hitS x y u v px py)) := by show _ = _; simp only [par]; rw [Hod.out, E2.out]
     cases h3 : decide (y < v) <;> cases h4 : decide (0 < ar x y u v px py) <;> cases h5 : decide (v < y) <;> cases h6 : decide (ar x y u v px py < 0)
     all_goals
      have P := P0
      rw [hitS_val h1 h2 h3 h4 h5 h6] at P
      clear P0 E2 Hod
      obtain ⟨g0, g1, _, _⟩ := id V1
      obtain ⟨g2, g3, _, _⟩ := id V2
      obtain ⟨g4, g5, _, _⟩ := V0.below B
      go_wp2
      go_roundw
      case rel => exact ⟨j + 1, by omega, by go_num, by rw [P.out]; cases od <;> rfl, T2, B⟩
      case measure => simp [intOf]; omega
    ·go_wp2_with fail
     clear g0 g1 g2 g3 g4 g5
     refine (l3Area_any x y u v px py _ a1 a2 a3 a4 cx cy).mono ?_
     rintro e w3 ⟨rfl, hb⟩
     replace B := B.trans (hb.mono B.size)
     replace V1 := V1.below hb
     replace V2 := V2.below hb
     clear hb
     have P0 : Hid (par (hsE ps px py) (j + 1) = (od ^^ hitS x y u v px py)) := by show _ = _; simp only [par]; rw [Hod.out, E2.out]
     cases h3 : decide (y < v) <;> cases h4 : decide (0 < ar x y u v px py) <;> cases h5 : decide (v < y) <;> cases h6 : decide (ar x y u v px py < 0)
     all_goals
      have P := P0
      rw [hitS_val h1 h2 h3 h4 h5 h6] at P
      clear P0 E2 Hod
      obtain ⟨g0, g1, _, _⟩ := id V1
      obtain ⟨g2, g3, _, _⟩ := id V2
      obtain ⟨g4, g5, _, _⟩ := V0.below B
      go_wp2
      go_roundw
      case rel => exact ⟨j + 1, by omega, by go_num, by rw [P.out]; cases od <;> rfl, T2, B⟩
      case measure => simp [intOf]; omega
    ·have P : Hid (par (hsE ps px py) (j + 1) = od) := by show _ = _; simp only [par]; rw [Hod.out, E2.out, hitS_val h1 h2 rfl rfl rfl rfl]; simp
     go_wp2
     go_roundw
     case rel => exact ⟨j + 1, by omega, by go_num, by rw [P.out], T2, B⟩
     case measure => simp [intOf]; omega
   ·rw [ho] at E1
    have R : onR ps px py (j + 1) = true := by simp only [onR]; rw [E1.out]; simp
    have Z : Hid (inV ps px py = 1) := by show _ = _; unfold inV; rw [onR_mono (show j + 1 ≤ ps.length by omega) R]; rfl
    clear R
    go_wp2
    go_ret
    exact ⟨by rw [Z.out] <;> rfl, B0.trans (B.mono B0.size)⟩
  ·obtain rfl : j = ps.length := by omega
   cases hp : par (hsE ps px py) ps.length
   ·have Z : Hid (inV ps px py = 0) := by show _ = _; unfold inV; rw [T.out, hp]; rfl
    go_wp2
    go_ret
    exact ⟨by rw [Z.out] <;> rfl, B0.trans (B.mono B0.size)⟩
   ·have Z : Hid (inV ps px py = 2) := by show _ = _; unfold inV; rw [T.out, hp]; rfl
    go_wp2
    go_ret
    exact ⟨by rw [Z.out] <;> rfl, B0.trans (B.mono B0.size)⟩
end Go.Proofs.YtinlomcaagdbiaaGreat
