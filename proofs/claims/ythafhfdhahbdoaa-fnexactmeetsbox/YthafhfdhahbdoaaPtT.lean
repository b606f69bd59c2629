/- Turns: of the program, of the specification. -/
import Derived.Test.YthafhfdhahbdoaaPtG
namespace Go.Proofs.Ythafhfdhahbdoaa
open Go.RowKit

set_option maxRecDepth 20000 in
set_option maxHeartbeats 2000000 in
theorem turn_any (x1 y1 x2 y2 x3 y3 : Int) (w : World) (c1 : Crd x1) (d1 : Crd y1) (c2 : Crd x2) (d2 : Crd y2) (c3 : Crd x3) (d3 : Crd y3) :
    Calls Try.prog 88 #[.agg #[.int .i64 x1, .int .i64 y1], .agg #[.int .i64 x2, .int .i64 y2], .agg #[.int .i64 x3, .int .i64 y3]] w fun e w' => e = .returned (.int .i64 (sgn1 (ar x1 y1 x2 y2 x3 y3))) ∧ Below w.heap.size w w' := by
  have k0 := ptbox3 w x1 y1 x2 y2 x3 y3 35
  have B0 := ptbelow3 w x1 y1 x2 y2 x3 y3 35
  have e1 := c2.dif c1
  have e2 := d2.dif d1
  have e3 := c3.dif c1
  have e4 := d3.dif d1
  have H : Hid ((x2 - x1) * (y3 - y1) - (y2 - y1) * (x3 - x1) = ar x1 y1 x2 y2 x3 y3) := (rfl : _ = ar x1 y1 x2 y2 x3 y3)
  go_enter Try.func88, Try.ntmps88
  go_wp2_with fail
  generalize (((w.alloc (.cells #[.int .i64 x1, .int .i64 y1] 35)).alloc (.cells #[.int .i64 x2, .int .i64 y2] 35)).alloc (.cells #[.int .i64 x3, .int .i64 y3] 35)) = W0 at *
  have B : Below W0.heap.size W0 W0 := Below.refl _ _
  go_region_held3 (fun w' => w'.cell? ⟨w.heap.size, 0, none⟩ = some (.int .i64 x1) ∧ w'.cell? ⟨w.heap.size, 1, none⟩ = some (.int .i64 y1) ∧ w'.cell? ⟨w.heap.size + 1, 0, none⟩ = some (.int .i64 x2) ∧ w'.cell? ⟨w.heap.size + 1, 1, none⟩ = some (.int .i64 y2) ∧ w'.cell? ⟨w.heap.size + 1 + 1, 0, none⟩ = some (.int .i64 x3) ∧ w'.cell? ⟨w.heap.size + 1 + 1, 1, none⟩ = some (.int .i64 y3))
    (first | exact k0 | exact ptkeep3 k0 B | exact ptkeep3 k0 B.drew)
    (first
    | (go_at_call 92; refine (way_any _ _ _ _ _ (by assumption) (by assumption) (by assumption) (by assumption)).mono ?_; rintro e w1 ⟨rfl, hb⟩; (first | replace B := B.trans (hb.mono B.size) | replace B := B.drew.trans (hb.mono B.drew.size)))
    | (go_at_call 76; refine (across_any _ _ _ _ _ (by assumption) (by assumption) (by assumption) (by assumption)).mono ?_; rintro e w1 ⟨rfl, hb⟩; (first | replace B := B.trans (hb.mono B.size) | replace B := B.drew.trans (hb.mono B.drew.size)); rw [H.out])
    | (go_at_call 91; refine (compare0 _ _).mono ?_; rintro e w1 ⟨rfl, rfl⟩))
  all_goals
    go_wp2
    go_ret
    exact ⟨rfl, B0.trans (B.mono B0.size)⟩

end Go.Proofs.Ythafhfdhahbdoaa
