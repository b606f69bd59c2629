/- Whether two numbers have the same text and sign: laws.sameNum, of two that have the same limbs. -/
import Derived.Test.YtfddiojcahbkfaaSText
import Derived.Deep.RegionHeld3
namespace Go.Proofs.Ytfddiojcahbkfaa
open Go.RowKit

set_option maxRecDepth 20000 in
set_option maxHeartbeats 4000000 in
theorem sameNumC (g : Bool) (a b : Option Addr) (c d : Nat) (xs : List Int) (w : World) (h : Sees w a c xs) (k : Sees w b d xs) :
    Calls Try.prog 13 #[.agg #[.bool g, .slice a xs.length c], .agg #[.bool g, .slice b xs.length d]] w fun e w' => e = .returned (.bool true) ∧ Below w.heap.size w w' := by
  go_enter Try.func13, Try.ntmps13
  go_wp2_with fail
  go_region_held3 (fun w' => w'.cell? ⟨w.heap.size, 0, none⟩ = some (.bool g) ∧ w'.cell? ⟨w.heap.size, 1, none⟩ = some (.slice a xs.length c) ∧ w'.cell? ⟨w.heap.size + 1, 0, none⟩ = some (.bool g) ∧ w'.cell? ⟨w.heap.size + 1, 1, none⟩ = some (.slice b xs.length d))
    (first | exact k1 | exact k2 | (simp [go_sem, World.cell?_alloc_past]))
    (first
    | (go_at_call_of 30 (Value.agg #[Value.bool g, Value.slice a xs.length c]); refine (specNumText g a c xs _ ?_).mono ?_; exact h.below (below2 _ _ _).drew; rintro e w1 ⟨rfl, hb1⟩; have B1 := (below2 w _ _).drew.trans (hb1.mono (by simp <;> omega)); obtain ⟨q1, _⟩ := at_block hb1 (b := w.heap.size) (by simp <;> omega); obtain ⟨q2, _⟩ := at_block hb1 (b := w.heap.size + 1) (by simp <;> omega); have k1 : w1.cell? ⟨w.heap.size, 0, none⟩ = some (.bool g) ∧ w1.cell? ⟨w.heap.size, 1, none⟩ = some (.slice a xs.length c) ∧ w1.cell? ⟨w.heap.size + 1, 0, none⟩ = some (.bool g) ∧ w1.cell? ⟨w.heap.size + 1, 1, none⟩ = some (.slice b xs.length d) := (by simp [q1, q2, go_sem, World.cell?_alloc_past]); clear hb1 q1 q2)
    | (go_at_call_of 30 (Value.agg #[Value.bool g, Value.slice b xs.length d]); refine (specNumText g b d xs _ ?_).mono ?_; exact k.below B1; rintro e w2 ⟨rfl, hb2⟩; have B2 := B1.trans (hb2.mono B1.size); have k2 : w2.cell? ⟨w.heap.size, 0, none⟩ = some (.bool g) ∧ w2.cell? ⟨w.heap.size, 1, none⟩ = some (.slice a xs.length c) ∧ w2.cell? ⟨w.heap.size + 1, 0, none⟩ = some (.bool g) ∧ w2.cell? ⟨w.heap.size + 1, 1, none⟩ = some (.slice b xs.length d) := ⟨bat hb2 k1.1, bat hb2 k1.2.1, bat hb2 k1.2.2.1, bat hb2 k1.2.2.2⟩; clear hb2))
  all_goals
    go_wp2
    go_ret
    exact ⟨rfl, B2⟩
end Go.Proofs.Ytfddiojcahbkfaa
