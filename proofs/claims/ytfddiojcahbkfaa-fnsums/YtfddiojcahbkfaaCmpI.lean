/- The program's Cmp. -/
import Derived.Test.YtfddiojcahbkfaaCmpW
namespace Go.Proofs.Ytfddiojcahbkfaa
open Go.RowKit

set_option maxRecDepth 20000 in
set_option maxHeartbeats 4000000 in
theorem implCmp (g g' : Bool) (a b : Option Addr) (c d : Nat) (xs ys : List Int) (w : World) (h : Sees w a c xs) (k : Sees w b d ys) :
    Calls Try.prog 15 #[.agg #[.bool g, .slice a xs.length c], .agg #[.bool g', .slice b ys.length d]] w fun e w' => e = .returned (.int .i64 (cmpZ (tk g xs) (tk g' ys))) ∧ Below w.heap.size w w' := by
  obtain ⟨_, tn, _, t0⟩ := tk_facts g xs h.lim
  obtain ⟨_, sn, _, s0⟩ := tk_facts g' ys k.lim
  have HN : Hid ((Nrm (tkL g xs) ∧ (tkL g xs = [] → tkG g xs = false)) ∧ Nrm (tkL g' ys) ∧ (tkL g' ys = [] → tkG g' ys = false)) := ⟨⟨tn, t0⟩, sn, s0⟩
  clear tn sn t0 s0
  go_enter Try.func15, Try.ntmps15
  go_wp2_with fail
  go_region_held3 (fun w' => w'.cell? ⟨w.heap.size, 0, none⟩ = some (.bool g) ∧ w'.cell? ⟨w.heap.size, 1, none⟩ = some (.slice a xs.length c) ∧ w'.cell? ⟨w.heap.size + 1, 0, none⟩ = some (.bool g') ∧ w'.cell? ⟨w.heap.size + 1, 1, none⟩ = some (.slice b ys.length d))
    (first | exact k1 | exact k2 | exact k3 | (simp [go_sem, World.cell?_alloc_past]))
    (first
    | (go_at_call_of 28 (Value.agg #[Value.bool g, Value.slice a xs.length c]); refine (takenC g a c xs _ ?_).mono ?_; exact h.below (below2 _ _ _).drew; rintro e w1 ⟨a1, c1, rfl, hs1, hb1⟩; have B1 := (below2 w _ _).drew.trans (hb1.mono (by simp <;> omega)); obtain ⟨q1, _⟩ := at_block hb1 (b := w.heap.size) (by simp <;> omega); obtain ⟨q2, _⟩ := at_block hb1 (b := w.heap.size + 1) (by simp <;> omega); have k1 : w1.cell? ⟨w.heap.size, 0, none⟩ = some (.bool g) ∧ w1.cell? ⟨w.heap.size, 1, none⟩ = some (.slice a xs.length c) ∧ w1.cell? ⟨w.heap.size + 1, 0, none⟩ = some (.bool g') ∧ w1.cell? ⟨w.heap.size + 1, 1, none⟩ = some (.slice b ys.length d) := (by simp [q1, q2, go_sem, World.cell?_alloc_past]); clear hb1 q1 q2)
    | (go_at_call_of 28 (Value.agg #[Value.bool g', Value.slice b ys.length d]); refine (takenC g' b d ys _ ?_).mono ?_; exact k.below B1; rintro e w2 ⟨a2, c2, rfl, hs2, hb2⟩; have B2 := B1.trans (hb2.mono B1.size); have k2 : w2.cell? ⟨w.heap.size, 0, none⟩ = some (.bool g) ∧ w2.cell? ⟨w.heap.size, 1, none⟩ = some (.slice a xs.length c) ∧ w2.cell? ⟨w.heap.size + 1, 0, none⟩ = some (.bool g') ∧ w2.cell? ⟨w.heap.size + 1, 1, none⟩ = some (.slice b ys.length d) := ⟨bat hb2 k1.1, bat hb2 k1.2.1, bat hb2 k1.2.2.1, bat hb2 k1.2.2.2⟩; have hs3 := hs1.below hb2; clear hb2)
    | (go_at_call 32; refine (comparedC (tkG g xs) (tkG g' ys) a1 a2 c1 c2 (tkL g xs) (tkL g' ys) _ hs3 hs2 HN.out.1.1 HN.out.2.1 HN.out.1.2 HN.out.2.2).mono ?_; rintro e w3 ⟨rfl, hb3⟩; have B3 := B2.trans (hb3.mono B2.size); have k3 : w3.cell? ⟨w.heap.size, 0, none⟩ = some (.bool g) ∧ w3.cell? ⟨w.heap.size, 1, none⟩ = some (.slice a xs.length c) ∧ w3.cell? ⟨w.heap.size + 1, 0, none⟩ = some (.bool g') ∧ w3.cell? ⟨w.heap.size + 1, 1, none⟩ = some (.slice b ys.length d) := ⟨bat hb3 k2.1, bat hb3 k2.2.1, bat hb3 k2.2.2.1, bat hb3 k2.2.2.2⟩; clear hb3))
  all_goals
    go_wp2
    go_ret
    exact ⟨rfl, B3⟩
end Go.Proofs.Ytfddiojcahbkfaa
