/- The program's Mul. -/
import Derived.Test.YtfddiojcahbkfaaProd
import Derived.Deep.RegionHeld3
namespace Go.Proofs.Ytfddiojcahbkfaa
open Go.RowKit

set_option maxRecDepth 20000 in
set_option maxHeartbeats 4000000 in
theorem implMul (g g' : Bool) (a b : Option Addr) (c d : Nat) (xs ys : List Int) (w : World) (h : Sees w a c xs) (k : Sees w b d ys) :
    Calls Try.prog 12 #[.agg #[.bool g, .slice a xs.length c], .agg #[.bool g', .slice b ys.length d]] w fun e w' => ∃ v, e = .returned v ∧ IsNum w.heap.size w' v (tk g xs * tk g' ys) ∧ Below w.heap.size w w' := by
  obtain ⟨_, _, t24, _⟩ := tk_facts g xs h.lim
  obtain ⟨_, _, s24, _⟩ := tk_facts g' ys k.lim
  have E : Hid (sg (tkG g xs != tkG g' ys) (val (tkL g xs) * val (tkL g' ys)) = tk g xs * tk g' ys) := by show _ = _; rw [sg_mul]; rfl
  go_enter Try.func12, Try.ntmps12
  go_wp2_with fail
  go_region_held3 (fun w' => w'.cell? ⟨w.heap.size, 0, none⟩ = some (.bool g) ∧ w'.cell? ⟨w.heap.size, 1, none⟩ = some (.slice a xs.length c) ∧ w'.cell? ⟨w.heap.size + 1, 0, none⟩ = some (.bool g') ∧ w'.cell? ⟨w.heap.size + 1, 1, none⟩ = some (.slice b ys.length d))
    (first | exact k1 | exact k2 | exact k3 | exact ⟨(cell_put (by omega)).trans k3.1, (cell_put (by omega)).trans k3.2.1, (cell_put (by omega)).trans k3.2.2.1, (cell_put (by omega)).trans k3.2.2.2⟩ | (simp [go_sem, World.cell?_alloc_past]))
    (first
    | (go_at_call_of 28 (Value.agg #[Value.bool g, Value.slice a xs.length c]); refine (takenC g a c xs _ ?_).mono ?_; exact h.below (below3 _ _ _ _).drew; rintro e w1 ⟨a1, c1, rfl, hs1, hb1⟩; have B1 := (below3 w _ _ _).drew.trans (hb1.mono (by simp <;> omega)); obtain ⟨q1, _⟩ := at_block hb1 (b := w.heap.size) (by simp <;> omega); obtain ⟨q2, _⟩ := at_block hb1 (b := w.heap.size + 1) (by simp <;> omega); obtain ⟨q3, q4⟩ := at_block hb1 (b := w.heap.size + 2) (by simp); have z1 : w.heap.size + 2 < w1.heap.size := (by have := hb1.size; simp at this; omega); have k1 : w1.cell? ⟨w.heap.size, 0, none⟩ = some (.bool g) ∧ w1.cell? ⟨w.heap.size, 1, none⟩ = some (.slice a xs.length c) ∧ w1.cell? ⟨w.heap.size + 1, 0, none⟩ = some (.bool g') ∧ w1.cell? ⟨w.heap.size + 1, 1, none⟩ = some (.slice b ys.length d) := (by simp [q1, q2, go_sem, World.cell?_alloc_past]); clear hb1 q1 q2)
    | (go_at_call_of 28 (Value.agg #[Value.bool g', Value.slice b ys.length d]); refine (takenC g' b d ys _ ?_).mono ?_; exact k.below B1; rintro e w2 ⟨a2, c2, rfl, hs2, hb2⟩; have B2 := B1.trans (hb2.mono B1.size); have k2 : w2.cell? ⟨w.heap.size, 0, none⟩ = some (.bool g) ∧ w2.cell? ⟨w.heap.size, 1, none⟩ = some (.slice a xs.length c) ∧ w2.cell? ⟨w.heap.size + 1, 0, none⟩ = some (.bool g') ∧ w2.cell? ⟨w.heap.size + 1, 1, none⟩ = some (.slice b ys.length d) := ⟨bat hb2 k1.1, bat hb2 k1.2.1, bat hb2 k1.2.2.1, bat hb2 k1.2.2.2⟩; have hs3 := hs1.below hb2; have qa2 := (fun o => (hb2.cell (p := ⟨w.heap.size + 2, o, none⟩) z1).trans (q3 o)); have qb2 := (fun o => (hb2.frozen (p := ⟨w.heap.size + 2, o, none⟩) z1).trans (q4 o)); have z2 : w.heap.size + 2 < w2.heap.size := (by have := hb2.size; omega); clear hb2 q3 q4)
    | (go_at_call 29; refine (productC (tkG g xs) (tkG g' ys) a1 a2 c1 c2 (tkL g xs) (tkL g' ys) _ hs3 hs2 (by omega)).mono ?_; rintro e w3 ⟨v, rfl, hI, hb3⟩; have B3 := B2.trans (hb3.mono B2.size); have k3 : w3.cell? ⟨w.heap.size, 0, none⟩ = some (.bool g) ∧ w3.cell? ⟨w.heap.size, 1, none⟩ = some (.slice a xs.length c) ∧ w3.cell? ⟨w.heap.size + 1, 0, none⟩ = some (.bool g') ∧ w3.cell? ⟨w.heap.size + 1, 1, none⟩ = some (.slice b ys.length d) := ⟨bat hb3 k2.1, bat hb3 k2.2.1, bat hb3 k2.2.2.1, bat hb3 k2.2.2.2⟩; have qa3 := (fun o => (hb3.cell (p := ⟨w.heap.size + 2, o, none⟩) z2).trans (qa2 o)); have qb3 := (fun o => (hb3.frozen (p := ⟨w.heap.size + 2, o, none⟩) z2).trans (qb2 o)); have z3 : w.heap.size + 2 < w3.heap.size := (by have := hb3.size; omega); have hJ := hI.eq E.out; obtain ⟨g5, a5, l5, c5, rfl⟩ := hI.shape; clear hb3 qa2 qb2))
  all_goals
    go_wp2
    exact bodyPost_ret (v := .agg #[.bool g5, .slice a5 l5 c5]) (by simp [results, Try.results12, go_sem, qa3]) rfl ⟨_, rfl, hJ.put' (by omega) (by omega), below_put' B3 (by omega) _ _⟩
end Go.Proofs.Ytfddiojcahbkfaa
