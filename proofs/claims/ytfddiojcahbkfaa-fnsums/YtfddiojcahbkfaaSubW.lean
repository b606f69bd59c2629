/- The program's Sub. -/
import Derived.Test.YtfddiojcahbkfaaNegd
import Derived.Test.YtfddiojcahbkfaaPartsL
import Derived.Deep.RegionHeld3
namespace Go.Proofs.Ytfddiojcahbkfaa
open Go.RowKit

set_option maxRecDepth 20000 in
set_option maxHeartbeats 8000000 in
theorem implSub (g g' : Bool) (a b : Option Addr) (c d : Nat) (xs ys : List Int) (w : World) (h : Sees w a c xs) (k : Sees w b d ys) :
    Calls Try.prog 14 #[.agg #[.bool g, .slice a xs.length c], .agg #[.bool g', .slice b ys.length d]] w fun e w' => ∃ v, e = .returned v ∧ IsNum w.heap.size w' v (tk g xs - tk g' ys) ∧ Below w.heap.size w w' := by
  obtain ⟨_, tn, t24, _⟩ := tk_facts g xs h.lim
  obtain ⟨_, sn, s24, s0⟩ := tk_facts g' ys k.lim
  have E : Hid (psum (fun j => if j = 0 then tkG g xs else (!tkG g' ys && decide (0 < (tkL g' ys).length))) (fun j => if j = 0 then tkL g xs else tkL g' ys) 2 = tk g xs - tk g' ys) := by
    show _ = _
    rw [psum_two, neg_flag s0]; unfold tk; omega
  have HN : Hid (Nrm (tkL g xs) ∧ Nrm (tkL g' ys)) := ⟨tn, sn⟩
  clear tn sn s0
  go_enter Try.func14, Try.ntmps14
  go_wp2_with fail
  go_region_held3 (fun w' => w'.cell? ⟨w.heap.size, 0, none⟩ = some (.bool g) ∧ w'.cell? ⟨w.heap.size, 1, none⟩ = some (.slice a xs.length c) ∧ w'.cell? ⟨w.heap.size + 1, 0, none⟩ = some (.bool g') ∧ w'.cell? ⟨w.heap.size + 1, 1, none⟩ = some (.slice b ys.length d))
    (first | exact k1 | exact k2 | exact k3 | exact ⟨bat (below1 _ _) k3.1, bat (below1 _ _) k3.2.1, bat (below1 _ _) k3.2.2.1, bat (below1 _ _) k3.2.2.2⟩ | exact k4 | exact ⟨(cell_put (by omega)).trans k4.1, (cell_put (by omega)).trans k4.2.1, (cell_put (by omega)).trans k4.2.2.1, (cell_put (by omega)).trans k4.2.2.2⟩ | (simp [go_sem, World.cell?_alloc_past]))
    (first
    | (go_at_call_of 28 (Value.agg #[Value.bool g, Value.slice a xs.length c]); refine (takenC g a c xs _ ?_).mono ?_; exact h.below (below3 _ _ _ _).drew; rintro e w1 ⟨a1, c1, rfl, hs1, hb1⟩; have B1 := (below3 w _ _ _).drew.trans (hb1.mono (by simp <;> omega)); obtain ⟨q1, _⟩ := at_block hb1 (b := w.heap.size) (by simp <;> omega); obtain ⟨q2, _⟩ := at_block hb1 (b := w.heap.size + 1) (by simp <;> omega); obtain ⟨q3, q4⟩ := at_block hb1 (b := w.heap.size + 2) (by simp); have z1 : w.heap.size + 2 < w1.heap.size := (by have := hb1.size; simp at this; omega); have k1 : w1.cell? ⟨w.heap.size, 0, none⟩ = some (.bool g) ∧ w1.cell? ⟨w.heap.size, 1, none⟩ = some (.slice a xs.length c) ∧ w1.cell? ⟨w.heap.size + 1, 0, none⟩ = some (.bool g') ∧ w1.cell? ⟨w.heap.size + 1, 1, none⟩ = some (.slice b ys.length d) := (by simp [q1, q2, go_sem, World.cell?_alloc_past]); clear hb1 q1 q2)
    | (go_at_call_of 28 (Value.agg #[Value.bool g', Value.slice b ys.length d]); refine (takenC g' b d ys _ ?_).mono ?_; exact k.below B1; rintro e w2 ⟨a2, c2, rfl, hs2, hb2⟩; have B2 := B1.trans (hb2.mono B1.size); have k2 : w2.cell? ⟨w.heap.size, 0, none⟩ = some (.bool g) ∧ w2.cell? ⟨w.heap.size, 1, none⟩ = some (.slice a xs.length c) ∧ w2.cell? ⟨w.heap.size + 1, 0, none⟩ = some (.bool g') ∧ w2.cell? ⟨w.heap.size + 1, 1, none⟩ = some (.slice b ys.length d) := ⟨bat hb2 k1.1, bat hb2 k1.2.1, bat hb2 k1.2.2.1, bat hb2 k1.2.2.2⟩; have hs3 := hs1.below hb2; have qa2 := (fun o => (hb2.cell (p := ⟨w.heap.size + 2, o, none⟩) z1).trans (q3 o)); have qb2 := (fun o => (hb2.frozen (p := ⟨w.heap.size + 2, o, none⟩) z1).trans (q4 o)); have z2 : w.heap.size + 2 < w2.heap.size := (by have := hb2.size; omega); clear hb2 q3 q4)
    | (go_at_call 31; refine (negatedC (tkG g' ys) a2 c2 (tkL g' ys).length _ (by omega)).mono ?_; rintro e w3 ⟨rfl, hb3⟩; have B3 := B2.trans (hb3.mono B2.size); have k3 : w3.cell? ⟨w.heap.size, 0, none⟩ = some (.bool g) ∧ w3.cell? ⟨w.heap.size, 1, none⟩ = some (.slice a xs.length c) ∧ w3.cell? ⟨w.heap.size + 1, 0, none⟩ = some (.bool g') ∧ w3.cell? ⟨w.heap.size + 1, 1, none⟩ = some (.slice b ys.length d) := ⟨bat hb3 k2.1, bat hb3 k2.2.1, bat hb3 k2.2.2.1, bat hb3 k2.2.2.2⟩; have hs4 := hs3.below hb3; have hs5 := hs2.below hb3; have qa3 := (fun o => (hb3.cell (p := ⟨w.heap.size + 2, o, none⟩) z2).trans (qa2 o)); have qb3 := (fun o => (hb3.frozen (p := ⟨w.heap.size + 2, o, none⟩) z2).trans (qb2 o)); have z3 : w.heap.size + 2 < w3.heap.size := (by have := hb3.size; omega); clear hb3 qa2 qb2)
    | (go_at_call 27; refine (sumC w3.heap.size 2 24 _ _ _ _ _ (Parts.two (cell_new w3 _ _ 0 rfl) (cell_new w3 _ _ 1 rfl) (cell_new w3 _ _ 2 rfl) (cell_new w3 _ _ 3 rfl) (hs4.below (below1 _ _)) (hs5.below (below1 _ _)) HN.out.1 HN.out.2 t24 s24) (by decide)).mono ?_; rintro e w4 ⟨v, rfl, hI, hb4⟩; have hJ := hI.eq E.out; obtain ⟨g5, a5, l5, c5, rfl⟩ := hI.shape; have hbb := (below1 w3 _).trans (hb4.mono (below1 w3 _).size); have B4 := B3.trans (hbb.mono B3.size); have k4 : w4.cell? ⟨w.heap.size, 0, none⟩ = some (.bool g) ∧ w4.cell? ⟨w.heap.size, 1, none⟩ = some (.slice a xs.length c) ∧ w4.cell? ⟨w.heap.size + 1, 0, none⟩ = some (.bool g') ∧ w4.cell? ⟨w.heap.size + 1, 1, none⟩ = some (.slice b ys.length d) := ⟨bat hbb k3.1, bat hbb k3.2.1, bat hbb k3.2.2.1, bat hbb k3.2.2.2⟩; have q7 := (fun o => (hbb.cell (p := ⟨w.heap.size + 2, o, none⟩) z3).trans (qa3 o)); have q8 := (fun o => (hbb.frozen (p := ⟨w.heap.size + 2, o, none⟩) z3).trans (qb3 o)); have z4 : w.heap.size + 2 < w4.heap.size := (by have := hbb.size; omega); clear hbb hb4 qa3 qb3))
  all_goals
    simp only [World.size_alloc] at hJ
    go_wp2
    exact bodyPost_ret (v := .agg #[.bool g5, .slice a5 l5 c5]) (by simp [results, Try.results14, go_sem, q7]) rfl ⟨_, rfl, hJ.put' (by omega) (by omega), below_put' B4 (by omega) _ _⟩
end Go.Proofs.Ytfddiojcahbkfaa
