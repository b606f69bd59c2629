/- The specification's Neg and Add. -/
import Derived.Test.YthfgeihgmknkcaaEq
import Derived.Test.YthfgeihgmknkcaaSAdd
import Derived.Deep.RegionHeld3
namespace Go.Proofs.Ythfgeihgmknkcaa
open Go.RowKit

set_option maxHeartbeats 4000000 in
theorem specNeg (g : Bool) (a : Option Addr) (c : Nat) (xs : List Int) (w : World) (h : Sees w a c xs) :
    Calls Try.prog 35 #[.agg #[.bool g, .slice a xs.length c]] w fun e w' => ∃ v, e = .returned v ∧ IsNum w.heap.size w' v (- tk g xs) ∧ Below w.heap.size w w' := by
  obtain ⟨_, _, t24, _⟩ := tk_facts g xs h.lim
  have E : Hid (sg (!tkG g xs) (val (tkL g xs)) = - tk g xs) := by show _ = _; rw [sg_not]; rfl
  go_enter Try.func35, Try.ntmps35
  go_wp2_with fail
  go_region_held3 (fun w' => w'.cell? ⟨w.heap.size, 0, none⟩ = some (.bool g) ∧ w'.cell? ⟨w.heap.size, 1, none⟩ = some (.slice a xs.length c))
    (first | exact ⟨k0, k1⟩ | exact ⟨m0, m1⟩ | exact ⟨n0, n1⟩ | exact ⟨(cell_put (by omega)).trans n0, (cell_put (by omega)).trans n1⟩ | (simp [go_sem, World.cell?_alloc_past]))
    (first
    | (go_at_call 73; refine (l1NegC g a c xs _ ?_).mono ?_; exact h.below (below2 _ _ _).drew; rintro e w1 ⟨rfl, hb1⟩; have B1 := (below2 w _ _).drew.trans (hb1.mono (by simp <;> omega)); obtain ⟨q1, _⟩ := at_block hb1 (b := w.heap.size) (by simp <;> omega); obtain ⟨q3, q4⟩ := at_block hb1 (b := w.heap.size + 1) (by simp); have z1 : w.heap.size + 1 < w1.heap.size := (by have := hb1.size; simp at this; omega); have k0 : w1.cell? ⟨w.heap.size, 0, none⟩ = some (.bool g) := (by simp [q1, go_sem]); have k1 : w1.cell? ⟨w.heap.size, 1, none⟩ = some (.slice a xs.length c) := (by simp [q1, go_sem]); clear hb1 q1)
    | (go_at_call 74; refine (l1MagC g a c xs _ ?_).mono ?_; exact h.below B1; rintro e w2 ⟨a2, c2, rfl, hs2, hb2⟩; have B2 := B1.trans (hb2.mono B1.size); have m0 := bat hb2 k0; have m1 := bat hb2 k1; have q5 := (fun o => (hb2.cell (p := ⟨w.heap.size + 1, o, none⟩) z1).trans (q3 o)); have q6 := (fun o => (hb2.frozen (p := ⟨w.heap.size + 1, o, none⟩) z1).trans (q4 o)); have z2 : w.heap.size + 1 < w2.heap.size := (by have := hb2.size; omega); clear hb2 q3 q4)
    | (go_at_call 36; refine (l1NumC (!tkG g xs) a2 c2 (tkL g xs) _ hs2 (by omega)).mono ?_; rintro e w3 ⟨v, rfl, hI, hb3⟩; have hJ := hI.eq E.out; obtain ⟨g5, a5, l5, c5, rfl⟩ := hI.shape; have B3 := B2.trans (hb3.mono B2.size); have n0 := bat hb3 m0; have n1 := bat hb3 m1; have q7 := (fun o => (hb3.cell (p := ⟨w.heap.size + 1, o, none⟩) z2).trans (q5 o)); have q8 := (fun o => (hb3.frozen (p := ⟨w.heap.size + 1, o, none⟩) z2).trans (q6 o)); have z3 : w.heap.size + 1 < w3.heap.size := (by have := hb3.size; omega); clear hb3 q5 q6))
  all_goals
    go_wp2
    exact bodyPost_ret (v := .agg #[.bool g5, .slice a5 l5 c5]) (by simp [results, Try.results35, go_sem, q7]) rfl ⟨_, rfl, hJ.put' (by omega) (by omega), below_put' B3 (by omega) _ _⟩
end Go.Proofs.Ythfgeihgmknkcaa
