/- The specification's Neg and Add. -/
import Derived.Test.YtniphhgjfdjjgahSAdd
namespace Go.Proofs.Ytniphhgjfdjjgah
open Go.RowKit

theorem cell_put {w : World} {b b' o : Nat} {u0 u1 : Value} (h : b' ≠ b) : ((w.setCell ⟨b, 0, none⟩ u0).setCell ⟨b, 1, none⟩ u1).cell? ⟨b', o, none⟩ = w.cell? ⟨b', o, none⟩ := by
  rw [World.cell?_setCell_other _ _ _ _ (by intro e; simp only [Addr.mk.injEq] at e; exact h e.1.symm), World.cell?_setCell_other _ _ _ _ (by intro e; simp only [Addr.mk.injEq] at e; exact h e.1.symm)]
theorem sg_not (g : Bool) (v : Int) : sg (!g) v = - sg g v := by cases g <;> simp [sg]

set_option maxHeartbeats 4000000 in
theorem specNeg (g : Bool) (a : Option Addr) (c : Nat) (xs : List Int) (w : World) (h : Sees w a c xs) :
    Calls Try.prog 19 #[.agg #[.bool g, .slice a xs.length c]] w fun e w' => ∃ v, e = .returned v ∧ IsNum w.heap.size w' v (- tk g xs) ∧ Below w.heap.size w w' := by
  obtain ⟨_, _, t24, _⟩ := tk_facts g xs h.lim
  have E : Hid (sg (!tkG g xs) (val (tkL g xs)) = - tk g xs) := by show _ = _; rw [sg_not]; rfl
  go_enter Try.func19, Try.ntmps19
  go_wp2_with fail
  go_region_held3 (fun w' => w'.cell? ⟨w.heap.size, 0, none⟩ = some (.bool g) ∧ w'.cell? ⟨w.heap.size, 1, none⟩ = some (.slice a xs.length c))
    (first | exact ⟨k0, k1⟩ | exact ⟨m0, m1⟩ | exact ⟨n0, n1⟩ | exact ⟨(cell_put (by omega)).trans n0, (cell_put (by omega)).trans n1⟩ | (simp [go_sem, World.cell?_alloc_past]))
    (first
    | (go_at_call 31; refine (l1NegC g a c xs _ ?_).mono ?_; exact h.below (below2 _ _ _).drew; rintro e w1 ⟨rfl, hb1⟩; have B1 := (below2 w _ _).drew.trans (hb1.mono (by simp <;> omega)); obtain ⟨q1, _⟩ := at_block hb1 (b := w.heap.size) (by simp <;> omega); obtain ⟨q3, q4⟩ := at_block hb1 (b := w.heap.size + 1) (by simp); have z1 : w.heap.size + 1 < w1.heap.size := (by have := hb1.size; simp at this; omega); have k0 : w1.cell? ⟨w.heap.size, 0, none⟩ = some (.bool g) := (by simp [q1, go_sem]); have k1 : w1.cell? ⟨w.heap.size, 1, none⟩ = some (.slice a xs.length c) := (by simp [q1, go_sem]); clear hb1 q1)
    | (go_at_call 30; refine (l1MagC g a c xs _ ?_).mono ?_; exact h.below B1; rintro e w2 ⟨a2, c2, rfl, hs2, hb2⟩; have B2 := B1.trans (hb2.mono B1.size); have m0 := bat hb2 k0; have m1 := bat hb2 k1; have q5 := (fun o => (hb2.cell (p := ⟨w.heap.size + 1, o, none⟩) z1).trans (q3 o)); have q6 := (fun o => (hb2.frozen (p := ⟨w.heap.size + 1, o, none⟩) z1).trans (q4 o)); have z2 : w.heap.size + 1 < w2.heap.size := (by have := hb2.size; omega); clear hb2 q3 q4)
    | (go_at_call 26; refine (l1NumC (!tkG g xs) a2 c2 (tkL g xs) _ hs2 (by omega)).mono ?_; rintro e w3 ⟨v, rfl, hI, hb3⟩; have hJ := hI.eq E.out; obtain ⟨g5, a5, l5, c5, rfl⟩ := hI.shape; have B3 := B2.trans (hb3.mono B2.size); have n0 := bat hb3 m0; have n1 := bat hb3 m1; have q7 := (fun o => (hb3.cell (p := ⟨w.heap.size + 1, o, none⟩) z2).trans (q5 o)); have q8 := (fun o => (hb3.frozen (p := ⟨w.heap.size + 1, o, none⟩) z2).trans (q6 o)); have z3 : w.heap.size + 1 < w3.heap.size := (by have := hb3.size; omega); clear hb3 q5 q6))
  all_goals
    go_wp2
    exact bodyPost_ret (v := .agg #[.bool g5, .slice a5 l5 c5]) (by simp [results, Try.results19, go_sem, q7]) rfl ⟨_, rfl, hJ.put' (by omega) (by omega), below_put' B3 (by omega) _ _⟩
set_option maxHeartbeats 8000000 in
theorem specAdd (g g' : Bool) (a b : Option Addr) (c d : Nat) (xs ys : List Int) (w : World) (h : Sees w a c xs) (k : Sees w b d ys) :
    Calls Try.prog 21 #[.agg #[.bool g, .slice a xs.length c], .agg #[.bool g', .slice b ys.length d]] w fun e w' => ∃ v, e = .returned v ∧ IsNum w.heap.size w' v (tk g xs + tk g' ys) ∧ Below w.heap.size w w' := by
  obtain ⟨_, tn, t24, _⟩ := tk_facts g xs h.lim
  obtain ⟨_, sn, s24, _⟩ := tk_facts g' ys k.lim
  have HN : Hid (Nrm (tkL g xs) ∧ Nrm (tkL g' ys)) := ⟨tn, sn⟩
  have E : Hid (sg (tkG g xs) (val (tkL g xs)) + sg (tkG g' ys) (val (tkL g' ys)) = tk g xs + tk g' ys) := rfl
  clear tn sn
  go_enter Try.func21, Try.ntmps21
  go_wp2_with fail
  go_region_held3 (fun w' => w'.cell? ⟨w.heap.size, 0, none⟩ = some (.bool g) ∧ w'.cell? ⟨w.heap.size, 1, none⟩ = some (.slice a xs.length c) ∧ w'.cell? ⟨w.heap.size + 1, 0, none⟩ = some (.bool g') ∧ w'.cell? ⟨w.heap.size + 1, 1, none⟩ = some (.slice b ys.length d))
    (first | exact k1 | exact k2 | exact k3 | exact k4 | exact k5 | exact ⟨(cell_put (by omega)).trans k5.1, (cell_put (by omega)).trans k5.2.1, (cell_put (by omega)).trans k5.2.2.1, (cell_put (by omega)).trans k5.2.2.2⟩ | (simp [go_sem, World.cell?_alloc_past]))
    (first
    | (go_at_call_of 31 (Value.agg #[Value.bool g, Value.slice a xs.length c]); refine (l1NegC g a c xs _ ?_).mono ?_; exact h.below (below3 _ _ _ _).drew; rintro e w1 ⟨rfl, hb1⟩; have B1 := (below3 w _ _ _).drew.trans (hb1.mono (by simp <;> omega)); obtain ⟨q1, _⟩ := at_block hb1 (b := w.heap.size) (by simp <;> omega); obtain ⟨q2, _⟩ := at_block hb1 (b := w.heap.size + 1) (by simp <;> omega); obtain ⟨q3, q4⟩ := at_block hb1 (b := w.heap.size + 2) (by simp); have z1 : w.heap.size + 2 < w1.heap.size := (by have := hb1.size; simp at this; omega); have k1 : w1.cell? ⟨w.heap.size, 0, none⟩ = some (.bool g) ∧ w1.cell? ⟨w.heap.size, 1, none⟩ = some (.slice a xs.length c) ∧ w1.cell? ⟨w.heap.size + 1, 0, none⟩ = some (.bool g') ∧ w1.cell? ⟨w.heap.size + 1, 1, none⟩ = some (.slice b ys.length d) := (by simp [q1, q2, go_sem, World.cell?_alloc_past]); clear hb1 q1 q2)
    | (go_at_call_of 30 (Value.agg #[Value.bool g, Value.slice a xs.length c]); refine (l1MagC g a c xs _ ?_).mono ?_; exact h.below B1; rintro e w2 ⟨a2, c2, rfl, hs2, hb2⟩; have B2 := B1.trans (hb2.mono B1.size); have k2 : w2.cell? ⟨w.heap.size, 0, none⟩ = some (.bool g) ∧ w2.cell? ⟨w.heap.size, 1, none⟩ = some (.slice a xs.length c) ∧ w2.cell? ⟨w.heap.size + 1, 0, none⟩ = some (.bool g') ∧ w2.cell? ⟨w.heap.size + 1, 1, none⟩ = some (.slice b ys.length d) := ⟨bat hb2 k1.1, bat hb2 k1.2.1, bat hb2 k1.2.2.1, bat hb2 k1.2.2.2⟩; have q5 := (fun o => (hb2.cell (p := ⟨w.heap.size + 2, o, none⟩) z1).trans (q3 o)); have q6 := (fun o => (hb2.frozen (p := ⟨w.heap.size + 2, o, none⟩) z1).trans (q4 o)); have z2 : w.heap.size + 2 < w2.heap.size := (by have := hb2.size; omega); clear hb2 q3 q4)
    | (go_at_call_of 31 (Value.agg #[Value.bool g', Value.slice b ys.length d]); refine (l1NegC g' b d ys _ ?_).mono ?_; exact k.below B2; rintro e w3 ⟨rfl, hb3⟩; have B3 := B2.trans (hb3.mono B2.size); have hs3 := hs2.below hb3; have k3 : w3.cell? ⟨w.heap.size, 0, none⟩ = some (.bool g) ∧ w3.cell? ⟨w.heap.size, 1, none⟩ = some (.slice a xs.length c) ∧ w3.cell? ⟨w.heap.size + 1, 0, none⟩ = some (.bool g') ∧ w3.cell? ⟨w.heap.size + 1, 1, none⟩ = some (.slice b ys.length d) := ⟨bat hb3 k2.1, bat hb3 k2.2.1, bat hb3 k2.2.2.1, bat hb3 k2.2.2.2⟩; have q7 := (fun o => (hb3.cell (p := ⟨w.heap.size + 2, o, none⟩) z2).trans (q5 o)); have q8 := (fun o => (hb3.frozen (p := ⟨w.heap.size + 2, o, none⟩) z2).trans (q6 o)); have z3 : w.heap.size + 2 < w3.heap.size := (by have := hb3.size; omega); clear hb3 q5 q6 hs2)
    | (go_at_call_of 30 (Value.agg #[Value.bool g', Value.slice b ys.length d]); refine (l1MagC g' b d ys _ ?_).mono ?_; exact k.below B3; rintro e w4 ⟨a4, c4, rfl, hs4, hb4⟩; have B4 := B3.trans (hb4.mono B3.size); have hs5 := hs3.below hb4; have k4 : w4.cell? ⟨w.heap.size, 0, none⟩ = some (.bool g) ∧ w4.cell? ⟨w.heap.size, 1, none⟩ = some (.slice a xs.length c) ∧ w4.cell? ⟨w.heap.size + 1, 0, none⟩ = some (.bool g') ∧ w4.cell? ⟨w.heap.size + 1, 1, none⟩ = some (.slice b ys.length d) := ⟨bat hb4 k3.1, bat hb4 k3.2.1, bat hb4 k3.2.2.1, bat hb4 k3.2.2.2⟩; have qa := (fun o => (hb4.cell (p := ⟨w.heap.size + 2, o, none⟩) z3).trans (q7 o)); have qb := (fun o => (hb4.frozen (p := ⟨w.heap.size + 2, o, none⟩) z3).trans (q8 o)); have z4 : w.heap.size + 2 < w4.heap.size := (by have := hb4.size; omega); clear hb4 q7 q8 hs3)
    | (go_at_call 36; refine (l1AddC (tkG g xs) (tkG g' ys) a2 a4 c2 c4 (tkL g xs) (tkL g' ys) _ hs5 hs4 HN.out.1 HN.out.2 (by omega) (by omega)).mono ?_; rintro e w5 ⟨v, rfl, hI, hb5⟩; have hJ := hI.eq E.out; obtain ⟨g5, a5, l5, c5, rfl⟩ := hI.shape; have B5 := B4.trans (hb5.mono B4.size); have k5 : w5.cell? ⟨w.heap.size, 0, none⟩ = some (.bool g) ∧ w5.cell? ⟨w.heap.size, 1, none⟩ = some (.slice a xs.length c) ∧ w5.cell? ⟨w.heap.size + 1, 0, none⟩ = some (.bool g') ∧ w5.cell? ⟨w.heap.size + 1, 1, none⟩ = some (.slice b ys.length d) := ⟨bat hb5 k4.1, bat hb5 k4.2.1, bat hb5 k4.2.2.1, bat hb5 k4.2.2.2⟩; have qc := (fun o => (hb5.cell (p := ⟨w.heap.size + 2, o, none⟩) z4).trans (qa o)); have qd := (fun o => (hb5.frozen (p := ⟨w.heap.size + 2, o, none⟩) z4).trans (qb o)); have z5 : w.heap.size + 2 < w5.heap.size := (by have := hb5.size; omega); clear hb5 qa qb))
  all_goals
    go_wp2
    exact bodyPost_ret (v := .agg #[.bool g5, .slice a5 l5 c5]) (by simp [results, Try.results21, go_sem, qc]) rfl ⟨_, rfl, hJ.put' (by omega) (by omega), below_put' B5 (by omega) _ _⟩
end Go.Proofs.Ytniphhgjfdjjgah
