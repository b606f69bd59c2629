/- The program's Neg and Add. -/
import Derived.Test.YtfddiojcahbkfaaNegd
import Derived.Test.YtfddiojcahbkfaaPartsL
import Derived.Deep.RegionHeld3
namespace Go.Proofs.Ytfddiojcahbkfaa
open Go.RowKit

set_option maxHeartbeats 1000000 in
theorem implNeg (g : Bool) (a : Option Addr) (c : Nat) (xs : List Int) (w : World) (h : Sees w a c xs) :
    Calls Try.prog 17 #[.agg #[.bool g, .slice a xs.length c]] w fun e w' => ∃ v, e = .returned v ∧ IsNum w.heap.size w' v (- tk g xs) ∧ Below w.heap.size w w' := by
  obtain ⟨tl, tn, t24, t0⟩ := tk_facts g xs h.lim
  go_enter Try.func17, Try.ntmps17
  go_wp2_with fail
  refine (takenC g a c xs _ (h.below (below2 _ _ _))).mono ?_
  rintro e w1 ⟨a1, c1, rfl, hs1, hb⟩
  have B1 := (below2 w _ _).trans (hb.mono (by simp; omega))
  obtain ⟨q1, q2⟩ := at_block hb (b := w.heap.size + 1) (by simp)
  have z1 : w.heap.size + 1 < w1.heap.size := by have := hb.size; simp at this; omega
  clear hb h
  have hle : (tkL g xs).length ≤ 9223372036854775807 := by omega
  have E : Hid (psum (fun _ => !tkG g xs && decide (0 < (tkL g xs).length)) (fun _ => tkL g xs) 1 = - tk g xs) := by
    show _ = _
    rw [psum_one, neg_flag t0]; rfl
  clear t0 tl
  have HN : Hid (Nrm (tkL g xs)) := tn
  clear tn
  generalize tkL g xs = ys at *
  generalize tkG g xs = gg at *
  go_wp2_with fail
  refine (negatedC gg a1 c1 ys.length _ hle).mono ?_
  rintro e w2 ⟨rfl, hb⟩
  have B2 := B1.trans (hb.mono B1.size)
  replace hs1 := hs1.below hb
  have z2 : w.heap.size + 1 < w2.heap.size := by have := hb.size; omega
  have q3 := fun o => (hb.cell (p := ⟨w.heap.size + 1, o, none⟩) z1).trans (q1 o)
  have q4 := fun o => (hb.frozen (p := ⟨w.heap.size + 1, o, none⟩) z1).trans (q2 o)
  clear hb B1 q1 q2 z1
  generalize (!gg && decide (0 < ys.length)) = gn at *
  go_wp2_with fail
  have hb2 := below1 w2 (.cells #[.bool gn, .slice a1 ys.length c1] 26)
  have P := Parts.one (L := 24) (cell_new w2 #[.bool gn, .slice a1 ys.length c1] 26 0 rfl) (cell_new w2 #[.bool gn, .slice a1 ys.length c1] 26 1 rfl) (hs1.below hb2) HN.out t24
  refine (sumC w2.heap.size 1 24 _ _ _ _ _ P (by decide)).mono ?_
  rintro e w3 ⟨v, rfl, hI, hb⟩
  replace hI := hI.eq E.out
  simp only [World.size_alloc] at hI
  obtain ⟨g5, a5, l5, c5, rfl⟩ := hI.shape
  have hbb := hb2.trans (hb.mono hb2.size)
  have B3 := B2.trans (hbb.mono B2.size)
  have q5 := fun o => (hbb.cell (p := ⟨w.heap.size + 1, o, none⟩) z2).trans (q3 o)
  have q6 := fun o => (hbb.frozen (p := ⟨w.heap.size + 1, o, none⟩) z2).trans (q4 o)
  have z3 : w.heap.size + 1 < w3.heap.size := by have := hbb.size; omega
  clear hb hbb hb2 P q3 q4 hs1 B2 E HN
  go_wp2
  exact bodyPost_ret (v := .agg #[.bool g5, .slice a5 l5 c5]) (by simp [results, Try.results17, go_sem, q5]) rfl ⟨_, rfl, hI.put' (by omega) (by omega), below_put' B3 (by omega) _ _⟩
set_option maxHeartbeats 4000000 in
theorem implAdd (g g' : Bool) (a b : Option Addr) (c d : Nat) (xs ys : List Int) (w : World) (h : Sees w a c xs) (k : Sees w b d ys) :
    Calls Try.prog 11 #[.agg #[.bool g, .slice a xs.length c], .agg #[.bool g', .slice b ys.length d]] w fun e w' => ∃ v, e = .returned v ∧ IsNum w.heap.size w' v (tk g xs + tk g' ys) ∧ Below w.heap.size w w' := by
  obtain ⟨tl, tn, t24, _⟩ := tk_facts g xs h.lim
  obtain ⟨sl, sn, s24, _⟩ := tk_facts g' ys k.lim
  have E : Hid (psum (fun j => if j = 0 then tkG g xs else tkG g' ys) (fun j => if j = 0 then tkL g xs else tkL g' ys) 2 = tk g xs + tk g' ys) := by
    show _ = _
    rw [psum_two]; rfl
  have HN : Hid (Nrm (tkL g xs) ∧ Nrm (tkL g' ys)) := ⟨tn, sn⟩
  clear tl tn sl sn
  go_enter Try.func11, Try.ntmps11
  go_wp2_with fail
  go_region_with (first
    | (go_at_call_of 28 (Value.agg #[Value.bool g, Value.slice a xs.length c]); refine (takenC g a c xs _ ?_).mono ?_; exact h.below (below3 _ _ _ _).drew; rintro e w1 ⟨a1, c1, rfl, hs1, hb1⟩; have B1 := (below3 w _ _ _).drew.trans (hb1.mono (by simp <;> omega)); obtain ⟨q1, _⟩ := at_block hb1 (b := w.heap.size + 1) (by simp <;> omega); obtain ⟨q3, q4⟩ := at_block hb1 (b := w.heap.size + 2) (by simp); have z1 : w.heap.size + 2 < w1.heap.size := (by have := hb1.size; simp at this; omega); clear hb1)
    | (go_at_call_of 28 (Value.agg #[Value.bool g', Value.slice b ys.length d]); refine (takenC g' b d ys _ ?_).mono ?_; exact k.below B1; rintro e w2 ⟨a2, c2, rfl, hs2, hb2⟩; have B2 := B1.trans (hb2.mono B1.size); have hs1' := hs1.below hb2; have q5 := (fun o => (hb2.cell (p := ⟨w.heap.size + 2, o, none⟩) z1).trans (q3 o)); have q6 := (fun o => (hb2.frozen (p := ⟨w.heap.size + 2, o, none⟩) z1).trans (q4 o)); have z2 : w.heap.size + 2 < w2.heap.size := (by have := hb2.size; omega); clear hb2 q3 q4 q1)
    | (go_at_call 27; refine (sumC w2.heap.size 2 24 _ _ _ _ _ (Parts.two (cell_new w2 _ _ 0 rfl) (cell_new w2 _ _ 1 rfl) (cell_new w2 _ _ 2 rfl) (cell_new w2 _ _ 3 rfl) (hs1'.below (below1 _ _)) (hs2.below (below1 _ _)) HN.out.1 HN.out.2 t24 s24) (by decide)).mono ?_; rintro e w3 ⟨v, rfl, hI, hb3⟩; have hJ := hI.eq E.out; obtain ⟨g5, a5, l5, c5, rfl⟩ := hI.shape; have hbb := (below1 w2 _).trans (hb3.mono (below1 w2 _).size); have B3 := B2.trans (hbb.mono B2.size); have q7 := (fun o => (hbb.cell (p := ⟨w.heap.size + 2, o, none⟩) z2).trans (q5 o)); have q8 := (fun o => (hbb.frozen (p := ⟨w.heap.size + 2, o, none⟩) z2).trans (q6 o)); have z3 : w.heap.size + 2 < w3.heap.size := (by have := hbb.size; omega); clear hbb hb3 q5 q6))
  all_goals
    simp only [World.size_alloc] at hJ
    go_wp2
    exact bodyPost_ret (v := .agg #[.bool g5, .slice a5 l5 c5]) (by simp [results, Try.results11, go_sem, q7]) rfl ⟨_, rfl, hJ.put' (by omega) (by omega), below_put' B3 (by omega) _ _⟩
end Go.Proofs.Ytfddiojcahbkfaa
