/- The program's Neg and Add. -/
import Derived.Test.YtniphhgjfdjjgahSum
import Derived.Deep.RegionHeld3
namespace Go.Proofs.Ytniphhgjfdjjgah
open Go.RowKit

theorem Parts.one {w : World} {pb c L : Nat} {g : Bool} {a : Option Addr} {xs : List Int} (h0 : w.cell? ⟨pb, 0, none⟩ = some (.bool g)) (h1 : w.cell? ⟨pb, 1, none⟩ = some (.slice a xs.length c)) (hs : Sees w a c xs) (hn : Nrm xs) (hl : xs.length ≤ L) :
    Parts w pb 1 L (fun _ => g) (fun _ => a) (fun _ => c) (fun _ => xs) := by
  refine ⟨fun j hj => ?_, fun j hj => ?_, fun _ _ => hs, fun _ _ => hn, fun _ _ => hl⟩
  · obtain rfl : j = 0 := by omega
    exact h0
  · obtain rfl : j = 0 := by omega
    exact h1
theorem Parts.two {w : World} {pb c c' L : Nat} {g g' : Bool} {a a' : Option Addr} {xs ys : List Int} (h0 : w.cell? ⟨pb, 0, none⟩ = some (.bool g)) (h1 : w.cell? ⟨pb, 1, none⟩ = some (.slice a xs.length c))
    (h2 : w.cell? ⟨pb, 2, none⟩ = some (.bool g')) (h3 : w.cell? ⟨pb, 3, none⟩ = some (.slice a' ys.length c')) (hs : Sees w a c xs) (ks : Sees w a' c' ys) (hn : Nrm xs) (kn : Nrm ys) (hl : xs.length ≤ L) (kl : ys.length ≤ L) :
    Parts w pb 2 L (fun j => if j = 0 then g else g') (fun j => if j = 0 then a else a') (fun j => if j = 0 then c else c') (fun j => if j = 0 then xs else ys) := by
  refine ⟨fun j hj => ?_, fun j hj => ?_, fun j hj => ?_, fun j hj => ?_, fun j hj => ?_⟩
  all_goals
    have : j = 0 ∨ j = 1 := by omega
    rcases this with rfl | rfl
  · exact h0
  · exact h2
  · exact h1
  · exact h3
  · exact hs
  · exact ks
  · exact hn
  · exact kn
  · exact hl
  · exact kl

theorem psum_one (g : Bool) (xs : List Int) : psum (fun _ => g) (fun _ => xs) 1 = sg g (val xs) := by simp [psum]
theorem psum_two (g g' : Bool) (xs ys : List Int) : psum (fun j => if j = 0 then g else g') (fun j => if j = 0 then xs else ys) 2 = sg g (val xs) + sg g' (val ys) := by simp [psum]

theorem neg_flag {g : Bool} {xs : List Int} (h : xs = [] → g = false) : sg (!g && decide (0 < xs.length)) (val xs) = - sg g (val xs) := by
  by_cases e : xs = []
  · subst e; rw [h rfl]; simp [sg, val]
  · have : 0 < xs.length := List.length_pos_iff.2 e
    rw [decide_eq_true this, Bool.and_true]
    cases g <;> simp [sg]

theorem IsNum.put' {base b b0 : Nat} {w : World} {v u0 u1 : Value} {z : Int} (h : IsNum base w v z) (hp : b < base) (h0 : b0 ≤ b) : IsNum b0 ((w.setCell ⟨b, 0, none⟩ u0).setCell ⟨b, 1, none⟩ u1) v z :=
  (h.put hp).base_le h0
theorem below_put' {b b0 : Nat} {w w' : World} (h : Below b0 w w') (h0 : b0 ≤ b) (u0 u1 : Value) : Below b0 w ((w'.setCell ⟨b, 0, none⟩ u0).setCell ⟨b, 1, none⟩ u1) :=
  (h.setCell (p := ⟨b, 0, none⟩) h0 u0).setCell (p := ⟨b, 1, none⟩) h0 u1

set_option maxHeartbeats 1000000 in
theorem implNeg (g : Bool) (a : Option Addr) (c : Nat) (xs : List Int) (w : World) (h : Sees w a c xs) :
    Calls Try.prog 20 #[.agg #[.bool g, .slice a xs.length c]] w fun e w' => ∃ v, e = .returned v ∧ IsNum w.heap.size w' v (- tk g xs) ∧ Below w.heap.size w w' := by
  obtain ⟨tl, tn, t24, t0⟩ := tk_facts g xs h.lim
  go_enter Try.func20, Try.ntmps20
  go_wp2_with fail
  refine (takenC g a c xs _ (h.below (below2 _ _ _))).mono ?_
  rintro e w1 ⟨a1, c1, rfl, hs1, hb⟩
  have B1 := (below2 w _ _).trans (hb.mono (by simp; omega))
  obtain ⟨q1, q2⟩ := at_block hb (b := w.heap.size + 1) (by simp)
  have z1 : w.heap.size + 1 < w1.heap.size := by have := hb.size; simp at this; omega
  clear hb h
  have hle : (tkL g xs).length ≤ 9223372036854775807 := by omega
  have E : Hid (psum (fun _ => !tkG g xs && decide (0 < (tkL g xs).length)) (fun _ => tkL g xs) 1 = - tk g xs) := by
    show _ = _
    rw [psum_one, neg_flag t0]; rfl
  clear t0 tl
  have HN : Hid (Nrm (tkL g xs)) := tn
  clear tn
  generalize tkL g xs = ys at *
  generalize tkG g xs = gg at *
  go_wp2_with fail
  refine (negatedC gg a1 c1 ys.length _ hle).mono ?_
  rintro e w2 ⟨rfl, hb⟩
  have B2 := B1.trans (hb.mono B1.size)
  replace hs1 := hs1.below hb
  have z2 : w.heap.size + 1 < w2.heap.size := by have := hb.size; omega
  have q3 := fun o => (hb.cell (p := ⟨w.heap.size + 1, o, none⟩) z1).trans (q1 o)
  have q4 := fun o => (hb.frozen (p := ⟨w.heap.size + 1, o, none⟩) z1).trans (q2 o)
  clear hb B1 q1 q2 z1
  generalize (!gg && decide (0 < ys.length)) = gn at *
  go_wp2_with fail
  have hb2 := below1 w2 (.cells #[.bool gn, .slice a1 ys.length c1] 27)
  have P := Parts.one (L := 24) (cell_new w2 #[.bool gn, .slice a1 ys.length c1] 27 0 rfl) (cell_new w2 #[.bool gn, .slice a1 ys.length c1] 27 1 rfl) (hs1.below hb2) HN.out t24
  refine (sumC w2.heap.size 1 24 _ _ _ _ _ P (by decide)).mono ?_
  rintro e w3 ⟨v, rfl, hI, hb⟩
  replace hI := hI.eq E.out
  simp only [World.size_alloc] at hI
  obtain ⟨g5, a5, l5, c5, rfl⟩ := hI.shape
  have hbb := hb2.trans (hb.mono hb2.size)
  have B3 := B2.trans (hbb.mono B2.size)
  have q5 := fun o => (hbb.cell (p := ⟨w.heap.size + 1, o, none⟩) z2).trans (q3 o)
  have q6 := fun o => (hbb.frozen (p := ⟨w.heap.size + 1, o, none⟩) z2).trans (q4 o)
  have z3 : w.heap.size + 1 < w3.heap.size := by have := hbb.size; omega
  clear hb hbb hb2 P q3 q4 hs1 B2 E HN
  go_wp2
  exact bodyPost_ret (v := .agg #[.bool g5, .slice a5 l5 c5]) (by simp [results, Try.results20, go_sem, q5]) rfl ⟨_, rfl, hI.put' (by omega) (by omega), below_put' B3 (by omega) _ _⟩
set_option maxHeartbeats 4000000 in
theorem implAdd (g g' : Bool) (a b : Option Addr) (c d : Nat) (xs ys : List Int) (w : World) (h : Sees w a c xs) (k : Sees w b d ys) :
    Calls Try.prog 22 #[.agg #[.bool g, .slice a xs.length c], .agg #[.bool g', .slice b ys.length d]] w fun e w' => ∃ v, e = .returned v ∧ IsNum w.heap.size w' v (tk g xs + tk g' ys) ∧ Below w.heap.size w w' := by
  obtain ⟨tl, tn, t24, _⟩ := tk_facts g xs h.lim
  obtain ⟨sl, sn, s24, _⟩ := tk_facts g' ys k.lim
  have E : Hid (psum (fun j => if j = 0 then tkG g xs else tkG g' ys) (fun j => if j = 0 then tkL g xs else tkL g' ys) 2 = tk g xs + tk g' ys) := by
    show _ = _
    rw [psum_two]; rfl
  have HN : Hid (Nrm (tkL g xs) ∧ Nrm (tkL g' ys)) := ⟨tn, sn⟩
  clear tl tn sl sn
  go_enter Try.func22, Try.ntmps22
  go_wp2_with fail
  go_region_with (first
    | (go_at_call_of 32 (Value.agg #[Value.bool g, Value.slice a xs.length c]); refine (takenC g a c xs _ ?_).mono ?_; exact h.below (below3 _ _ _ _).drew; rintro e w1 ⟨a1, c1, rfl, hs1, hb1⟩; have B1 := (below3 w _ _ _).drew.trans (hb1.mono (by simp <;> omega)); obtain ⟨q1, _⟩ := at_block hb1 (b := w.heap.size + 1) (by simp <;> omega); obtain ⟨q3, q4⟩ := at_block hb1 (b := w.heap.size + 2) (by simp); have z1 : w.heap.size + 2 < w1.heap.size := (by have := hb1.size; simp at this; omega); clear hb1)
    | (go_at_call_of 32 (Value.agg #[Value.bool g', Value.slice b ys.length d]); refine (takenC g' b d ys _ ?_).mono ?_; exact k.below B1; rintro e w2 ⟨a2, c2, rfl, hs2, hb2⟩; have B2 := B1.trans (hb2.mono B1.size); have hs1' := hs1.below hb2; have q5 := (fun o => (hb2.cell (p := ⟨w.heap.size + 2, o, none⟩) z1).trans (q3 o)); have q6 := (fun o => (hb2.frozen (p := ⟨w.heap.size + 2, o, none⟩) z1).trans (q4 o)); have z2 : w.heap.size + 2 < w2.heap.size := (by have := hb2.size; omega); clear hb2 q3 q4 q1)
    | (go_at_call 34; refine (sumC w2.heap.size 2 24 _ _ _ _ _ (Parts.two (cell_new w2 _ _ 0 rfl) (cell_new w2 _ _ 1 rfl) (cell_new w2 _ _ 2 rfl) (cell_new w2 _ _ 3 rfl) (hs1'.below (below1 _ _)) (hs2.below (below1 _ _)) HN.out.1 HN.out.2 t24 s24) (by decide)).mono ?_; rintro e w3 ⟨v, rfl, hI, hb3⟩; have hJ := hI.eq E.out; obtain ⟨g5, a5, l5, c5, rfl⟩ := hI.shape; have hbb := (below1 w2 _).trans (hb3.mono (below1 w2 _).size); have B3 := B2.trans (hbb.mono B2.size); have q7 := (fun o => (hbb.cell (p := ⟨w.heap.size + 2, o, none⟩) z2).trans (q5 o)); have q8 := (fun o => (hbb.frozen (p := ⟨w.heap.size + 2, o, none⟩) z2).trans (q6 o)); have z3 : w.heap.size + 2 < w3.heap.size := (by have := hbb.size; omega); clear hbb hb3 q5 q6))
  all_goals
    simp only [World.size_alloc] at hJ
    go_wp2
    exact bodyPost_ret (v := .agg #[.bool g5, .slice a5 l5 c5]) (by simp [results, Try.results22, go_sem, q7]) rfl ⟨_, rfl, hJ.put' (by omega) (by omega), below_put' B3 (by omega) _ _⟩
end Go.Proofs.Ytniphhgjfdjjgah
