/- The program's CmpFrac. -/
import Derived.Test.YtmdbndooigcflaaFCmp
namespace Go.Proofs.Ytmdbndooigcflaa
open Go.RowKit

set_option maxRecDepth 20000 in
set_option maxHeartbeats 4000000 in
theorem implCmpFrac (g h g' h' : Bool) (a b a' b' : Option Addr) (c d c' d' : Nat) (xs ys xs' ys' : List Int) (w : World) (h1 : Sees w a c xs) (h2 : Sees w b d ys) (k1 : Sees w a' c' xs') (k2 : Sees w b' d' ys') :
    Calls Try.prog 14 #[.agg #[.bool g, .slice a xs.length c, .bool h, .slice b ys.length d], .agg #[.bool g', .slice a' xs'.length c', .bool h', .slice b' ys'.length d']] w fun e w' => e = .returned (.int .i64 (cmpZ (fN g xs h ys * fD g' xs' h' ys') (fN g' xs' h' ys' * fD g xs h ys))) ∧ Below w.heap.size w w' := by
  have B0 := below2 w (.cells #[.bool g, .slice a xs.length c, .bool h, .slice b ys.length d] 28) (.cells #[.bool g', .slice a' xs'.length c', .bool h', .slice b' ys'.length d'] 28)
  have k0 := box8 w g h g' h' a b a' b' xs.length ys.length xs'.length ys'.length c d c' d' 28
  have h1' := h1.below B0
  have h2' := h2.below B0
  have k1' := k1.below B0
  have k2' := k2.below B0
  clear h1 h2 k1 k2
  obtain ⟨n1, hn1⟩ : ∃ n, fN g xs h ys = n := ⟨_, rfl⟩
  obtain ⟨d1, hd1⟩ : ∃ n, fD g xs h ys = n := ⟨_, rfl⟩
  obtain ⟨n2, hn2⟩ : ∃ n, fN g' xs' h' ys' = n := ⟨_, rfl⟩
  obtain ⟨d2, hd2⟩ : ∃ n, fD g' xs' h' ys' = n := ⟨_, rfl⟩
  rw [hn1, hd1, hn2, hd2]
  have HN : Hid (fN g xs h ys = n1 ∧ fD g xs h ys = d1 ∧ fN g' xs' h' ys' = n2 ∧ fD g' xs' h' ys' = d2) := ⟨hn1, hd1, hn2, hd2⟩
  clear hn1 hd1 hn2 hd2
  go_enter Try.func14, Try.ntmps14
  go_wp2_with fail
  generalize (w.alloc (.cells #[.bool g, .slice a xs.length c, .bool h, .slice b ys.length d] 28)).alloc (.cells #[.bool g', .slice a' xs'.length c', .bool h', .slice b' ys'.length d'] 28) = W at *
  go_region_held3 (fun w' => w'.cell? ⟨w.heap.size, 0, none⟩ = some (.bool g) ∧ w'.cell? ⟨w.heap.size, 1, none⟩ = some (.slice a xs.length c) ∧ w'.cell? ⟨w.heap.size, 2, none⟩ = some (.bool h) ∧ w'.cell? ⟨w.heap.size, 3, none⟩ = some (.slice b ys.length d) ∧ w'.cell? ⟨w.heap.size + 1, 0, none⟩ = some (.bool g') ∧ w'.cell? ⟨w.heap.size + 1, 1, none⟩ = some (.slice a' xs'.length c') ∧ w'.cell? ⟨w.heap.size + 1, 2, none⟩ = some (.bool h') ∧ w'.cell? ⟨w.heap.size + 1, 3, none⟩ = some (.slice b' ys'.length d'))
    (first | exact k0 | exact m1 | exact m2 | exact m3 | (simp [*]))
    (first
    | (go_at_call_of 27 (Value.agg #[Value.bool g, Value.slice a xs.length c, Value.bool h, Value.slice b ys.length d]); refine (implTakenF g h a b c d xs ys _ ?_ ?_).mono ?_; exact h1'.below (Below.refl _ _).drew; exact h2'.below (Below.refl _ _).drew; rintro e w1 ⟨v, rfl, hI, hb1⟩; have B1 : Below W.heap.size W w1 := (Below.refl _ _).drew.trans hb1; have m1 : w1.cell? ⟨w.heap.size, 0, none⟩ = some (.bool g) ∧ w1.cell? ⟨w.heap.size, 1, none⟩ = some (.slice a xs.length c) ∧ w1.cell? ⟨w.heap.size, 2, none⟩ = some (.bool h) ∧ w1.cell? ⟨w.heap.size, 3, none⟩ = some (.slice b ys.length d) ∧ w1.cell? ⟨w.heap.size + 1, 0, none⟩ = some (.bool g') ∧ w1.cell? ⟨w.heap.size + 1, 1, none⟩ = some (.slice a' xs'.length c') ∧ w1.cell? ⟨w.heap.size + 1, 2, none⟩ = some (.bool h') ∧ w1.cell? ⟨w.heap.size + 1, 3, none⟩ = some (.slice b' ys'.length d') := ⟨bat B1 k0.1, bat B1 k0.2.1, bat B1 k0.2.2.1, bat B1 k0.2.2.2.1, bat B1 k0.2.2.2.2.1, bat B1 k0.2.2.2.2.2.1, bat B1 k0.2.2.2.2.2.2.1, bat B1 k0.2.2.2.2.2.2.2⟩; rw [HN.out.1, HN.out.2.1] at hI; obtain ⟨p1, q1, u1, p2, q2, u2, rfl, s1, s2, e1, e2, v1, v2, l1, l2⟩ := hI; clear hb1)
    | (go_at_call_of 27 (Value.agg #[Value.bool g', Value.slice a' xs'.length c', Value.bool h', Value.slice b' ys'.length d']); refine (implTakenF g' h' a' b' c' d' xs' ys' _ ?_ ?_).mono ?_; exact k1'.below B1; exact k2'.below B1; rintro e w2 ⟨v, rfl, hI, hb2⟩; have B2 : Below W.heap.size W w2 := B1.trans (hb2.mono B1.size); have m2 : w2.cell? ⟨w.heap.size, 0, none⟩ = some (.bool g) ∧ w2.cell? ⟨w.heap.size, 1, none⟩ = some (.slice a xs.length c) ∧ w2.cell? ⟨w.heap.size, 2, none⟩ = some (.bool h) ∧ w2.cell? ⟨w.heap.size, 3, none⟩ = some (.slice b ys.length d) ∧ w2.cell? ⟨w.heap.size + 1, 0, none⟩ = some (.bool g') ∧ w2.cell? ⟨w.heap.size + 1, 1, none⟩ = some (.slice a' xs'.length c') ∧ w2.cell? ⟨w.heap.size + 1, 2, none⟩ = some (.bool h') ∧ w2.cell? ⟨w.heap.size + 1, 3, none⟩ = some (.slice b' ys'.length d') := ⟨bat B2 k0.1, bat B2 k0.2.1, bat B2 k0.2.2.1, bat B2 k0.2.2.2.1, bat B2 k0.2.2.2.2.1, bat B2 k0.2.2.2.2.2.1, bat B2 k0.2.2.2.2.2.2.1, bat B2 k0.2.2.2.2.2.2.2⟩; rw [HN.out.2.2.1, HN.out.2.2.2] at hI; obtain ⟨p3, q3, u3, p4, q4, u4, rfl, s3, s4, e3, e4, v3, v4, l3, l4⟩ := hI; have s1' := s1.below hb2; have s2' := s2.below hb2; clear hb2)
    | (go_at_call 28; refine (fcomparedC (decide (n1 < 0)) (decide (d1 < 0)) (decide (n2 < 0)) (decide (d2 < 0)) p1 p2 p3 p4 q1 q2 q3 q4 u1 u2 u3 u4 _ s1' s2' s3 s4 l1 l2 l3 l4).mono ?_; rintro e w3 ⟨rfl, hb3⟩; have B3 : Below W.heap.size W w3 := B2.trans (hb3.mono B2.size); have m3 : w3.cell? ⟨w.heap.size, 0, none⟩ = some (.bool g) ∧ w3.cell? ⟨w.heap.size, 1, none⟩ = some (.slice a xs.length c) ∧ w3.cell? ⟨w.heap.size, 2, none⟩ = some (.bool h) ∧ w3.cell? ⟨w.heap.size, 3, none⟩ = some (.slice b ys.length d) ∧ w3.cell? ⟨w.heap.size + 1, 0, none⟩ = some (.bool g') ∧ w3.cell? ⟨w.heap.size + 1, 1, none⟩ = some (.slice a' xs'.length c') ∧ w3.cell? ⟨w.heap.size + 1, 2, none⟩ = some (.bool h') ∧ w3.cell? ⟨w.heap.size + 1, 3, none⟩ = some (.slice b' ys'.length d') := ⟨bat B3 k0.1, bat B3 k0.2.1, bat B3 k0.2.2.1, bat B3 k0.2.2.2.1, bat B3 k0.2.2.2.2.1, bat B3 k0.2.2.2.2.2.1, bat B3 k0.2.2.2.2.2.2.1, bat B3 k0.2.2.2.2.2.2.2⟩; rw [v1, v2, v3, v4, sg_of_mg, sg_of_mg, sg_of_mg, sg_of_mg]; clear hb3))
  all_goals
    go_wp2
    go_ret
    exact ⟨rfl, B0.trans (B3.mono B0.size)⟩
end Go.Proofs.Ytmdbndooigcflaa
