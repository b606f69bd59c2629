import Derived.Test.YtcnmglghmianoaaFTake
import Derived.Test.YtcnmglghmianoaaMulW
import Derived.Deep.RegionHeld3
import Derived.Test.YtcnmglghmianoaaPtH
/- Fractions compared: impl.Frac's compared, impl.CmpFrac. -/
namespace Go.Proofs.Ytcnmglghmianoaa
open Go.RowKit

theorem sg_of_mg (z : Int) : sg (decide (z < 0)) (mg z) = z := by
  unfold sg mg
  by_cases h : z < 0
  · rw [decide_eq_true h, if_pos rfl, if_pos h]; omega
  · rw [decide_eq_false h, if_neg h]; simp
theorem flag_nil {ys : List Int} {z : Int} (hv : val ys = mg z) : ys = [] → decide (z < 0) = false := by
  rintro rfl
  have : mg z = 0 := by rw [← hv]; rfl
  unfold mg at this
  simp
  split at this <;> omega

theorem box8 (w : World) (s t s' t' : Bool) (a b a' b' : Option Addr) (n m n' m' c d c' d' : Nat) (T : TypeId) :
    ((w.alloc (.cells #[.bool s, .slice a n c, .bool t, .slice b m d] T)).alloc (.cells #[.bool s', .slice a' n' c', .bool t', .slice b' m' d'] T)).cell? ⟨w.heap.size, 0, none⟩ = some (.bool s) ∧ ((w.alloc (.cells #[.bool s, .slice a n c, .bool t, .slice b m d] T)).alloc (.cells #[.bool s', .slice a' n' c', .bool t', .slice b' m' d'] T)).cell? ⟨w.heap.size, 1, none⟩ = some (.slice a n c) ∧ ((w.alloc (.cells #[.bool s, .slice a n c, .bool t, .slice b m d] T)).alloc (.cells #[.bool s', .slice a' n' c', .bool t', .slice b' m' d'] T)).cell? ⟨w.heap.size, 2, none⟩ = some (.bool t) ∧ ((w.alloc (.cells #[.bool s, .slice a n c, .bool t, .slice b m d] T)).alloc (.cells #[.bool s', .slice a' n' c', .bool t', .slice b' m' d'] T)).cell? ⟨w.heap.size, 3, none⟩ = some (.slice b m d) ∧ ((w.alloc (.cells #[.bool s, .slice a n c, .bool t, .slice b m d] T)).alloc (.cells #[.bool s', .slice a' n' c', .bool t', .slice b' m' d'] T)).cell? ⟨w.heap.size + 1, 0, none⟩ = some (.bool s') ∧ ((w.alloc (.cells #[.bool s, .slice a n c, .bool t, .slice b m d] T)).alloc (.cells #[.bool s', .slice a' n' c', .bool t', .slice b' m' d'] T)).cell? ⟨w.heap.size + 1, 1, none⟩ = some (.slice a' n' c') ∧ ((w.alloc (.cells #[.bool s, .slice a n c, .bool t, .slice b m d] T)).alloc (.cells #[.bool s', .slice a' n' c', .bool t', .slice b' m' d'] T)).cell? ⟨w.heap.size + 1, 2, none⟩ = some (.bool t') ∧ ((w.alloc (.cells #[.bool s, .slice a n c, .bool t, .slice b m d] T)).alloc (.cells #[.bool s', .slice a' n' c', .bool t', .slice b' m' d'] T)).cell? ⟨w.heap.size + 1, 3, none⟩ = some (.slice b' m' d') := by
  refine ⟨by simp [go_sem], by simp [go_sem], by simp [go_sem], by simp [go_sem], by simp [go_sem], by simp [go_sem], by simp [go_sem], by simp [go_sem]⟩

set_option maxRecDepth 20000 in
set_option maxHeartbeats 4000000 in
theorem fcomparedC (s t s' t' : Bool) (a b a' b' : Option Addr) (c d c' d' : Nat) (ns ds ns' ds' : List Int) (w : World) (h1 : Sees w a c ns) (h2 : Sees w b d ds) (k1 : Sees w a' c' ns') (k2 : Sees w b' d' ds') (l1 : ns.length ≤ 24) (l2 : ds.length ≤ 24) (l3 : ns'.length ≤ 24) (l4 : ds'.length ≤ 24) :
    Calls Try.prog 23 #[.agg #[.bool s, .slice a ns.length c, .bool t, .slice b ds.length d], .agg #[.bool s', .slice a' ns'.length c', .bool t', .slice b' ds'.length d']] w fun e w' => e = .returned (.int .i64 (cmpZ (sg s (val ns) * sg t' (val ds')) (sg s' (val ns') * sg t (val ds)))) ∧ Below w.heap.size w w' := by
  obtain ⟨z1, hz1⟩ : ∃ z, Hid (sg (s != t') (val ns * val ds') = z) := ⟨_, rfl⟩
  obtain ⟨z2, hz2⟩ : ∃ z, Hid (sg (s' != t) (val ns' * val ds) = z) := ⟨_, rfl⟩
  have E : Hid (cmpZ (sg s (val ns) * sg t' (val ds')) (sg s' (val ns') * sg t (val ds)) = cmpZ z1 z2) := by show _ = _; rw [← hz1.out, ← hz2.out, sg_mul, sg_mul]
  have B0 := below2 w (.cells #[.bool s, .slice a ns.length c, .bool t, .slice b ds.length d] 37) (.cells #[.bool s', .slice a' ns'.length c', .bool t', .slice b' ds'.length d'] 37)
  have k0 := box8 w s t s' t' a b a' b' ns.length ds.length ns'.length ds'.length c d c' d' 37
  have h1' := h1.below B0
  have h2' := h2.below B0
  have k1' := k1.below B0
  have k2' := k2.below B0
  clear h1 h2 k1 k2
  go_enter Try.func23, Try.ntmps23
  go_wp2_with fail
  generalize (w.alloc (.cells #[.bool s, .slice a ns.length c, .bool t, .slice b ds.length d] 37)).alloc (.cells #[.bool s', .slice a' ns'.length c', .bool t', .slice b' ds'.length d'] 37) = W at *
  go_region_held3 (fun w' => w'.cell? ⟨w.heap.size, 0, none⟩ = some (.bool s) ∧ w'.cell? ⟨w.heap.size, 1, none⟩ = some (.slice a ns.length c) ∧ w'.cell? ⟨w.heap.size, 2, none⟩ = some (.bool t) ∧ w'.cell? ⟨w.heap.size, 3, none⟩ = some (.slice b ds.length d) ∧ w'.cell? ⟨w.heap.size + 1, 0, none⟩ = some (.bool s') ∧ w'.cell? ⟨w.heap.size + 1, 1, none⟩ = some (.slice a' ns'.length c') ∧ w'.cell? ⟨w.heap.size + 1, 2, none⟩ = some (.bool t') ∧ w'.cell? ⟨w.heap.size + 1, 3, none⟩ = some (.slice b' ds'.length d'))
    (first | exact k0 | exact m1 | exact m2 | exact m3 | (simp [*]))
    (first
    | (go_at_call_of 41 (Value.agg #[Value.bool s, Value.slice a ns.length c]); refine (productC s t' a b' c d' ns ds' _ ?_ ?_ ?_).mono ?_; exact h1'.below (Below.refl _ _).drew; exact k2'.below (Below.refl _ _).drew; omega; rintro e w1 ⟨v, rfl, hI, hb1⟩; have B1 : Below W.heap.size W w1 := (Below.refl _ _).drew.trans hb1; have m1 : w1.cell? ⟨w.heap.size, 0, none⟩ = some (.bool s) ∧ w1.cell? ⟨w.heap.size, 1, none⟩ = some (.slice a ns.length c) ∧ w1.cell? ⟨w.heap.size, 2, none⟩ = some (.bool t) ∧ w1.cell? ⟨w.heap.size, 3, none⟩ = some (.slice b ds.length d) ∧ w1.cell? ⟨w.heap.size + 1, 0, none⟩ = some (.bool s') ∧ w1.cell? ⟨w.heap.size + 1, 1, none⟩ = some (.slice a' ns'.length c') ∧ w1.cell? ⟨w.heap.size + 1, 2, none⟩ = some (.bool t') ∧ w1.cell? ⟨w.heap.size + 1, 3, none⟩ = some (.slice b' ds'.length d') := ⟨bat B1 k0.1, bat B1 k0.2.1, bat B1 k0.2.2.1, bat B1 k0.2.2.2.1, bat B1 k0.2.2.2.2.1, bat B1 k0.2.2.2.2.2.1, bat B1 k0.2.2.2.2.2.2.1, bat B1 k0.2.2.2.2.2.2.2⟩; rw [hz1.out] at hI; obtain ⟨p1, q1, u1, rfl, o1, n1, v1⟩ := hI; clear hb1)
    | (go_at_call_of 41 (Value.agg #[Value.bool s', Value.slice a' ns'.length c']); refine (productC s' t a' b c' d ns' ds _ ?_ ?_ ?_).mono ?_; exact k1'.below B1; exact h2'.below B1; omega; rintro e w2 ⟨v, rfl, hI, hb2⟩; have B2 : Below W.heap.size W w2 := B1.trans (hb2.mono B1.size); have m2 : w2.cell? ⟨w.heap.size, 0, none⟩ = some (.bool s) ∧ w2.cell? ⟨w.heap.size, 1, none⟩ = some (.slice a ns.length c) ∧ w2.cell? ⟨w.heap.size, 2, none⟩ = some (.bool t) ∧ w2.cell? ⟨w.heap.size, 3, none⟩ = some (.slice b ds.length d) ∧ w2.cell? ⟨w.heap.size + 1, 0, none⟩ = some (.bool s') ∧ w2.cell? ⟨w.heap.size + 1, 1, none⟩ = some (.slice a' ns'.length c') ∧ w2.cell? ⟨w.heap.size + 1, 2, none⟩ = some (.bool t') ∧ w2.cell? ⟨w.heap.size + 1, 3, none⟩ = some (.slice b' ds'.length d') := ⟨bat B2 k0.1, bat B2 k0.2.1, bat B2 k0.2.2.1, bat B2 k0.2.2.2.1, bat B2 k0.2.2.2.2.1, bat B2 k0.2.2.2.2.2.1, bat B2 k0.2.2.2.2.2.2.1, bat B2 k0.2.2.2.2.2.2.2⟩; rw [hz2.out] at hI; obtain ⟨p2, q2, u2, rfl, o2, n2, v2⟩ := hI; have o1' := o1.below hb2; clear hb2)
    | (go_at_call 40; refine (comparedC (decide (z1 < 0)) (decide (z2 < 0)) p1 p2 q1 q2 u1 u2 _ o1'.toSees o2.toSees n1 n2 (flag_nil v1) (flag_nil v2)).mono ?_; rintro e w3 ⟨rfl, hb3⟩; have B3 : Below W.heap.size W w3 := B2.trans (hb3.mono B2.size); have m3 : w3.cell? ⟨w.heap.size, 0, none⟩ = some (.bool s) ∧ w3.cell? ⟨w.heap.size, 1, none⟩ = some (.slice a ns.length c) ∧ w3.cell? ⟨w.heap.size, 2, none⟩ = some (.bool t) ∧ w3.cell? ⟨w.heap.size, 3, none⟩ = some (.slice b ds.length d) ∧ w3.cell? ⟨w.heap.size + 1, 0, none⟩ = some (.bool s') ∧ w3.cell? ⟨w.heap.size + 1, 1, none⟩ = some (.slice a' ns'.length c') ∧ w3.cell? ⟨w.heap.size + 1, 2, none⟩ = some (.bool t') ∧ w3.cell? ⟨w.heap.size + 1, 3, none⟩ = some (.slice b' ds'.length d') := ⟨bat B3 k0.1, bat B3 k0.2.1, bat B3 k0.2.2.1, bat B3 k0.2.2.2.1, bat B3 k0.2.2.2.2.1, bat B3 k0.2.2.2.2.2.1, bat B3 k0.2.2.2.2.2.2.1, bat B3 k0.2.2.2.2.2.2.2⟩; rw [v1, v2, sg_of_mg, sg_of_mg]; clear hb3))
  all_goals
    go_wp2
    go_ret
    exact ⟨by rw [E.out]; rfl, B0.trans (B3.mono B0.size)⟩
end Go.Proofs.Ytcnmglghmianoaa

/- The program's CmpFrac. -/
namespace Go.Proofs.Ytcnmglghmianoaa
open Go.RowKit

set_option maxRecDepth 20000 in
set_option maxHeartbeats 4000000 in
theorem implCmpFrac (g h g' h' : Bool) (a b a' b' : Option Addr) (c d c' d' : Nat) (xs ys xs' ys' : List Int) (w : World) (h1 : Sees w a c xs) (h2 : Sees w b d ys) (k1 : Sees w a' c' xs') (k2 : Sees w b' d' ys') :
    Calls Try.prog 10 #[.agg #[.bool g, .slice a xs.length c, .bool h, .slice b ys.length d], .agg #[.bool g', .slice a' xs'.length c', .bool h', .slice b' ys'.length d']] w fun e w' => e = .returned (.int .i64 (cmpZ (fN g xs h ys * fD g' xs' h' ys') (fN g' xs' h' ys' * fD g xs h ys))) ∧ Below w.heap.size w w' := by
  have B0 := below2 w (.cells #[.bool g, .slice a xs.length c, .bool h, .slice b ys.length d] 37) (.cells #[.bool g', .slice a' xs'.length c', .bool h', .slice b' ys'.length d'] 37)
  have k0 := box8 w g h g' h' a b a' b' xs.length ys.length xs'.length ys'.length c d c' d' 37
  have h1' := h1.below B0
  have h2' := h2.below B0
  have k1' := k1.below B0
  have k2' := k2.below B0
  clear h1 h2 k1 k2
  obtain ⟨n1, hn1⟩ : ∃ n, fN g xs h ys = n := ⟨_, rfl⟩
  obtain ⟨d1, hd1⟩ : ∃ n, fD g xs h ys = n := ⟨_, rfl⟩
  obtain ⟨n2, hn2⟩ : ∃ n, fN g' xs' h' ys' = n := ⟨_, rfl⟩
  obtain ⟨d2, hd2⟩ : ∃ n, fD g' xs' h' ys' = n := ⟨_, rfl⟩
  rw [hn1, hd1, hn2, hd2]
  have HN : Hid (fN g xs h ys = n1 ∧ fD g xs h ys = d1 ∧ fN g' xs' h' ys' = n2 ∧ fD g' xs' h' ys' = d2) := ⟨hn1, hd1, hn2, hd2⟩
  clear hn1 hd1 hn2 hd2
  go_enter Try.func10, Try.ntmps10
  go_wp2_with fail
  generalize (w.alloc (.cells #[.bool g, .slice a xs.length c, .bool h, .slice b ys.length d] 37)).alloc (.cells #[.bool g', .slice a' xs'.length c', .bool h', .slice b' ys'.length d'] 37) = W at *
  go_region_held3 (fun w' => w'.cell? ⟨w.heap.size, 0, none⟩ = some (.bool g) ∧ w'.cell? ⟨w.heap.size, 1, none⟩ = some (.slice a xs.length c) ∧ w'.cell? ⟨w.heap.size, 2, none⟩ = some (.bool h) ∧ w'.cell? ⟨w.heap.size, 3, none⟩ = some (.slice b ys.length d) ∧ w'.cell? ⟨w.heap.size + 1, 0, none⟩ = some (.bool g') ∧ w'.cell? ⟨w.heap.size + 1, 1, none⟩ = some (.slice a' xs'.length c') ∧ w'.cell? ⟨w.heap.size + 1, 2, none⟩ = some (.bool h') ∧ w'.cell? ⟨w.heap.size + 1, 3, none⟩ = some (.slice b' ys'.length d'))
    (first | exact k0 | exact m1 | exact m2 | exact m3 | (simp [*]))
    (first
    | (go_at_call_of 27 (Value.agg #[Value.bool g, Value.slice a xs.length c, Value.bool h, Value.slice b ys.length d]); refine (implTakenF g h a b c d xs ys _ ?_ ?_).mono ?_; exact h1'.below (Below.refl _ _).drew; exact h2'.below (Below.refl _ _).drew; rintro e w1 ⟨v, rfl, hI, hb1⟩; have B1 : Below W.heap.size W w1 := (Below.refl _ _).drew.trans hb1; have m1 : w1.cell? ⟨w.heap.size, 0, none⟩ = some (.bool g) ∧ w1.cell? ⟨w.heap.size, 1, none⟩ = some (.slice a xs.length c) ∧ w1.cell? ⟨w.heap.size, 2, none⟩ = some (.bool h) ∧ w1.cell? ⟨w.heap.size, 3, none⟩ = some (.slice b ys.length d) ∧ w1.cell? ⟨w.heap.size + 1, 0, none⟩ = some (.bool g') ∧ w1.cell? ⟨w.heap.size + 1, 1, none⟩ = some (.slice a' xs'.length c') ∧ w1.cell? ⟨w.heap.size + 1, 2, none⟩ = some (.bool h') ∧ w1.cell? ⟨w.heap.size + 1, 3, none⟩ = some (.slice b' ys'.length d') := ⟨bat B1 k0.1, bat B1 k0.2.1, bat B1 k0.2.2.1, bat B1 k0.2.2.2.1, bat B1 k0.2.2.2.2.1, bat B1 k0.2.2.2.2.2.1, bat B1 k0.2.2.2.2.2.2.1, bat B1 k0.2.2.2.2.2.2.2⟩; rw [HN.out.1, HN.out.2.1] at hI; obtain ⟨p1, q1, u1, p2, q2, u2, rfl, s1, s2, e1, e2, v1, v2, l1, l2⟩ := hI; clear hb1)
    | (go_at_call_of 27 (Value.agg #[Value.bool g', Value.slice a' xs'.length c', Value.bool h', Value.slice b' ys'.length d']); refine (implTakenF g' h' a' b' c' d' xs' ys' _ ?_ ?_).mono ?_; exact k1'.below B1; exact k2'.below B1; rintro e w2 ⟨v, rfl, hI, hb2⟩; have B2 : Below W.heap.size W w2 := B1.trans (hb2.mono B1.size); have m2 : w2.cell? ⟨w.heap.size, 0, none⟩ = some (.bool g) ∧ w2.cell? ⟨w.heap.size, 1, none⟩ = some (.slice a xs.length c) ∧ w2.cell? ⟨w.heap.size, 2, none⟩ = some (.bool h) ∧ w2.cell? ⟨w.heap.size, 3, none⟩ = some (.slice b ys.length d) ∧ w2.cell? ⟨w.heap.size + 1, 0, none⟩ = some (.bool g') ∧ w2.cell? ⟨w.heap.size + 1, 1, none⟩ = some (.slice a' xs'.length c') ∧ w2.cell? ⟨w.heap.size + 1, 2, none⟩ = some (.bool h') ∧ w2.cell? ⟨w.heap.size + 1, 3, none⟩ = some (.slice b' ys'.length d') := ⟨bat B2 k0.1, bat B2 k0.2.1, bat B2 k0.2.2.1, bat B2 k0.2.2.2.1, bat B2 k0.2.2.2.2.1, bat B2 k0.2.2.2.2.2.1, bat B2 k0.2.2.2.2.2.2.1, bat B2 k0.2.2.2.2.2.2.2⟩; rw [HN.out.2.2.1, HN.out.2.2.2] at hI; obtain ⟨p3, q3, u3, p4, q4, u4, rfl, s3, s4, e3, e4, v3, v4, l3, l4⟩ := hI; have s1' := s1.below hb2; have s2' := s2.below hb2; clear hb2)
    | (go_at_call 23; refine (fcomparedC (decide (n1 < 0)) (decide (d1 < 0)) (decide (n2 < 0)) (decide (d2 < 0)) p1 p2 p3 p4 q1 q2 q3 q4 u1 u2 u3 u4 _ s1' s2' s3 s4 l1 l2 l3 l4).mono ?_; rintro e w3 ⟨rfl, hb3⟩; have B3 : Below W.heap.size W w3 := B2.trans (hb3.mono B2.size); have m3 : w3.cell? ⟨w.heap.size, 0, none⟩ = some (.bool g) ∧ w3.cell? ⟨w.heap.size, 1, none⟩ = some (.slice a xs.length c) ∧ w3.cell? ⟨w.heap.size, 2, none⟩ = some (.bool h) ∧ w3.cell? ⟨w.heap.size, 3, none⟩ = some (.slice b ys.length d) ∧ w3.cell? ⟨w.heap.size + 1, 0, none⟩ = some (.bool g') ∧ w3.cell? ⟨w.heap.size + 1, 1, none⟩ = some (.slice a' xs'.length c') ∧ w3.cell? ⟨w.heap.size + 1, 2, none⟩ = some (.bool h') ∧ w3.cell? ⟨w.heap.size + 1, 3, none⟩ = some (.slice b' ys'.length d') := ⟨bat B3 k0.1, bat B3 k0.2.1, bat B3 k0.2.2.1, bat B3 k0.2.2.2.1, bat B3 k0.2.2.2.2.1, bat B3 k0.2.2.2.2.2.1, bat B3 k0.2.2.2.2.2.2.1, bat B3 k0.2.2.2.2.2.2.2⟩; rw [v1, v2, v3, v4, sg_of_mg, sg_of_mg, sg_of_mg, sg_of_mg]; clear hb3))
  all_goals
    go_wp2
    go_ret
    exact ⟨rfl, B0.trans (B3.mono B0.size)⟩
end Go.Proofs.Ytcnmglghmianoaa

/- Fractions that are held against one another; the laws' whole number. -/
namespace Go.Proofs.Ytcnmglghmianoaa
open Go.RowKit

theorem tk_is {us : List Int} {n : Int} (hl : Lim us) (hn : Nrm us) (l : us.length ≤ 24) (hv : val us = mg n) : tk (decide (n < 0)) us = n := by
  have hk : okB (decide (n < 0)) us = true := by
    unfold okB
    by_cases h0 : us.length = 0
    · rw [if_pos h0]
      obtain rfl : us = [] := List.eq_nil_of_length_eq_zero h0
      have : mg n = 0 := by rw [← hv]; rfl
      unfold mg at this
      simp
      split at this <;> omega
    · rw [if_neg h0]
      have hlast : us.getLast? = some (us[us.length - 1]?.getD 0) := by
        rw [List.getLast?_eq_getElem?, List.getElem?_eq_getElem (by omega)]
        rfl
      have := last_of_Nrm hn _ hlast
      simp [l, this]
  unfold tk tkG tkL
  rw [hk, if_pos rfl, Bool.true_and, hv]
  unfold sg mg
  by_cases h : n < 0 <;> simp [h]
theorem okB_is {us : List Int} {n : Int} (hn : Nrm us) (l : us.length ≤ 24) (hv : val us = mg n) : okB (decide (n < 0)) us = true := by
  unfold okB
  by_cases h0 : us.length = 0
  · rw [if_pos h0]
    obtain rfl : us = [] := List.eq_nil_of_length_eq_zero h0
    have : mg n = 0 := by rw [← hv]; rfl
    unfold mg at this
    simp
    split at this <;> omega
  · rw [if_neg h0]
    have hlast : us.getLast? = some (us[us.length - 1]?.getD 0) := by
      rw [List.getLast?_eq_getElem?, List.getElem?_eq_getElem (by omega)]
      rfl
    have := last_of_Nrm hn _ hlast
    simp [l, this]
theorem fND_is {zs ts : List Int} {n d : Int} (l1 : Lim zs) (n1 : Nrm zs) (s1 : zs.length ≤ 24) (v1 : val zs = mg n) (l2 : Lim ts) (n2 : Nrm ts) (s2 : ts.length ≤ 24) (v2 : val ts = mg d) (hd : 0 < d) :
    fN (decide (n < 0)) zs (decide (d < 0)) ts = n ∧ fD (decide (n < 0)) zs (decide (d < 0)) ts = d := by
  have t1 := tk_is l1 n1 s1 v1
  have t2 := tk_is l2 n2 s2 v2
  have e : fOk (decide (n < 0)) zs (decide (d < 0)) ts = true := by
    unfold fOk
    rw [okB_is n1 s1 v1, okB_is n2 s2 v2, t2]
    unfold cmpZ
    rw [if_neg (by omega), if_neg (by omega)]
    rfl
  unfold fN fD
  rw [if_pos e, if_pos e]
  exact ⟨t1, t2⟩
theorem cmpFrac_is (n d n' d' : Int) (a b a' b' : Option Addr) (c e c' e' : Nat) (zs ts zs' ts' : List Int) (w : World) (h1 : Sees w a c zs) (h2 : Sees w b e ts) (h3 : Sees w a' c' zs') (h4 : Sees w b' e' ts')
    (k1 : Nrm zs ∧ zs.length ≤ 24 ∧ val zs = mg n) (k2 : Nrm ts ∧ ts.length ≤ 24 ∧ val ts = mg d) (k3 : Nrm zs' ∧ zs'.length ≤ 24 ∧ val zs' = mg n') (k4 : Nrm ts' ∧ ts'.length ≤ 24 ∧ val ts' = mg d') (p1 : 0 < d) (p2 : 0 < d') :
    Calls Try.prog 10 #[.agg #[.bool (decide (n < 0)), .slice a zs.length c, .bool (decide (d < 0)), .slice b ts.length e], .agg #[.bool (decide (n' < 0)), .slice a' zs'.length c', .bool (decide (d' < 0)), .slice b' ts'.length e']] w fun e w' => e = .returned (.int .i64 (cmpZ (n * d') (n' * d))) ∧ Below w.heap.size w w' := by
  obtain ⟨q1, q2⟩ := fND_is h1.lim k1.1 k1.2.1 k1.2.2 h2.lim k2.1 k2.2.1 k2.2.2 p1
  obtain ⟨q3, q4⟩ := fND_is h3.lim k3.1 k3.2.1 k3.2.2 h4.lim k4.1 k4.2.1 k4.2.2 p2
  have := implCmpFrac (decide (n < 0)) (decide (d < 0)) (decide (n' < 0)) (decide (d' < 0)) a b a' b' c e c' e' zs ts zs' ts' w h1 h2 h3 h4
  rw [q1, q2, q3, q4] at this
  exact this

set_option maxHeartbeats 1000000 in
theorem lawWhole (n : Int) (w : World) (h1 : -9223372036854775808 ≤ n) (h2 : n ≤ 9223372036854775807) :
    Calls Try.prog 12 #[.int .i64 n] w fun e w' => ∃ v, e = .returned v ∧ IsFrac w.heap.size w' v n 1 ∧ Below w.heap.size w w' := by
  have B0 := below1 w (.cells #[.bool false, .slice none 0 0, .bool false, .slice none 0 0] 37)
  have HN : Hid (-9223372036854775808 ≤ n ∧ n ≤ 9223372036854775807) := ⟨h1, h2⟩
  clear h1 h2
  obtain ⟨f, hf⟩ : ∃ f, Hid (decide (n < 0) = f) := ⟨_, rfl⟩
  go_enter Try.func12, Try.ntmps12
  go_wp2_with fail
  refine (specOf n _ HN.out.1 HN.out.2).mono ?_
  rintro e w1 ⟨v, rfl, hI, hb1⟩
  obtain ⟨a1, c1, xs, rfl, o1, n1, v1⟩ := hI
  rw [hf.out]
  go_wp2_with fail
  refine (specOf 1 _ (by decide) (by decide)).mono ?_
  rintro e w2 ⟨v, rfl, hI, hb2⟩
  obtain ⟨a2, c2, ys, rfl, o2, n2, v2⟩ := hI
  obtain ⟨q1, r1⟩ := at_block hb1 (b := w.heap.size) (by simp)
  have z1 : w.heap.size < w1.heap.size := by have := hb1.size; simp at this; omega
  have q2 := fun o => (hb2.cell (p := ⟨w.heap.size, o, none⟩) z1).trans (q1 o)
  have r2 := fun o => (hb2.frozen (p := ⟨w.heap.size, o, none⟩) z1).trans (r1 o)
  have z2 := Nat.lt_of_lt_of_le z1 hb2.size
  have B1 := (B0.trans (hb1.mono (by simp)))
  have B2 := B1.trans (hb2.mono B1.size)
  have hJ := (IsFrac.two o1 n1 v1 hb2 o2 n2 v2 hb1.size).base_le (show w.heap.size + 1 ≤ _ by simp)
  rw [hf.out] at hJ
  have JP := hJ.put (b := w.heap.size) (b0 := w.heap.size) (by omega) (by omega) (.bool f) (.slice a1 xs.length c1) (.bool false) (.slice a2 ys.length c2)
  have BP := below_put4 (b := w.heap.size) B2 (by omega) (.bool f) (.slice a1 xs.length c1) (.bool false) (.slice a2 ys.length c2)
  clear hb1 hb2 o1 o2 q1 r1 B0 B1 B2 hJ
  go_wp2
  exact bodyPost_ret (v := .agg #[.bool f, .slice a1 xs.length c1, .bool false, .slice a2 ys.length c2]) (by simp [results, Try.results12, go_sem, q2]) rfl ⟨_, rfl, JP, BP⟩

theorem big_any (a : Option Addr) (n cap : Nat) (w : World) :
    Calls Try.prog 4 #[.slice a n cap] w fun e w' => e = .returned (.bool (decide (1048576 < (n : Int)))) ∧ w' = w := by
  go_enter Try.func4, Try.ntmps4
  go_wp2
  go_ret
  exact ⟨rfl, rfl⟩
end Go.Proofs.Ytcnmglghmianoaa
