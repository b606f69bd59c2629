import Derived.Test.YthbobfmjlnlfdaaFTake
import Derived.Test.YthbobfmjlnlfdaaMulW
import Derived.Deep.RegionHeld3
import Derived.Test.YthbobfmjlnlfdaaPtH
/- Fractions compared: impl.Frac's compared, impl.CmpFrac. -/
namespace Go.Proofs.Ythbobfmjlnlfdaa
open Go.RowKit

theorem sg_of_mg (z : Int) : sg (decide (z < 0)) (mg z) = z := by
  unfold sg mg
  by_cases h : z < 0
  · rw [decide_eq_true h, if_pos rfl, if_pos h]; omega
  · rw [decide_eq_false h, if_neg h]; simp
theorem flag_nil {ys : List Int} {z : Int} (hv : val ys = mg z) : ys = [] → decide (z < 0) = false := by
  rintro rfl
  have : mg z = 0 := by rw [← hv]; rfl
  unfold mg at this
  simp
  split at this <;> omega

theorem box8 (w : World) (s t s' t' : Bool) (a b a' b' : Option Addr) (n m n' m' c d c' d' : Nat) (T : TypeId) :
    ((w.alloc (.cells #[.bool s, .slice a n c, .bool t, .slice b m d] T)).alloc (.cells #[.bool s', .slice a' n' c', .bool t', .slice b' m' d'] T)).cell? ⟨w.heap.size, 0, none⟩ = some (.bool s) ∧ ((w.alloc (.cells #[.bool s, .slice a n c, .bool t, .slice b m d] T)).alloc (.cells #[.bool s', .slice a' n' c', .bool t', .slice b' m' d'] T)).cell? ⟨w.heap.size, 1, none⟩ = some (.slice a n c) ∧ ((w.alloc (.cells #[.bool s, .slice a n c, .bool t, .slice b m d] T)).alloc (.cells #[.bool s', .slice a' n' c', .bool t', .slice b' m' d'] T)).cell? ⟨w.heap.size, 2, none⟩ = some (.bool t) ∧ ((w.alloc (.cells #[.bool s, .slice a n c, .bool t, .slice b m d] T)).alloc (.cells #[.bool s', .slice a' n' c', .bool t', .slice b' m' d'] T)).cell? ⟨w.heap.size, 3, none⟩ = some (.slice b m d) ∧ ((w.alloc (.cells #[.bool s, .slice a n c, .bool t, .slice b m d] T)).alloc (.cells #[.bool s', .slice a' n' c', .bool t', .slice b' m' d'] T)).cell? ⟨w.heap.size + 1, 0, none⟩ = some (.bool s') ∧ ((w.alloc (.cells #[.bool s, .slice a n c, .bool t, .slice b m d] T)).alloc (.cells #[.bool s', .slice a' n' c', .bool t', .slice b' m' d'] T)).cell? ⟨w.heap.size + 1, 1, none⟩ = some (.slice a' n' c') ∧ ((w.alloc (.cells #[.bool s, .slice a n c, .bool t, .slice b m d] T)).alloc (.cells #[.bool s', .slice a' n' c', .bool t', .slice b' m' d'] T)).cell? ⟨w.heap.size + 1, 2, none⟩ = some (.bool t') ∧ ((w.alloc (.cells #[.bool s, .slice a n c, .bool t, .slice b m d] T)).alloc (.cells #[.bool s', .slice a' n' c', .bool t', .slice b' m' d'] T)).cell? ⟨w.heap.size + 1, 3, none⟩ = some (.slice b' m' d') := by
  refine ⟨by simp [go_sem], by simp [go_sem], by simp [go_sem], by simp [go_sem], by simp [go_sem], by simp [go_sem], by simp [go_sem], by simp [go_sem]⟩

set_option maxRecDepth 20000 in
set_option maxHeartbeats 4000000 in
theorem fcomparedC (s t s' t' : Bool) (a b a' b' : Option Addr) (c d c' d' : Nat) (ns ds ns' ds' : List Int) (w : World) (h1 : Sees w a c ns) (h2 : Sees w b d ds) (k1 : Sees w a' c' ns') (k2 : Sees w b' d' ds') (l1 : ns.length ≤ 24) (l2 : ds.length ≤ 24) (l3 : ns'.length ≤ 24) (l4 : ds'.length ≤ 24) :
    Calls Try.prog 20 #[.agg #[.bool s, .slice a ns.length c, .bool t, .slice b ds.length d], .agg #[.bool s', .slice a' ns'.length c', .bool t', .slice b' ds'.length d']] w fun e w' => e = .returned (.int .i64 (cmpZ (sg s (val ns) * sg t' (val ds')) (sg s' (val ns') * sg t (val ds)))) ∧ Below w.heap.size w w' := by
  obtain ⟨z1, hz1⟩ : ∃ z, Hid (sg (s != t') (val ns * val ds') = z) := ⟨_, rfl⟩
  obtain ⟨z2, hz2⟩ : ∃ z, Hid (sg (s' != t) (val ns' * val ds) = z) := ⟨_, rfl⟩
  have E : Hid (cmpZ (sg s (val ns) * sg t' (val ds')) (sg s' (val ns') * sg t (val ds)) = cmpZ z1 z2) := by show _ = _; rw [← hz1.out, ← hz2.out, sg_mul, sg_mul]
  have B0 := below2 w (.cells #[.bool s, .slice a ns.length c, .bool t, .slice b ds.length d] 42) (.cells #[.bool s', .slice a' ns'.length c', .bool t', .slice b' ds'.length d'] 42)
  have k0 := box8 w s t s' t' a b a' b' ns.length ds.length ns'.length ds'.length c d c' d' 42
  have h1' := h1.below B0
  have h2' := h2.below B0
  have k1' := k1.below B0
  have k2' := k2.below B0
  clear h1 h2 k1 k2
  go_enter Try.func20, Try.ntmps20
  go_wp2_with fail
  generalize (w.alloc (.cells #[.bool s, .slice a ns.length c, .bool t, .slice b ds.length d] 42)).alloc (.cells #[.bool s', .slice a' ns'.length c', .bool t', .slice b' ds'.length d'] 42) = W at *
  go_region_held3 (fun w' => w'.cell? ⟨w.heap.size, 0, none⟩ = some (.bool s) ∧ w'.cell? ⟨w.heap.size, 1, none⟩ = some (.slice a ns.length c) ∧ w'.cell? ⟨w.heap.size, 2, none⟩ = some (.bool t) ∧ w'.cell? ⟨w.heap.size, 3, none⟩ = some (.slice b ds.length d) ∧ w'.cell? ⟨w.heap.size + 1, 0, none⟩ = some (.bool s') ∧ w'.cell? ⟨w.heap.size + 1, 1, none⟩ = some (.slice a' ns'.length c') ∧ w'.cell? ⟨w.heap.size + 1, 2, none⟩ = some (.bool t') ∧ w'.cell? ⟨w.heap.size + 1, 3, none⟩ = some (.slice b' ds'.length d'))
    (first | exact k0 | exact m1 | exact m2 | exact m3 | (simp [*]))
    (first
    | (go_at_call_of 32 (Value.agg #[Value.bool s, Value.slice a ns.length c]); refine (productC s t' a b' c d' ns ds' _ ?_ ?_ ?_).mono ?_; exact h1'.below (Below.refl _ _).drew; exact k2'.below (Below.refl _ _).drew; omega; rintro e w1 ⟨v, rfl, hI, hb1⟩; have B1 : Below W.heap.size W w1 := (Below.refl _ _).drew.trans hb1; have m1 : w1.cell? ⟨w.heap.size, 0, none⟩ = some (.bool s) ∧ w1.cell? ⟨w.heap.size, 1, none⟩ = some (.slice a ns.length c) ∧ w1.cell? ⟨w.heap.size, 2, none⟩ = some (.bool t) ∧ w1.cell? ⟨w.heap.size, 3, none⟩ = some (.slice b ds.length d) ∧ w1.cell? ⟨w.heap.size + 1, 0, none⟩ = some (.bool s') ∧ w1.cell? ⟨w.heap.size + 1, 1, none⟩ = some (.slice a' ns'.length c') ∧ w1.cell? ⟨w.heap.size + 1, 2, none⟩ = some (.bool t') ∧ w1.cell? ⟨w.heap.size + 1, 3, none⟩ = some (.slice b' ds'.length d') := ⟨bat B1 k0.1, bat B1 k0.2.1, bat B1 k0.2.2.1, bat B1 k0.2.2.2.1, bat B1 k0.2.2.2.2.1, bat B1 k0.2.2.2.2.2.1, bat B1 k0.2.2.2.2.2.2.1, bat B1 k0.2.2.2.2.2.2.2⟩; rw [hz1.out] at hI; obtain ⟨p1, q1, u1, rfl, o1, n1, v1⟩ := hI; clear hb1)
    | (go_at_call_of 32 (Value.agg #[Value.bool s', Value.slice a' ns'.length c']); refine (productC s' t a' b c' d ns' ds _ ?_ ?_ ?_).mono ?_; exact k1'.below B1; exact h2'.below B1; omega; rintro e w2 ⟨v, rfl, hI, hb2⟩; have B2 : Below W.heap.size W w2 := B1.trans (hb2.mono B1.size); have m2 : w2.cell? ⟨w.heap.size, 0, none⟩ = some (.bool s) ∧ w2.cell? ⟨w.heap.size, 1, none⟩ = some (.slice a ns.length c) ∧ w2.cell? ⟨w.heap.size, 2, none⟩ = some (.bool t) ∧ w2.cell? ⟨w.heap.size, 3, none⟩ = some (.slice b ds.length d) ∧ w2.cell? ⟨w.heap.size + 1, 0, none⟩ = some (.bool s') ∧ w2.cell? ⟨w.heap.size + 1, 1, none⟩ = some (.slice a' ns'.length c') ∧ w2.cell? ⟨w.heap.size + 1, 2, none⟩ = some (.bool t') ∧ w2.cell? ⟨w.heap.size + 1, 3, none⟩ = some (.slice b' ds'.length d') := ⟨bat B2 k0.1, bat B2 k0.2.1, bat B2 k0.2.2.1, bat B2 k0.2.2.2.1, bat B2 k0.2.2.2.2.1, bat B2 k0.2.2.2.2.2.1, bat B2 k0.2.2.2.2.2.2.1, bat B2 k0.2.2.2.2.2.2.2⟩; rw [hz2.out] at hI; obtain ⟨p2, q2, u2, rfl, o2, n2, v2⟩ := hI; have o1' := o1.below hb2; clear hb2)
    | (go_at_call 31; refine (comparedC (decide (z1 < 0)) (decide (z2 < 0)) p1 p2 q1 q2 u1 u2 _ o1'.toSees o2.toSees n1 n2 (flag_nil v1) (flag_nil v2)).mono ?_; rintro e w3 ⟨rfl, hb3⟩; have B3 : Below W.heap.size W w3 := B2.trans (hb3.mono B2.size); have m3 : w3.cell? ⟨w.heap.size, 0, none⟩ = some (.bool s) ∧ w3.cell? ⟨w.heap.size, 1, none⟩ = some (.slice a ns.length c) ∧ w3.cell? ⟨w.heap.size, 2, none⟩ = some (.bool t) ∧ w3.cell? ⟨w.heap.size, 3, none⟩ = some (.slice b ds.length d) ∧ w3.cell? ⟨w.heap.size + 1, 0, none⟩ = some (.bool s') ∧ w3.cell? ⟨w.heap.size + 1, 1, none⟩ = some (.slice a' ns'.length c') ∧ w3.cell? ⟨w.heap.size + 1, 2, none⟩ = some (.bool t') ∧ w3.cell? ⟨w.heap.size + 1, 3, none⟩ = some (.slice b' ds'.length d') := ⟨bat B3 k0.1, bat B3 k0.2.1, bat B3 k0.2.2.1, bat B3 k0.2.2.2.1, bat B3 k0.2.2.2.2.1, bat B3 k0.2.2.2.2.2.1, bat B3 k0.2.2.2.2.2.2.1, bat B3 k0.2.2.2.2.2.2.2⟩; rw [v1, v2, sg_of_mg, sg_of_mg]; clear hb3))
  all_goals
    go_wp2
    go_ret
    exact ⟨by rw [E.out]; rfl, B0.trans (B3.mono B0.size)⟩
end Go.Proofs.Ythbobfmjlnlfdaa

/- The program's CmpFrac. -/
namespace Go.Proofs.Ythbobfmjlnlfdaa
open Go.RowKit

end Go.Proofs.Ythbobfmjlnlfdaa

/- Fractions that are held against one another; the laws' whole number. -/
namespace Go.Proofs.Ythbobfmjlnlfdaa
open Go.RowKit

theorem tk_is {us : List Int} {n : Int} (hl : Lim us) (hn : Nrm us) (l : us.length ≤ 24) (hv : val us = mg n) : tk (decide (n < 0)) us = n := by
  have hk : okB (decide (n < 0)) us = true := by
    unfold okB
    by_cases h0 : us.length = 0
    · rw [if_pos h0]
      obtain rfl : us = [] := List.eq_nil_of_length_eq_zero h0
      have : mg n = 0 := by rw [← hv]; rfl
      unfold mg at this
      simp
      split at this <;> omega
    · rw [if_neg h0]
      have hlast : us.getLast? = some (us[us.length - 1]?.getD 0) := by
        rw [List.getLast?_eq_getElem?, List.getElem?_eq_getElem (by omega)]
        rfl
      have := last_of_Nrm hn _ hlast
      simp [l, this]
  unfold tk tkG tkL
  rw [hk, if_pos rfl, Bool.true_and, hv]
  unfold sg mg
  by_cases h : n < 0 <;> simp [h]
theorem okB_is {us : List Int} {n : Int} (hn : Nrm us) (l : us.length ≤ 24) (hv : val us = mg n) : okB (decide (n < 0)) us = true := by
  unfold okB
  by_cases h0 : us.length = 0
  · rw [if_pos h0]
    obtain rfl : us = [] := List.eq_nil_of_length_eq_zero h0
    have : mg n = 0 := by rw [← hv]; rfl
    unfold mg at this
    simp
    split at this <;> omega
  · rw [if_neg h0]
    have hlast : us.getLast? = some (us[us.length - 1]?.getD 0) := by
      rw [List.getLast?_eq_getElem?, List.getElem?_eq_getElem (by omega)]
      rfl
    have := last_of_Nrm hn _ hlast
    simp [l, this]
theorem fND_is {zs ts : List Int} {n d : Int} (l1 : Lim zs) (n1 : Nrm zs) (s1 : zs.length ≤ 24) (v1 : val zs = mg n) (l2 : Lim ts) (n2 : Nrm ts) (s2 : ts.length ≤ 24) (v2 : val ts = mg d) (hd : 0 < d) :
    fN (decide (n < 0)) zs (decide (d < 0)) ts = n ∧ fD (decide (n < 0)) zs (decide (d < 0)) ts = d := by
  have t1 := tk_is l1 n1 s1 v1
  have t2 := tk_is l2 n2 s2 v2
  have e : fOk (decide (n < 0)) zs (decide (d < 0)) ts = true := by
    unfold fOk
    rw [okB_is n1 s1 v1, okB_is n2 s2 v2, t2]
    unfold cmpZ
    rw [if_neg (by omega), if_neg (by omega)]
    rfl
  unfold fN fD
  rw [if_pos e, if_pos e]
  exact ⟨t1, t2⟩
end Go.Proofs.Ythbobfmjlnlfdaa
