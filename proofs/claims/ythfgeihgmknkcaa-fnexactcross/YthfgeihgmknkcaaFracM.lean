import Derived.Test.YthfgeihgmknkcaaEq
/- The laws' marks on a fraction. -/
namespace Go.Proofs.Ythfgeihgmknkcaa
open Go.RowKit

set_option maxHeartbeats 1000000 in
theorem markF (base : Nat) (g h : Bool) (a b : Option Addr) (c d : Nat) (xs ys : List Int) (k : Int) (w : World) (h1 : Own base w a c xs) (h2 : Own base w b d ys) (hap : ∀ q off, a = some ⟨q, off, none⟩ → xs ≠ [] → rowOf b ys ≠ some q) (hk : 0 ≤ k) (hs : k + xs.length + ys.length < 4294967296) :
    Calls Try.prog 11 #[.agg #[.bool g, .slice a xs.length c, .bool h, .slice b ys.length d], .int .i64 k] w fun e w' => e = .returned (.int .i64 (k + xs.length + ys.length)) ∧ ∃ wm, w.grownBy wm (rowOf a xs) ∧ wm.grownBy w' (rowOf b ys) ∧ Own base w' a c (marks k xs.length) ∧ Own base w' b d (marks (k + xs.length) ys.length) := by
  have hbs : ∀ q off, b = some ⟨q, off, none⟩ → ys ≠ [] → rowOf a xs ≠ some q := by
    intro q off e1 e2 e3
    unfold rowOf at e3
    split at e3
    · cases e3
    · next hn =>
      obtain ⟨q2, off2, ha, _⟩ := h1.cells hn
      rw [ha] at e3
      simp at e3
      subst e3
      refine hap q2 off2 ha hn ?_
      unfold rowOf
      rw [if_neg e2, e1]
      rfl
  have hb0 := below1 w (.cells #[.bool g, .slice a xs.length c, .bool h, .slice b ys.length d] 28)
  have HG0 : w.grownBy (w.alloc (.cells #[.bool g, .slice a xs.length c, .bool h, .slice b ys.length d] 28)) (rowOf a xs) := World.grownBy_alloc _ _ _
  have rz : some w.heap.size ≠ rowOf a xs := row_ne_high h1.toCame (Nat.le_refl _)
  have HA : Hid (∀ q off, a = some ⟨q, off, none⟩ → xs ≠ [] → rowOf b ys ≠ some q) := hap
  have HB : Hid (∀ q off, b = some ⟨q, off, none⟩ → ys ≠ [] → rowOf a xs ≠ some q) := hbs
  have h1' := h1.below hb0
  have h2' := h2.below hb0
  obtain ⟨v0, v1, v2, v3⟩ := fvar_new w g h a b xs.length ys.length c d 28
  clear h1 h2 hap hbs hb0
  go_enter Try.func11, Try.ntmps11
  go_wp2_with fail
  generalize w.alloc (.cells #[.bool g, .slice a xs.length c, .bool h, .slice b ys.length d] 28) = W at *
  refine (markN base g a c xs k _ h1' hk (by omega)).mono ?_
  rintro e w1 ⟨rfl, o1, g1⟩
  have u2 := g1.cell v2 rz
  have u3 := g1.cell v3 rz
  have o2 := h2'.kept g1 HB.out
  clear h1' h2' v0 v1 v2 v3
  go_wp2_with fail
  refine (markN base h b d ys (k + xs.length) _ o2 (by omega) (by omega)).mono ?_
  rintro e w2 ⟨rfl, o3, g2⟩
  have o1' := o1.kept g2 (fun q off e1 e2 => HA.out q off e1 (by intro e; rw [e] at e2; exact e2 rfl))
  clear u2 u3
  go_wp2
  go_ret
  exact ⟨rfl, w1, grownBy_trans HG0 g1, g2, o1', o3⟩
end Go.Proofs.Ythfgeihgmknkcaa

/- The laws' marks on a fraction, held. -/
namespace Go.Proofs.Ythfgeihgmknkcaa
open Go.RowKit

set_option maxHeartbeats 1000000 in
theorem heldF (g h : Bool) (a b : Option Addr) (c d n m : Nat) (k : Int) (w : World) (h1 : Sees w a c (marks k n)) (h2 : Sees w b d (marks (k + n) m)) (hk : 0 ≤ k) (hs : k + n + m < 4294967296) :
    Calls Try.prog 12 #[.agg #[.bool g, .slice a n c, .bool h, .slice b m d], .int .i64 k] w fun e w' => e = .returned (.int .i64 (k + n + m)) ∧ Below w.heap.size w w' := by
  have h0 : 0 ≤ k + n := by omega
  have h0' : 0 ≤ k + n + m := by omega
  have B0 := below1 w (.cells #[.bool g, .slice a n c, .bool h, .slice b m d] 28)
  go_enter Try.func12, Try.ntmps12
  go_wp2_with fail
  refine (heldN g a c n k _ (h1.below B0) hk (by omega)).mono ?_
  rintro e w1 ⟨rfl, hb⟩
  obtain ⟨q, _⟩ := at_block hb (b := w.heap.size) (by simp)
  have B1 := B0.trans (hb.mono (by simp))
  clear hb
  go_wp2_with fail
  refine (heldN h b d m (k + n) _ (h2.below B1) h0 (by omega)).mono ?_
  rintro e w2 ⟨rfl, hb⟩
  have B2 := B1.trans (hb.mono B1.size)
  go_wp2
  go_ret
  exact ⟨rfl, B2⟩
end Go.Proofs.Ythfgeihgmknkcaa
