/- Disks and boxes stay where but others were written. -/
import Derived.Test.YtagkcaiodciomaaQuM
namespace Go.Proofs.Ytagkcaiodciomaa
open Go.RowKit

theorem owns_under {lo b e size n : Nat} {w w' : World} {u : Value} {xs : List Value} (h : w.ownsRow lo e size u n xs) (hb : Below b w w') (nu : ∀ k, u.ownBlock = some k → k < b) : w'.ownsRow lo e size u n xs := by
  refine ⟨h.1, ?_⟩
  rcases h.2 with q2 | ⟨g, cap, cur, hv, q3, q4, q5⟩
  · exact .inl q2
  · exact .inr ⟨g, cap, cur, hv, q3, (hb.block g (nu g (by rw [hv]; rfl))).trans q4, q5⟩
theorem DkR.under {lo b : Nat} {w w' : World} {bv qv : Value} {vs : List Value} {bs : List Int} {qs : List Wr} (h : DkR lo w bv qv vs bs qs) (hb : Below b w w') (hs : Hid ((∀ k, bv.ownBlock = some k → k < b) ∧ (∀ k, qv.ownBlock = some k → k < b) ∧ ∀ u ∈ vs, ∀ k, u.ownBlock = some k → k < b)) : DkR lo w' bv qv vs bs qs :=
  ⟨owns_under h.row hb hs.out.1, h.que.under hb hs.out.2.1 hs.out.2.2, h.ap⟩
theorem DkR.tops {lo b : Nat} {w : World} {bv qv : Value} {vs : List Value} {bs : List Int} {qs : List Wr} (h : DkR lo w bv qv vs bs qs) (hb : w.heap.size ≤ b) : Hid ((∀ k, bv.ownBlock = some k → k < b) ∧ (∀ k, qv.ownBlock = some k → k < b) ∧ ∀ u ∈ vs, ∀ k, u.ownBlock = some k → k < b) :=
  ⟨fun k hk => Nat.lt_of_lt_of_le (h.lts.1 k hk).2 hb, fun k hk => Nat.lt_of_lt_of_le (h.lts.2.1 k hk).2 hb, fun u hu k hk => Nat.lt_of_lt_of_le (h.lts.2.2 u hu k hk).2 hb⟩
theorem Box2.underB {lo p b : Nat} {w w' : World} {x0 x1 : Value} (h : Box2 lo w p x0 x1) (hb : Below b w w') (hp : p < b) : Box2 lo w' p x0 x1 := by
  have e := hb.block p hp
  exact ⟨(World.cell?_of_block (a := ⟨p, 0, none⟩) e).trans h.c0, (World.cell?_of_block (a := ⟨p, 1, none⟩) e).trans h.c1, fun o => (World.frozen?_of_block (a := ⟨p, o, none⟩) e).trans (h.fr o), h.lo⟩
theorem Box2.butQ {lo p : Nat} {w w' : World} {x0 x1 : Value} {us : List Value} (h : Box2 lo w p x0 x1) (hb : ButQ us w w') (ne : ∀ u ∈ us, u.ownBlock ≠ some p) : Box2 lo w' p x0 x1 := by
  have e := hb.2 p h.lt ne
  exact ⟨(World.cell?_of_block (a := ⟨p, 0, none⟩) e).trans h.c0, (World.cell?_of_block (a := ⟨p, 1, none⟩) e).trans h.c1, fun o => (World.frozen?_of_block (a := ⟨p, o, none⟩) e).trans (h.fr o), h.lo⟩
/-- No block of a disk is one from b on. -/
theorem DkR.nots {lo p : Nat} {w : World} {bv qv : Value} {vs : List Value} {bs : List Int} {qs : List Wr} (h : DkR lo w bv qv vs bs qs) (hp : w.heap.size ≤ p ∨ p < lo) : Hid (∀ u ∈ (bv :: qv :: vs), u.ownBlock ≠ some p) := by
  intro u hu e
  have := h.lts
  rcases List.mem_cons.1 hu with rfl | hu
  · have := this.1 p e; omega
  · rcases List.mem_cons.1 hu with rfl | hu
    · have := this.2.1 p e; omega
    · have := this.2.2 u hu p e; omega
end Go.Proofs.Ytagkcaiodciomaa
