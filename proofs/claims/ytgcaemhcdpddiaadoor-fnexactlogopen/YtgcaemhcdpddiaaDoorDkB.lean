/- Disks that lie beside what was marked. -/
import Derived.Test.YtgcaemhcdpddiaaDoorDkU
namespace Go.Proofs.YtgcaemhcdpddiaaDoor
open Go.RowKit

theorem owns_butQ {lo e size n : Nat} {w w' : World} {v : Value} {xs : List Value} {us : List Value} (h : w.ownsRow lo e size v n xs) (hb : ButQ us w w') (ne : ∀ u ∈ us, ∀ k, u.ownBlock = some k → k < lo) : w'.ownsRow lo e size v n xs := by
  refine ⟨h.1, ?_⟩
  rcases h.2 with q2 | ⟨g, cap, cur, hv, q3, q4, q5⟩
  · exact .inl q2
  · have hl := (World.ownsRow.lt h g (by rw [hv]; rfl)).2
    exact .inr ⟨g, cap, cur, hv, q3, (hb.2 g hl (fun u hu e => by have := ne u hu g e; omega)).trans q4, q5⟩
theorem DkR.butQ {lo : Nat} {w w' : World} {bv qv : Value} {vs : List Value} {bs : List Int} {qs : List Wr} {us : List Value} (h : DkR lo w bv qv vs bs qs) (hb : ButQ us w w') (ne : ∀ u ∈ us, ∀ k, u.ownBlock = some k → k < lo) : DkR lo w' bv qv vs bs qs :=
  ⟨owns_butQ h.row hb ne, ⟨owns_butQ h.que.own hb ne, h.que.len, fun i u hu => owns_butQ (h.que.rows i u hu) hb ne, h.que.ne, h.que.apart⟩, h.ap⟩
theorem DkR.tops' {lo b : Nat} {w : World} {bv qv : Value} {vs : List Value} {bs : List Int} {qs : List Wr} (h : DkR lo w bv qv vs bs qs) (hb : w.heap.size ≤ b) : Hid (∀ u ∈ (bv :: qv :: vs), ∀ k, u.ownBlock = some k → k < b) := by
  intro u hu k hk
  have := h.lts
  rcases List.mem_cons.1 hu with rfl | hu
  · have := (this.1 k hk).2; omega
  · rcases List.mem_cons.1 hu with rfl | hu
    · have := (this.2.1 k hk).2; omega
    · have := (this.2.2 u hu k hk).2; omega
theorem eqDiskN {lo lo' n : Nat} (a a2 b b2 : Option Addr) (c c2 d d2 : Nat) (vs us : List Value) (bs : List Int) (qs : List Wr) (w : World) (hn : bs.length = n) (h : DkR lo w (.slice a n c) (.slice a2 qs.length c2) vs bs qs) (k : DkR lo' w (.slice b n d) (.slice b2 qs.length d2) us bs qs) :
    Calls Tryd.prog 10 #[.agg #[.slice a n c, .slice a2 qs.length c2], .agg #[.slice b n d, .slice b2 qs.length d2]] w fun e w' => e = .returned (.bool true) ∧ Below w.heap.size w w' := by
  subst hn
  exact eqDisk_any a a2 b b2 c c2 d d2 vs us bs qs w h k
theorem markDiskN {lo n : Nat} (a a2 : Option Addr) (c c2 : Nat) (vs : List Value) (bs : List Int) (qs : List Wr) (w : World) (hn : bs.length = n) (h : DkR lo w (.slice a n c) (.slice a2 qs.length c2) vs bs qs) (hb1 : n ≤ 2000000) (hs : uptoQ qs qs.length ≤ 2000000) :
    Calls Tryd.prog 11 #[.agg #[.slice a n c, .slice a2 qs.length c2], .int .i64 1] w fun e w' => e = .returned (.int .i64 (1 + (n : Int) + (uptoQ qs qs.length : Nat))) ∧ DkR lo w' (.slice a n c) (.slice a2 qs.length c2) vs (mkY 1 n) (mkQs (1 + (n : Int)) qs qs.length) ∧ ButQ (.slice a n c :: .slice a2 qs.length c2 :: vs) w w' ∧ (∀ b, b ≤ lo → b ≤ w.heap.size → Below b w w') := by
  subst hn
  exact markDisk_any a a2 c c2 vs bs qs w h hb1 hs
end Go.Proofs.YtgcaemhcdpddiaaDoor
