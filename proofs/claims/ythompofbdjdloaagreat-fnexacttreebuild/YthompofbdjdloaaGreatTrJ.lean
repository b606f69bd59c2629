/- Trees at work, of the program: kidsOf, kidsOfAll over *node[int]. -/
import Derived.Test.YthompofbdjdloaaGreatTrI
import Derived.Test.YthompofbdjdloaaGreatTrC
namespace Go.Proofs.YthompofbdjdloaaGreat
open Go.RowKit

/-- In this block lies the tree at work; its kids lie below. -/
inductive WkAt (w : World) : Nat → Nd → Prop where
  | mk {p : Nat} {b : Bx} {bs : List Bx} {is : List Int} {ks : List Nd} {a1 a2 : Option Addr} {c1 c2 : Nat} {qs : List Ptr} (K : Wk6 w p b (.slice a1 bs.length c1) (.slice a2 ks.length c2)) (I : SeesIt w a1 c1 bs is) (Q : SeesTp w a2 c2 qs) (hl : qs.length = ks.length) (hz : ks.length = 0 → a2 = none ∧ c2 = 0) (h0 : ∀ i, i < ks.length → (ptAt qs i).2 = 0) (hlt : ∀ i, i < ks.length → (ptAt qs i).1 < p) (hN : ∀ i, i < ks.length → WkAt w (ptAt qs i).1 (ndA ks i)) : WkAt w p (.mk b bs is ks)
/-- The pointers point to these trees at work. -/
def WkL (w : World) (qs : List Ptr) (ts : List Nd) : Prop := qs.length = ts.length ∧ ∀ i, i < ts.length → (ptAt qs i).2 = 0 ∧ WkAt w (ptAt qs i).1 (ndA ts i)
theorem WkAt.open {w : World} {p : Nat} {t : Nd} (h : WkAt w p t) : ∃ a1 c1 a2 c2 qs, Wk6 w p t.b (.slice a1 t.bs.length c1) (.slice a2 t.ks.length c2) ∧ SeesIt w a1 c1 t.bs t.is ∧ SeesTp w a2 c2 qs ∧ WkL w qs t.ks ∧ (∀ i, i < t.ks.length → (ptAt qs i).1 < p) ∧ (t.ks.length = 0 → a2 = none ∧ c2 = 0) := by
  cases h with
  | mk K I Q hl hz h0 hlt hN => exact ⟨_, _, _, _, _, K, I, Q, ⟨hl, fun i hi => ⟨h0 i hi, hN i hi⟩⟩, hlt, hz⟩
theorem WkAt.keep {w w' : World} (hb : Below w.heap.size w w') : ∀ (t : Nd) {p : Nat}, WkAt w p t → WkAt w' p t := by
  refine Nd.ind (P := fun t => ∀ {p : Nat}, WkAt w p t → WkAt w' p t) ?_
  intro b bs is ks ih p h
  cases h with
  | mk K I Q hl hz h0 hlt hN => exact .mk (K.below hb) (I.below hb) (Q.below hb) hl hz h0 hlt (fun i hi => ih _ (ndA_mem hi) (hN i hi))
theorem WkL.below {w w' : World} {qs : List Ptr} {ts : List Nd} (h : WkL w qs ts) (hb : Below w.heap.size w w') : WkL w' qs ts := ⟨h.1, fun i hi => ⟨(h.2 i hi).1, WkAt.keep hb _ (h.2 i hi).2⟩⟩
theorem WkL.app {w : World} {qs rs : List Ptr} {ts ks : List Nd} (h : WkL w qs ts) (k : WkL w rs ks) : WkL w (qs ++ rs) (ts ++ ks) := by
  refine ⟨by rw [List.length_append, List.length_append, h.1, k.1], fun i hi => ?_⟩
  rw [ptAt_append, ndA_append, h.1]
  by_cases c : i < ts.length
  · rw [if_pos c, if_pos c]
    exact h.2 i c
  · rw [if_neg c, if_neg c]
    rw [List.length_append] at hi
    exact k.2 (i - ts.length) (by omega)
end Go.Proofs.YthompofbdjdloaaGreat
