/- Trees of a call's own: a kid's rows lie above its own block. -/
import Derived.Test.YtilobdohoaoikaaTrL
namespace Go.Proofs.Ytilobdohoaoikaa
open Go.RowKit

/-- A block of cells that nothing froze. -/
def Plain (w : World) (p : Nat) : Prop := ∃ cs T, w.heap[p]? = some (.cells cs T (0, 0))
theorem Plain.lt {w : World} {p : Nat} (h : Plain w p) : p < w.heap.size := by
  obtain ⟨cs, T, e⟩ := h
  rcases Nat.lt_or_ge p w.heap.size with k | k
  · exact k
  · rw [Array.getElem?_eq_none k] at e
    cases e
theorem Plain.below {w w' : World} {p : Nat} (h : Plain w p) (hb : Below w.heap.size w w') : Plain w' p := by
  have hl := h.lt
  obtain ⟨cs, T, e⟩ := h
  exact ⟨cs, T, (hb.block p hl).trans e⟩
theorem Plain.put {w : World} {p q k : Nat} (h : Plain w p) (u : Value) : Plain (w.setCell ⟨q, k, none⟩ u) p := by
  obtain ⟨cs, T, e⟩ := h
  by_cases hq : p = q
  · subst hq
    refine ⟨cs.setIfInBounds k u, T, ?_⟩
    simp only [World.setCell]
    rw [Array.getElem?_modify, if_pos rfl, e]
    rfl
  · exact ⟨cs, T, (Below.heap_setCell w ⟨q, k, none⟩ u p hq).trans e⟩
theorem Plain.new (w : World) (cs : Array Value) (T : TypeId) : Plain (w.alloc (.cells cs T)) w.heap.size := ⟨cs, T, heap_alloc_new _ _⟩
/-- A row that is not empty is there, and nothing froze it. -/
def Fz (w : World) (n : Nat) (a : Option Addr) : Prop := ∀ b off, a = some ⟨b, off, none⟩ → 0 < n → b < w.heap.size ∧ ∀ o, w.frozen? ⟨b, o, none⟩ = false
theorem Fz.below {w w' : World} {n : Nat} {a : Option Addr} (h : Fz w n a) (hb : Below w.heap.size w w') : Fz w' n a := fun b off e hn => by
  obtain ⟨h1, h2⟩ := h b off e hn
  exact ⟨Nat.lt_of_lt_of_le h1 hb.size, fun o => (World.frozen?_of_block (a := ⟨b, o, none⟩) (hb.block b h1)).trans (h2 o)⟩
theorem Fz.put {w : World} {n : Nat} {a : Option Addr} (h : Fz w n a) (q : Addr) (u : Value) : Fz (w.setCell q u) n a := fun b off e hn => by
  obtain ⟨h1, h2⟩ := h b off e hn
  exact ⟨by simpa [World.setCell] using h1, fun o => by rw [World.frozen?_setCell]; exact h2 o⟩
/-- As NdIn, and a kid's rows lie in blocks above its own one. -/
inductive NdUp (w : World) : Nat → Nd → Value → Value → Value → Prop where
  | mk {lo : Nat} {b : Bx} {bs : List Bx} {is : List Int} {ks : List Nd} {a1 a2 a3 : Option Addr} {c1 c2 c3 : Nat} (s1 : SeesX w a1 c1 bs) (f1 : From lo bs.length a1) (s2 : SeesI w a2 c2 is) (f2 : From lo is.length a2) (z1 : Fz w bs.length a1) (z2 : Fz w is.length a2) (h3 : ks.length ≤ c3) (m3 : c3 ≤ maxLen) (f3 : From lo ks.length a3)
      {p o : Nat} {g1 g2 g3 : Nat → Value} (ha : ks ≠ [] → a3 = some ⟨p, o, none⟩) (hP : ks ≠ [] → Plain w p) (hS : ∀ i, i < ks.length → Sev w p (o + i * 7) (ndA ks i).b (g1 i) (g2 i) (g3 i)) (hN : ∀ i, i < ks.length → NdUp w (p + 1) (ndA ks i) (g1 i) (g2 i) (g3 i)) : NdUp w lo (.mk b bs is ks) (.slice a1 bs.length c1) (.slice a2 is.length c2) (.slice a3 ks.length c3)
structure NdsUp (w : World) (lo : Nat) (a : Option Addr) (c : Nat) (ks : List Nd) : Prop where
  fits : ks.length ≤ c
  max : c ≤ maxLen
  frm : From lo ks.length a
  cells : ks ≠ [] → ∃ p o, a = some ⟨p, o, none⟩ ∧ Plain w p ∧ ∀ i, i < ks.length → ∃ v1 v2 v3, Sev w p (o + i * 7) (ndA ks i).b v1 v2 v3 ∧ NdUp w (p + 1) (ndA ks i) v1 v2 v3
theorem NdUp.open {lo : Nat} {w : World} {t : Nd} {v1 v2 v3 : Value} (h : NdUp w lo t v1 v2 v3) : ∃ a1 c1 a2 c2 a3 c3, v1 = .slice a1 t.bs.length c1 ∧ v2 = .slice a2 t.is.length c2 ∧ v3 = .slice a3 t.ks.length c3 ∧ SeesX w a1 c1 t.bs ∧ From lo t.bs.length a1 ∧ SeesI w a2 c2 t.is ∧ From lo t.is.length a2 ∧ NdsUp w lo a3 c3 t.ks := by
  cases h with
  | mk s1 f1 s2 f2 z1 z2 h3 m3 f3 ha hP hS hN => exact ⟨_, _, _, _, _, _, rfl, rfl, rfl, s1, f1, s2, f2, ⟨h3, m3, f3, fun hn => ⟨_, _, ha hn, hP hn, fun i hi => ⟨_, _, _, hS i hi, hN i hi⟩⟩⟩⟩
theorem NdUp.open2 {lo : Nat} {w : World} {t : Nd} {v1 v2 v3 : Value} (h : NdUp w lo t v1 v2 v3) : ∃ a1 c1 a2 c2 a3 c3, v1 = .slice a1 t.bs.length c1 ∧ v2 = .slice a2 t.is.length c2 ∧ v3 = .slice a3 t.ks.length c3 ∧ SeesX w a1 c1 t.bs ∧ From lo t.bs.length a1 ∧ SeesI w a2 c2 t.is ∧ From lo t.is.length a2 ∧ NdsUp w lo a3 c3 t.ks ∧ Fz w t.bs.length a1 ∧ Fz w t.is.length a2 := by
  cases h with
  | mk s1 f1 s2 f2 z1 z2 h3 m3 f3 ha hP hS hN => exact ⟨_, _, _, _, _, _, rfl, rfl, rfl, s1, f1, s2, f2, ⟨h3, m3, f3, fun hn => ⟨_, _, ha hn, hP hn, fun i hi => ⟨_, _, _, hS i hi, hN i hi⟩⟩⟩, z1, z2⟩
theorem NdUp.shut {lo : Nat} {w : World} {b : Bx} {bs : List Bx} {is : List Int} {ks : List Nd} {a1 a2 a3 : Option Addr} {c1 c2 c3 : Nat} (s1 : SeesX w a1 c1 bs) (f1 : From lo bs.length a1) (s2 : SeesI w a2 c2 is) (f2 : From lo is.length a2) (z1 : Fz w bs.length a1) (z2 : Fz w is.length a2) (h : NdsUp w lo a3 c3 ks) : NdUp w lo (.mk b bs is ks) (.slice a1 bs.length c1) (.slice a2 is.length c2) (.slice a3 ks.length c3) := by
  by_cases hn : ks = []
  · subst hn
    exact .mk (p := 0) (o := 0) (g1 := fun _ => .bool false) (g2 := fun _ => .bool false) (g3 := fun _ => .bool false) s1 f1 s2 f2 z1 z2 h.fits h.max h.frm (fun e => absurd rfl e) (fun e => absurd rfl e) (fun i hi => absurd hi (by simp)) (fun i hi => absurd hi (by simp))
  · obtain ⟨p, o, ea, hp, hc⟩ := h.cells hn
    have hc' : ∀ i, ∃ v1 v2 v3, i < ks.length → Sev w p (o + i * 7) (ndA ks i).b v1 v2 v3 ∧ NdUp w (p + 1) (ndA ks i) v1 v2 v3 := fun i => by
      by_cases hi : i < ks.length
      · obtain ⟨v1, v2, v3, q⟩ := hc i hi
        exact ⟨v1, v2, v3, fun _ => q⟩
      · exact ⟨.bool false, .bool false, .bool false, fun q => absurd q hi⟩
    exact .mk (p := p) (o := o) (g1 := fun i => (hc' i).choose) (g2 := fun i => (hc' i).choose_spec.choose) (g3 := fun i => (hc' i).choose_spec.choose_spec.choose) s1 f1 s2 f2 z1 z2 h.fits h.max h.frm (fun _ => ea) (fun _ => hp) (fun i hi => ((hc' i).choose_spec.choose_spec.choose_spec hi).1) (fun i hi => ((hc' i).choose_spec.choose_spec.choose_spec hi).2)
theorem NdUp.keep {w w' : World} (hb : Below w.heap.size w w') : ∀ (t : Nd) {lo : Nat} {v1 v2 v3 : Value}, NdUp w lo t v1 v2 v3 → NdUp w' lo t v1 v2 v3 := by
  refine Nd.ind (P := fun t => ∀ {lo : Nat} {v1 v2 v3 : Value}, NdUp w lo t v1 v2 v3 → NdUp w' lo t v1 v2 v3) ?_
  intro b bs is ks ih lo v1 v2 v3 h
  cases h with
  | mk s1 f1 s2 f2 z1 z2 h3 m3 f3 ha hP hS hN => exact .mk (s1.below hb) f1 (s2.below hb) f2 (z1.below hb) (z2.below hb) h3 m3 f3 ha (fun hn => (hP hn).below hb) (fun i hi => (hS i hi).below hb) (fun i hi => ih _ (ndA_mem hi) (hN i hi))
theorem NdUp.lower {lo lo' : Nat} {w : World} (hl : lo' ≤ lo) (t : Nd) {v1 v2 v3 : Value} (h : NdUp w lo t v1 v2 v3) : NdUp w lo' t v1 v2 v3 := by
  cases h with
  | mk s1 f1 s2 f2 z1 z2 h3 m3 f3 ha hP hS hN => exact .mk s1 (f1.lower hl) s2 (f2.lower hl) z1 z2 h3 m3 (f3.lower hl) ha hP hS hN
theorem NdUp.put {q k : Nat} {w : World} {u : Value} : ∀ (t : Nd) {lo : Nat} {v1 v2 v3 : Value}, q < lo → NdUp w lo t v1 v2 v3 → NdUp (w.setCell ⟨q, k, none⟩ u) lo t v1 v2 v3 := by
  refine Nd.ind (P := fun t => ∀ {lo : Nat} {v1 v2 v3 : Value}, q < lo → NdUp w lo t v1 v2 v3 → NdUp (w.setCell ⟨q, k, none⟩ u) lo t v1 v2 v3) ?_
  intro b bs is ks ih lo v1 v2 v3 hq h
  cases h with
  | mk s1 f1 s2 f2 z1 z2 h3 m3 f3 ha hP hS hN =>
    have hlt : ∀ i, i < ks.length → q < _ := fun i hi => Nat.lt_of_lt_of_le hq (f3 _ _ (ha (by intro e; rw [e] at hi; simp at hi)) (by omega))
    refine .mk (s1.putN (fun b off e hn => by have := f1 b off e (List.length_pos_iff.2 hn); omega) k u) f1 (s2.put (fun b off e hn => by have := f2 b off e (List.length_pos_iff.2 hn); omega) k u) f2 (z1.put ⟨q, k, none⟩ u) (z2.put ⟨q, k, none⟩ u) h3 m3 f3 ha (fun hn => (hP hn).put u) (fun i hi => ?_) (fun i hi => ih _ (ndA_mem hi) (Nat.lt_succ_of_lt (hlt i hi)) (hN i hi))
    exact (hS i hi).put (.inl (Nat.ne_of_gt (hlt i hi))) u
theorem NdUp.toIn {w : World} : ∀ (t : Nd) {lo : Nat} {v1 v2 v3 : Value}, NdUp w lo t v1 v2 v3 → NdIn lo w t v1 v2 v3 := by
  refine Nd.ind (P := fun t => ∀ {lo : Nat} {v1 v2 v3 : Value}, NdUp w lo t v1 v2 v3 → NdIn lo w t v1 v2 v3) ?_
  intro b bs is ks ih lo v1 v2 v3 h
  cases h with
  | mk s1 f1 s2 f2 z1 z2 h3 m3 f3 ha hP hS hN => exact .mk s1 f1 s2 f2 h3 m3 f3 ha hS (fun i hi => NdIn.lower (Nat.le_succ_of_le (f3 _ _ (ha (by intro e; rw [e] at hi; simp at hi)) (by omega))) _ (ih _ (ndA_mem hi) (hN i hi)))
theorem NdsUp.below {lo : Nat} {w w' : World} {a : Option Addr} {c : Nat} {ks : List Nd} (h : NdsUp w lo a c ks) (hb : Below w.heap.size w w') : NdsUp w' lo a c ks :=
  ⟨h.fits, h.max, h.frm, fun hn => by
    obtain ⟨p, o, ea, hp, hc⟩ := h.cells hn
    refine ⟨p, o, ea, hp.below hb, fun i hi => ?_⟩
    obtain ⟨v1, v2, v3, S, N⟩ := hc i hi
    exact ⟨v1, v2, v3, S.below hb, NdUp.keep hb _ N⟩⟩
theorem NdsUp.lower {lo lo' : Nat} {w : World} {a : Option Addr} {c : Nat} {ks : List Nd} (h : NdsUp w lo a c ks) (hl : lo' ≤ lo) : NdsUp w lo' a c ks := ⟨h.fits, h.max, h.frm.lower hl, h.cells⟩
end Go.Proofs.Ytilobdohoaoikaa
