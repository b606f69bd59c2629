import Derived.Test.YthompofbdjdloaaGreatBxsL
/- Trees of boxes as they lie in memory; how great they are (szNode, szNodeS, szIntS). -/
namespace Go.Proofs.YthompofbdjdloaaGreat
open Go.RowKit

/-- A tree: its box, its boxes, its numbers, its kids. -/
inductive Nd where
  | mk (b : Bx) (bs : List Bx) (is : List Int) (ks : List Nd)
def Nd.b : Nd → Bx | .mk b _ _ _ => b
def Nd.bs : Nd → List Bx | .mk _ bs _ _ => bs
def Nd.is : Nd → List Int | .mk _ _ is _ => is
def Nd.ks : Nd → List Nd | .mk _ _ _ ks => ks
/-- What holds of a tree where it holds of its kids holds of all. -/
theorem Nd.ind {P : Nd → Prop} (h : ∀ b bs is ks, (∀ k ∈ ks, P k) → P (.mk b bs is ks)) : ∀ t, P t := by
  have key : ∀ (n : Nat) (t : Nd), SizeOf.sizeOf t < n → P t := by
    intro n
    induction n with
    | zero => intro t h; omega
    | succ n ih =>
      intro t ht
      obtain ⟨b, bs, is, ks⟩ := t
      refine h b bs is ks (fun k hk => ih k ?_)
      have := List.sizeOf_lt_of_mem hk
      simp only [Nd.mk.sizeOf_spec] at ht
      omega
  exact fun t => key (SizeOf.sizeOf t + 1) t (Nat.lt_succ_self _)
theorem Nd.eta (t : Nd) : t = .mk t.b t.bs t.is t.ks := by cases t; rfl
instance : Inhabited Nd := ⟨.mk (0, 0, 0, 0) [] [] []⟩
def ndA (ks : List Nd) (i : Nat) : Nd := ks[i]?.getD default
theorem ndA_mem {ks : List Nd} {i : Nat} (h : i < ks.length) : ndA ks i ∈ ks := by
  unfold ndA
  rw [List.getElem?_eq_getElem h]
  exact List.getElem_mem h
/-- Numbers that lie in memory, one behind the other. -/
structure SeesI (w : World) (a : Option Addr) (cap : Nat) (is : List Int) : Prop where
  fits : is.length ≤ cap
  max : cap ≤ maxLen
  cells : is ≠ [] → ∃ b off, a = some ⟨b, off, none⟩ ∧ ∀ i, i < is.length → w.cell? ⟨b, off + i, none⟩ = some (.int .i64 (is[i]?.getD 0))
theorem SeesI.below {w w' : World} {a : Option Addr} {cap : Nat} {is : List Int} (h : SeesI w a cap is) (hb : Below w.heap.size w w') : SeesI w' a cap is :=
  ⟨h.fits, h.max, fun hn => by
    obtain ⟨b, off, ha, hc⟩ := h.cells hn
    exact ⟨b, off, ha, fun i hi => bat hb (hc i hi)⟩⟩
theorem SeesI.put {w : World} {a : Option Addr} {cap p : Nat} {is : List Int} (h : SeesI w a cap is) (hp : ∀ b off, a = some ⟨b, off, none⟩ → is ≠ [] → b ≠ p) (o : Nat) (u : Value) : SeesI (w.setCell ⟨p, o, none⟩ u) a cap is :=
  ⟨h.fits, h.max, fun hn => by
    obtain ⟨b, off, ha, hc⟩ := h.cells hn
    exact ⟨b, off, ha, fun i hi => (cell_other (.inl (Ne.symm (hp b off ha hn))) u).trans (hc i hi)⟩⟩
theorem SeesX.putN {w : World} {a : Option Addr} {cap p : Nat} {bs : List Bx} (h : SeesX w a cap bs) (hp : ∀ b off, a = some ⟨b, off, none⟩ → bs ≠ [] → b ≠ p) (o : Nat) (u : Value) : SeesX (w.setCell ⟨p, o, none⟩ u) a cap bs :=
  ⟨h.fits, h.max, fun hn => by
    obtain ⟨b, off, ha, hc⟩ := h.cells hn
    have q : ∀ k, (w.setCell ⟨p, o, none⟩ u).cell? ⟨b, k, none⟩ = w.cell? ⟨b, k, none⟩ := fun k => cell_other (.inl (Ne.symm (hp b off ha hn))) u
    exact ⟨b, off, ha, fun i hi => ⟨(q _).trans (hc i hi).1, (q _).trans (hc i hi).2.1, (q _).trans (hc i hi).2.2.1, (q _).trans (hc i hi).2.2.2⟩⟩⟩
/-- Seven cells, one behind the other: a node. -/
structure Sev (w : World) (p o : Nat) (x : Bx) (v1 v2 v3 : Value) : Prop where
  four : Four w p o x
  c4 : w.cell? ⟨p, o + 4, none⟩ = some v1
  c5 : w.cell? ⟨p, o + 5, none⟩ = some v2
  c6 : w.cell? ⟨p, o + 6, none⟩ = some v3
theorem Sev.below {w w' : World} {p o : Nat} {x : Bx} {v1 v2 v3 : Value} (h : Sev w p o x v1 v2 v3) (hb : Below w.heap.size w w') : Sev w' p o x v1 v2 v3 := ⟨h.four.below hb, bat hb h.c4, bat hb h.c5, bat hb h.c6⟩
theorem Sev.put {w : World} {p q o k : Nat} {x : Bx} {v1 v2 v3 : Value} (h : Sev w p o x v1 v2 v3) (hp : p ≠ q ∨ k < o ∨ o + 7 ≤ k) (u : Value) : Sev (w.setCell ⟨q, k, none⟩ u) p o x v1 v2 v3 := by
  have e : ∀ j, o ≤ j → j < o + 7 → (w.setCell ⟨q, k, none⟩ u).cell? ⟨p, j, none⟩ = w.cell? ⟨p, j, none⟩ := fun j h1 h2 => by
    rcases hp with c | c | c
    · exact cell_other (.inl (Ne.symm c)) u
    · exact cell_other (.inr (by omega)) u
    · exact cell_other (.inr (by omega)) u
  obtain ⟨⟨f0, f1, f2, f3⟩, f4, f5, f6⟩ := h
  exact ⟨⟨(e _ (by omega) (by omega)).trans f0, (e _ (by omega) (by omega)).trans f1, (e _ (by omega) (by omega)).trans f2, (e _ (by omega) (by omega)).trans f3⟩, (e _ (by omega) (by omega)).trans f4, (e _ (by omega) (by omega)).trans f5, (e _ (by omega) (by omega)).trans f6⟩
/-- A row that is not empty lies in a block of this number or above it. -/
def From (lo n : Nat) (a : Option Addr) : Prop := ∀ b off, a = some ⟨b, off, none⟩ → 0 < n → lo ≤ b
/-- The node with this box and these three lists is the tree; all its rows lie from a block on. -/
inductive NdIn (lo : Nat) (w : World) : Nd → Value → Value → Value → Prop where
  | mk {b : Bx} {bs : List Bx} {is : List Int} {ks : List Nd} {a1 a2 a3 : Option Addr} {c1 c2 c3 : Nat} (s1 : SeesX w a1 c1 bs) (f1 : From lo bs.length a1) (s2 : SeesI w a2 c2 is) (f2 : From lo is.length a2) (h3 : ks.length ≤ c3) (m3 : c3 ≤ maxLen) (f3 : From lo ks.length a3)
      {p o : Nat} {g1 g2 g3 : Nat → Value} (ha : ks ≠ [] → a3 = some ⟨p, o, none⟩) (hS : ∀ i, i < ks.length → Sev w p (o + i * 7) (ndA ks i).b (g1 i) (g2 i) (g3 i)) (hN : ∀ i, i < ks.length → NdIn lo w (ndA ks i) (g1 i) (g2 i) (g3 i)) : NdIn lo w (.mk b bs is ks) (.slice a1 bs.length c1) (.slice a2 is.length c2) (.slice a3 ks.length c3)
/-- A list of nodes. -/
structure NdsIn (lo : Nat) (w : World) (a : Option Addr) (c : Nat) (ks : List Nd) : Prop where
  fits : ks.length ≤ c
  max : c ≤ maxLen
  frm : From lo ks.length a
  cells : ks ≠ [] → ∃ p o, a = some ⟨p, o, none⟩ ∧ ∀ i, i < ks.length → ∃ v1 v2 v3, Sev w p (o + i * 7) (ndA ks i).b v1 v2 v3 ∧ NdIn lo w (ndA ks i) v1 v2 v3
theorem NdIn.open {lo : Nat} {w : World} {t : Nd} {v1 v2 v3 : Value} (h : NdIn lo w t v1 v2 v3) : ∃ a1 c1 a2 c2 a3 c3, v1 = .slice a1 t.bs.length c1 ∧ v2 = .slice a2 t.is.length c2 ∧ v3 = .slice a3 t.ks.length c3 ∧ SeesX w a1 c1 t.bs ∧ From lo t.bs.length a1 ∧ SeesI w a2 c2 t.is ∧ From lo t.is.length a2 ∧ NdsIn lo w a3 c3 t.ks := by
  cases h with
  | mk s1 f1 s2 f2 h3 m3 f3 ha hS hN => exact ⟨_, _, _, _, _, _, rfl, rfl, rfl, s1, f1, s2, f2, ⟨h3, m3, f3, fun hn => ⟨_, _, ha hn, fun i hi => ⟨_, _, _, hS i hi, hN i hi⟩⟩⟩⟩
theorem NdIn.shut {lo : Nat} {w : World} {b : Bx} {bs : List Bx} {is : List Int} {ks : List Nd} {a1 a2 a3 : Option Addr} {c1 c2 c3 : Nat} (s1 : SeesX w a1 c1 bs) (f1 : From lo bs.length a1) (s2 : SeesI w a2 c2 is) (f2 : From lo is.length a2) (h : NdsIn lo w a3 c3 ks) : NdIn lo w (.mk b bs is ks) (.slice a1 bs.length c1) (.slice a2 is.length c2) (.slice a3 ks.length c3) := by
  by_cases hn : ks = []
  · subst hn
    exact .mk (p := 0) (o := 0) (g1 := fun _ => .bool false) (g2 := fun _ => .bool false) (g3 := fun _ => .bool false) s1 f1 s2 f2 h.fits h.max h.frm (fun e => absurd rfl e) (fun i hi => absurd hi (by simp)) (fun i hi => absurd hi (by simp))
  · obtain ⟨p, o, ea, hc⟩ := h.cells hn
    have hc' : ∀ i, ∃ v1 v2 v3, i < ks.length → Sev w p (o + i * 7) (ndA ks i).b v1 v2 v3 ∧ NdIn lo w (ndA ks i) v1 v2 v3 := fun i => by
      by_cases hi : i < ks.length
      · obtain ⟨v1, v2, v3, q⟩ := hc i hi
        exact ⟨v1, v2, v3, fun _ => q⟩
      · exact ⟨.bool false, .bool false, .bool false, fun q => absurd q hi⟩
    exact .mk (p := p) (o := o) (g1 := fun i => (hc' i).choose) (g2 := fun i => (hc' i).choose_spec.choose) (g3 := fun i => (hc' i).choose_spec.choose_spec.choose) s1 f1 s2 f2 h.fits h.max h.frm (fun _ => ea) (fun i hi => ((hc' i).choose_spec.choose_spec.choose_spec hi).1) (fun i hi => ((hc' i).choose_spec.choose_spec.choose_spec hi).2)
theorem NdIn.keep {lo : Nat} {w w' : World} (hb : Below w.heap.size w w') : ∀ (t : Nd) {v1 v2 v3 : Value}, NdIn lo w t v1 v2 v3 → NdIn lo w' t v1 v2 v3 := by
  refine Nd.ind (P := fun t => ∀ {v1 v2 v3 : Value}, NdIn lo w t v1 v2 v3 → NdIn lo w' t v1 v2 v3) ?_
  intro b bs is ks ih v1 v2 v3 h
  cases h with
  | mk s1 f1 s2 f2 h3 m3 f3 ha hS hN => exact .mk (s1.below hb) f1 (s2.below hb) f2 h3 m3 f3 ha (fun i hi => (hS i hi).below hb) (fun i hi => ih _ (ndA_mem hi) (hN i hi))
theorem NdsIn.below {lo : Nat} {w w' : World} {a : Option Addr} {c : Nat} {ks : List Nd} (h : NdsIn lo w a c ks) (hb : Below w.heap.size w w') : NdsIn lo w' a c ks :=
  ⟨h.fits, h.max, h.frm, fun hn => by
    obtain ⟨p, o, ea, hc⟩ := h.cells hn
    refine ⟨p, o, ea, fun i hi => ?_⟩
    obtain ⟨v1, v2, v3, S, N⟩ := hc i hi
    exact ⟨v1, v2, v3, S.below hb, NdIn.keep hb _ N⟩⟩
theorem From.lower {lo lo' n : Nat} {a : Option Addr} (h : From lo n a) (hl : lo' ≤ lo) : From lo' n a := fun b off e hn => Nat.le_trans hl (h b off e hn)
theorem NdIn.lower {lo lo' : Nat} {w : World} (hl : lo' ≤ lo) : ∀ (t : Nd) {v1 v2 v3 : Value}, NdIn lo w t v1 v2 v3 → NdIn lo' w t v1 v2 v3 := by
  refine Nd.ind (P := fun t => ∀ {v1 v2 v3 : Value}, NdIn lo w t v1 v2 v3 → NdIn lo' w t v1 v2 v3) ?_
  intro b bs is ks ih v1 v2 v3 h
  cases h with
  | mk s1 f1 s2 f2 h3 m3 f3 ha hS hN => exact .mk s1 (f1.lower hl) s2 (f2.lower hl) h3 m3 (f3.lower hl) ha hS (fun i hi => ih _ (ndA_mem hi) (hN i hi))
/-- A cell below is written: the tree stays. -/
theorem NdIn.put {lo q k : Nat} {w : World} {u : Value} (hq : q < lo) : ∀ (t : Nd) {v1 v2 v3 : Value}, NdIn lo w t v1 v2 v3 → NdIn lo (w.setCell ⟨q, k, none⟩ u) t v1 v2 v3 := by
  refine Nd.ind (P := fun t => ∀ {v1 v2 v3 : Value}, NdIn lo w t v1 v2 v3 → NdIn lo (w.setCell ⟨q, k, none⟩ u) t v1 v2 v3) ?_
  intro b bs is ks ih v1 v2 v3 h
  cases h with
  | mk s1 f1 s2 f2 h3 m3 f3 ha hS hN =>
    refine .mk (s1.putN (fun b off e hn => by have := f1 b off e (List.length_pos_iff.2 hn); omega) k u) f1 (s2.put (fun b off e hn => by have := f2 b off e (List.length_pos_iff.2 hn); omega) k u) f2 h3 m3 f3 ha (fun i hi => ?_) (fun i hi => ih _ (ndA_mem hi) (hN i hi))
    have hp := f3 _ _ (ha (by intro e; rw [e] at hi; simp at hi)) (by omega)
    exact (hS i hi).put (.inl (by omega)) u
theorem NdsIn.lower {lo lo' : Nat} {w : World} {a : Option Addr} {c : Nat} {ks : List Nd} (h : NdsIn lo w a c ks) (hl : lo' ≤ lo) : NdsIn lo' w a c ks :=
  ⟨h.fits, h.max, h.frm.lower hl, fun hn => by
    obtain ⟨p, o, ea, hc⟩ := h.cells hn
    refine ⟨p, o, ea, fun i hi => ?_⟩
    obtain ⟨v1, v2, v3, S, N⟩ := hc i hi
    exact ⟨v1, v2, v3, S, NdIn.lower hl _ N⟩⟩

/-- How many there are of all in a tree. -/
def ndSz : Nd → Nat
  | .mk _ bs is ks => bs.length + is.length + ks.length + ndsSz ks
where ndsSz : List Nd → Nat
  | [] => 0
  | k :: ks => ndSz k + ndsSz ks
end Go.Proofs.YthompofbdjdloaaGreat

/- Trees of a call's own: a kid's rows lie above its own block. -/
namespace Go.Proofs.YthompofbdjdloaaGreat
open Go.RowKit

/-- A block of cells that nothing froze. -/
def Plain (w : World) (p : Nat) : Prop := ∃ cs T, w.heap[p]? = some (.cells cs T (0, 0))
theorem Plain.lt {w : World} {p : Nat} (h : Plain w p) : p < w.heap.size := by
  obtain ⟨cs, T, e⟩ := h
  rcases Nat.lt_or_ge p w.heap.size with k | k
  · exact k
  · rw [Array.getElem?_eq_none k] at e
    cases e
theorem Plain.below {w w' : World} {p : Nat} (h : Plain w p) (hb : Below w.heap.size w w') : Plain w' p := by
  have hl := h.lt
  obtain ⟨cs, T, e⟩ := h
  exact ⟨cs, T, (hb.block p hl).trans e⟩
theorem Plain.put {w : World} {p q k : Nat} (h : Plain w p) (u : Value) : Plain (w.setCell ⟨q, k, none⟩ u) p := by
  obtain ⟨cs, T, e⟩ := h
  by_cases hq : p = q
  · subst hq
    refine ⟨cs.setIfInBounds k u, T, ?_⟩
    simp only [World.setCell]
    rw [Array.getElem?_modify, if_pos rfl, e]
    rfl
  · exact ⟨cs, T, (Below.heap_setCell w ⟨q, k, none⟩ u p hq).trans e⟩
theorem Plain.new (w : World) (cs : Array Value) (T : TypeId) : Plain (w.alloc (.cells cs T)) w.heap.size := ⟨cs, T, heap_alloc_new _ _⟩
/-- A row that is not empty is there, and nothing froze it. -/
def Fz (w : World) (n : Nat) (a : Option Addr) : Prop := ∀ b off, a = some ⟨b, off, none⟩ → 0 < n → b < w.heap.size ∧ ∀ o, w.frozen? ⟨b, o, none⟩ = false
theorem Fz.below {w w' : World} {n : Nat} {a : Option Addr} (h : Fz w n a) (hb : Below w.heap.size w w') : Fz w' n a := fun b off e hn => by
  obtain ⟨h1, h2⟩ := h b off e hn
  exact ⟨Nat.lt_of_lt_of_le h1 hb.size, fun o => (World.frozen?_of_block (a := ⟨b, o, none⟩) (hb.block b h1)).trans (h2 o)⟩
theorem Fz.put {w : World} {n : Nat} {a : Option Addr} (h : Fz w n a) (q : Addr) (u : Value) : Fz (w.setCell q u) n a := fun b off e hn => by
  obtain ⟨h1, h2⟩ := h b off e hn
  exact ⟨by simpa [World.setCell] using h1, fun o => by rw [World.frozen?_setCell]; exact h2 o⟩
/-- As NdIn, and a kid's rows lie in blocks above its own one. -/
inductive NdUp (w : World) : Nat → Nd → Value → Value → Value → Prop where
  | mk {lo : Nat} {b : Bx} {bs : List Bx} {is : List Int} {ks : List Nd} {a1 a2 a3 : Option Addr} {c1 c2 c3 : Nat} (s1 : SeesX w a1 c1 bs) (f1 : From lo bs.length a1) (s2 : SeesI w a2 c2 is) (f2 : From lo is.length a2) (z1 : Fz w bs.length a1) (z2 : Fz w is.length a2) (h3 : ks.length ≤ c3) (m3 : c3 ≤ maxLen) (f3 : From lo ks.length a3)
      {p o : Nat} {g1 g2 g3 : Nat → Value} (ha : ks ≠ [] → a3 = some ⟨p, o, none⟩) (hP : ks ≠ [] → Plain w p) (hS : ∀ i, i < ks.length → Sev w p (o + i * 7) (ndA ks i).b (g1 i) (g2 i) (g3 i)) (hN : ∀ i, i < ks.length → NdUp w (p + 1) (ndA ks i) (g1 i) (g2 i) (g3 i)) : NdUp w lo (.mk b bs is ks) (.slice a1 bs.length c1) (.slice a2 is.length c2) (.slice a3 ks.length c3)
structure NdsUp (w : World) (lo : Nat) (a : Option Addr) (c : Nat) (ks : List Nd) : Prop where
  fits : ks.length ≤ c
  max : c ≤ maxLen
  frm : From lo ks.length a
  cells : ks ≠ [] → ∃ p o, a = some ⟨p, o, none⟩ ∧ Plain w p ∧ ∀ i, i < ks.length → ∃ v1 v2 v3, Sev w p (o + i * 7) (ndA ks i).b v1 v2 v3 ∧ NdUp w (p + 1) (ndA ks i) v1 v2 v3
theorem NdUp.open {lo : Nat} {w : World} {t : Nd} {v1 v2 v3 : Value} (h : NdUp w lo t v1 v2 v3) : ∃ a1 c1 a2 c2 a3 c3, v1 = .slice a1 t.bs.length c1 ∧ v2 = .slice a2 t.is.length c2 ∧ v3 = .slice a3 t.ks.length c3 ∧ SeesX w a1 c1 t.bs ∧ From lo t.bs.length a1 ∧ SeesI w a2 c2 t.is ∧ From lo t.is.length a2 ∧ NdsUp w lo a3 c3 t.ks := by
  cases h with
  | mk s1 f1 s2 f2 z1 z2 h3 m3 f3 ha hP hS hN => exact ⟨_, _, _, _, _, _, rfl, rfl, rfl, s1, f1, s2, f2, ⟨h3, m3, f3, fun hn => ⟨_, _, ha hn, hP hn, fun i hi => ⟨_, _, _, hS i hi, hN i hi⟩⟩⟩⟩
theorem NdUp.open2 {lo : Nat} {w : World} {t : Nd} {v1 v2 v3 : Value} (h : NdUp w lo t v1 v2 v3) : ∃ a1 c1 a2 c2 a3 c3, v1 = .slice a1 t.bs.length c1 ∧ v2 = .slice a2 t.is.length c2 ∧ v3 = .slice a3 t.ks.length c3 ∧ SeesX w a1 c1 t.bs ∧ From lo t.bs.length a1 ∧ SeesI w a2 c2 t.is ∧ From lo t.is.length a2 ∧ NdsUp w lo a3 c3 t.ks ∧ Fz w t.bs.length a1 ∧ Fz w t.is.length a2 := by
  cases h with
  | mk s1 f1 s2 f2 z1 z2 h3 m3 f3 ha hP hS hN => exact ⟨_, _, _, _, _, _, rfl, rfl, rfl, s1, f1, s2, f2, ⟨h3, m3, f3, fun hn => ⟨_, _, ha hn, hP hn, fun i hi => ⟨_, _, _, hS i hi, hN i hi⟩⟩⟩, z1, z2⟩
theorem NdUp.shut {lo : Nat} {w : World} {b : Bx} {bs : List Bx} {is : List Int} {ks : List Nd} {a1 a2 a3 : Option Addr} {c1 c2 c3 : Nat} (s1 : SeesX w a1 c1 bs) (f1 : From lo bs.length a1) (s2 : SeesI w a2 c2 is) (f2 : From lo is.length a2) (z1 : Fz w bs.length a1) (z2 : Fz w is.length a2) (h : NdsUp w lo a3 c3 ks) : NdUp w lo (.mk b bs is ks) (.slice a1 bs.length c1) (.slice a2 is.length c2) (.slice a3 ks.length c3) := by
  by_cases hn : ks = []
  · subst hn
    exact .mk (p := 0) (o := 0) (g1 := fun _ => .bool false) (g2 := fun _ => .bool false) (g3 := fun _ => .bool false) s1 f1 s2 f2 z1 z2 h.fits h.max h.frm (fun e => absurd rfl e) (fun e => absurd rfl e) (fun i hi => absurd hi (by simp)) (fun i hi => absurd hi (by simp))
  · obtain ⟨p, o, ea, hp, hc⟩ := h.cells hn
    have hc' : ∀ i, ∃ v1 v2 v3, i < ks.length → Sev w p (o + i * 7) (ndA ks i).b v1 v2 v3 ∧ NdUp w (p + 1) (ndA ks i) v1 v2 v3 := fun i => by
      by_cases hi : i < ks.length
      · obtain ⟨v1, v2, v3, q⟩ := hc i hi
        exact ⟨v1, v2, v3, fun _ => q⟩
      · exact ⟨.bool false, .bool false, .bool false, fun q => absurd q hi⟩
    exact .mk (p := p) (o := o) (g1 := fun i => (hc' i).choose) (g2 := fun i => (hc' i).choose_spec.choose) (g3 := fun i => (hc' i).choose_spec.choose_spec.choose) s1 f1 s2 f2 z1 z2 h.fits h.max h.frm (fun _ => ea) (fun _ => hp) (fun i hi => ((hc' i).choose_spec.choose_spec.choose_spec hi).1) (fun i hi => ((hc' i).choose_spec.choose_spec.choose_spec hi).2)
theorem NdUp.keep {w w' : World} (hb : Below w.heap.size w w') : ∀ (t : Nd) {lo : Nat} {v1 v2 v3 : Value}, NdUp w lo t v1 v2 v3 → NdUp w' lo t v1 v2 v3 := by
  refine Nd.ind (P := fun t => ∀ {lo : Nat} {v1 v2 v3 : Value}, NdUp w lo t v1 v2 v3 → NdUp w' lo t v1 v2 v3) ?_
  intro b bs is ks ih lo v1 v2 v3 h
  cases h with
  | mk s1 f1 s2 f2 z1 z2 h3 m3 f3 ha hP hS hN => exact .mk (s1.below hb) f1 (s2.below hb) f2 (z1.below hb) (z2.below hb) h3 m3 f3 ha (fun hn => (hP hn).below hb) (fun i hi => (hS i hi).below hb) (fun i hi => ih _ (ndA_mem hi) (hN i hi))
theorem NdUp.lower {lo lo' : Nat} {w : World} (hl : lo' ≤ lo) (t : Nd) {v1 v2 v3 : Value} (h : NdUp w lo t v1 v2 v3) : NdUp w lo' t v1 v2 v3 := by
  cases h with
  | mk s1 f1 s2 f2 z1 z2 h3 m3 f3 ha hP hS hN => exact .mk s1 (f1.lower hl) s2 (f2.lower hl) z1 z2 h3 m3 (f3.lower hl) ha hP hS hN
theorem NdUp.put {q k : Nat} {w : World} {u : Value} : ∀ (t : Nd) {lo : Nat} {v1 v2 v3 : Value}, q < lo → NdUp w lo t v1 v2 v3 → NdUp (w.setCell ⟨q, k, none⟩ u) lo t v1 v2 v3 := by
  refine Nd.ind (P := fun t => ∀ {lo : Nat} {v1 v2 v3 : Value}, q < lo → NdUp w lo t v1 v2 v3 → NdUp (w.setCell ⟨q, k, none⟩ u) lo t v1 v2 v3) ?_
  intro b bs is ks ih lo v1 v2 v3 hq h
  cases h with
  | mk s1 f1 s2 f2 z1 z2 h3 m3 f3 ha hP hS hN =>
    have hlt : ∀ i, i < ks.length → q < _ := fun i hi => Nat.lt_of_lt_of_le hq (f3 _ _ (ha (by intro e; rw [e] at hi; simp at hi)) (by omega))
    refine .mk (s1.putN (fun b off e hn => by have := f1 b off e (List.length_pos_iff.2 hn); omega) k u) f1 (s2.put (fun b off e hn => by have := f2 b off e (List.length_pos_iff.2 hn); omega) k u) f2 (z1.put ⟨q, k, none⟩ u) (z2.put ⟨q, k, none⟩ u) h3 m3 f3 ha (fun hn => (hP hn).put u) (fun i hi => ?_) (fun i hi => ih _ (ndA_mem hi) (Nat.lt_succ_of_lt (hlt i hi)) (hN i hi))
    exact (hS i hi).put (.inl (Nat.ne_of_gt (hlt i hi))) u
theorem NdUp.toIn {w : World} : ∀ (t : Nd) {lo : Nat} {v1 v2 v3 : Value}, NdUp w lo t v1 v2 v3 → NdIn lo w t v1 v2 v3 := by
  refine Nd.ind (P := fun t => ∀ {lo : Nat} {v1 v2 v3 : Value}, NdUp w lo t v1 v2 v3 → NdIn lo w t v1 v2 v3) ?_
  intro b bs is ks ih lo v1 v2 v3 h
  cases h with
  | mk s1 f1 s2 f2 z1 z2 h3 m3 f3 ha hP hS hN => exact .mk s1 f1 s2 f2 h3 m3 f3 ha hS (fun i hi => NdIn.lower (Nat.le_succ_of_le (f3 _ _ (ha (by intro e; rw [e] at hi; simp at hi)) (by omega))) _ (ih _ (ndA_mem hi) (hN i hi)))
theorem NdsUp.below {lo : Nat} {w w' : World} {a : Option Addr} {c : Nat} {ks : List Nd} (h : NdsUp w lo a c ks) (hb : Below w.heap.size w w') : NdsUp w' lo a c ks :=
  ⟨h.fits, h.max, h.frm, fun hn => by
    obtain ⟨p, o, ea, hp, hc⟩ := h.cells hn
    refine ⟨p, o, ea, hp.below hb, fun i hi => ?_⟩
    obtain ⟨v1, v2, v3, S, N⟩ := hc i hi
    exact ⟨v1, v2, v3, S.below hb, NdUp.keep hb _ N⟩⟩
theorem NdsUp.lower {lo lo' : Nat} {w : World} {a : Option Addr} {c : Nat} {ks : List Nd} (h : NdsUp w lo a c ks) (hl : lo' ≤ lo) : NdsUp w lo' a c ks := ⟨h.fits, h.max, h.frm.lower hl, h.cells⟩
end Go.Proofs.YthompofbdjdloaaGreat

/- How great a tree is (szNode, szNodeS, szIntS). -/
namespace Go.Proofs.YthompofbdjdloaaGreat
open Go.RowKit

/-- A node's value. -/
def ndV (t : Nd) (v1 v2 v3 : Value) : Value := .agg #[.int .i64 t.b.1, .int .i64 t.b.2.1, .int .i64 t.b.2.2.1, .int .i64 t.b.2.2.2, v1, v2, v3]
theorem Sev.new (w : World) (x1 x2 x3 x4 : Int) (v1 v2 v3 : Value) (T : TypeId) : Sev (w.alloc (.cells #[.int .i64 x1, .int .i64 x2, .int .i64 x3, .int .i64 x4, v1, v2, v3] T)) w.heap.size 0 (x1, x2, x3, x4) v1 v2 v3 :=
  ⟨⟨cell_new w _ T 0 rfl, cell_new w _ T 1 rfl, cell_new w _ T 2 rfl, cell_new w _ T 3 rfl⟩, cell_new w _ T 4 rfl, cell_new w _ T 5 rfl, cell_new w _ T 6 rfl⟩
theorem lenI {w : World} {a : Option Addr} {c : Nat} {is : List Int} (h : SeesI w a c is) : is.length ≤ 9223372036854775807 := by have := h.fits; have := h.max; unfold maxLen at this; omega
theorem lenX {w : World} {a : Option Addr} {c : Nat} {bs : List Bx} (h : SeesX w a c bs) : bs.length ≤ 9223372036854775807 := by have := h.fits; have := h.max; unfold maxLen at this; omega
theorem lenN {lo : Nat} {w : World} {a : Option Addr} {c : Nat} {ks : List Nd} (h : NdsIn lo w a c ks) : ks.length ≤ 9223372036854775807 := by have := h.fits; have := h.max; unfold maxLen at this; omega
theorem ndsSz_at {ks : List Nd} : ∀ {j : Nat}, j < ks.length → ndSz.ndsSz (ks.take (j + 1)) = ndSz.ndsSz (ks.take j) + ndSz (ndA ks j) := by
  induction ks with
  | nil => intro j h; simp at h
  | cons k ks ih =>
    intro j h
    cases j with
    | zero => simp [ndSz.ndsSz, ndA]
    | succ j =>
      have := ih (j := j) (by simpa using h)
      simp only [List.take_succ_cons, ndSz.ndsSz]
      rw [this]
      have e : ndA (k :: ks) (j + 1) = ndA ks j := by simp [ndA]
      rw [e]
      omega

end Go.Proofs.YthompofbdjdloaaGreat
