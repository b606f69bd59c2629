/- Nodes in rows of a call's own, whatever their own lists lie in: for the specification's trees. -/
import Derived.Test.YthompofbdjdloaaGreatTbF
import Derived.Test.YthompofbdjdloaaGreatBxR
import Derived.Test.YthompofbdjdloaaGreatTrT
namespace Go.Proofs.YthompofbdjdloaaGreat
open Go.RowKit

def Blk (P : Nat → Prop) (n : Nat) (a : Option Addr) : Prop := ∀ b off, a = some ⟨b, off, none⟩ → 0 < n → P b
/-- The node with this box and these lists is the tree; all its rows lie in such blocks. -/
inductive NdP (P : Nat → Prop) (w : World) : Nd → Value → Value → Value → Prop where
  | mk {b : Bx} {bs : List Bx} {is : List Int} {ks : List Nd} {a1 a2 a3 : Option Addr} {c1 c2 c3 : Nat} (s1 : SeesX w a1 c1 bs) (f1 : Blk P bs.length a1) (s2 : SeesI w a2 c2 is) (f2 : Blk P is.length a2) (h3 : ks.length ≤ c3) (m3 : c3 ≤ maxLen) (f3 : Blk P ks.length a3)
      {p o : Nat} {g1 g2 g3 : Nat → Value} (ha : ks ≠ [] → a3 = some ⟨p, o, none⟩) (hS : ∀ i, i < ks.length → Sev w p (o + i * 7) (ndA ks i).b (g1 i) (g2 i) (g3 i)) (hN : ∀ i, i < ks.length → NdP P w (ndA ks i) (g1 i) (g2 i) (g3 i)) : NdP P w (.mk b bs is ks) (.slice a1 bs.length c1) (.slice a2 is.length c2) (.slice a3 ks.length c3)
theorem NdP.toIn {P : Nat → Prop} {w : World} : ∀ (t : Nd) {v1 v2 v3 : Value}, NdP P w t v1 v2 v3 → NdIn 0 w t v1 v2 v3 := by
  refine Nd.ind (P := fun t => ∀ {v1 v2 v3 : Value}, NdP P w t v1 v2 v3 → NdIn 0 w t v1 v2 v3) ?_
  intro b bs is ks ih v1 v2 v3 h
  cases h with
  | mk s1 f1 s2 f2 h3 m3 f3 ha hS hN => exact .mk s1 (fun _ _ _ _ => Nat.zero_le _) s2 (fun _ _ _ _ => Nat.zero_le _) h3 m3 (fun _ _ _ _ => Nat.zero_le _) ha hS (fun i hi => ih _ (ndA_mem hi) (hN i hi))
theorem NdP.mono {P P' : Nat → Prop} {w : World} (hp : ∀ q, P q → P' q) : ∀ (t : Nd) {v1 v2 v3 : Value}, NdP P w t v1 v2 v3 → NdP P' w t v1 v2 v3 := by
  refine Nd.ind (P := fun t => ∀ {v1 v2 v3 : Value}, NdP P w t v1 v2 v3 → NdP P' w t v1 v2 v3) ?_
  intro b bs is ks ih v1 v2 v3 h
  cases h with
  | mk s1 f1 s2 f2 h3 m3 f3 ha hS hN => exact .mk s1 (fun q o e n => hp _ (f1 q o e n)) s2 (fun q o e n => hp _ (f2 q o e n)) h3 m3 (fun q o e n => hp _ (f3 q o e n)) ha hS (fun i hi => ih _ (ndA_mem hi) (hN i hi))
/-- Cells outside these blocks stay. -/
def ChC (H : Nat → Prop) (w w' : World) : Prop := ∀ b k v, ¬ H b → w.cell? ⟨b, k, none⟩ = some v → w'.cell? ⟨b, k, none⟩ = some v
theorem sevC {H : Nat → Prop} {w w' : World} {p o : Nat} {x : Bx} {v1 v2 v3 : Value} (C : ChC H w w') (nf : ¬ H p) (h : Sev w p o x v1 v2 v3) : Sev w' p o x v1 v2 v3 :=
  ⟨⟨C _ _ _ nf h.four.1, C _ _ _ nf h.four.2.1, C _ _ _ nf h.four.2.2.1, C _ _ _ nf h.four.2.2.2⟩, C _ _ _ nf h.c4, C _ _ _ nf h.c5, C _ _ _ nf h.c6⟩
theorem NdP.chg {P H : Nat → Prop} {w w' : World} (C : ChC H w w') (hd : ∀ q, P q → ¬ H q) : ∀ (t : Nd) {v1 v2 v3 : Value}, NdP P w t v1 v2 v3 → NdP P w' t v1 v2 v3 := by
  refine Nd.ind (P := fun t => ∀ {v1 v2 v3 : Value}, NdP P w t v1 v2 v3 → NdP P w' t v1 v2 v3) ?_
  intro b bs is ks ih v1 v2 v3 h
  cases h with
  | @mk _ _ _ _ a1 a2 a3 c1 c2 c3 s1 f1 s2 f2 h3 m3 f3 p o g1 g2 g3 ha hS hN =>
    have X : SeesX w' a1 c1 bs := ⟨s1.fits, s1.max, fun hn => by
      obtain ⟨q, off, ea, hc⟩ := s1.cells hn
      have nh := hd _ (f1 q off ea (List.length_pos_iff.2 hn))
      exact ⟨q, off, ea, fun i hi => ⟨C _ _ _ nh (hc i hi).1, C _ _ _ nh (hc i hi).2.1, C _ _ _ nh (hc i hi).2.2.1, C _ _ _ nh (hc i hi).2.2.2⟩⟩⟩
    have I : SeesI w' a2 c2 is := ⟨s2.fits, s2.max, fun hn => by
      obtain ⟨q, off, ea, hc⟩ := s2.cells hn
      have nh := hd _ (f2 q off ea (List.length_pos_iff.2 hn))
      exact ⟨q, off, ea, fun i hi => C _ _ _ nh (hc i hi)⟩⟩
    exact .mk X f1 I f2 h3 m3 f3 ha (fun i hi => sevC C (hd _ (f3 p o (ha (by intro e; rw [e] at hi; simp at hi)) (by omega))) (hS i hi)) (fun i hi => ih _ (ndA_mem hi) (hN i hi))
theorem NdP.keep {P : Nat → Prop} {w w' : World} {t : Nd} {v1 v2 v3 : Value} (h : NdP P w t v1 v2 v3) (hb : Below w.heap.size w w') : NdP P w' t v1 v2 v3 := NdP.chg (H := fun _ => False) (fun _ _ _ _ e => bat hb e) (fun _ _ h => h) _ h
theorem NdP.lt {P : Nat → Prop} {w : World} : ∀ (t : Nd) {v1 v2 v3 : Value}, NdP P w t v1 v2 v3 → NdP (fun q => P q ∧ q < w.heap.size) w t v1 v2 v3 := by
  refine Nd.ind (P := fun t => ∀ {v1 v2 v3 : Value}, NdP P w t v1 v2 v3 → NdP (fun q => P q ∧ q < w.heap.size) w t v1 v2 v3) ?_
  intro b bs is ks ih v1 v2 v3 h
  cases h with
  | @mk _ _ _ _ a1 a2 a3 c1 c2 c3 s1 f1 s2 f2 h3 m3 f3 p o g1 g2 g3 ha hS hN =>
    refine .mk s1 (fun q off e n => ⟨f1 q off e n, ?_⟩) s2 (fun q off e n => ⟨f2 q off e n, ?_⟩) h3 m3 (fun q off e n => ⟨f3 q off e n, ?_⟩) ha hS (fun i hi => ih _ (ndA_mem hi) (hN i hi))
    · obtain ⟨q', off', ea, hc⟩ := s1.cells (List.length_pos_iff.1 n)
      rw [e] at ea
      injection ea with ea
      injection ea with e1 _
      rw [e1]
      exact World.block_lt_of_cell? w _ (hc 0 n).1
    · obtain ⟨q', off', ea, hc⟩ := s2.cells (List.length_pos_iff.1 n)
      rw [e] at ea
      injection ea with ea
      injection ea with e1 _
      rw [e1]
      exact World.block_lt_of_cell? w _ (hc 0 n)
    · have ea := ha (List.length_pos_iff.1 n)
      rw [e] at ea
      injection ea with ea
      injection ea with e1 _
      rw [e1]
      exact World.block_lt_of_cell? w _ (hS 0 n).c6
theorem NdP.rebox {P : Nat → Prop} {w : World} {b b' : Bx} {bs : List Bx} {is : List Int} {ks : List Nd} {v1 v2 v3 : Value} (h : NdP P w (.mk b bs is ks) v1 v2 v3) : NdP P w (.mk b' bs is ks) v1 v2 v3 := by
  cases h with
  | mk s1 f1 s2 f2 h3 m3 f3 ha hS hN => exact .mk s1 f1 s2 f2 h3 m3 f3 ha hS hN

/-- A slice's head; a node's cells. -/
abbrev Sl := Option Addr × Nat × Nat
def slV (s : Sl) : Value := .slice s.1 s.2.1 s.2.2
abbrev Ke := Bx × Sl × Sl × Sl
def kC (es : List Ke) : List Value := es.flatMap fun e => [.int .i64 e.1.1, .int .i64 e.1.2.1, .int .i64 e.1.2.2.1, .int .i64 e.1.2.2.2, slV e.2.1, slV e.2.2.1, slV e.2.2.2]
def keAt (es : List Ke) (i : Nat) : Ke := es[i]?.getD ((0, 0, 0, 0), (none, 0, 0), (none, 0, 0), (none, 0, 0))
theorem kC_append (ps qs : List Ke) : kC (ps ++ qs) = kC ps ++ kC qs := by simp [kC]
theorem kC_len : ∀ es : List Ke, (kC es).length = es.length * 7
  | [] => rfl
  | e :: r => by
    have := kC_len r
    have e2 : kC (e :: r) = [.int .i64 e.1.1, .int .i64 e.1.2.1, .int .i64 e.1.2.2.1, .int .i64 e.1.2.2.2, slV e.2.1, slV e.2.2.1, slV e.2.2.2] ++ kC r := rfl
    rw [e2, List.length_append, this, List.length_cons]
    simp only [List.length_cons, List.length_nil]
    omega
theorem kC_at : ∀ (es : List Ke) (j k : Nat) (v : Value), j < es.length → [Value.int .i64 (keAt es j).1.1, .int .i64 (keAt es j).1.2.1, .int .i64 (keAt es j).1.2.2.1, .int .i64 (keAt es j).1.2.2.2, slV (keAt es j).2.1, slV (keAt es j).2.2.1, slV (keAt es j).2.2.2][k]? = some v → (kC es)[j * 7 + k]? = some v
  | [], j, k, v, h, _ => absurd h (by simp)
  | e :: r, 0, k, v, _, hv => by
    have e2 : kC (e :: r) = [.int .i64 e.1.1, .int .i64 e.1.2.1, .int .i64 e.1.2.2.1, .int .i64 e.1.2.2.2, slV e.2.1, slV e.2.2.1, slV e.2.2.2] ++ kC r := rfl
    have hk : k < 7 := by
      have := (List.getElem?_eq_some_iff.1 hv).1
      simpa using this
    rw [e2, Nat.zero_mul, Nat.zero_add, List.getElem?_append_left (by simpa using hk)]
    exact hv
  | e :: r, j + 1, k, v, h, hv => by
    have ih := kC_at r j k v (by simpa using h) hv
    have e2 : kC (e :: r) = [.int .i64 e.1.1, .int .i64 e.1.2.1, .int .i64 e.1.2.2.1, .int .i64 e.1.2.2.2, slV e.2.1, slV e.2.2.1, slV e.2.2.2] ++ kC r := rfl
    rw [e2, show (j + 1) * 7 + k = 7 + (j * 7 + k) by omega, List.getElem?_append_right (by simp)]
    simpa using ih
theorem kC_ones (es : List Ke) : ∀ u ∈ kC es, u.oneCell' = true := by
  intro u hu
  simp only [kC, List.mem_flatMap] at hu
  obtain ⟨p, _, h⟩ := hu
  simp only [List.mem_cons, List.not_mem_nil, or_false] at h
  rcases h with rfl | rfl | rfl | rfl | rfl | rfl | rfl <;> rfl
def RowK (base : Nat) (w : World) (v : Value) (es : List Ke) : Prop := w.ownsRow base 32 7 v es.length (kC es)
theorem RowK.empty (w : World) {base : Nat} (h : base ≤ w.heap.size) : RowK base (w.alloc (.cells #[] 32)) (.slice (some ⟨w.heap.size, 0, none⟩) 0 0) [] :=
  ⟨rfl, .inr ⟨w.heap.size, 0, #[], rfl, h, heap_alloc_new _ _, Nat.le_refl _, by simp [maxLen], rfl, rfl⟩⟩
theorem RowK.nil (base : Nat) (w : World) : RowK base w (.slice none 0 0) [] := ⟨rfl, .inl ⟨rfl, rfl⟩⟩
theorem RowK.snoc {base : Nat} {w : World} {v : Value} {es : List Ke} {e : Ke} (h : w.ownsRow base 32 7 v (es.length + 1) (kC es ++ kC [e])) : RowK base w v (es ++ [e]) := by
  unfold RowK
  rw [kC_append, List.length_append]
  exact h
theorem k_new (w : World) (T : TypeId) (e : Ke) : ∀ j z, (kC [e])[j]? = some z → (w.alloc (.cells #[.int .i64 e.1.1, .int .i64 e.1.2.1, .int .i64 e.1.2.2.1, .int .i64 e.1.2.2.2, slV e.2.1, slV e.2.2.1, slV e.2.2.2] T)).cell? ((⟨w.heap.size, 0, none⟩ : Addr).add j) = some z := by
  intro j z hz
  rw [Addr.add_lit, Nat.zero_add]
  refine cell_new w _ T j ?_
  have e2 : kC [e] = [.int .i64 e.1.1, .int .i64 e.1.2.1, .int .i64 e.1.2.2.1, .int .i64 e.1.2.2.2, slV e.2.1, slV e.2.2.1, slV e.2.2.2] := rfl
  rw [e2] at hz
  rw [← hz]
  simp
theorem RowK.sees {base : Nat} {w : World} {v : Value} {es : List Ke} (h : RowK base w v es) : ∃ a c, v = .slice a es.length c ∧ es.length ≤ c ∧ c ≤ maxLen ∧ (es ≠ [] → ∃ g, a = some ⟨g, 0, none⟩ ∧ base ≤ g ∧ ∀ i, i < es.length → Sev w g (i * 7) (keAt es i).1 (slV (keAt es i).2.1) (slV (keAt es i).2.2.1) (slV (keAt es i).2.2.2)) := by
  rcases h.2 with ⟨hv, h0⟩ | ⟨q, cap', cur, hv, hb, hh, hf, hm, hs, ht⟩
  · exact ⟨none, 0, by rw [hv, h0], by omega, by simp [maxLen], fun hn => absurd (List.eq_nil_of_length_eq_zero h0) hn⟩
  · refine ⟨_, cap', hv, hf, hm, fun _ => ⟨q, rfl, hb, fun i hi => ?_⟩⟩
    have c : ∀ k u, [Value.int .i64 (keAt es i).1.1, .int .i64 (keAt es i).1.2.1, .int .i64 (keAt es i).1.2.2.1, .int .i64 (keAt es i).1.2.2.2, slV (keAt es i).2.1, slV (keAt es i).2.2.1, slV (keAt es i).2.2.2][k]? = some u → w.cell? ⟨q, i * 7 + k, none⟩ = some u := by
      intro k u hk
      have h9 := kC_at es i k u hi hk
      have hk2 : i * 7 + k < es.length * 7 := by
        have := (List.getElem?_eq_some_iff.mp h9).1
        rw [kC_len] at this
        exact this
      rw [← ht, List.getElem?_take_of_lt hk2] at h9
      exact (cell_of_row w q _ _ _ _ hh).trans (by simpa using h9)
    exact ⟨⟨c 0 _ rfl, c 1 _ rfl, c 2 _ rfl, c 3 _ rfl⟩, c 4 _ rfl, c 5 _ rfl, c 6 _ rfl⟩
/-- A list of nodes in a row of its own; their lists lie in no block of it. -/
structure LvE (rb pb : Nat) (w : World) (v : Value) (es : List Ke) (ks : List Nd) : Prop where
  row : RowK rb w v es
  len : es.length = ks.length
  nd : ∀ i, i < ks.length → (keAt es i).1 = (ndA ks i).b ∧ NdP (fun q => pb ≤ q ∧ v.ownBlock ≠ some q) w (ndA ks i) (slV (keAt es i).2.1) (slV (keAt es i).2.2.1) (slV (keAt es i).2.2.2)
theorem LvE.below {rb pb : Nat} {w w' : World} {v : Value} {es : List Ke} {ks : List Nd} (h : LvE rb pb w v es ks) (hb : Below w.heap.size w w') : LvE rb pb w' v es ks := ⟨owns_below h.row hb, h.len, fun i hi => ⟨(h.nd i hi).1, (h.nd i hi).2.keep hb⟩⟩
theorem LvE.nil (rb pb : Nat) (w : World) {v : Value} (R : RowK rb w v []) : LvE rb pb w v [] [] := ⟨R, rfl, fun _ hi => absurd hi (Nat.not_lt_zero _)⟩
theorem keAt_snoc (es : List Ke) (e : Ke) (i : Nat) : keAt (es ++ [e]) i = if i = es.length then e else keAt es i := by
  unfold keAt
  by_cases c : i = es.length
  · subst c; simp
  · rw [if_neg c]
    by_cases d : i < es.length
    · rw [List.getElem?_append_left d]
    · rw [List.getElem?_eq_none (by simp; omega), List.getElem?_eq_none (by omega)]
theorem ndA_snocK (ks : List Nd) (t : Nd) (i : Nat) (hi : i < (ks ++ [t]).length) : ndA (ks ++ [t]) i = if i = ks.length then t else ndA ks i := by
  unfold ndA
  by_cases c : i = ks.length
  · subst c; simp
  · rw [if_neg c, List.getElem?_append_left (by simp at hi; omega)]
theorem LvE.snoc {rb pb : Nat} {w w7 : World} {v v7 : Value} {es : List Ke} {ks : List Nd} {e : Ke} {t : Nd} (h : LvE rb pb w v es ks) (g : w.grownBy w7 v.ownBlock) (R : RowK rb w7 v7 (es ++ [e])) (hv : v7.ownBlock = v.ownBlock ∨ v7.ownBlock = some w.heap.size) (hb : e.1 = t.b) (N : NdP (fun q => pb ≤ q ∧ v.ownBlock ≠ some q) w t (slV e.2.1) (slV e.2.2.1) (slV e.2.2.2)) : LvE rb pb w7 v7 (es ++ [e]) (ks ++ [t]) := by
  have C : ChC (fun q => v.ownBlock = some q) w w7 := fun b k u nf e => g.cell e (fun e' => nf e'.symm)
  have keep : ∀ {t : Nd} {v1 v2 v3 : Value}, NdP (fun q => pb ≤ q ∧ v.ownBlock ≠ some q) w t v1 v2 v3 → NdP (fun q => pb ≤ q ∧ v7.ownBlock ≠ some q) w7 t v1 v2 v3 := fun {t v1 v2 v3} n => by
    refine NdP.mono (fun q hq => ⟨hq.1.1, fun e => ?_⟩) _ (NdP.chg C (fun q hq e => hq.1.2 e) _ n.lt)
    rcases hv with c | c
    · exact hq.1.2 (by rw [← c]; exact e)
    · rw [c] at e
      injection e with e
      have := hq.2
      omega
  refine ⟨R, by simp [h.len], fun i hi => ?_⟩
  rw [keAt_snoc, ndA_snocK _ _ _ hi, h.len]
  by_cases c : i = ks.length
  · rw [if_pos c, if_pos c]
    exact ⟨hb, keep N⟩
  · rw [if_neg c, if_neg c]
    rw [List.length_append, List.length_singleton] at hi
    obtain ⟨h1, h2⟩ := h.nd i (by omega)
    exact ⟨h1, keep h2⟩
end Go.Proofs.YthompofbdjdloaaGreat
