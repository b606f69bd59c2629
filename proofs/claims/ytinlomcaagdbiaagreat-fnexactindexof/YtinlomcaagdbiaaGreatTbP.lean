/- parted, of the program: leaves over items in fours, inner nodes over nodes in fours. -/
import Derived.Test.YtinlomcaagdbiaaGreatTbQ
import Derived.Test.YtinlomcaagdbiaaGreatTbS
import Derived.Test.YtinlomcaagdbiaaGreatTbJ
import Derived.Test.YtinlomcaagdbiaaGreatTbA
namespace Go.Proofs.YtinlomcaagdbiaaGreat
open Go.RowKit Go.Shelf
attribute [local go_sem] Oper.semAt_some

theorem SeesIt.sub {w : World} {g o c n k : Nat} {a : Option Addr} {bs : List Bx} {is : List Int} (h : SeesIt w a c bs is) (ha : a = some ⟨g, o, none⟩ ∧ bs.length = n) (hk : k < (n + 3) / 4) : SeesIt w (some ⟨g, o + 4 * k * 5, none⟩) (chM n k) (ch4 bs k) (ch4 is k) := by
 obtain ⟨rfl, hn⟩ := ha
 have hl : (ch4 bs k).length = chM n k := by rw [ch4_len', hn]; rfl
 have hm := h.max
 have hf := h.fits
 refine ⟨by rw [ch4_len', ch4_len', h.len], by rw [hl]; exact Nat.le_refl _, by unfold chM; unfold maxLen; omega, fun hne => ?_⟩
 obtain ⟨b, off, ea, hc⟩ := h.cells (by intro e; rw [e] at hn; simp at hn; omega)
 injection ea with ea
 injection ea with e1 e2
 subst e1 e2
 refine ⟨g, o + 4 * k * 5, rfl, fun i hi => ?_⟩
 rw [hl] at hi
 have hi2 : 4 * k + i < bs.length := by unfold chM at hi; omega
 have hi4 : i < 4 := by unfold chM at hi; omega
 have e1 : bxAt (ch4 bs k) i = bxAt bs (4 * k + i) := by unfold bxAt ch4; rw [List.getElem?_take_of_lt hi4, List.getElem?_drop]
 have e2 : (ch4 is k)[i]?.getD 0 = is[4 * k + i]?.getD 0 := by unfold ch4; rw [List.getElem?_take_of_lt hi4, List.getElem?_drop]
 rw [e1, e2, show o + 4 * k * 5 + i * 5 = o + (4 * k + i) * 5 by omega]
 exact hc _ hi2
theorem SeesTp.sub {w : World} {g o c n k : Nat} {a : Option Addr} {qs : List Ptr} (h : SeesTp w a c qs) (ha : a = some ⟨g, o, none⟩ ∧ True) (hn : qs.length = n) (hk : k < (n + 3) / 4) : SeesTp w (some ⟨g, o + 4 * k, none⟩) (chM n k) (ch4 qs k) := by
 obtain ⟨rfl, _⟩ := ha
 have hl : (ch4 qs k).length = chM n k := by rw [ch4_len', hn]; rfl
 refine ⟨by rw [hl]; exact Nat.le_refl _, by unfold chM; unfold maxLen; omega, fun hne => ?_⟩
 obtain ⟨b, off, ea, hc⟩ := h.cells (by intro e; rw [e] at hn; simp at hn; omega)
 injection ea with ea
 injection ea with e1 e2
 subst e1 e2
 refine ⟨g, o + 4 * k, rfl, fun i hi => ?_⟩
 rw [hl] at hi
 have hi2 : 4 * k + i < qs.length := by unfold chM at hi; omega
 have hi4 : i < 4 := by unfold chM at hi; omega
 have e1 : ptAt (ch4 qs k) i = ptAt qs (4 * k + i) := by unfold ptAt ch4; rw [List.getElem?_take_of_lt hi4, List.getElem?_drop]
 rw [e1, show o + 4 * k + i = o + (4 * k + i) by omega]
 exact hc _ hi2
theorem WkL.sub {w : World} {qs : List Ptr} {L : List Nd} (h : WkL w qs L) (k : Nat) : WkL w (ch4 qs k) (ch4 L k) := by
 refine ⟨by rw [ch4_len', ch4_len', h.1], fun i hi => ?_⟩
 rw [ch4_len'] at hi
 have hi4 : i < 4 := by omega
 have e1 : ptAt (ch4 qs k) i = ptAt qs (4 * k + i) := by unfold ptAt ch4; rw [List.getElem?_take_of_lt hi4, List.getElem?_drop]
 have e2 : ndA (ch4 L k) i = ndA L (4 * k + i) := by unfold ndA ch4; rw [List.getElem?_take_of_lt hi4, List.getElem?_drop]
 rw [e1, e2]
 exact h.2 _ (by omega)
def NdK (w W : World) (p : Nat) (t : Nd) : Prop := ∃ a1 c1 a2 c2 qs, Wk6 W p t.b (.slice a1 t.bs.length c1) (.slice a2 t.ks.length c2) ∧ SeesIt w a1 c1 t.bs t.is ∧ SeesTp w a2 c2 qs ∧ WkL w qs t.ks ∧ (∀ i, i < t.ks.length → (ptAt qs i).1 < p) ∧ (t.ks.length = 0 → a2 = none ∧ c2 = 0)
theorem Wk6.blk {w w' : World} {p : Nat} {x : Bx} {v1 v2 : Value} (h : Wk6 w p x v1 v2) (e : w'.heap[p]? = w.heap[p]?) : Wk6 w' p x v1 v2 := by
 have q : ∀ k, w'.cell? ⟨p, k, none⟩ = w.cell? ⟨p, k, none⟩ := fun k => World.cell?_of_block (a := ⟨p, k, none⟩) e
 refine ⟨⟨(q _).trans h.four.1, (q _).trans h.four.2.1, (q _).trans h.four.2.2.1, (q _).trans h.four.2.2.2⟩, (q _).trans h.c4, (q _).trans h.c5, fun o => (World.frozen?_of_block (a := ⟨p, o, none⟩) e).trans (h.fr o), ?_⟩
 obtain ⟨cs, T, hh⟩ := h.pl
 exact ⟨cs, T, e.trans hh⟩
theorem NdK.blk {w W W' : World} {p : Nat} {t : Nd} (h : NdK w W p t) (e : W'.heap[p]? = W.heap[p]?) : NdK w W' p t := by
 obtain ⟨a1, c1, a2, c2, qs, K, r⟩ := h
 exact ⟨a1, c1, a2, c2, qs, K.blk e, r⟩
theorem NdK.lt {w W : World} {p : Nat} {t : Nd} (h : NdK w W p t) : p < W.heap.size := by obtain ⟨a1, c1, a2, c2, qs, K, r⟩ := h; exact K.lt
theorem NdK.below {w W W' : World} {p : Nat} {t : Nd} (h : NdK w W p t) (hb : Below W.heap.size W W') : NdK w W' p t := h.blk (hb.block p h.lt)
theorem NdK.at {w W : World} {p : Nat} {t : Nd} (h : NdK w W p t) (B : Below w.heap.size w W) : WkAt W p t := by
 obtain ⟨a1, c1, a2, c2, qs, K, I, Q, L, lt, z⟩ := h
 obtain ⟨b, bs, is, ks⟩ := t
 have L' := L.below B
 exact .mk K (I.below B) (Q.below B) L.1 z (fun i hi => (L'.2 i hi).1) lt (fun i hi => (L'.2 i hi).2)
def VarL (p : Nat) (v : Value) (W : World) : Prop := ∃ T, W.heap[p]? = some (.cells #[v] T (0, 0))
theorem VarL.cell {p : Nat} {v : Value} {W : World} (h : VarL p v W) : W.cell? ⟨p, 0, none⟩ = some v := by
 obtain ⟨T, e⟩ := h
 simp [World.cell?, e]
theorem VarL.fr {p : Nat} {v : Value} {W : World} (h : VarL p v W) : W.frozen? ⟨p, 0, none⟩ = false := by
 obtain ⟨T, e⟩ := h
 simp [World.frozen?, e]
theorem VarL.below {p : Nat} {v : Value} {W W' : World} (h : VarL p v W) (hb : Below W.heap.size W W') : VarL p v W' := by
 obtain ⟨T, e⟩ := h
 exact ⟨T, (hb.block p (Array.getElem?_eq_some_iff.1 e).1).trans e⟩
theorem VarL.grown {p : Nat} {v : Value} {W W' : World} {R : Option Nat} (h : VarL p v W) (g : W.grownBy W' R) (ne : some p ≠ R) : VarL p v W' := by
 obtain ⟨T, e⟩ := h
 exact ⟨T, (g.block p (Array.getElem?_eq_some_iff.1 e).1 ne).trans e⟩
theorem VarL.put {p : Nat} {v : Value} {W : World} (h : VarL p v W) (u : Value) : VarL p u (W.setCell ⟨p, 0, none⟩ u) := by
 obtain ⟨T, e⟩ := h
 refine ⟨T, ?_⟩
 simp only [World.setCell]
 rw [Array.getElem?_modify, if_pos rfl, e]
 rfl
structure PtR (w : World) (fv : Value) (cv : Value) (v : Value) (qs : List Ptr) (L : List Nd) (W : World) : Prop where
 bel : Below w.heap.size w W
 c0 : W.cell? ⟨w.heap.size, 0, none⟩ = some fv
 c2 : W.cell? ⟨w.heap.size + 2, 0, none⟩ = some cv ∧ W.cell? ⟨w.heap.size + 3, 0, none⟩ = some (.int .i64 4)
 row : RowWp (w.heap.size + 6) W v qs
 len : qs.length = L.length
 nd : ∀ i, i < L.length → (ptAt qs i).2 = 0 ∧ v.ownBlock ≠ some (ptAt qs i).1 ∧ w.heap.size + 6 ≤ (ptAt qs i).1 ∧ NdK w W (ptAt qs i).1 (ndA L i)
 sz : w.heap.size + 6 ≤ W.heap.size
theorem PtR.blk {w : World} {fv cv v : Value} {qs : List Ptr} {L : List Nd} {W W' : World} (h : PtR w fv cv v qs L W) (B : Below w.heap.size w W') (hs : W.heap.size ≤ W'.heap.size) (hk : ∀ k, k < W.heap.size → k ≠ w.heap.size + 1 → k ≠ w.heap.size + 4 → k ≠ w.heap.size + 5 → W'.heap[k]? = W.heap[k]?) : PtR w fv cv v qs L W' := by
 have q : ∀ {k j : Nat} {u : Value}, W.cell? ⟨k, j, none⟩ = some u → k ≠ w.heap.size + 1 → k ≠ w.heap.size + 4 → k ≠ w.heap.size + 5 → W'.cell? ⟨k, j, none⟩ = some u := fun {k j u} e n1 n2 n3 => (World.cell?_of_block (a := ⟨k, j, none⟩) (hk k (World.block_lt_of_cell? W _ e) n1 n2 n3)).trans e
 refine ⟨B, q h.c0 (by omega) (by omega) (by omega), ⟨q h.c2.1 (by omega) (by omega) (by omega), q h.c2.2 (by omega) (by omega) (by omega)⟩, ?_, h.len, fun i hi => ?_, Nat.le_trans h.sz hs⟩
 ·rcases h.row.2 with ⟨hv, h0⟩ | ⟨g, cap', cur, hv, hb, hh, r⟩
  ·exact ⟨h.row.1, .inl ⟨hv, h0⟩⟩
  ·exact ⟨h.row.1, .inr ⟨g, cap', cur, hv, hb, (hk g (Array.getElem?_eq_some_iff.1 hh).1 (by omega) (by omega) (by omega)).trans hh, r⟩⟩
 ·obtain ⟨h1, h2, h3, h4⟩ := h.nd i hi
  exact ⟨h1, h2, h3, h4.blk (hk _ h4.lt (by omega) (by omega) (by omega))⟩
theorem PtR.below {w : World} {fv cv v : Value} {qs : List Ptr} {L : List Nd} {W W' : World} (h : PtR w fv cv v qs L W) (hb : Below W.heap.size W W') : PtR w fv cv v qs L W' := h.blk (h.bel.trans (hb.mono h.bel.size)) hb.size (fun k hk _ _ _ => hb.block k hk)
theorem PtR.snoc {w : World} {fv cv v v' : Value} {qs : List Ptr} {L : List Nd} {W W' : World} {p : Nat} {t : Nd} (h : PtR w fv cv v qs L W) (g : W.grownBy W' v.ownBlock) (R : RowWp (w.heap.size + 6) W' v' (qs ++ [(p, 0)])) (hv : v'.ownBlock = v.ownBlock ∨ ∀ k, v'.ownBlock = some k → p < k ∧ W.heap.size ≤ k) (K : NdK w W p t) (hp : v.ownBlock ≠ some p) (hl : w.heap.size + 6 ≤ p) : PtR w fv cv v' (qs ++ [(p, 0)]) (L ++ [t]) W' := by
 have hlo : ∀ k, v.ownBlock = some k → w.heap.size + 6 ≤ k := fun k hk => (World.ownsRow.lt h.row k hk).1
 have ne : ∀ {k}, k < w.heap.size + 6 → some k ≠ v.ownBlock := fun {k} hk e => by have := hlo k e.symm; omega
 have hn : ∀ {q}, q < W.heap.size → v.ownBlock ≠ some q → v'.ownBlock ≠ some q := fun {q} hq n e => by
  rcases hv with c | c
  ·exact n (by rw [← c]; exact e)
  ·have := (c q e).2
   omega
 refine ⟨h.bel.grown g h.bel.size (fun k hk => by have := hlo k hk; omega), g.cell h.c0 (ne (by show w.heap.size < _; omega)), ⟨g.cell h.c2.1 (ne (by show w.heap.size + 2 < _; omega)), g.cell h.c2.2 (ne (by show w.heap.size + 3 < _; omega))⟩, R, by simp [h.len], fun i hi => ?_, Nat.le_trans h.sz g.size⟩
 rw [ptAt_snoc, ndA_append, h.len]
 by_cases c : i = L.length
 ·rw [if_pos c, if_neg (by omega), c, Nat.sub_self]
  exact ⟨rfl, hn K.lt hp, hl, K.blk (g.block p K.lt (fun e => hp e.symm))⟩
 ·rw [List.length_append, List.length_singleton] at hi
  rw [if_neg c, if_pos (by omega)]
  obtain ⟨h1, h2, h3, h4⟩ := h.nd i (by omega)
  exact ⟨h1, hn h4.lt h2, h3, h4.blk (g.block _ h4.lt (fun e => h2 e.symm))⟩
structure PtS (w : World) (fv cv : Value) (F : Nat → List Nd) (k : Nat) (W : World) : Prop where
 bel : Below w.heap.size w W
 c0 : W.cell? ⟨w.heap.size, 0, none⟩ = some fv
 c2 : W.cell? ⟨w.heap.size + 2, 0, none⟩ = some cv ∧ W.cell? ⟨w.heap.size + 3, 0, none⟩ = some (.int .i64 4)
 fam : ∃ a n c qs, VarL (w.heap.size + 1) (.slice a n c) W ∧ RowWp (w.heap.size + 6) W (.slice a n c) qs ∧ qs.length = (F k).length ∧ n = qs.length ∧ ∀ i, i < (F k).length → (ptAt qs i).2 = 0 ∧ (Value.slice a n c).ownBlock ≠ some (ptAt qs i).1 ∧ w.heap.size + 6 ≤ (ptAt qs i).1 ∧ NdK w W (ptAt qs i).1 (ndA (F k) i)
theorem PtS.open {w : World} {fv cv : Value} {F : Nat → List Nd} {k : Nat} {W : World} (h : PtS w fv cv F k W) (sz : w.heap.size + 6 ≤ W.heap.size) : ∃ a c qs, VarL (w.heap.size + 1) (.slice a qs.length c) W ∧ PtR w fv cv (.slice a qs.length c) qs (F k) W := by
 obtain ⟨a, n, c, qs, V, R, l, rfl, N⟩ := h.fam
 exact ⟨a, c, qs, V, ⟨h.bel, h.c0, h.c2, R, l, N, sz⟩⟩
theorem PtS.blk {w : World} {fv cv : Value} {F : Nat → List Nd} {k : Nat} {W W' : World} (h : PtS w fv cv F k W) (B : Below w.heap.size w W') (hk : ∀ k, k < W.heap.size → k ≠ w.heap.size + 4 → k ≠ w.heap.size + 5 → W'.heap[k]? = W.heap[k]?) : PtS w fv cv F k W' := by
 have q : ∀ {k j : Nat} {u : Value}, W.cell? ⟨k, j, none⟩ = some u → k ≠ w.heap.size + 4 → k ≠ w.heap.size + 5 → W'.cell? ⟨k, j, none⟩ = some u := fun {k j u} e n2 n3 => (World.cell?_of_block (a := ⟨k, j, none⟩) (hk k (World.block_lt_of_cell? W _ e) n2 n3)).trans e
 obtain ⟨a, n, c, qs, ⟨T, V⟩, R, l, hn, N⟩ := h.fam
 refine ⟨B, q h.c0 (by omega) (by omega), ⟨q h.c2.1 (by omega) (by omega), q h.c2.2 (by omega) (by omega)⟩, a, n, c, qs, ⟨T, (hk _ (Array.getElem?_eq_some_iff.1 V).1 (by omega) (by omega)).trans V⟩, ?_, l, hn, fun i hi => ?_⟩
 ·rcases R.2 with ⟨hv, h0⟩ | ⟨g, cap', cur, hv, hb, hh, r⟩
  ·exact ⟨R.1, .inl ⟨hv, h0⟩⟩
  ·exact ⟨R.1, .inr ⟨g, cap', cur, hv, hb, (hk g (Array.getElem?_eq_some_iff.1 hh).1 (by omega) (by omega)).trans hh, r⟩⟩
 ·obtain ⟨h1, h2, h3, h4⟩ := N i hi
  exact ⟨h1, h2, h3, h4.blk (hk _ h4.lt (by omega) (by omega))⟩
theorem PtS.loop {w : World} {fv cv : Value} {F : Nat → List Nd} {k : Nat} {W : World} (h : PtS w fv cv F k W) {p : Nat} (hp : p = w.heap.size + 4 ∨ p = w.heap.size + 5) (o : Obj) : PtS w fv cv F k (W.putObj p o) :=
 h.blk (h.bel.trans ((belowPut W (B := p) (Nat.le_refl _) o).mono (by omega))) (fun k _ n2 n3 => World.putObj_heap_other (by omega))
theorem PtS.drew {w : World} {fv cv : Value} {F : Nat → List Nd} {k : Nat} {W : World} (h : PtS w fv cv F k W) : PtS w fv cv F k W.drew := h.blk h.bel.drew (fun _ _ _ _ => rfl)
theorem PtR.store {w : World} {fv cv v : Value} {a7 : Option Addr} {n7 c7 : Nat} {F : Nat → List Nd} {k : Nat} {qs : List Ptr} {W : World} {L : List Nd} (h : PtR w fv cv (.slice a7 n7 c7) qs L W) (V : VarL (w.heap.size + 1) v W) (e : F (k + 1) = L) : PtS w fv cv F (k + 1) (W.setCell ⟨w.heap.size + 1, 0, none⟩ (.slice a7 n7 c7)) := by
 have hn : n7 = qs.length := by
  rcases h.row.2 with ⟨hv, h0⟩ | ⟨g, cap', cur, hv, _⟩
  ·injection hv with _ e2 _
   rw [e2, h0]
  ·injection hv with _ e2 _
 have h' := h.blk (W' := W.setCell ⟨w.heap.size + 1, 0, none⟩ (.slice a7 n7 c7)) (h.bel.setCell (p := ⟨w.heap.size + 1, 0, none⟩) (by show w.heap.size ≤ w.heap.size + 1; omega) _) (by simp [World.setCell]) (fun k _ n1 _ _ => Below.heap_setCell _ _ _ _ n1)
 refine ⟨h'.bel, h'.c0, h'.c2, a7, n7, c7, qs, V.put _, h'.row, ?_, hn, ?_⟩
 ·rw [e]; exact h'.len
 ·rw [e]; exact h'.nd
theorem RowWp.sl {base : Nat} {w : World} {v : Value} {qs : List Ptr} (h : RowWp base w v qs) : ∃ a c, v = .slice a qs.length c ∧ qs.length ≤ c ∧ c ≤ maxLen := by
 rcases h.2 with ⟨hv, h0⟩ | ⟨g, cap', cur, hv, _, _, hf, hm, _⟩
 ·exact ⟨none, 0, by rw [hv, h0], by omega, by simp [maxLen]⟩
 ·exact ⟨_, cap', hv, hf, hm⟩
theorem Abv.below {B : Nat} {W W' W2 : World} (h : Abv B W W') (hb : Below W'.heap.size W' W2) : Abv B W W2 := ⟨Nat.le_trans h.size hb.size, fun k h1 h2 h3 => (hb.block k (Nat.lt_of_lt_of_le h2 h.size)).trans (h.same k h1 h2 h3)⟩
theorem Abv.grown {B : Nat} {W W' W2 : World} {R : Option Nat} (h : Abv B W W') (g : W'.grownBy W2 R) (hR : ∀ k, R = some k → B + 2 ≤ k) : Abv B W W2 := ⟨Nat.le_trans h.size g.size, fun k h1 h2 h3 => (g.block k (Nat.lt_of_lt_of_le h2 h.size) (fun e => by have := hR k e.symm; omega)).trans (h.same k h1 h2 h3)⟩
theorem Abv.put {B : Nat} {W W' : World} (h : Abv B W W') {p o : Nat} (hp : p < B) (u : Value) : Abv B W (W'.setCell ⟨p, o, none⟩ u) := ⟨by simpa [World.setCell] using h.size, fun k h1 h2 h3 => (Below.heap_setCell _ _ _ _ (by show k ≠ p; omega)).trans (h.same k h1 h2 h3)⟩

set_option maxRecDepth 100000 in
set_option maxHeartbeats 8000000 in
theorem partedIt_any (a : Option Addr) (c : Nat) (bs : List Bx) (is : List Int) (w : World) (h : SeesIt w a c bs is) (hok : ∀ b ∈ bs, okX b = true) (hl : bs.length ≤ 1048576) :
  Calls Tryz.prog 82 #[.slice a bs.length c, .func (Fn.func 83) #[] #[]] w fun e w' => ∃ v qs, e = .returned v ∧ RowWp w.heap.size w' v qs ∧ WkL w' qs (lfs bs is) ∧ Below w.heap.size w w' := by
 obtain ⟨iP, hiP, hP0, hP1, hP2⟩ := info_parts infoWp
 have hm := h.max
 have hf := h.fits
 have hlen := h.len
 unfold maxLen at hm
 obtain ⟨n, hn⟩ : ∃ n, bs.length = n := ⟨_, rfl⟩
 have HN : Hid (bs.length = n) := hn
 have HAD : Hid (0 < n → ∃ g o, a = some ⟨g, o, none⟩) := fun h0 => by
  obtain ⟨g, o, e, _⟩ := h.cells (by intro e; rw [e] at hn; simp at hn; omega)
  exact ⟨g, o, e⟩
 rw [hn] at hl ⊢
 have hfn : n ≤ c := by rw [← hn]; exact hf
 clear hn hf
 obtain ⟨fv, hfv⟩ : ∃ v, Hid ((Value.func (Fn.func 83) #[] #[]) = v) := ⟨_, rfl⟩
 have q0 := below1 w (.cells #[.func (Fn.func 83) #[] #[]] 114)
 have k0 := cell_new w #[.func (Fn.func 83) #[] #[]] 114 0 rfl
 refine (callsIn_wide (n := 6)).1 ?_
 refine callsIn_of_wp_marks Tryz.func82 rfl trivial ?_ rfl
 simp only [Tryz.ntmps82, List.size_toArray, List.length_cons, List.length_nil, Nat.reduceAdd, Nat.reduceSub, Array.replicate_succ, Array.replicate_zero, List.push_toArray, List.append_toArray, List.nil_append, List.cons_append]
 gi_wp2_with fail
 refine ⟨trivial, ?_⟩
 have q1 := below1 (w.alloc (.cells #[.func (Fn.func 83) #[] #[]] 114)) (.cells #[.slice none 0 0] 108)
 have k1 := heap_alloc_new (w.alloc (.cells #[.func (Fn.func 83) #[] #[]] 114)) (.cells #[.slice none 0 0] 108)
 replace k0 := bat q1 k0
 have Q1 := q0.trans (q1.mono q0.size)
 have z1 : ((w.alloc (.cells #[.func (Fn.func 83) #[] #[]] 114)).alloc (.cells #[.slice none 0 0] 108)).heap.size = w.heap.size + 2 := by simp
 rw [World.size_alloc] at k1
 clear q0 q1
 generalize (w.alloc (.cells #[.func (Fn.func 83) #[] #[]] 114)).alloc (.cells #[.slice none 0 0] 108) = W2 at *
 refine (callsIn_wide.2 (chunk_anyIt a n c W2)).mono ?_
 rintro e w2 ⟨rfl, rfl⟩
 have q2 := below1 W2 (.cells #[.slice a n c] 107)
 have q3 := below1 (W2.alloc (.cells #[.slice a n c] 107)) (.cells #[.int .i64 4] 3)
 have k2 := bat q3 (cell_new W2 #[.slice a n c] 107 0 rfl)
 have k3 := cell_new (W2.alloc (.cells #[.slice a n c] 107)) #[.int .i64 4] 3 0 rfl
 have Q3 := q2.trans (q3.mono q2.size)
 have zL : ((W2.alloc (.cells #[.slice a n c] 107)).alloc (.cells #[.int .i64 4] 3)).heap.size = w.heap.size + 4 := by simp [z1]
 rw [World.size_alloc, z1] at k3
 rw [z1] at k2 ⊢
 replace k0 := bat Q3 k0
 replace k1 := (Q3.block (w.heap.size + 1) (by rw [z1]; omega)).trans k1
 have QL := Q1.trans (Q3.mono Q1.size)
 clear q2 q3 Q3 Q1
 generalize (W2.alloc (.cells #[.slice a n c] 107)).alloc (.cells #[.int .i64 4] 3) = WL at *
 have T0 : Hid (∀ W1, Below WL.heap.size WL W1 → PtS w (.func (Fn.func 83) #[] #[]) (.slice a n c) (lfK bs is) 0 W1) := fun W1 hb => by
  have P0 : PtS w (.func (Fn.func 83) #[] #[]) (.slice a n c) (lfK bs is) 0 WL := ⟨QL, k0, ⟨k2, k3⟩, none, 0, 0, [], ⟨_, k1⟩, RowWp.nil _ _, by simp [lfK], rfl, fun i hi => absurd hi (by simp [lfK])⟩
  exact P0.blk (QL.trans (hb.mono (by rw [zL]; omega))) (fun k hk _ _ => hb.block k hk)
 clear k0 k1 k2 k3 QL
 obtain ⟨g, o, HA0⟩ : ∃ g o, Hid (0 < n → a = some ⟨g, o, none⟩) := by
  rcases Nat.eq_zero_or_pos n with e | e
  ·exact ⟨0, 0, fun h => absurd h (by omega)⟩
  ·obtain ⟨g, o, h⟩ := HAD.out e
   exact ⟨g, o, fun _ => h⟩
 gi_wp2
 refine wpIn_rangeFunc_D rfl (by omega) (gf := 127) (lb := #[.pointer (some ⟨w.heap.size + 2, 0, none⟩), .pointer (some ⟨w.heap.size + 2 + 1, 0, none⟩)]) rfl trivial (enters_of Tryz.func127 (by kernel_rfl) rfl) (chunk_seqIt (w.heap.size + 2) (w.heap.size + 2 + 1) g o c n a _ _ (by omega) (by omega) hfn hm HA0.out) (fun _ => rfl)
  (fun s W => Hid (PtS w (.func (Fn.func 83) #[] #[]) (.slice a n c) (lfK bs is) s W)) (fun _ => False) (fun s A hs => ⟨hs.out.c2.1, hs.out.c2.2⟩) (fun s A l o hl hs => by
   rw [zL] at hl ⊢
   exact hs.out.loop (.inr rfl) o) (fun s A hs => hs.out.drew) (fun A B' hd hb => hd) (fun W1 hb => T0.out W1 hb) ?round ?done ?ret
 case round =>
  rintro k x s' W K HJ ⟨e1, rfl, hlt⟩ ⟨l, hl⟩ hK
  obtain rfl : k = x := e1
  have hz6 : w.heap.size + 6 ≤ W.heap.size := by have := (Array.getElem?_eq_some_iff.1 hl).1; omega
  rw [zL] at hl hK ⊢
  unfold encH
  have hn0 : 0 < n := by omega
  have HA : Hid (a = some ⟨g, o, none⟩ ∧ bs.length = n) := ⟨HA0.out hn0, HN.out⟩
  have HKN : Hid (k < (n + 3) / 4) := hlt
  gi_wp2
  refine hK _ _ (Abv.refl _ _) ?_
  intro o'
  have J3 : Hid (PtS w (.func (Fn.func 83) #[] #[]) (.slice a n c) (lfK bs is) k (W.putObj (w.heap.size + 4 + 1) o')) := HJ.out.loop (.inr rfl) o'
  have hz3 : w.heap.size + 6 ≤ (W.putObj (w.heap.size + 4 + 1) o').heap.size := by simpa [World.putObj] using hz6
  clear hK HJ hl hz6
  generalize W.putObj (w.heap.size + 4 + 1) o' = W3 at *
  obtain ⟨a5, c5, qs5, V5, P5⟩ := J3.out.open hz3
  have HLV : Hid ((lfK bs is) (k + 1) = (lfK bs is) k ++ [_]) := lfK_succ bs is k
  have HQL : Hid (qs5.length ≤ 1048576) := by
   have e := P5.len
   have e2 : ((lfK bs is) k).length = k := lfK_len bs is k
   show _ ≤ _
   omega
  have s5 := World.ownsRow.lt P5.row
  obtain ⟨hf5, hm5⟩ : qs5.length ≤ c5 ∧ c5 ≤ maxLen := by
   obtain ⟨_, _, e5, h1, h2⟩ := RowWp.sl P5.row
   injection e5 with _ _ e7
   rw [e7]
   exact ⟨h1, h2⟩
  unfold maxLen at hm5
  clear J3
  gi_wp2_with fail
  have NL := V5.below (Below.refl W3.heap.size W3).drew
  have PP : Hid (PtR w (.func (Fn.func 83) #[] #[]) (.slice a n c) (.slice a5 qs5.length c5) qs5 ((lfK bs is) k) W3.drew) := P5.below (Below.refl W3.heap.size W3).drew
  have NT := PP.out.c0
  have AB : Abv (w.heap.size + 4) W3 W3.drew := (Abv.refl _ _).below (Below.refl W3.heap.size W3).drew
  clear V5 P5 s5 hf5 hm5
  refine wpIn_region_roundM 6 (VarL (w.heap.size + 1) (.slice a5 qs5.length c5)) (fun W => W.cell? ⟨w.heap.size, 0, none⟩ = some (.func (Fn.func 83) #[] #[])) (by kernel_rfl) (by kernel_rfl) (fun a w h => h) ?_
  generalize W3.drew = ww0 at *
  refine takeL (i := 0) (by simp only [List.getElem?_toArray, List.getElem?_cons_zero]; exact rfl) (by kernel_rfl) (by kernel_rfl) (by kernel_rfl) (by exact fun _ _ _ h => h) (by decide) (by kernel_rfl) (by kernel_rfl) (by rfl) (by intro wq hSw; obtain ⟨_, y4⟩ := hSw; replace y4 := y4.cell; go_simp <;> with_reducible rfl) ⟨NT, .inr NL⟩ ?_
  try simp only [Act.put, pA, pB, pC]
  refine takeT (i := 1) (by simp only [List.getElem?_toArray, List.getElem?_cons_succ, List.getElem?_cons_zero]; exact rfl) (by kernel_rfl) (by kernel_rfl) (by kernel_rfl) (by exact fun _ _ _ h => h) (by decide) (by rfl) (by intro wq hSw; have y3 := hSw; go_simp <;> with_reducible rfl) ⟨NT, .inr NL⟩ ?_
  try simp only [Act.put, pA, pB, pC]
  refine takeT (i := 2) (by simp only [List.getElem?_toArray, List.getElem?_cons_succ, List.getElem?_cons_zero]; exact rfl) (by kernel_rfl) (by kernel_rfl) (by kernel_rfl) (by exact fun _ _ _ h => h) (by decide) (by rfl) (by intro wq hSw; go_simp <;> with_reducible rfl) ⟨NT, .inr NL⟩ ?_
  try simp only [Act.put, pA, pB, pC]
  refine wpAnyM_ready (rs := [3]) (by kernel_rfl) (by simp) (AllReadyM.cons (by simp only [List.getElem?_toArray, List.getElem?_cons_succ, List.getElem?_cons_zero]; exact rfl) (fun K hK => ?_) AllReadyM.nil)
  go_simp
  have hcl : (ch4 bs k).length = chM n k := by rw [ch4_len', HN.out]; rfl
  have CC := leafOf_any (some ⟨g, o + 4 * k * 5, none⟩) (chM n k) (ch4 bs k) (ch4 is k) ww0 (SeesIt.sub (h.below PP.out.bel) HA.out HKN.out)
  rw [hcl] at CC
  refine CC.mono ?_
  rintro e w5 ⟨rfl, K5, hb⟩
  have KN : NdK w w5 ww0.heap.size (clS (.mk (0, 0, 0, 0) (ch4 bs k) (ch4 is k) [])) := by
   refine ⟨some ⟨g, o + 4 * k * 5, none⟩, chM n k, none, 0, [], ?_, ?_, ⟨by simp, by simp [maxLen], fun h => absurd rfl h⟩, ⟨by rw [clS_ks]; rfl, fun i hi => absurd hi (by rw [clS_ks]; exact Nat.not_lt_zero _)⟩, fun i hi => absurd hi (by rw [clS_ks]; exact Nat.not_lt_zero _), fun _ => ⟨rfl, rfl⟩⟩
   ·rw [clS_b, bxS_lf _ (fun b hb => hok b (ch4_mem hb)), clS_bs, clS_ks]
    show Wk6 w5 _ _ (.slice _ (ch4 bs k).length _) _
    rw [hcl]
    exact K5
   ·rw [clS_bs, clS_is]
    exact SeesIt.sub h HA.out HKN.out
  obtain ⟨pn, hpn⟩ : ∃ p, ww0.heap.size = p := ⟨_, rfl⟩
  have HPS : Hid (w.heap.size + 6 ≤ pn) := by show _ ≤ _; rw [← hpn]; exact PP.out.sz
  have HPO : Hid ((Value.slice a5 qs5.length c5).ownBlock ≠ some pn) := fun e => by have := (World.ownsRow.lt PP.out.row pn e).2; omega
  have HPZ : Hid (pn < w5.heap.size) := by rw [hpn] at K5; exact K5.lt
  rw [hpn] at KN K5 ⊢
  clear K5 CC
  replace NL := NL.below hb
  replace AB := AB.below hb
  replace NT := bat hb NT
  have PQ := PP.out.below hb
  refine hK.out _ _ ⟨NT, .inr NL⟩ ?_
  clear hK K
  try simp only [Act.put, pA, pB, pC]
  refine wpAnyM_ready (rs := [4]) (by kernel_rfl) (by simp) (AllReadyM.cons (by simp only [List.getElem?_toArray, List.getElem?_cons_succ, List.getElem?_cons_zero]; exact rfl) (fun K hK => ?_) AllReadyM.nil)
  go_simp
  have bq := below1 w5 (.cells #[.pointer (some ⟨pn, 0, none⟩)] 58)
  have NW := one_newTp w5 58 pn 0
  replace NL := NL.below bq
  replace AB := AB.below bq
  replace NT := bat bq NT
  have PR := PQ.below bq
  replace KN := KN.below bq
  refine hK.out _ _ ⟨NT, .inr NL⟩ ?_
  clear hK K
  try simp only [Act.put, pA, pB, pC]
  generalize hzA : w5.heap.size = zA at *
  generalize w5.alloc (.cells #[.pointer (some ⟨pn, 0, none⟩)] 58) = w6 at *
  clear bq PQ
  refine wpAnyM_ready (rs := [5]) (by kernel_rfl) (by simp) (AllReadyM.cons (by simp only [List.getElem?_toArray, List.getElem?_cons_succ, List.getElem?_cons_zero]; exact rfl) (fun K hK => ?_) AllReadyM.nil)
  refine wp_append_at (.tmp 10) (.tmp 14) 108 rfl (w.heap.size + 6) 58 iP (.pointer none) 1 8 Tryz.underlying108 hiP hP0 hP1 hP2 rfl (by decide) (.slice a5 qs5.length c5) qs5.length (qs5.map ptV) rfl PR.row ⟨zA, 0, none⟩ 1 _ ([((pn, 0) : Ptr)].map ptV) rfl rfl NW (onesTp _) (by have := HQL.out; unfold maxLen; omega) (by have := HQL.out; omega) PR.sz ?_
  intro v7 w7 R7 G7 A7
  have R8 := RowWp.snoc R7
  obtain ⟨a7, c7, ev7, _, _⟩ := RowWp.sees R8
  obtain ⟨n7, hn7⟩ : ∃ n, (qs5 ++ [((pn, 0) : Ptr)]).length = n := ⟨_, rfl⟩
  rw [hn7] at ev7
  subst ev7
  clear hn7
  have nP : some w.heap.size ≠ (Value.slice a5 qs5.length c5).ownBlock := fun e => by have := (World.ownsRow.lt PR.row _ e.symm).1; omega
  have nV : some (w.heap.size + 1) ≠ (Value.slice a5 qs5.length c5).ownBlock := fun e => by have := (World.ownsRow.lt PR.row _ e.symm).1; omega
  replace NT := G7.cell NT nP
  replace NL := NL.grown G7 nV
  replace AB := AB.grown G7 (fun k e => (World.ownsRow.lt PR.row k e).1)
  have PS := PR.snoc G7 R8 (A7.elim .inl (fun c => .inr (fun k e => by rw [c] at e; injection e with e; have := KN.lt; omega))) KN HPO.out HPS.out
  refine hK.out _ _ ⟨NT, .inr NL⟩ ?_
  clear hK K
  try simp only [Act.put, pA, pB, pC]
  clear PR R7 R8 G7 A7 NW KN nP nV
  refine wpAnyM_ready (rs := [6]) (by kernel_rfl) (by simp) (AllReadyM.cons (by simp only [List.getElem?_toArray, List.getElem?_cons_succ, List.getElem?_cons_zero]; exact rfl) (fun K hK => ?_) AllReadyM.nil)
  have y5 := NL.cell
  have yf := NL.fr
  go_simp
  have PF : Hid (PtS w (.func (Fn.func 83) #[] #[]) (.slice a n c) (lfK bs is) (k + 1) (w7.setCell ⟨w.heap.size + 1, 0, none⟩ (.slice a7 n7 c7))) := PS.store NL HLV.out
  have AF : Hid (Abv (w.heap.size + 4) W3 (w7.setCell ⟨w.heap.size + 1, 0, none⟩ (.slice a7 n7 c7))) := AB.put (by omega) _
  replace NT : (w7.setCell ⟨w.heap.size + 1, 0, none⟩ (.slice a7 n7 c7)).cell? ⟨w.heap.size, 0, none⟩ = some _ := (cell_other (.inl (by omega)) _).trans NT
  refine hK.out _ _ ⟨NT, .inl (by kernel_rfl)⟩ ?_
  clear hK K
  try simp only [Act.put, pA, pB, pC]
  clear y5 yf PS NL
  refine wpAnyM_done (by kernel_rfl) ?_ _
  gi_wp2
  exact ⟨AF.out, PF.out⟩
 case done =>
  rintro s W rfl HJ hk
  rw [zL] at hk ⊢
  obtain ⟨a5, n5, c5, qs5, V5, R5, l5, rfl, N5⟩ := HJ.out.fam
  have B5 := HJ.out.bel
  have y5 := V5.cell
  have bp := belowPut W (B := w.heap.size + 4) (Nat.le_refl _) (.deferred none)
  have HB : Hid (Below w.heap.size w (W.putObj (w.heap.size + 4) (.deferred none))) := B5.trans (bp.mono (by omega))
  have HR : Hid (RowWp w.heap.size (W.putObj (w.heap.size + 4) (.deferred none)) (.slice a5 qs5.length c5) qs5) := by
   rcases R5.2 with ⟨hv, h0⟩ | ⟨g, cap', cur, hv, hb, hh, r⟩
   ·exact ⟨R5.1, .inl ⟨hv, h0⟩⟩
   ·exact ⟨R5.1, .inr ⟨g, cap', cur, hv, by omega, (World.putObj_heap_other (by omega)).trans hh, r⟩⟩
  have HW : Hid (WkL (W.putObj (w.heap.size + 4) (.deferred none)) qs5 (lfs bs is)) := ⟨l5.trans (by rw [show (lfK bs is ((n + 3) / 4)).length = (n + 3) / 4 from lfK_len _ _ _]; exact (((lfs_len bs is).trans (by rw [HN.out]))).symm), fun i hi => by
   have hi' : i < ((lfK bs is) ((n + 3) / 4)).length := by rw [show (lfK bs is ((n + 3) / 4)).length = (n + 3) / 4 from lfK_len _ _ _]; have e : (lfs bs is).length = (n + 3) / 4 := ((lfs_len bs is).trans (by rw [HN.out])); omega
   obtain ⟨h1, _, h3, h4⟩ := N5 i hi'
   have e : (lfs bs is) = (lfK bs is) ((n + 3) / 4) := by unfold lfs; rw [HN.out]
   rw [e]
   exact ⟨h1, (h4.blk (World.putObj_heap_other (by omega))).at HB.out⟩⟩
  clear B5 R5 N5 l5 V5 bp
  gi_wp2_with fail
  refine ⟨by simp, .inl ⟨_, _, rfl, run_takeDeferred hk, ?_⟩⟩
  refine ⟨_, results_tmp rfl _ _ _, .slice a5 qs5.length c5, qs5, rfl, HR.out, HW.out, HB.out⟩
 case ret => exact fun W hd => hd.elim

set_option maxRecDepth 100000 in
set_option maxHeartbeats 8000000 in
theorem partedWp_any (a : Option Addr) (c : Nat) (qs0 : List Ptr) (L0 : List Nd) (w : World) (h : SeesTp w a c qs0) (hw : WkL w qs0 L0) (hok : okN L0) (hl : L0.length ≤ 1048576) :
  Calls Tryz.prog 84 #[.slice a L0.length c, .func (Fn.func 85) #[] #[]] w fun e w' => ∃ v qs, e = .returned v ∧ RowWp w.heap.size w' v qs ∧ WkL w' qs (ups L0) ∧ Below w.heap.size w w' := by
 obtain ⟨iP, hiP, hP0, hP1, hP2⟩ := info_parts infoWp
 have hm := h.max
 have hf := h.fits
 have hlen := hw.1
 unfold maxLen at hm
 obtain ⟨n, hn⟩ : ∃ n, L0.length = n := ⟨_, rfl⟩
 have HN : Hid (L0.length = n) := hn
 have HAD : Hid (0 < n → ∃ g o, a = some ⟨g, o, none⟩) := fun h0 => by
  obtain ⟨g, o, e, _⟩ := h.cells (by intro e; rw [e] at hlen; simp at hlen; omega)
  exact ⟨g, o, e⟩
 rw [hn] at hl ⊢
 have hfn : n ≤ c := by rw [← hn, ← hw.1]; exact hf
 clear hn hf
 obtain ⟨fv, hfv⟩ : ∃ v, Hid ((Value.func (Fn.func 85) #[] #[]) = v) := ⟨_, rfl⟩
 have q0 := below1 w (.cells #[.func (Fn.func 85) #[] #[]] 138)
 have k0 := cell_new w #[.func (Fn.func 85) #[] #[]] 138 0 rfl
 refine (callsIn_wide (n := 6)).1 ?_
 refine callsIn_of_wp_marks Tryz.func84 rfl trivial ?_ rfl
 simp only [Tryz.ntmps84, List.size_toArray, List.length_cons, List.length_nil, Nat.reduceAdd, Nat.reduceSub, Array.replicate_succ, Array.replicate_zero, List.push_toArray, List.append_toArray, List.nil_append, List.cons_append]
 gi_wp2_with fail
 refine ⟨trivial, ?_⟩
 have q1 := below1 (w.alloc (.cells #[.func (Fn.func 85) #[] #[]] 138)) (.cells #[.slice none 0 0] 108)
 have k1 := heap_alloc_new (w.alloc (.cells #[.func (Fn.func 85) #[] #[]] 138)) (.cells #[.slice none 0 0] 108)
 replace k0 := bat q1 k0
 have Q1 := q0.trans (q1.mono q0.size)
 have z1 : ((w.alloc (.cells #[.func (Fn.func 85) #[] #[]] 138)).alloc (.cells #[.slice none 0 0] 108)).heap.size = w.heap.size + 2 := by simp
 rw [World.size_alloc] at k1
 clear q0 q1
 generalize (w.alloc (.cells #[.func (Fn.func 85) #[] #[]] 138)).alloc (.cells #[.slice none 0 0] 108) = W2 at *
 refine (callsIn_wide.2 (chunk_anyWp a n c W2)).mono ?_
 rintro e w2 ⟨rfl, rfl⟩
 have q2 := below1 W2 (.cells #[.slice a n c] 108)
 have q3 := below1 (W2.alloc (.cells #[.slice a n c] 108)) (.cells #[.int .i64 4] 3)
 have k2 := bat q3 (cell_new W2 #[.slice a n c] 108 0 rfl)
 have k3 := cell_new (W2.alloc (.cells #[.slice a n c] 108)) #[.int .i64 4] 3 0 rfl
 have Q3 := q2.trans (q3.mono q2.size)
 have zL : ((W2.alloc (.cells #[.slice a n c] 108)).alloc (.cells #[.int .i64 4] 3)).heap.size = w.heap.size + 4 := by simp [z1]
 rw [World.size_alloc, z1] at k3
 rw [z1] at k2 ⊢
 replace k0 := bat Q3 k0
 replace k1 := (Q3.block (w.heap.size + 1) (by rw [z1]; omega)).trans k1
 have QL := Q1.trans (Q3.mono Q1.size)
 clear q2 q3 Q3 Q1
 generalize (W2.alloc (.cells #[.slice a n c] 108)).alloc (.cells #[.int .i64 4] 3) = WL at *
 have T0 : Hid (∀ W1, Below WL.heap.size WL W1 → PtS w (.func (Fn.func 85) #[] #[]) (.slice a n c) (upK L0) 0 W1) := fun W1 hb => by
  have P0 : PtS w (.func (Fn.func 85) #[] #[]) (.slice a n c) (upK L0) 0 WL := ⟨QL, k0, ⟨k2, k3⟩, none, 0, 0, [], ⟨_, k1⟩, RowWp.nil _ _, by simp [upK], rfl, fun i hi => absurd hi (by simp [upK])⟩
  exact P0.blk (QL.trans (hb.mono (by rw [zL]; omega))) (fun k hk _ _ => hb.block k hk)
 clear k0 k1 k2 k3 QL
 obtain ⟨g, o, HA0⟩ : ∃ g o, Hid (0 < n → a = some ⟨g, o, none⟩) := by
  rcases Nat.eq_zero_or_pos n with e | e
  ·exact ⟨0, 0, fun h => absurd h (by omega)⟩
  ·obtain ⟨g, o, h⟩ := HAD.out e
   exact ⟨g, o, fun _ => h⟩
 gi_wp2
 refine wpIn_rangeFunc_D rfl (by omega) (gf := 130) (lb := #[.pointer (some ⟨w.heap.size + 2, 0, none⟩), .pointer (some ⟨w.heap.size + 2 + 1, 0, none⟩)]) rfl trivial (enters_of Tryz.func130 (by kernel_rfl) rfl) (chunk_seqWp (w.heap.size + 2) (w.heap.size + 2 + 1) g o c n a _ _ (by omega) (by omega) hfn hm HA0.out) (fun _ => rfl)
  (fun s W => Hid (PtS w (.func (Fn.func 85) #[] #[]) (.slice a n c) (upK L0) s W)) (fun _ => False) (fun s A hs => ⟨hs.out.c2.1, hs.out.c2.2⟩) (fun s A l o hl hs => by
   rw [zL] at hl ⊢
   exact hs.out.loop (.inr rfl) o) (fun s A hs => hs.out.drew) (fun A B' hd hb => hd) (fun W1 hb => T0.out W1 hb) ?round ?done ?ret
 case round =>
  rintro k x s' W K HJ ⟨e1, rfl, hlt⟩ ⟨l, hl⟩ hK
  obtain rfl : k = x := e1
  have hz6 : w.heap.size + 6 ≤ W.heap.size := by have := (Array.getElem?_eq_some_iff.1 hl).1; omega
  rw [zL] at hl hK ⊢
  unfold encH
  have hn0 : 0 < n := by omega
  have HA : Hid (a = some ⟨g, o, none⟩ ∧ True) := ⟨HA0.out hn0, trivial⟩
  have HKN : Hid (k < (n + 3) / 4) := hlt
  gi_wp2
  refine hK _ _ (Abv.refl _ _) ?_
  intro o'
  have J3 : Hid (PtS w (.func (Fn.func 85) #[] #[]) (.slice a n c) (upK L0) k (W.putObj (w.heap.size + 4 + 1) o')) := HJ.out.loop (.inr rfl) o'
  have hz3 : w.heap.size + 6 ≤ (W.putObj (w.heap.size + 4 + 1) o').heap.size := by simpa [World.putObj] using hz6
  clear hK HJ hl hz6
  generalize W.putObj (w.heap.size + 4 + 1) o' = W3 at *
  obtain ⟨a5, c5, qs5, V5, P5⟩ := J3.out.open hz3
  have HLV : Hid ((upK L0) (k + 1) = (upK L0) k ++ [_]) := upK_succ L0 k
  have HQL : Hid (qs5.length ≤ 1048576) := by
   have e := P5.len
   have e2 : ((upK L0) k).length = k := upK_len L0 k
   show _ ≤ _
   omega
  have s5 := World.ownsRow.lt P5.row
  obtain ⟨hf5, hm5⟩ : qs5.length ≤ c5 ∧ c5 ≤ maxLen := by
   obtain ⟨_, _, e5, h1, h2⟩ := RowWp.sl P5.row
   injection e5 with _ _ e7
   rw [e7]
   exact ⟨h1, h2⟩
  unfold maxLen at hm5
  clear J3
  gi_wp2_with fail
  have NL := V5.below (Below.refl W3.heap.size W3).drew
  have PP : Hid (PtR w (.func (Fn.func 85) #[] #[]) (.slice a n c) (.slice a5 qs5.length c5) qs5 ((upK L0) k) W3.drew) := P5.below (Below.refl W3.heap.size W3).drew
  have NT := PP.out.c0
  have AB : Abv (w.heap.size + 4) W3 W3.drew := (Abv.refl _ _).below (Below.refl W3.heap.size W3).drew
  clear V5 P5 s5 hf5 hm5
  refine wpIn_region_roundM 6 (VarL (w.heap.size + 1) (.slice a5 qs5.length c5)) (fun W => W.cell? ⟨w.heap.size, 0, none⟩ = some (.func (Fn.func 85) #[] #[])) (by kernel_rfl) (by kernel_rfl) (fun a w h => h) ?_
  generalize W3.drew = ww0 at *
  refine takeL (i := 0) (by simp only [List.getElem?_toArray, List.getElem?_cons_zero]; exact rfl) (by kernel_rfl) (by kernel_rfl) (by kernel_rfl) (by exact fun _ _ _ h => h) (by decide) (by kernel_rfl) (by kernel_rfl) (by rfl) (by intro wq hSw; obtain ⟨_, y4⟩ := hSw; replace y4 := y4.cell; go_simp <;> with_reducible rfl) ⟨NT, .inr NL⟩ ?_
  try simp only [Act.put, pA, pB, pC]
  refine takeT (i := 1) (by simp only [List.getElem?_toArray, List.getElem?_cons_succ, List.getElem?_cons_zero]; exact rfl) (by kernel_rfl) (by kernel_rfl) (by kernel_rfl) (by exact fun _ _ _ h => h) (by decide) (by rfl) (by intro wq hSw; have y3 := hSw; go_simp <;> with_reducible rfl) ⟨NT, .inr NL⟩ ?_
  try simp only [Act.put, pA, pB, pC]
  refine takeT (i := 2) (by simp only [List.getElem?_toArray, List.getElem?_cons_succ, List.getElem?_cons_zero]; exact rfl) (by kernel_rfl) (by kernel_rfl) (by kernel_rfl) (by exact fun _ _ _ h => h) (by decide) (by rfl) (by intro wq hSw; go_simp <;> with_reducible rfl) ⟨NT, .inr NL⟩ ?_
  try simp only [Act.put, pA, pB, pC]
  refine wpAnyM_ready (rs := [3]) (by kernel_rfl) (by simp) (AllReadyM.cons (by simp only [List.getElem?_toArray, List.getElem?_cons_succ, List.getElem?_cons_zero]; exact rfl) (fun K hK => ?_) AllReadyM.nil)
  go_simp
  have hbl : ((ch4 L0 k).map Nd.b).length = chM n k := by rw [List.length_map, ch4_len', HN.out]; rfl
  have hne : ch4 L0 k ≠ [] := ch4_ne (by rw [HN.out]; exact HKN.out)
  have WC : WkL w (ch4 qs0 k) (ch4 L0 k) := WkL.sub hw k
  have SC := SeesTp.sub h HA.out (by rw [hw.1, HN.out]) HKN.out
  have CC := innerOf_any (some ⟨g, o + 4 * k, none⟩) (chM n k) (ch4 qs0 k) ((ch4 L0 k).map Nd.b) ww0 (SC.below PP.out.bel) (by rw [WC.1, List.length_map]) (fun i hi => by
   rw [List.length_map] at hi
   obtain ⟨e2, K⟩ := (WC.below PP.out.bel).2 i hi
   obtain ⟨_, _, _, _, _, K6, _⟩ := K.open
   refine ⟨e2, ?_⟩
   have eb : bxAt ((ch4 L0 k).map Nd.b) i = (ndA (ch4 L0 k) i).b := by unfold bxAt ndA; rw [List.getElem?_map, List.getElem?_eq_getElem hi]; rfl
   rw [eb]
   exact K6.four) (by rw [List.length_map]; exact List.length_pos_iff.2 hne)
  rw [hbl] at CC
  refine CC.mono ?_
  rintro e w5 ⟨rfl, K5, hb⟩
  have KN : NdK w w5 ww0.heap.size (clS (.mk (0, 0, 0, 0) [] [] (ch4 L0 k))) := by
   refine ⟨none, 0, some ⟨g, o + 4 * k, none⟩, chM n k, ch4 qs0 k, ?_, ⟨rfl, Nat.le_refl _, by simp [maxLen], fun h => absurd rfl h⟩, SC, by rw [clS_ks]; exact WC, fun i hi => ?_, fun h0 => ?_⟩
   ·rw [clS_b, bxS_up (fun x hx => hok x (ch4_mem hx)) _ hne, clS_bs, clS_ks]
    show Wk6 w5 _ _ _ (.slice _ (ch4 L0 k).length _)
    have e2 : (ch4 L0 k).length = chM n k := by rw [List.length_map] at hbl; exact hbl
    rw [e2]
    exact K5
   ·rw [clS_ks] at hi
    obtain ⟨_, _, _, _, _, K7, _⟩ := (WC.2 i hi).2.open
    have := K7.lt
    have := PP.out.bel.size
    omega
   ·rw [clS_ks] at h0
    exact absurd (List.eq_nil_of_length_eq_zero h0) hne
  obtain ⟨pn, hpn⟩ : ∃ p, ww0.heap.size = p := ⟨_, rfl⟩
  have HPS : Hid (w.heap.size + 6 ≤ pn) := by show _ ≤ _; rw [← hpn]; exact PP.out.sz
  have HPO : Hid ((Value.slice a5 qs5.length c5).ownBlock ≠ some pn) := fun e => by have := (World.ownsRow.lt PP.out.row pn e).2; omega
  have HPZ : Hid (pn < w5.heap.size) := by rw [hpn] at K5; exact K5.lt
  rw [hpn] at KN K5 ⊢
  clear K5 CC WC SC
  replace NL := NL.below hb
  replace AB := AB.below hb
  replace NT := bat hb NT
  have PQ := PP.out.below hb
  refine hK.out _ _ ⟨NT, .inr NL⟩ ?_
  clear hK K
  try simp only [Act.put, pA, pB, pC]
  refine wpAnyM_ready (rs := [4]) (by kernel_rfl) (by simp) (AllReadyM.cons (by simp only [List.getElem?_toArray, List.getElem?_cons_succ, List.getElem?_cons_zero]; exact rfl) (fun K hK => ?_) AllReadyM.nil)
  go_simp
  have bq := below1 w5 (.cells #[.pointer (some ⟨pn, 0, none⟩)] 58)
  have NW := one_newTp w5 58 pn 0
  replace NL := NL.below bq
  replace AB := AB.below bq
  replace NT := bat bq NT
  have PR := PQ.below bq
  replace KN := KN.below bq
  refine hK.out _ _ ⟨NT, .inr NL⟩ ?_
  clear hK K
  try simp only [Act.put, pA, pB, pC]
  generalize hzA : w5.heap.size = zA at *
  generalize w5.alloc (.cells #[.pointer (some ⟨pn, 0, none⟩)] 58) = w6 at *
  clear bq PQ
  refine wpAnyM_ready (rs := [5]) (by kernel_rfl) (by simp) (AllReadyM.cons (by simp only [List.getElem?_toArray, List.getElem?_cons_succ, List.getElem?_cons_zero]; exact rfl) (fun K hK => ?_) AllReadyM.nil)
  refine wp_append_at (.tmp 10) (.tmp 14) 108 rfl (w.heap.size + 6) 58 iP (.pointer none) 1 8 Tryz.underlying108 hiP hP0 hP1 hP2 rfl (by decide) (.slice a5 qs5.length c5) qs5.length (qs5.map ptV) rfl PR.row ⟨zA, 0, none⟩ 1 _ ([((pn, 0) : Ptr)].map ptV) rfl rfl NW (onesTp _) (by have := HQL.out; unfold maxLen; omega) (by have := HQL.out; omega) PR.sz ?_
  intro v7 w7 R7 G7 A7
  have R8 := RowWp.snoc R7
  obtain ⟨a7, c7, ev7, _, _⟩ := RowWp.sees R8
  obtain ⟨n7, hn7⟩ : ∃ n, (qs5 ++ [((pn, 0) : Ptr)]).length = n := ⟨_, rfl⟩
  rw [hn7] at ev7
  subst ev7
  clear hn7
  have nP : some w.heap.size ≠ (Value.slice a5 qs5.length c5).ownBlock := fun e => by have := (World.ownsRow.lt PR.row _ e.symm).1; omega
  have nV : some (w.heap.size + 1) ≠ (Value.slice a5 qs5.length c5).ownBlock := fun e => by have := (World.ownsRow.lt PR.row _ e.symm).1; omega
  replace NT := G7.cell NT nP
  replace NL := NL.grown G7 nV
  replace AB := AB.grown G7 (fun k e => (World.ownsRow.lt PR.row k e).1)
  have PS := PR.snoc G7 R8 (A7.elim .inl (fun c => .inr (fun k e => by rw [c] at e; injection e with e; have := KN.lt; omega))) KN HPO.out HPS.out
  refine hK.out _ _ ⟨NT, .inr NL⟩ ?_
  clear hK K
  try simp only [Act.put, pA, pB, pC]
  clear PR R7 R8 G7 A7 NW KN nP nV
  refine wpAnyM_ready (rs := [6]) (by kernel_rfl) (by simp) (AllReadyM.cons (by simp only [List.getElem?_toArray, List.getElem?_cons_succ, List.getElem?_cons_zero]; exact rfl) (fun K hK => ?_) AllReadyM.nil)
  have y5 := NL.cell
  have yf := NL.fr
  go_simp
  have PF : Hid (PtS w (.func (Fn.func 85) #[] #[]) (.slice a n c) (upK L0) (k + 1) (w7.setCell ⟨w.heap.size + 1, 0, none⟩ (.slice a7 n7 c7))) := PS.store NL HLV.out
  have AF : Hid (Abv (w.heap.size + 4) W3 (w7.setCell ⟨w.heap.size + 1, 0, none⟩ (.slice a7 n7 c7))) := AB.put (by omega) _
  replace NT : (w7.setCell ⟨w.heap.size + 1, 0, none⟩ (.slice a7 n7 c7)).cell? ⟨w.heap.size, 0, none⟩ = some _ := (cell_other (.inl (by omega)) _).trans NT
  refine hK.out _ _ ⟨NT, .inl (by kernel_rfl)⟩ ?_
  clear hK K
  try simp only [Act.put, pA, pB, pC]
  clear y5 yf PS NL
  refine wpAnyM_done (by kernel_rfl) ?_ _
  gi_wp2
  exact ⟨AF.out, PF.out⟩
 case done =>
  rintro s W rfl HJ hk
  rw [zL] at hk ⊢
  obtain ⟨a5, n5, c5, qs5, V5, R5, l5, rfl, N5⟩ := HJ.out.fam
  have B5 := HJ.out.bel
  have y5 := V5.cell
  have bp := belowPut W (B := w.heap.size + 4) (Nat.le_refl _) (.deferred none)
  have HB : Hid (Below w.heap.size w (W.putObj (w.heap.size + 4) (.deferred none))) := B5.trans (bp.mono (by omega))
  have HR : Hid (RowWp w.heap.size (W.putObj (w.heap.size + 4) (.deferred none)) (.slice a5 qs5.length c5) qs5) := by
   rcases R5.2 with ⟨hv, h0⟩ | ⟨g, cap', cur, hv, hb, hh, r⟩
   ·exact ⟨R5.1, .inl ⟨hv, h0⟩⟩
   ·exact ⟨R5.1, .inr ⟨g, cap', cur, hv, by omega, (World.putObj_heap_other (by omega)).trans hh, r⟩⟩
  have HW : Hid (WkL (W.putObj (w.heap.size + 4) (.deferred none)) qs5 (ups L0)) := ⟨l5.trans (by rw [show (upK L0 ((n + 3) / 4)).length = (n + 3) / 4 from upK_len _ _]; exact (((ups_len L0).trans (by rw [HN.out]))).symm), fun i hi => by
   have hi' : i < ((upK L0) ((n + 3) / 4)).length := by rw [show (upK L0 ((n + 3) / 4)).length = (n + 3) / 4 from upK_len _ _]; have e : (ups L0).length = (n + 3) / 4 := ((ups_len L0).trans (by rw [HN.out])); omega
   obtain ⟨h1, _, h3, h4⟩ := N5 i hi'
   have e : (ups L0) = (upK L0) ((n + 3) / 4) := by unfold ups; rw [HN.out]
   rw [e]
   exact ⟨h1, (h4.blk (World.putObj_heap_other (by omega))).at HB.out⟩⟩
  clear B5 R5 N5 l5 V5 bp
  gi_wp2_with fail
  refine ⟨by simp, .inl ⟨_, _, rfl, run_takeDeferred hk, ?_⟩⟩
  refine ⟨_, results_tmp rfl _ _ _, .slice a5 qs5.length c5, qs5, rfl, HR.out, HW.out, HB.out⟩
 case ret => exact fun W hd => hd.elim
end Go.Proofs.YtinlomcaagdbiaaGreat
