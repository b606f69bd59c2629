/- Writes that wait in a list of a call's own: each one's bytes in a block of their own. -/
import Derived.Test.YtagkcaiodciomaaBytM
namespace Go.Proofs.Ytagkcaiodciomaa
open Go.RowKit

abbrev Wr := Int × List Int
def wrN (qs : List Wr) (i : Nat) : Wr := qs[i]?.getD (0, [])
def wrC : List Wr → List Value → List Value
  | q :: qs, v :: vs => .int .i64 q.1 :: v :: wrC qs vs
  | _, _ => []
theorem wrC_len : ∀ (qs : List Wr) (vs : List Value), vs.length = qs.length → (wrC qs vs).length = qs.length * 2
  | [], [], _ => rfl
  | q :: qs, v :: vs, h => by
    simp only [wrC, List.length_cons]
    rw [wrC_len qs vs (by simpa using h)]
    omega
  | [], _ :: _, h => by simp at h
  | _ :: _, [], h => by simp at h
theorem wrC_at : ∀ (qs : List Wr) (vs : List Value) (i : Nat), vs.length = qs.length → i < qs.length → (wrC qs vs)[i * 2]? = some (.int .i64 (wrN qs i).1) ∧ (wrC qs vs)[i * 2 + 1]? = vs[i]?
  | [], _, _, _, h => by simp at h
  | _ :: _, [], _, h, _ => by simp at h
  | q :: qs, v :: vs, 0, _, _ => by simp [wrC, wrN]
  | q :: qs, v :: vs, i + 1, hl, hi => by
    have := wrC_at qs vs i (by simpa using hl) (by simpa using hi)
    rw [show (i + 1) * 2 = i * 2 + 1 + 1 by omega]
    simpa [wrC, wrN] using this
theorem wrC_snoc : ∀ (qs : List Wr) (vs : List Value) (q : Wr) (v : Value), vs.length = qs.length → wrC (qs ++ [q]) (vs ++ [v]) = wrC qs vs ++ [.int .i64 q.1, v]
  | [], [], _, _, _ => rfl
  | p :: qs, u :: vs, q, v, h => by
    simp only [List.cons_append, wrC]
    rw [wrC_snoc qs vs q v (by simpa using h)]
  | [], _ :: _, _, _, h => by simp at h
  | _ :: _, [], _, _, h => by simp at h
theorem wrC_data : ∀ (qs : List Wr) (vs : List Value) (i : Nat) (d : List Int), wrC (qs.set i ((wrN qs i).1, d)) vs = wrC qs vs
  | [], vs, i, d => by simp
  | q :: qs, [], 0, d => by simp [wrC]
  | q :: qs, [], i + 1, d => by simp [wrC]
  | q :: qs, v :: vs, 0, d => by simp [wrC, wrN]
  | q :: qs, v :: vs, i + 1, d => by
    have := wrC_data qs vs i d
    simp only [List.set_cons_succ, wrC]
    rw [show wrN (q :: qs) (i + 1) = wrN qs i by simp [wrN], this]
theorem wrC_num : ∀ (qs : List Wr) (vs : List Value) (i : Nat) (k : Int), (wrC qs vs).set (i * 2) (.int .i64 k) = wrC (qs.set i (k, (wrN qs i).2)) vs
  | [], vs, i, k => by simp [wrC]
  | q :: qs, [], 0, k => by simp [wrC]
  | q :: qs, [], i + 1, k => by simp [wrC]
  | q :: qs, v :: vs, 0, k => by simp [wrC, wrN]
  | q :: qs, v :: vs, i + 1, k => by
    have := wrC_num qs vs i k
    simp only [List.set_cons_succ, wrC]
    rw [show wrN (q :: qs) (i + 1) = wrN qs i by simp [wrN], show (i + 1) * 2 = i * 2 + 1 + 1 by omega, List.set_cons_succ, List.set_cons_succ, this]
theorem wrN_set_same {qs : List Wr} {i : Nat} {q : Wr} (h : i < qs.length) : wrN (qs.set i q) i = q := by unfold wrN; rw [List.getElem?_set_self h]; rfl
theorem wrN_set_other {qs : List Wr} {i j : Nat} {q : Wr} (h : i ≠ j) : wrN (qs.set i q) j = wrN qs j := by unfold wrN; rw [List.getElem?_set_ne h]
theorem wrN_left {qs : List Wr} {q : Wr} {i : Nat} (h : i < qs.length) : wrN (qs ++ [q]) i = wrN qs i := by unfold wrN; rw [List.getElem?_append_left h]
theorem wrN_last {qs : List Wr} {q : Wr} : wrN (qs ++ [q]) qs.length = q := by unfold wrN; rw [List.getElem?_append_right (Nat.le_refl _), Nat.sub_self]; rfl
theorem wrN_take {qs : List Wr} {j : Nat} (h : j < qs.length) : qs.take (j + 1) = qs.take j ++ [wrN qs j] := by
  rw [List.take_add_one]
  unfold wrN
  rw [List.getElem?_eq_getElem h]
  rfl
/-- How much the first writes are. -/
def uptoQ (qs : List Wr) : Nat → Nat
  | 0 => 0
  | j + 1 => uptoQ qs j + 1 + (wrN qs j).2.length
theorem uptoQ_le (qs : List Wr) (i : Nat) : ∀ n, uptoQ qs i + n ≤ uptoQ qs (i + n)
  | 0 => Nat.le_refl _
  | n + 1 => by have := uptoQ_le qs i n; rw [show i + (n + 1) = i + n + 1 by omega]; simp only [uptoQ]; omega
theorem uptoQ_mono (qs : List Wr) {i j : Nat} (h : i ≤ j) : uptoQ qs i + (j - i) ≤ uptoQ qs j := by
  have := uptoQ_le qs i (j - i)
  rwa [show i + (j - i) = j by omega] at this
theorem uptoQ_row (qs : List Wr) {j : Nat} (h : j < qs.length) : uptoQ qs j + 1 + (wrN qs j).2.length ≤ uptoQ qs qs.length := by
  have := uptoQ_mono qs (i := j + 1) (j := qs.length) h
  simp only [uptoQ] at this
  omega

theorem owns_kept' {w w' : World} {base e size n : Nat} {v : Value} {xs : List Value} {row : Option Nat} (h : w.ownsRow base e size v n xs) (hg : w.grownBy w' row) (hne : ∀ k, v.ownBlock = some k → row ≠ some k) : w'.ownsRow base e size v n xs := by
  refine h.kept hg ?_
  cases e : v.ownBlock with
  | none => exact .inl rfl
  | some k => exact .inr (fun q => hne k e q.symm)

/-- Writes in a list of the call's own. -/
structure QuR (lo : Nat) (w : World) (v : Value) (vs : List Value) (qs : List Wr) : Prop where
  own : w.ownsRow lo 39 2 v vs.length (wrC qs vs)
  len : Hid (vs.length = qs.length)
  rows : ∀ (i : Nat) (u : Value), vs[i]? = some u → RowB lo w u (wrN qs i).2
  ne : ∀ u ∈ vs, ∀ k, u.ownBlock = some k → v.ownBlock ≠ some k
  apart : ∀ (i j : Nat) (u u' : Value), i < j → vs[i]? = some u → vs[j]? = some u' → ∀ k, u.ownBlock = some k → u'.ownBlock ≠ some k
theorem QuR.row {lo : Nat} {w : World} {v u : Value} {vs : List Value} {qs : List Wr} (h : QuR lo w v vs qs) (hu : u ∈ vs) : ∃ ps, RowB lo w u ps := by
  obtain ⟨i, hi, e⟩ := List.getElem_of_mem hu
  exact ⟨_, h.rows i u (by rw [List.getElem?_eq_getElem hi, e])⟩
theorem QuR.kept {lo : Nat} {w w' : World} {v : Value} {vs : List Value} {qs : List Wr} {row : Option Nat} (h : QuR lo w v vs qs) (g : w.grownBy w' row) (nv : ∀ k, v.ownBlock = some k → row ≠ some k) (nr : ∀ u ∈ vs, ∀ k, u.ownBlock = some k → row ≠ some k) : QuR lo w' v vs qs :=
  ⟨owns_kept' h.own g nv, h.len, fun i u hu => owns_kept' (h.rows i u hu) g (nr u (List.mem_of_getElem? hu)), h.ne, h.apart⟩
theorem QuR.below {lo : Nat} {w w' : World} {v : Value} {vs : List Value} {qs : List Wr} (h : QuR lo w v vs qs) (hb : Below w.heap.size w w') : QuR lo w' v vs qs :=
  h.kept (grown_of_below hb) (fun _ _ e => by cases e) (fun _ _ _ _ e => by cases e)
theorem QuR.lts {lo : Nat} {w : World} {v : Value} {vs : List Value} {qs : List Wr} (h : QuR lo w v vs qs) : (∀ k, v.ownBlock = some k → lo ≤ k ∧ k < w.heap.size) ∧ ∀ u ∈ vs, ∀ k, u.ownBlock = some k → lo ≤ k ∧ k < w.heap.size :=
  ⟨fun k hk => World.ownsRow.lt h.own k hk, fun u hu k hk => by
    obtain ⟨ps, R⟩ := h.row hu
    exact World.ownsRow.lt R k hk⟩
theorem QuR.base {lo lo' : Nat} {w : World} {v : Value} {vs : List Value} {qs : List Wr} (h : QuR lo w v vs qs) (hl : lo' ≤ lo) : QuR lo' w v vs qs :=
  ⟨row_base h.own hl, h.len, fun i u hu => row_base (h.rows i u hu) hl, h.ne, h.apart⟩
theorem QuR.nil (lo : Nat) (w : World) : QuR lo w (.slice none 0 0) [] [] :=
  ⟨⟨rfl, .inl ⟨rfl, rfl⟩⟩, rfl, fun _ _ h => (by simp at h), fun _ h => (by cases h), fun i j u u' _ h => (by simp at h)⟩
theorem QuR.empty (w : World) {lo : Nat} (h : lo ≤ w.heap.size) : QuR lo (w.alloc (.cells #[] 39)) (.slice (some ⟨w.heap.size, 0, none⟩) 0 0) [] [] :=
  ⟨⟨rfl, .inr ⟨w.heap.size, 0, #[], rfl, h, heap_alloc_new _ _, Nat.le_refl _, by simp [maxLen], rfl, rfl⟩⟩, rfl, fun _ _ h => (by simp at h), fun _ h => (by cases h), fun i j u u' _ h => (by simp at h)⟩
theorem QuR.shape {lo : Nat} {w : World} {v : Value} {vs : List Value} {qs : List Wr} (h : QuR lo w v vs qs) : ∃ a c, v = .slice a qs.length c ∧ qs.length ≤ c ∧ c ≤ maxLen := by
  have hl := h.len.out
  rcases h.own.2 with ⟨hv, h0⟩ | ⟨q, cap, cur, hv, _, _, hf, hm, _⟩
  · exact ⟨none, 0, by rw [hv, ← hl, h0], by omega, by simp [maxLen]⟩
  · exact ⟨_, cap, by rw [← hl]; exact hv, by omega, hm⟩
theorem QuR.caps {lo n : Nat} {w : World} {a : Option Addr} {c : Nat} {vs : List Value} {qs : List Wr} (h : QuR lo w (.slice a n c) vs qs) : n = qs.length ∧ qs.length ≤ c ∧ c ≤ maxLen := by
  obtain ⟨a', c', e, h1, h2⟩ := h.shape
  injection e with e1 e2 e3
  subst e3
  exact ⟨e2, h1, h2⟩
/-- The write i, as it lies in the list. -/
theorem QuR.at' {lo : Nat} {w : World} {v : Value} {vs : List Value} {qs : List Wr} (h : QuR lo w v vs qs) {i : Nat} (hi : i < qs.length) : ∃ g c a' c', v = .slice (some ⟨g, 0, none⟩) qs.length c ∧ vs[i]? = some (.slice a' (wrN qs i).2.length c') ∧ w.cell? ⟨g, i * 2, none⟩ = some (.int .i64 (wrN qs i).1) ∧ w.cell? ⟨g, i * 2 + 1, none⟩ = some (.slice a' (wrN qs i).2.length c') ∧ RowB lo w (.slice a' (wrN qs i).2.length c') (wrN qs i).2 ∧ (∀ o, w.frozen? ⟨g, o, none⟩ = false) := by
  have hl := h.len.out
  have hiv : i < vs.length := by omega
  obtain ⟨g, c, e⟩ := (show ∃ g c, v = .slice (some ⟨g, 0, none⟩) vs.length c by
    rcases h.own.2 with ⟨hv, h0⟩ | ⟨q, cap, cur, hv, _⟩
    · omega
    · exact ⟨q, cap, hv⟩)
  have hv := List.getElem?_eq_getElem hiv
  have R := h.rows i _ hv
  obtain ⟨a', c', e', _, _⟩ := R.shape'
  rw [e'] at R hv
  have own := h.own
  rw [e] at own
  obtain ⟨p0, p1⟩ := wrC_at qs vs i hl hi
  exact ⟨g, c, a', c', by rw [e, hl], hv, (own.cellAt (i * 2) (by omega)).trans p0, ((own.cellAt (i * 2 + 1) (by omega)).trans p1).trans hv, R, fun o => own.frozenAt o⟩
/-- A write more. -/
theorem QuR.snoc {lo : Nat} {w w' : World} {v v' u : Value} {vs : List Value} {qs : List Wr} {q : Wr} (h : QuR lo w v vs qs) (Ru : RowB lo w u q.2) (nu : ∀ k, u.ownBlock = some k → v.ownBlock ≠ some k ∧ v'.ownBlock ≠ some k ∧ ∀ x ∈ vs, x.ownBlock ≠ some k)
    (own : w'.ownsRow lo 39 2 v' (vs.length + 1) (wrC qs vs ++ [.int .i64 q.1, u])) (g : w.grownBy w' v.ownBlock) (at' : v'.ownBlock = v.ownBlock ∨ v'.ownBlock = some w.heap.size) : QuR lo w' v' (vs ++ [u]) (qs ++ [q]) := by
  have keep : ∀ x ps, RowB lo w x ps → (∀ k, x.ownBlock = some k → v.ownBlock ≠ some k) → RowB lo w' x ps := fun x ps R n => owns_kept' R g n
  have hl := h.len.out
  refine ⟨by rw [List.length_append, wrC_snoc _ _ _ _ hl]; exact own, (by show _ = _; rw [List.length_append, List.length_append, hl]; rfl), fun i x hx => ?_, fun x hx k hk => ?_, fun i j x x' hij hi hj k hk => ?_⟩
  · by_cases hi : i < vs.length
    · rw [List.getElem?_append_left hi] at hx
      rw [wrN_left (by omega)]
      exact keep x _ (h.rows i x hx) (h.ne x (List.mem_of_getElem? hx))
    · have hi2 : i = vs.length := by
        have := (List.getElem?_eq_some_iff.mp hx).1
        rw [List.length_append] at this
        simp at this
        omega
      subst hi2
      rw [List.getElem?_append_right (Nat.le_refl _), Nat.sub_self] at hx
      simp at hx
      subst hx
      rw [hl, wrN_last]
      exact keep _ _ Ru (fun k hk => (nu k hk).1)
  · rcases List.mem_append.1 hx with hx | hx
    · rcases at' with e | e
      · rw [e]; exact h.ne x hx k hk
      · have := (h.lts.2 x hx k hk).2
        rw [e]
        intro q
        injection q with q
        omega
    · simp at hx
      subst hx
      exact (nu k hk).2.1
  · by_cases hjl : j < vs.length
    · rw [List.getElem?_append_left (by omega)] at hi
      rw [List.getElem?_append_left hjl] at hj
      exact h.apart i j x x' hij hi hj k hk
    · have hj2 : j = vs.length := by
        have := (List.getElem?_eq_some_iff.mp hj).1
        rw [List.length_append] at this
        simp at this
        omega
      subst hj2
      rw [List.getElem?_append_left (by omega)] at hi
      rw [List.getElem?_append_right (Nat.le_refl _), Nat.sub_self] at hj
      simp at hj
      subst hj
      intro q
      exact (nu k q).2.2 x (List.mem_of_getElem? hi) hk
/-- The bytes of the write i are written anew. -/
theorem QuR.set {lo : Nat} {w w' : World} {v u : Value} {vs : List Value} {qs : List Wr} {ps : List Int} {i : Nat} (h : QuR lo w v vs qs) (hi : i < qs.length) (hu : vs[i]? = some u) (Ru : RowB lo w' u ps) (g : w.grownBy w' u.ownBlock) : QuR lo w' v vs (qs.set i ((wrN qs i).1, ps)) := by
  have hm := List.mem_of_getElem? hu
  refine ⟨by rw [wrC_data]; exact owns_kept' h.own g (fun k hk e => h.ne u hm k e hk), (by show _ = _; rw [List.length_set]; exact h.len.out), fun j x hx => ?_, h.ne, h.apart⟩
  by_cases e : i = j
  · subst e
    rw [wrN_set_same hi]
    rw [hu] at hx
    injection hx with hx
    rw [← hx]
    exact Ru
  · rw [wrN_set_other e]
    refine owns_kept' (h.rows j x hx) g (fun k hk q => ?_)
    rcases Nat.lt_or_gt_of_ne e with lt | gt
    · exact h.apart i j u x lt hu hx k q hk
    · exact h.apart j i x u gt hx hu k hk q
/-- The number of the write i is written anew. -/
theorem QuR.setNum {lo g n c : Nat} {w : World} {vs : List Value} {qs : List Wr} (h : QuR lo w (.slice (some ⟨g, 0, none⟩) n c) vs qs) {i : Nat} (hi : i < qs.length) (k : Int) :
    QuR lo (w.setCell ⟨g, i * 2, none⟩ (.int .i64 k)) (.slice (some ⟨g, 0, none⟩) n c) vs (qs.set i (k, (wrN qs i).2)) ∧ w.grownBy (w.setCell ⟨g, i * 2, none⟩ (.int .i64 k)) (some g) := by
  have hl := h.len.out
  obtain ⟨en, _, _⟩ := h.caps
  have own := h.own
  rw [hl, ← en] at own
  obtain ⟨h1, g1⟩ := own.stored (i * 2) (.int .i64 k)
  rw [wrC_num] at h1
  refine ⟨⟨by rw [hl, ← en]; exact h1, (by show _ = _; rw [List.length_set]; exact hl), fun j x hx => ?_, h.ne, h.apart⟩, g1⟩
  have R : RowB lo (w.setCell ⟨g, i * 2, none⟩ (.int .i64 k)) x (wrN qs j).2 := owns_kept' (h.rows j x hx) g1 (fun k' hk e => h.ne x (List.mem_of_getElem? hx) k' hk e)
  by_cases e : i = j
  · subst e
    rw [wrN_set_same hi]
    exact R
  · rw [wrN_set_other e]
    exact R
theorem QuR.under {lo b : Nat} {w w' : World} {v : Value} {vs : List Value} {qs : List Wr} (h : QuR lo w v vs qs) (hb : Below b w w') (nv : ∀ k, v.ownBlock = some k → k < b) (nr : ∀ u ∈ vs, ∀ k, u.ownBlock = some k → k < b) : QuR lo w' v vs qs := by
  have keep : ∀ {e size n : Nat} {u : Value} {xs : List Value}, w.ownsRow lo e size u n xs → (∀ k, u.ownBlock = some k → k < b) → w'.ownsRow lo e size u n xs := by
    intro e size n u xs q nu
    refine ⟨q.1, ?_⟩
    rcases q.2 with q2 | ⟨g, cap, cur, hv, q3, q4, q5⟩
    · exact .inl q2
    · exact .inr ⟨g, cap, cur, hv, q3, (hb.block g (nu g (by rw [hv]; rfl))).trans q4, q5⟩
  exact ⟨keep h.own nv, h.len, fun i u hu => keep (h.rows i u hu) (nr u (List.mem_of_getElem? hu)), h.ne, h.apart⟩

/-- Rows that are no nil. -/
def SomeV (vs : List Value) : Prop := ∀ u ∈ vs, ∃ ad l c, u = .slice (some ad) l c
/-- A disk of the call's own. -/
structure DkR (lo : Nat) (w : World) (bv qv : Value) (vs : List Value) (bs : List Int) (qs : List Wr) : Prop where
  row : RowB lo w bv bs
  que : QuR lo w qv vs qs
  ap : ∀ k, bv.ownBlock = some k → qv.ownBlock ≠ some k ∧ ∀ u ∈ vs, u.ownBlock ≠ some k
theorem DkR.kept {lo : Nat} {w w' : World} {bv qv : Value} {vs : List Value} {bs : List Int} {qs : List Wr} {row : Option Nat} (h : DkR lo w bv qv vs bs qs) (g : w.grownBy w' row) (nb : ∀ k, bv.ownBlock = some k → row ≠ some k) (nv : ∀ k, qv.ownBlock = some k → row ≠ some k) (nr : ∀ u ∈ vs, ∀ k, u.ownBlock = some k → row ≠ some k) : DkR lo w' bv qv vs bs qs :=
  ⟨owns_kept' h.row g nb, h.que.kept g nv nr, h.ap⟩
theorem DkR.below {lo : Nat} {w w' : World} {bv qv : Value} {vs : List Value} {bs : List Int} {qs : List Wr} (h : DkR lo w bv qv vs bs qs) (hb : Below w.heap.size w w') : DkR lo w' bv qv vs bs qs := ⟨h.row.below hb, h.que.below hb, h.ap⟩
theorem DkR.base {lo lo' : Nat} {w : World} {bv qv : Value} {vs : List Value} {bs : List Int} {qs : List Wr} (h : DkR lo w bv qv vs bs qs) (hl : lo' ≤ lo) : DkR lo' w bv qv vs bs qs := ⟨row_base h.row hl, h.que.base hl, h.ap⟩
theorem DkR.lts {lo : Nat} {w : World} {bv qv : Value} {vs : List Value} {bs : List Int} {qs : List Wr} (h : DkR lo w bv qv vs bs qs) : (∀ k, bv.ownBlock = some k → lo ≤ k ∧ k < w.heap.size) ∧ (∀ k, qv.ownBlock = some k → lo ≤ k ∧ k < w.heap.size) ∧ ∀ u ∈ vs, ∀ k, u.ownBlock = some k → lo ≤ k ∧ k < w.heap.size :=
  ⟨fun k hk => World.ownsRow.lt h.row k hk, h.que.lts.1, h.que.lts.2⟩
end Go.Proofs.Ytagkcaiodciomaa
