import Derived.Test.YtgcaemhcdpddiaaDoorBase
import Derived.Deep.RegionHeld3
/- Writes that wait in a list of a call's own: each one's bytes in a block of their own. -/
namespace Go.Proofs.YtgcaemhcdpddiaaDoor
open Go.RowKit

abbrev Wr := Int × List Int
def wrN (qs : List Wr) (i : Nat) : Wr := qs[i]?.getD (0, [])
def wrC : List Wr → List Value → List Value
  | q :: qs, v :: vs => .int .i64 q.1 :: v :: wrC qs vs
  | _, _ => []
theorem wrC_len : ∀ (qs : List Wr) (vs : List Value), vs.length = qs.length → (wrC qs vs).length = qs.length * 2
  | [], [], _ => rfl
  | q :: qs, v :: vs, h => by
    simp only [wrC, List.length_cons]
    rw [wrC_len qs vs (by simpa using h)]
    omega
  | [], _ :: _, h => by simp at h
  | _ :: _, [], h => by simp at h
theorem wrC_at : ∀ (qs : List Wr) (vs : List Value) (i : Nat), vs.length = qs.length → i < qs.length → (wrC qs vs)[i * 2]? = some (.int .i64 (wrN qs i).1) ∧ (wrC qs vs)[i * 2 + 1]? = vs[i]?
  | [], _, _, _, h => by simp at h
  | _ :: _, [], _, h, _ => by simp at h
  | q :: qs, v :: vs, 0, _, _ => by simp [wrC, wrN]
  | q :: qs, v :: vs, i + 1, hl, hi => by
    have := wrC_at qs vs i (by simpa using hl) (by simpa using hi)
    rw [show (i + 1) * 2 = i * 2 + 1 + 1 by omega]
    simpa [wrC, wrN] using this
theorem wrC_snoc : ∀ (qs : List Wr) (vs : List Value) (q : Wr) (v : Value), vs.length = qs.length → wrC (qs ++ [q]) (vs ++ [v]) = wrC qs vs ++ [.int .i64 q.1, v]
  | [], [], _, _, _ => rfl
  | p :: qs, u :: vs, q, v, h => by
    simp only [List.cons_append, wrC]
    rw [wrC_snoc qs vs q v (by simpa using h)]
  | [], _ :: _, _, _, h => by simp at h
  | _ :: _, [], _, _, h => by simp at h
theorem wrC_data : ∀ (qs : List Wr) (vs : List Value) (i : Nat) (d : List Int), wrC (qs.set i ((wrN qs i).1, d)) vs = wrC qs vs
  | [], vs, i, d => by simp
  | q :: qs, [], 0, d => by simp [wrC]
  | q :: qs, [], i + 1, d => by simp [wrC]
  | q :: qs, v :: vs, 0, d => by simp [wrC, wrN]
  | q :: qs, v :: vs, i + 1, d => by
    have := wrC_data qs vs i d
    simp only [List.set_cons_succ, wrC]
    rw [show wrN (q :: qs) (i + 1) = wrN qs i by simp [wrN], this]
theorem wrC_num : ∀ (qs : List Wr) (vs : List Value) (i : Nat) (k : Int), (wrC qs vs).set (i * 2) (.int .i64 k) = wrC (qs.set i (k, (wrN qs i).2)) vs
  | [], vs, i, k => by simp [wrC]
  | q :: qs, [], 0, k => by simp [wrC]
  | q :: qs, [], i + 1, k => by simp [wrC]
  | q :: qs, v :: vs, 0, k => by simp [wrC, wrN]
  | q :: qs, v :: vs, i + 1, k => by
    have := wrC_num qs vs i k
    simp only [List.set_cons_succ, wrC]
    rw [show wrN (q :: qs) (i + 1) = wrN qs i by simp [wrN], show (i + 1) * 2 = i * 2 + 1 + 1 by omega, List.set_cons_succ, List.set_cons_succ, this]
theorem wrN_set_same {qs : List Wr} {i : Nat} {q : Wr} (h : i < qs.length) : wrN (qs.set i q) i = q := by unfold wrN; rw [List.getElem?_set_self h]; rfl
theorem wrN_set_other {qs : List Wr} {i j : Nat} {q : Wr} (h : i ≠ j) : wrN (qs.set i q) j = wrN qs j := by unfold wrN; rw [List.getElem?_set_ne h]
theorem wrN_left {qs : List Wr} {q : Wr} {i : Nat} (h : i < qs.length) : wrN (qs ++ [q]) i = wrN qs i := by unfold wrN; rw [List.getElem?_append_left h]
theorem wrN_last {qs : List Wr} {q : Wr} : wrN (qs ++ [q]) qs.length = q := by unfold wrN; rw [List.getElem?_append_right (Nat.le_refl _), Nat.sub_self]; rfl
theorem wrN_take {qs : List Wr} {j : Nat} (h : j < qs.length) : qs.take (j + 1) = qs.take j ++ [wrN qs j] := by
  rw [List.take_add_one]
  unfold wrN
  rw [List.getElem?_eq_getElem h]
  rfl
/-- How much the first writes are. -/
def uptoQ (qs : List Wr) : Nat → Nat
  | 0 => 0
  | j + 1 => uptoQ qs j + 1 + (wrN qs j).2.length
theorem uptoQ_le (qs : List Wr) (i : Nat) : ∀ n, uptoQ qs i + n ≤ uptoQ qs (i + n)
  | 0 => Nat.le_refl _
  | n + 1 => by have := uptoQ_le qs i n; rw [show i + (n + 1) = i + n + 1 by omega]; simp only [uptoQ]; omega
theorem uptoQ_mono (qs : List Wr) {i j : Nat} (h : i ≤ j) : uptoQ qs i + (j - i) ≤ uptoQ qs j := by
  have := uptoQ_le qs i (j - i)
  rwa [show i + (j - i) = j by omega] at this
theorem uptoQ_row (qs : List Wr) {j : Nat} (h : j < qs.length) : uptoQ qs j + 1 + (wrN qs j).2.length ≤ uptoQ qs qs.length := by
  have := uptoQ_mono qs (i := j + 1) (j := qs.length) h
  simp only [uptoQ] at this
  omega

theorem owns_kept' {w w' : World} {base e size n : Nat} {v : Value} {xs : List Value} {row : Option Nat} (h : w.ownsRow base e size v n xs) (hg : w.grownBy w' row) (hne : ∀ k, v.ownBlock = some k → row ≠ some k) : w'.ownsRow base e size v n xs := by
  refine h.kept hg ?_
  cases e : v.ownBlock with
  | none => exact .inl rfl
  | some k => exact .inr (fun q => hne k e q.symm)

/-- Writes in a list of the call's own. -/
structure QuR (lo : Nat) (w : World) (v : Value) (vs : List Value) (qs : List Wr) : Prop where
  own : w.ownsRow lo 67 2 v vs.length (wrC qs vs)
  len : Hid (vs.length = qs.length)
  rows : ∀ (i : Nat) (u : Value), vs[i]? = some u → RowB lo w u (wrN qs i).2
  ne : ∀ u ∈ vs, ∀ k, u.ownBlock = some k → v.ownBlock ≠ some k
  apart : ∀ (i j : Nat) (u u' : Value), i < j → vs[i]? = some u → vs[j]? = some u' → ∀ k, u.ownBlock = some k → u'.ownBlock ≠ some k
theorem QuR.row {lo : Nat} {w : World} {v u : Value} {vs : List Value} {qs : List Wr} (h : QuR lo w v vs qs) (hu : u ∈ vs) : ∃ ps, RowB lo w u ps := by
  obtain ⟨i, hi, e⟩ := List.getElem_of_mem hu
  exact ⟨_, h.rows i u (by rw [List.getElem?_eq_getElem hi, e])⟩
theorem QuR.kept {lo : Nat} {w w' : World} {v : Value} {vs : List Value} {qs : List Wr} {row : Option Nat} (h : QuR lo w v vs qs) (g : w.grownBy w' row) (nv : ∀ k, v.ownBlock = some k → row ≠ some k) (nr : ∀ u ∈ vs, ∀ k, u.ownBlock = some k → row ≠ some k) : QuR lo w' v vs qs :=
  ⟨owns_kept' h.own g nv, h.len, fun i u hu => owns_kept' (h.rows i u hu) g (nr u (List.mem_of_getElem? hu)), h.ne, h.apart⟩
theorem QuR.below {lo : Nat} {w w' : World} {v : Value} {vs : List Value} {qs : List Wr} (h : QuR lo w v vs qs) (hb : Below w.heap.size w w') : QuR lo w' v vs qs :=
  h.kept (grown_of_below hb) (fun _ _ e => by cases e) (fun _ _ _ _ e => by cases e)
theorem QuR.lts {lo : Nat} {w : World} {v : Value} {vs : List Value} {qs : List Wr} (h : QuR lo w v vs qs) : (∀ k, v.ownBlock = some k → lo ≤ k ∧ k < w.heap.size) ∧ ∀ u ∈ vs, ∀ k, u.ownBlock = some k → lo ≤ k ∧ k < w.heap.size :=
  ⟨fun k hk => World.ownsRow.lt h.own k hk, fun u hu k hk => by
    obtain ⟨ps, R⟩ := h.row hu
    exact World.ownsRow.lt R k hk⟩
theorem QuR.base {lo lo' : Nat} {w : World} {v : Value} {vs : List Value} {qs : List Wr} (h : QuR lo w v vs qs) (hl : lo' ≤ lo) : QuR lo' w v vs qs :=
  ⟨row_base h.own hl, h.len, fun i u hu => row_base (h.rows i u hu) hl, h.ne, h.apart⟩
theorem QuR.nil (lo : Nat) (w : World) : QuR lo w (.slice none 0 0) [] [] :=
  ⟨⟨rfl, .inl ⟨rfl, rfl⟩⟩, rfl, fun _ _ h => (by simp at h), fun _ h => (by cases h), fun i j u u' _ h => (by simp at h)⟩
theorem QuR.empty (w : World) {lo : Nat} (h : lo ≤ w.heap.size) : QuR lo (w.alloc (.cells #[] 67)) (.slice (some ⟨w.heap.size, 0, none⟩) 0 0) [] [] :=
  ⟨⟨rfl, .inr ⟨w.heap.size, 0, #[], rfl, h, heap_alloc_new _ _, Nat.le_refl _, by simp [maxLen], rfl, rfl⟩⟩, rfl, fun _ _ h => (by simp at h), fun _ h => (by cases h), fun i j u u' _ h => (by simp at h)⟩
theorem QuR.shape {lo : Nat} {w : World} {v : Value} {vs : List Value} {qs : List Wr} (h : QuR lo w v vs qs) : ∃ a c, v = .slice a qs.length c ∧ qs.length ≤ c ∧ c ≤ maxLen := by
  have hl := h.len.out
  rcases h.own.2 with ⟨hv, h0⟩ | ⟨q, cap, cur, hv, _, _, hf, hm, _⟩
  · exact ⟨none, 0, by rw [hv, ← hl, h0], by omega, by simp [maxLen]⟩
  · exact ⟨_, cap, by rw [← hl]; exact hv, by omega, hm⟩
theorem QuR.caps {lo n : Nat} {w : World} {a : Option Addr} {c : Nat} {vs : List Value} {qs : List Wr} (h : QuR lo w (.slice a n c) vs qs) : n = qs.length ∧ qs.length ≤ c ∧ c ≤ maxLen := by
  obtain ⟨a', c', e, h1, h2⟩ := h.shape
  injection e with e1 e2 e3
  subst e3
  exact ⟨e2, h1, h2⟩
/-- The write i, as it lies in the list. -/
theorem QuR.at' {lo : Nat} {w : World} {v : Value} {vs : List Value} {qs : List Wr} (h : QuR lo w v vs qs) {i : Nat} (hi : i < qs.length) : ∃ g c a' c', v = .slice (some ⟨g, 0, none⟩) qs.length c ∧ vs[i]? = some (.slice a' (wrN qs i).2.length c') ∧ w.cell? ⟨g, i * 2, none⟩ = some (.int .i64 (wrN qs i).1) ∧ w.cell? ⟨g, i * 2 + 1, none⟩ = some (.slice a' (wrN qs i).2.length c') ∧ RowB lo w (.slice a' (wrN qs i).2.length c') (wrN qs i).2 ∧ (∀ o, w.frozen? ⟨g, o, none⟩ = false) := by
  have hl := h.len.out
  have hiv : i < vs.length := by omega
  obtain ⟨g, c, e⟩ := (show ∃ g c, v = .slice (some ⟨g, 0, none⟩) vs.length c by
    rcases h.own.2 with ⟨hv, h0⟩ | ⟨q, cap, cur, hv, _⟩
    · omega
    · exact ⟨q, cap, hv⟩)
  have hv := List.getElem?_eq_getElem hiv
  have R := h.rows i _ hv
  obtain ⟨a', c', e', _, _⟩ := R.shape'
  rw [e'] at R hv
  have own := h.own
  rw [e] at own
  obtain ⟨p0, p1⟩ := wrC_at qs vs i hl hi
  exact ⟨g, c, a', c', by rw [e, hl], hv, (own.cellAt (i * 2) (by omega)).trans p0, ((own.cellAt (i * 2 + 1) (by omega)).trans p1).trans hv, R, fun o => own.frozenAt o⟩
/-- A write more. -/
theorem QuR.snoc {lo : Nat} {w w' : World} {v v' u : Value} {vs : List Value} {qs : List Wr} {q : Wr} (h : QuR lo w v vs qs) (Ru : RowB lo w u q.2) (nu : ∀ k, u.ownBlock = some k → v.ownBlock ≠ some k ∧ v'.ownBlock ≠ some k ∧ ∀ x ∈ vs, x.ownBlock ≠ some k)
    (own : w'.ownsRow lo 67 2 v' (vs.length + 1) (wrC qs vs ++ [.int .i64 q.1, u])) (g : w.grownBy w' v.ownBlock) (at' : v'.ownBlock = v.ownBlock ∨ v'.ownBlock = some w.heap.size) : QuR lo w' v' (vs ++ [u]) (qs ++ [q]) := by
  have keep : ∀ x ps, RowB lo w x ps → (∀ k, x.ownBlock = some k → v.ownBlock ≠ some k) → RowB lo w' x ps := fun x ps R n => owns_kept' R g n
  have hl := h.len.out
  refine ⟨by rw [List.length_append, wrC_snoc _ _ _ _ hl]; exact own, (by show _ = _; rw [List.length_append, List.length_append, hl]; rfl), fun i x hx => ?_, fun x hx k hk => ?_, fun i j x x' hij hi hj k hk => ?_⟩
  · by_cases hi : i < vs.length
    · rw [List.getElem?_append_left hi] at hx
      rw [wrN_left (by omega)]
      exact keep x _ (h.rows i x hx) (h.ne x (List.mem_of_getElem? hx))
    · have hi2 : i = vs.length := by
        have := (List.getElem?_eq_some_iff.mp hx).1
        rw [List.length_append] at this
        simp at this
        omega
      subst hi2
      rw [List.getElem?_append_right (Nat.le_refl _), Nat.sub_self] at hx
      simp at hx
      subst hx
      rw [hl, wrN_last]
      exact keep _ _ Ru (fun k hk => (nu k hk).1)
  · rcases List.mem_append.1 hx with hx | hx
    · rcases at' with e | e
      · rw [e]; exact h.ne x hx k hk
      · have := (h.lts.2 x hx k hk).2
        rw [e]
        intro q
        injection q with q
        omega
    · simp at hx
      subst hx
      exact (nu k hk).2.1
  · by_cases hjl : j < vs.length
    · rw [List.getElem?_append_left (by omega)] at hi
      rw [List.getElem?_append_left hjl] at hj
      exact h.apart i j x x' hij hi hj k hk
    · have hj2 : j = vs.length := by
        have := (List.getElem?_eq_some_iff.mp hj).1
        rw [List.length_append] at this
        simp at this
        omega
      subst hj2
      rw [List.getElem?_append_left (by omega)] at hi
      rw [List.getElem?_append_right (Nat.le_refl _), Nat.sub_self] at hj
      simp at hj
      subst hj
      intro q
      exact (nu k q).2.2 x (List.mem_of_getElem? hi) hk
/-- The bytes of the write i are written anew. -/
theorem QuR.set {lo : Nat} {w w' : World} {v u : Value} {vs : List Value} {qs : List Wr} {ps : List Int} {i : Nat} (h : QuR lo w v vs qs) (hi : i < qs.length) (hu : vs[i]? = some u) (Ru : RowB lo w' u ps) (g : w.grownBy w' u.ownBlock) : QuR lo w' v vs (qs.set i ((wrN qs i).1, ps)) := by
  have hm := List.mem_of_getElem? hu
  refine ⟨by rw [wrC_data]; exact owns_kept' h.own g (fun k hk e => h.ne u hm k e hk), (by show _ = _; rw [List.length_set]; exact h.len.out), fun j x hx => ?_, h.ne, h.apart⟩
  by_cases e : i = j
  · subst e
    rw [wrN_set_same hi]
    rw [hu] at hx
    injection hx with hx
    rw [← hx]
    exact Ru
  · rw [wrN_set_other e]
    refine owns_kept' (h.rows j x hx) g (fun k hk q => ?_)
    rcases Nat.lt_or_gt_of_ne e with lt | gt
    · exact h.apart i j u x lt hu hx k q hk
    · exact h.apart j i x u gt hx hu k hk q
/-- The number of the write i is written anew. -/
theorem QuR.setNum {lo g n c : Nat} {w : World} {vs : List Value} {qs : List Wr} (h : QuR lo w (.slice (some ⟨g, 0, none⟩) n c) vs qs) {i : Nat} (hi : i < qs.length) (k : Int) :
    QuR lo (w.setCell ⟨g, i * 2, none⟩ (.int .i64 k)) (.slice (some ⟨g, 0, none⟩) n c) vs (qs.set i (k, (wrN qs i).2)) ∧ w.grownBy (w.setCell ⟨g, i * 2, none⟩ (.int .i64 k)) (some g) := by
  have hl := h.len.out
  obtain ⟨en, _, _⟩ := h.caps
  have own := h.own
  rw [hl, ← en] at own
  obtain ⟨h1, g1⟩ := own.stored (i * 2) (.int .i64 k)
  rw [wrC_num] at h1
  refine ⟨⟨by rw [hl, ← en]; exact h1, (by show _ = _; rw [List.length_set]; exact hl), fun j x hx => ?_, h.ne, h.apart⟩, g1⟩
  have R : RowB lo (w.setCell ⟨g, i * 2, none⟩ (.int .i64 k)) x (wrN qs j).2 := owns_kept' (h.rows j x hx) g1 (fun k' hk e => h.ne x (List.mem_of_getElem? hx) k' hk e)
  by_cases e : i = j
  · subst e
    rw [wrN_set_same hi]
    exact R
  · rw [wrN_set_other e]
    exact R
theorem QuR.under {lo b : Nat} {w w' : World} {v : Value} {vs : List Value} {qs : List Wr} (h : QuR lo w v vs qs) (hb : Below b w w') (nv : ∀ k, v.ownBlock = some k → k < b) (nr : ∀ u ∈ vs, ∀ k, u.ownBlock = some k → k < b) : QuR lo w' v vs qs := by
  have keep : ∀ {e size n : Nat} {u : Value} {xs : List Value}, w.ownsRow lo e size u n xs → (∀ k, u.ownBlock = some k → k < b) → w'.ownsRow lo e size u n xs := by
    intro e size n u xs q nu
    refine ⟨q.1, ?_⟩
    rcases q.2 with q2 | ⟨g, cap, cur, hv, q3, q4, q5⟩
    · exact .inl q2
    · exact .inr ⟨g, cap, cur, hv, q3, (hb.block g (nu g (by rw [hv]; rfl))).trans q4, q5⟩
  exact ⟨keep h.own nv, h.len, fun i u hu => keep (h.rows i u hu) (nr u (List.mem_of_getElem? hu)), h.ne, h.apart⟩

/-- Rows that are no nil. -/
def SomeV (vs : List Value) : Prop := ∀ u ∈ vs, ∃ ad l c, u = .slice (some ad) l c
/-- A disk of the call's own. -/
structure DkR (lo : Nat) (w : World) (bv qv : Value) (vs : List Value) (bs : List Int) (qs : List Wr) : Prop where
  row : RowB lo w bv bs
  que : QuR lo w qv vs qs
  ap : ∀ k, bv.ownBlock = some k → qv.ownBlock ≠ some k ∧ ∀ u ∈ vs, u.ownBlock ≠ some k
theorem DkR.kept {lo : Nat} {w w' : World} {bv qv : Value} {vs : List Value} {bs : List Int} {qs : List Wr} {row : Option Nat} (h : DkR lo w bv qv vs bs qs) (g : w.grownBy w' row) (nb : ∀ k, bv.ownBlock = some k → row ≠ some k) (nv : ∀ k, qv.ownBlock = some k → row ≠ some k) (nr : ∀ u ∈ vs, ∀ k, u.ownBlock = some k → row ≠ some k) : DkR lo w' bv qv vs bs qs :=
  ⟨owns_kept' h.row g nb, h.que.kept g nv nr, h.ap⟩
theorem DkR.below {lo : Nat} {w w' : World} {bv qv : Value} {vs : List Value} {bs : List Int} {qs : List Wr} (h : DkR lo w bv qv vs bs qs) (hb : Below w.heap.size w w') : DkR lo w' bv qv vs bs qs := ⟨h.row.below hb, h.que.below hb, h.ap⟩
theorem DkR.base {lo lo' : Nat} {w : World} {bv qv : Value} {vs : List Value} {bs : List Int} {qs : List Wr} (h : DkR lo w bv qv vs bs qs) (hl : lo' ≤ lo) : DkR lo' w bv qv vs bs qs := ⟨row_base h.row hl, h.que.base hl, h.ap⟩
theorem DkR.lts {lo : Nat} {w : World} {bv qv : Value} {vs : List Value} {bs : List Int} {qs : List Wr} (h : DkR lo w bv qv vs bs qs) : (∀ k, bv.ownBlock = some k → lo ≤ k ∧ k < w.heap.size) ∧ (∀ k, qv.ownBlock = some k → lo ≤ k ∧ k < w.heap.size) ∧ ∀ u ∈ vs, ∀ k, u.ownBlock = some k → lo ≤ k ∧ k < w.heap.size :=
  ⟨fun k hk => World.ownsRow.lt h.row k hk, h.que.lts.1, h.que.lts.2⟩
end Go.Proofs.YtgcaemhcdpddiaaDoor

/- Variables that a region makes: what lies in them, what is put into them. -/
namespace Go.Proofs.YtgcaemhcdpddiaaDoor
open Go.RowKit

theorem frozen_new (w : World) (c : Array Value) (t : TypeId) (o : Nat) : (w.alloc (.cells c t)).frozen? ⟨w.heap.size, o, none⟩ = false := by
  simp [go_sem]

theorem put_new2 {w : World} {p : Nat} {x0 x1 : Value} (h0 : w.cell? ⟨p, 0, none⟩ = some x0) (h1 : w.cell? ⟨p, 1, none⟩ = some x1) (u0 u1 : Value) :
    ((w.setCell ⟨p, 0, none⟩ u0).setCell ⟨p, 1, none⟩ u1).cell? ⟨p, 0, none⟩ = some u0 ∧ ((w.setCell ⟨p, 0, none⟩ u0).setCell ⟨p, 1, none⟩ u1).cell? ⟨p, 1, none⟩ = some u1 := by
  refine ⟨?_, ?_⟩
  · rw [World.cell?_setCell_other _ _ _ _ (by simp)]
    exact World.cell?_setCell_same _ _ _ h0
  · refine World.cell?_setCell_same (u := x1) _ _ _ ?_
    rw [World.cell?_setCell_other _ _ _ _ (by simp)]
    exact h1
theorem put_old2 {w : World} {b b' o : Nat} (h : b' ≠ b) (u0 u1 : Value) : ((w.setCell ⟨b, 0, none⟩ u0).setCell ⟨b, 1, none⟩ u1).cell? ⟨b', o, none⟩ = w.cell? ⟨b', o, none⟩ := cell_put h
theorem put_frozen2 {w : World} (b : Nat) (a : Addr) (u0 u1 : Value) : ((w.setCell ⟨b, 0, none⟩ u0).setCell ⟨b, 1, none⟩ u1).frozen? a = w.frozen? a := by
  rw [World.frozen?_setCell, World.frozen?_setCell]
theorem Own.put1 {base p : Nat} {w : World} {a : Option Addr} {c : Nat} {xs : List Int} (h : Own base w a c xs) (r : some p ≠ rowOf a xs) (o : Nat) (u : Value) : Own base (w.setCell ⟨p, o, none⟩ u) a c xs :=
  h.kept (grownBy_setCell (grownBy_refl w (some p)) rfl u) (fun b off ha hn e => by
    apply r
    unfold rowOf
    rw [if_neg hn, ha]
    simpa using e)
theorem Own.put2 {base p : Nat} {w : World} {a : Option Addr} {c : Nat} {xs : List Int} (h : Own base w a c xs) (r : some p ≠ rowOf a xs) (u0 u1 : Value) : Own base ((w.setCell ⟨p, 0, none⟩ u0).setCell ⟨p, 1, none⟩ u1) a c xs :=
  (h.put1 r 0 u0).put1 r 1 u1

theorem gt {l : List Oper} {i : Nat} {o : Oper} (h : l[i]? = some o) : l.toArray[i]? = some o := by simpa using h

/-- A variable of two cells that was made from block lo on. -/
structure Box2 (lo : Nat) (w : World) (p : Nat) (x0 x1 : Value) : Prop where
  c0 : w.cell? ⟨p, 0, none⟩ = some x0
  c1 : w.cell? ⟨p, 1, none⟩ = some x1
  fr : ∀ o, w.frozen? ⟨p, o, none⟩ = false
  lo : lo ≤ p
theorem Box2.new (w : World) {lo : Nat} (h : lo ≤ w.heap.size) (x0 x1 : Value) (t : TypeId) : Box2 lo (w.alloc (.cells #[x0, x1] t)) w.heap.size x0 x1 :=
  ⟨cell_new w #[x0, x1] t 0 rfl, cell_new w #[x0, x1] t 1 rfl, fun o => frozen_new _ _ _ o, h⟩
theorem Box2.lt {lo p : Nat} {w : World} {x0 x1 : Value} (h : Box2 lo w p x0 x1) : p < w.heap.size := World.block_lt_of_cell? _ _ h.c0
theorem Box2.below {lo p : Nat} {w w' : World} {x0 x1 : Value} (h : Box2 lo w p x0 x1) (hb : Below w.heap.size w w') : Box2 lo w' p x0 x1 :=
  ⟨bat hb h.c0, bat hb h.c1, fun o => (hb.frozen (p := ⟨p, o, none⟩) h.lt).trans (h.fr o), h.lo⟩
theorem Box2.put {lo p : Nat} {w : World} {x0 x1 : Value} (h : Box2 lo w p x0 x1) (u0 u1 : Value) : Box2 lo ((w.setCell ⟨p, 0, none⟩ u0).setCell ⟨p, 1, none⟩ u1) p u0 u1 :=
  ⟨(put_new2 h.c0 h.c1 u0 u1).1, (put_new2 h.c0 h.c1 u0 u1).2, fun o => (put_frozen2 p _ u0 u1).trans (h.fr o), h.lo⟩
theorem Box2.old {lo p q : Nat} {w : World} {x0 x1 : Value} (h : Box2 lo w q x0 x1) (ne : q ≠ p) (u0 u1 : Value) : Box2 lo ((w.setCell ⟨p, 0, none⟩ u0).setCell ⟨p, 1, none⟩ u1) q x0 x1 :=
  ⟨(put_old2 ne u0 u1).trans h.c0, (put_old2 ne u0 u1).trans h.c1, fun o => (put_frozen2 p _ u0 u1).trans (h.fr o), h.lo⟩
theorem Box2.chain {b : Nat} {W w : World} {p : Nat} {x0 x1 : Value} (N : Below b W w) (h : Box2 b w p x0 x1) (u0 u1 : Value) : Below b W ((w.setCell ⟨p, 0, none⟩ u0).setCell ⟨p, 1, none⟩ u1) :=
  (N.setCell (p := ⟨p, 0, none⟩) h.lo u0).setCell (p := ⟨p, 1, none⟩) h.lo u1

/-- A variable of four cells. -/
structure Box4 (lo : Nat) (w : World) (p : Nat) (x0 x1 x2 x3 : Value) : Prop where
  c0 : w.cell? ⟨p, 0, none⟩ = some x0
  c1 : w.cell? ⟨p, 1, none⟩ = some x1
  c2 : w.cell? ⟨p, 2, none⟩ = some x2
  c3 : w.cell? ⟨p, 3, none⟩ = some x3
  fr : ∀ o, w.frozen? ⟨p, o, none⟩ = false
  lo : lo ≤ p
theorem Box4.new (w : World) {lo : Nat} (h : lo ≤ w.heap.size) (x0 x1 x2 x3 : Value) (t : TypeId) : Box4 lo (w.alloc (.cells #[x0, x1, x2, x3] t)) w.heap.size x0 x1 x2 x3 :=
  ⟨cell_new w #[x0, x1, x2, x3] t 0 rfl, cell_new w #[x0, x1, x2, x3] t 1 rfl, cell_new w #[x0, x1, x2, x3] t 2 rfl, cell_new w #[x0, x1, x2, x3] t 3 rfl, fun o => frozen_new _ _ _ o, h⟩
theorem Box4.lt {lo p : Nat} {w : World} {x0 x1 x2 x3 : Value} (h : Box4 lo w p x0 x1 x2 x3) : p < w.heap.size := World.block_lt_of_cell? _ _ h.c0
theorem Box4.below {lo p : Nat} {w w' : World} {x0 x1 x2 x3 : Value} (h : Box4 lo w p x0 x1 x2 x3) (hb : Below w.heap.size w w') : Box4 lo w' p x0 x1 x2 x3 :=
  ⟨bat hb h.c0, bat hb h.c1, bat hb h.c2, bat hb h.c3, fun o => (hb.frozen (p := ⟨p, o, none⟩) h.lt).trans (h.fr o), h.lo⟩
theorem cell_same {w : World} {p o : Nat} {x : Value} (h : w.cell? ⟨p, o, none⟩ = some x) (u : Value) : (w.setCell ⟨p, o, none⟩ u).cell? ⟨p, o, none⟩ = some u := World.cell?_setCell_same _ _ _ h
theorem cell_other {w : World} {p o q i : Nat} (h : p ≠ q ∨ o ≠ i) (u : Value) : (w.setCell ⟨p, o, none⟩ u).cell? ⟨q, i, none⟩ = w.cell? ⟨q, i, none⟩ :=
  World.cell?_setCell_other _ _ _ _ (by intro e; simp only [Addr.mk.injEq] at e; rcases h with h | h <;> exact h (by simp [e]))
theorem Box4.put {lo p : Nat} {w : World} {x0 x1 x2 x3 : Value} (h : Box4 lo w p x0 x1 x2 x3) (u0 u1 u2 u3 : Value) : Box4 lo ((((w.setCell ⟨p, 0, none⟩ u0).setCell ⟨p, 1, none⟩ u1).setCell ⟨p, 2, none⟩ u2).setCell ⟨p, 3, none⟩ u3) p u0 u1 u2 u3 := by
  refine ⟨?_, ?_, ?_, ?_, fun o => ?_, h.lo⟩
  · rw [cell_other (.inr (by decide)), cell_other (.inr (by decide)), cell_other (.inr (by decide))]; exact cell_same h.c0 u0
  · rw [cell_other (.inr (by decide)), cell_other (.inr (by decide))]; exact cell_same ((cell_other (.inr (by decide)) u0).trans h.c1) u1
  · rw [cell_other (.inr (by decide))]; exact cell_same (((cell_other (.inr (by decide)) u1).trans (cell_other (.inr (by decide)) u0)).trans h.c2) u2
  · exact cell_same ((((cell_other (.inr (by decide)) u2).trans (cell_other (.inr (by decide)) u1)).trans (cell_other (.inr (by decide)) u0)).trans h.c3) u3
  · rw [World.frozen?_setCell, World.frozen?_setCell, World.frozen?_setCell, World.frozen?_setCell]; exact h.fr o
theorem Box4.old {lo p q : Nat} {w : World} {x0 x1 x2 x3 : Value} (h : Box4 lo w q x0 x1 x2 x3) (ne : q ≠ p) (u0 u1 u2 u3 : Value) : Box4 lo ((((w.setCell ⟨p, 0, none⟩ u0).setCell ⟨p, 1, none⟩ u1).setCell ⟨p, 2, none⟩ u2).setCell ⟨p, 3, none⟩ u3) q x0 x1 x2 x3 := by
  have e : ∀ o, ((((w.setCell ⟨p, 0, none⟩ u0).setCell ⟨p, 1, none⟩ u1).setCell ⟨p, 2, none⟩ u2).setCell ⟨p, 3, none⟩ u3).cell? ⟨q, o, none⟩ = w.cell? ⟨q, o, none⟩ := fun o => by
    rw [cell_other (.inl ne.symm), cell_other (.inl ne.symm), cell_other (.inl ne.symm), cell_other (.inl ne.symm)]
  refine ⟨(e 0).trans h.c0, (e 1).trans h.c1, (e 2).trans h.c2, (e 3).trans h.c3, fun o => ?_, h.lo⟩
  rw [World.frozen?_setCell, World.frozen?_setCell, World.frozen?_setCell, World.frozen?_setCell]; exact h.fr o
theorem Box4.chain {b : Nat} {W w : World} {p : Nat} {x0 x1 x2 x3 : Value} (N : Below b W w) (h : Box4 b w p x0 x1 x2 x3) (u0 u1 u2 u3 : Value) : Below b W ((((w.setCell ⟨p, 0, none⟩ u0).setCell ⟨p, 1, none⟩ u1).setCell ⟨p, 2, none⟩ u2).setCell ⟨p, 3, none⟩ u3) :=
  (((N.setCell (p := ⟨p, 0, none⟩) h.lo u0).setCell (p := ⟨p, 1, none⟩) h.lo u1).setCell (p := ⟨p, 2, none⟩) h.lo u2).setCell (p := ⟨p, 3, none⟩) h.lo u3
theorem Own.put4 {base p : Nat} {w : World} {a : Option Addr} {c : Nat} {xs : List Int} (h : Own base w a c xs) (r : some p ≠ rowOf a xs) (u0 u1 u2 u3 : Value) : Own base ((((w.setCell ⟨p, 0, none⟩ u0).setCell ⟨p, 1, none⟩ u1).setCell ⟨p, 2, none⟩ u2).setCell ⟨p, 3, none⟩ u3) a c xs :=
  (((h.put1 r 0 u0).put1 r 1 u1).put1 r 2 u2).put1 r 3 u3
end Go.Proofs.YtgcaemhcdpddiaaDoor

/- The laws' helpers on disks: whether two are equal, their marks. -/
namespace Go.Proofs.YtgcaemhcdpddiaaDoor
open Go.RowKit

set_option maxHeartbeats 1000000 in
theorem eqWrite_any {lo lo' : Nat} (x : Int) (a b : Option Addr) (c d : Nat) (ds : List Int) (w : World) (h : RowB lo w (.slice a ds.length c) ds) (k : RowB lo' w (.slice b ds.length d) ds) :
    Calls Tryd.prog 39 #[.agg #[.int .i64 x, .slice a ds.length c], .agg #[.int .i64 x, .slice b ds.length d]] w fun e w' => e = .returned (.bool true) ∧ Below w.heap.size w w' := by
  have hne : (x != x) = false := by simp
  have B := below2 w (.cells #[.int .i64 x, .slice a ds.length c] 67) (.cells #[.int .i64 x, .slice b ds.length d] 67)
  go_enter Tryd.func39, Tryd.ntmps39
  go_wp2_with fail
  refine (eqBy a b c d ds _ (h.below B) (k.below B)).mono ?_
  rintro e w1 ⟨rfl, hb⟩
  replace B := B.trans (hb.mono B.size)
  go_wp2
  go_ret
  exact ⟨rfl, B⟩

set_option maxRecDepth 20000 in
set_option maxHeartbeats 2000000 in
theorem eqWrites {lo lo' : Nat} (a b : Option Addr) (c d : Nat) (vs us : List Value) (qs : List Wr) (w : World) (h : QuR lo w (.slice a qs.length c) vs qs) (k : QuR lo' w (.slice b qs.length d) us qs) :
    Calls Tryd.prog 23 #[.slice a qs.length c, .slice b qs.length d] w fun e w' => e = .returned (.bool true) ∧ Below w.heap.size w w' := by
  obtain ⟨_, hf, hm⟩ := h.caps
  obtain ⟨_, kf, km⟩ := k.caps
  unfold maxLen at hm km
  have hne : ((qs.length : Int) != (qs.length : Int)) = false := by simp
  go_enter Tryd.func23, Tryd.ntmps23
  go_wp2
  go_loopw [5] (fun i wr => ∃ j : Nat, j ≤ qs.length ∧ i = .int .i64 j ∧ Below w.heap.size w wr) (fun i _ => qs.length - (intOf i).toNat)
  case atStart => exact ⟨0, Nat.zero_le _, rfl, Below.refl _ _⟩
  case round =>
    obtain ⟨j, hj, rfl, B⟩ := hrel
    rename World => wr
    by_cases hlt : j < qs.length
    · obtain ⟨b1, c1, a3, c3, e, _, g1, g2, p1, _⟩ := (h.below B).at' hlt
      injection e with e1 e2 e3
      subst e1
      obtain ⟨b2, c2, a4, c4, e, _, g3, g4, p2, _⟩ := (k.below B).at' hlt
      injection e with e1 e4 e5
      subst e1
      clear e2 e3 e4 e5
      generalize wrN qs j = q at *
      obtain ⟨x, ds⟩ := q
      dsimp only at g1 g2 g3 g4 p1 p2
      go_wp2_with fail
      have k0 : wr.cell? ⟨b1, j * 2, none⟩ = some (.int .i64 x) ∧ wr.cell? ⟨b1, j * 2 + 1, none⟩ = some (.slice a3 ds.length c3) ∧ wr.cell? ⟨b2, j * 2, none⟩ = some (.int .i64 x) ∧ wr.cell? ⟨b2, j * 2 + 1, none⟩ = some (.slice a4 ds.length c4) := ⟨g1, g2, g3, g4⟩
      have B1 : Below wr.heap.size wr wr := Below.refl _ _
      go_region_held3 (fun w' => w'.cell? ⟨b1, j * 2, none⟩ = some (.int .i64 x) ∧ w'.cell? ⟨b1, j * 2 + 1, none⟩ = some (.slice a3 ds.length c3) ∧ w'.cell? ⟨b2, j * 2, none⟩ = some (.int .i64 x) ∧ w'.cell? ⟨b2, j * 2 + 1, none⟩ = some (.slice a4 ds.length c4))
        (first | exact k0 | exact ⟨bat B1 k0.1, bat B1 k0.2.1, bat B1 k0.2.2.1, bat B1 k0.2.2.2⟩)
        ((go_at_call 39; refine (eqWrite_any x a3 a4 c3 c4 ds _ (p1.below B1.drew) (p2.below B1.drew)).mono ?_; rintro e w5 ⟨rfl, hb⟩; replace B1 := B1.drew.trans (hb.mono B1.drew.size)))
      replace B := B.trans (B1.mono B.size)
      go_wp2_with fail
      go_roundw
      case rel => exact ⟨j + 1, by omega, by go_num, B⟩
      case measure => simp [intOf]; omega
    · go_wp2
      go_ret
      exact ⟨rfl, B⟩

set_option maxHeartbeats 1000000 in
theorem eqDisk_any {lo lo' : Nat} (a a2 b b2 : Option Addr) (c c2 d d2 : Nat) (vs us : List Value) (bs : List Int) (qs : List Wr) (w : World) (h : DkR lo w (.slice a bs.length c) (.slice a2 qs.length c2) vs bs qs) (k : DkR lo' w (.slice b bs.length d) (.slice b2 qs.length d2) us bs qs) :
    Calls Tryd.prog 10 #[.agg #[.slice a bs.length c, .slice a2 qs.length c2], .agg #[.slice b bs.length d, .slice b2 qs.length d2]] w fun e w' => e = .returned (.bool true) ∧ Below w.heap.size w w' := by
  have B := below2 w (.cells #[.slice a bs.length c, .slice a2 qs.length c2] 34) (.cells #[.slice b bs.length d, .slice b2 qs.length d2] 34)
  have X1 := (Box2.new w (lo := 0) (by omega) (.slice a bs.length c) (.slice a2 qs.length c2) 34).below (below1 _ (.cells #[.slice b bs.length d, .slice b2 qs.length d2] 34))
  have X2 := Box2.new (w.alloc (.cells #[.slice a bs.length c, .slice a2 qs.length c2] 34)) (lo := 0) (by omega) (.slice b bs.length d) (.slice b2 qs.length d2) 34
  rw [show (w.alloc (.cells #[.slice a bs.length c, .slice a2 qs.length c2] 34)).heap.size = w.heap.size + 1 by simp] at X2
  go_enter Tryd.func10, Tryd.ntmps10
  go_wp2_with fail
  refine (eqBy a b c d bs _ (h.row.below B) (k.row.below B)).mono ?_
  rintro e w1 ⟨rfl, hb⟩
  replace X1 := X1.below hb
  replace X2 := X2.below hb
  replace B := B.trans (hb.mono B.size)
  clear hb
  obtain ⟨x0, x1, _, _⟩ := id X1
  obtain ⟨y0, y1, _, _⟩ := id X2
  go_wp2_with fail
  refine (eqWrites a2 b2 c2 d2 vs us qs _ (h.que.below B) (k.que.below B)).mono ?_
  rintro e w2 ⟨rfl, hb⟩
  replace B := B.trans (hb.mono B.size)
  go_wp2
  go_ret
  exact ⟨rfl, B⟩

/-- Nothing of another block was written. -/
def ButQ (vs : List Value) (w w' : World) : Prop := w.heap.size ≤ w'.heap.size ∧ ∀ b, b < w.heap.size → (∀ u ∈ vs, u.ownBlock ≠ some b) → w'.heap[b]? = w.heap[b]?
/-- The first j writes are marked. -/
def mkQs (k : Int) (qs : List Wr) : Nat → List Wr
  | 0 => qs
  | j + 1 => (mkQs k qs j).set j (k + (uptoQ qs j : Nat), mkY (k + (uptoQ qs j : Nat) + 1) (wrN qs j).2.length)
theorem mkQs_len (k : Int) (qs : List Wr) (j : Nat) : (mkQs k qs j).length = qs.length := by
  induction j with
  | zero => rfl
  | succ j ih => simp only [mkQs, List.length_set, ih]
theorem mkQs_old (k : Int) (qs : List Wr) {j i : Nat} (h : j ≤ i) : wrN (mkQs k qs j) i = wrN qs i := by
  induction j with
  | zero => rfl
  | succ j ih => simp only [mkQs]; rw [wrN_set_other (by omega)]; exact ih (by omega)
theorem mkQs_new (k : Int) (qs : List Wr) {j i : Nat} (h : i < j) (hj : j ≤ qs.length) : wrN (mkQs k qs j) i = (k + (uptoQ qs i : Nat), mkY (k + (uptoQ qs i : Nat) + 1) (wrN qs i).2.length) := by
  induction j with
  | zero => omega
  | succ j ih =>
    simp only [mkQs]
    by_cases e : j = i
    · subst e
      rw [wrN_set_same (by rw [mkQs_len]; omega)]
    · rw [wrN_set_other e]
      exact ih (by omega) (by omega)

set_option maxRecDepth 20000 in
set_option maxHeartbeats 2000000 in
theorem markWrites {lo : Nat} (a : Option Addr) (c : Nat) (k : Int) (vs : List Value) (qs : List Wr) (w : World) (h : QuR lo w (.slice a qs.length c) vs qs) (hs : uptoQ qs qs.length ≤ 2000000) (k0 : 0 ≤ k) (k1 : k ≤ 3000000) :
    Calls Tryd.prog 25 #[.slice a qs.length c, .int .i64 k] w fun e w' => e = .returned (.int .i64 (k + (uptoQ qs qs.length : Nat))) ∧ QuR lo w' (.slice a qs.length c) vs (mkQs k qs qs.length) ∧ Below lo w w' ∧ ButQ (.slice a qs.length c :: vs) w w' := by
  obtain ⟨_, hf, hm⟩ := h.caps
  unfold maxLen at hm
  have HS : Hid (uptoQ qs qs.length ≤ 2000000) := hs
  have HH : Hid (QuR lo w (.slice a qs.length c) vs qs) := h
  have hlo : Hid (qs ≠ [] → lo ≤ w.heap.size) := fun hn => by
    obtain ⟨g, c0, _, _, e, _⟩ := h.at' (List.length_pos_iff.2 hn)
    have := h.lts.1 g (by rw [e]; rfl)
    omega
  clear hs h
  go_enter Tryd.func25, Tryd.ntmps25
  go_wp2
  go_loopw [1, 5] (fun s1 i wr => ∃ (j : Nat) (m : Int), j ≤ qs.length ∧ i = .int .i64 j ∧ s1 = .int .i64 m ∧ Hid (m = k + (uptoQ qs j : Nat)) ∧ Hid (QuR lo wr (.slice a qs.length c) vs (mkQs k qs j)) ∧ Hid (Below lo w wr) ∧ Hid (ButQ (.slice a qs.length c :: vs) w wr)) (fun _ i _ => qs.length - (intOf i).toNat)
  case atStart => exact ⟨0, k, Nat.zero_le _, rfl, rfl, (by show _ = _; simp [uptoQ]), HH, Below.refl _ _, ⟨Nat.le_refl _, fun _ _ _ => rfl⟩⟩
  case round =>
    clear HH
    obtain ⟨j, m, hj, rfl, rfl, hk, S, B, KB⟩ := hrel
    rename World => wr
    have ub := uptoQ_mono qs hj
    have hmb : 0 ≤ m ∧ m ≤ 5000000 := by have := HS.out; have := hk.out; omega
    obtain ⟨mb0, mb1⟩ := hmb
    clear ub
    by_cases hlt : j < qs.length
    · obtain ⟨g, c0, a', c', e, hv, hc0, hc1, R, fz⟩ := S.out.at' (i := j) (by rw [mkQs_len]; exact hlt)
      rw [mkQs_len] at e
      injection e with e1 e2 e3
      subst e1
      rw [mkQs_old k qs (Nat.le_refl j)] at hv hc0 hc1 R
      have hrow := uptoQ_row qs hlt
      have hrl : (wrN qs j).2.length ≤ 2000000 := by have := HS.out; omega
      have HR : Hid ((wrN qs j).2.length ≤ 2000000) := hrl
      obtain ⟨S2, G2⟩ := QuR.setNum S.out (i := j) (by rw [mkQs_len]; exact hlt) m
      have R2 : Hid (RowB lo (wr.setCell ⟨g, j * 2, none⟩ (.int .i64 m)) (.slice a' (wrN qs j).2.length c') (wrN qs j).2) := by
        have := S2.rows j _ hv
        rw [wrN_set_same (by rw [mkQs_len]; exact hlt), mkQs_old k qs (Nat.le_refl j)] at this
        exact this
      have hc1' : (wr.setCell ⟨g, j * 2, none⟩ (.int .i64 m)).cell? ⟨g, j * 2 + 1, none⟩ = some (.slice a' (wrN qs j).2.length c') := (cell_other (.inr (by simp)) _).trans hc1
      have KN : Hid (m + 1 + ((wrN qs j).2.length : Int) = k + (uptoQ qs (j + 1) : Nat)) := by show _ = _; simp only [uptoQ]; have := hk.out; push_cast; omega
      have HK : Hid (∀ W, RowB lo W (.slice a' (wrN qs j).2.length c') (mkY (m + 1) (wrN qs j).2.length) → (wr.setCell ⟨g, j * 2, none⟩ (.int .i64 m)).grownBy W (Value.slice a' (wrN qs j).2.length c').ownBlock → QuR lo W (.slice (some ⟨g, 0, none⟩) qs.length c) vs (mkQs k qs (j + 1)) ∧ Below lo w W ∧ ButQ (.slice (some ⟨g, 0, none⟩) qs.length c :: vs) w W) := fun W RW GW => by
        have S3 := QuR.set S2 (i := j) (by rw [List.length_set, mkQs_len]; exact hlt) hv RW GW
        have gl := (S.out.lts.1 g rfl).1
        have hwl := hlo.out (by intro e; simp [e] at hlt)
        refine ⟨?_, ?_, ?_⟩
        · rw [wrN_set_same (by rw [mkQs_len]; exact hlt), List.set_set] at S3
          simp only [mkQs]
          rw [← hk.out]
          exact S3
        · have B2 := B.out.grown G2 (by have := B.out.size; omega) (fun k hk => by injection hk with hk; omega)
          refine B2.grown GW (by have := B2.size; omega) (fun k hk => ?_)
          exact (S.out.lts.2 _ (List.mem_of_getElem? hv) k hk).1
        · refine ⟨Nat.le_trans KB.out.1 (Nat.le_trans G2.size GW.size), fun b hb hu => ?_⟩
          have l1 := Nat.lt_of_lt_of_le hb KB.out.1
          refine (GW.block b (Nat.lt_of_lt_of_le l1 G2.size) (fun e => hu _ (List.mem_cons_of_mem _ (List.mem_of_getElem? hv)) e.symm)).trans ((G2.block b l1 (fun e => hu _ (List.mem_cons_self ..) (by rw [e]; rfl))).trans (KB.out.2 b hb hu))
      clear hv R S S2 G2 hrow hrl e2 e3 hc1
      generalize wrN qs j = q at *
      obtain ⟨x, ds⟩ := q
      dsimp only at hc0 hc1' R2 KN HK HR
      go_wp2_with fail
      refine (markBy a' c' (m + 1) ds _ R2.out HR.out (by omega) (by omega)).mono ?_
      rintro e w3 ⟨rfl, R3, G3⟩
      rw [mkY_len] at R3
      obtain ⟨S4, B4, K4⟩ := HK.out w3 R3 G3
      have S5 : Hid (QuR lo w3 (.slice (some ⟨g, 0, none⟩) qs.length c) vs (mkQs k qs (j + 1))) := S4
      have B5 : Hid (Below lo w w3) := B4
      have K5 : Hid (ButQ (.slice (some ⟨g, 0, none⟩) qs.length c :: vs) w w3) := K4
      clear R3 G3 S4 B4 K4 HK hc0 hc1' R2 fz
      go_wp2
      go_roundw
      case rel => exact ⟨j + 1, _, by omega, by go_num, rfl, KN, S5, B5, K5⟩
      case measure => simp [intOf]; omega
    · obtain rfl : j = qs.length := by omega
      go_wp2
      go_ret
      exact ⟨congrArg (fun z => Ending.returned (Value.int .i64 z)) hk.out, S.out, B.out, KB.out⟩

set_option maxHeartbeats 1000000 in
theorem markDisk_any {lo : Nat} (a a2 : Option Addr) (c c2 : Nat) (vs : List Value) (bs : List Int) (qs : List Wr) (w : World) (h : DkR lo w (.slice a bs.length c) (.slice a2 qs.length c2) vs bs qs) (hb1 : bs.length ≤ 2000000) (hs : uptoQ qs qs.length ≤ 2000000) :
    Calls Tryd.prog 11 #[.agg #[.slice a bs.length c, .slice a2 qs.length c2], .int .i64 1] w fun e w' => e = .returned (.int .i64 (1 + (bs.length : Int) + (uptoQ qs qs.length : Nat))) ∧ DkR lo w' (.slice a bs.length c) (.slice a2 qs.length c2) vs (mkY 1 bs.length) (mkQs (1 + (bs.length : Int)) qs qs.length) ∧ ButQ (.slice a bs.length c :: .slice a2 qs.length c2 :: vs) w w' ∧ (∀ b, b ≤ lo → b ≤ w.heap.size → Below b w w') := by
  have B := below1 w (.cells #[.slice a bs.length c, .slice a2 qs.length c2] 34)
  have X := Box2.new w (lo := 0) (by omega) (.slice a bs.length c) (.slice a2 qs.length c2) 34
  have D := h.below B
  have L := h.lts
  have HD : Hid (DkR lo (w.alloc (.cells #[.slice a bs.length c, .slice a2 qs.length c2] 34)) (.slice a bs.length c) (.slice a2 qs.length c2) vs bs qs) := D
  have HB : Hid (bs.length ≤ 2000000) := hb1
  have HS : Hid (uptoQ qs qs.length ≤ 2000000) := hs
  have HL : Hid ((∀ k, (Value.slice a bs.length c).ownBlock = some k → lo ≤ k ∧ k < w.heap.size) ∧ (∀ k, (Value.slice a2 qs.length c2).ownBlock = some k → lo ≤ k ∧ k < w.heap.size) ∧ ∀ u ∈ vs, ∀ k, u.ownBlock = some k → lo ≤ k ∧ k < w.heap.size) := L
  clear D L h hs
  go_enter Tryd.func11, Tryd.ntmps11
  go_wp2_with fail
  refine (markBy a c 1 bs _ HD.out.row HB.out (by omega) (by omega)).mono ?_
  rintro e w1 ⟨rfl, R1, G1⟩
  rw [mkY_len] at R1
  have Q1 : Hid (QuR lo w1 (.slice a2 qs.length c2) vs qs) := HD.out.que.kept G1 (fun k hk e => (HD.out.ap k e).1 hk) (fun u hu k hk e => (HD.out.ap k e).2 u hu hk)
  have X1 : Box2 0 w1 w.heap.size (.slice a bs.length c) (.slice a2 qs.length c2) := by
    have hb := G1.block w.heap.size X.lt (fun e => by have := (HL.out.1 _ e.symm).2; omega)
    exact ⟨(World.cell?_of_block (a := ⟨w.heap.size, 0, none⟩) hb).trans X.c0, (World.cell?_of_block (a := ⟨w.heap.size, 1, none⟩) hb).trans X.c1, fun o => (World.frozen?_of_block (a := ⟨w.heap.size, o, none⟩) hb).trans (X.fr o), X.lo⟩
  obtain ⟨x0, x1, xf, _⟩ := X1
  have HR : Hid (RowB lo w1 (.slice a bs.length c) (mkY 1 bs.length)) := by show RowB _ _ _ _; exact R1
  have HG : Hid ((w.alloc (.cells #[.slice a bs.length c, .slice a2 qs.length c2] 34)).grownBy w1 (Value.slice a bs.length c).ownBlock) := G1
  clear R1 G1 X
  go_wp2_with fail
  refine (markWrites a2 c2 (1 + (bs.length : Int)) vs qs _ Q1.out HS.out (by omega) (by omega)).mono ?_
  rintro e w2 ⟨rfl, Q2, B2, K2⟩
  have kb : ∀ b, b < w.heap.size → (∀ u ∈ (Value.slice a bs.length c :: .slice a2 qs.length c2 :: vs), u.ownBlock ≠ some b) → w2.heap[b]? = w.heap[b]? := fun b hb hu => by
    have s0 : b < (w.alloc (.cells #[.slice a bs.length c, .slice a2 qs.length c2] 34)).heap.size := by simp; omega
    refine (K2.2 b (Nat.lt_of_lt_of_le s0 HG.out.size) (fun u m => hu u (List.mem_cons_of_mem _ m))).trans ((HG.out.block b s0 (fun e => hu _ (List.mem_cons_self ..) e.symm)).trans ?_)
    exact B.block b hb
  have sz : w.heap.size ≤ w2.heap.size := Nat.le_trans B.size (Nat.le_trans HG.out.size K2.1)
  have R2 : RowB lo w2 (.slice a bs.length c) (mkY 1 bs.length) := by
    refine ⟨HR.out.1, ?_⟩
    rcases HR.out.2 with q2 | ⟨g, cap, cur, hv, q3, q4, q5⟩
    · exact .inl q2
    · have og : (Value.slice a bs.length c).ownBlock = some g := by rw [hv]; rfl
      refine .inr ⟨g, cap, cur, hv, q3, (K2.2 g (World.ownsRow.lt HR.out g og).2 (fun u m e => ?_)).trans q4, q5⟩
      rcases List.mem_cons.1 m with rfl | m
      · exact (HD.out.ap g og).1 e
      · exact (HD.out.ap g og).2 u m e
  have BB : Hid (∀ b, b ≤ lo → b ≤ w.heap.size → Below b w w2) := fun b h1 h2 => by
    have b0 : Below b w (w.alloc (.cells #[.slice a bs.length c, .slice a2 qs.length c2] 34)) := B.mono (by omega)
    have b1 := b0.grown HG.out (by have := B.size; omega) (fun k hk => by have := (HL.out.1 k hk).1; omega)
    exact b1.trans (B2.mono (by omega))
  have DD : Hid (DkR lo w2 (.slice a bs.length c) (.slice a2 qs.length c2) vs (mkY 1 bs.length) (mkQs (1 + (bs.length : Int)) qs qs.length)) := ⟨R2, Q2, HD.out.ap⟩
  have KK : Hid (ButQ (.slice a bs.length c :: .slice a2 qs.length c2 :: vs) w w2) := ⟨sz, kb⟩
  clear R2 Q2 B2 K2 kb sz HG HR Q1 x0 x1 xf
  obtain ⟨z, HZ⟩ : ∃ z, Hid (uptoQ qs qs.length = z) := ⟨_, rfl⟩
  have hz := HS.out
  rw [HZ.out] at hz ⊢
  go_wp2
  go_ret
  exact ⟨by rw [HZ.out]; rfl, DD.out, KK.out, BB.out⟩

end Go.Proofs.YtgcaemhcdpddiaaDoor

/- The laws' helpers on disks: their sizes, their copies. -/
namespace Go.Proofs.YtgcaemhcdpddiaaDoor
open Go.RowKit

/-- Writes that lie in memory, one behind the other. -/
structure SeesQ (w : World) (a : Option Addr) (cap : Nat) (qs : List Wr) : Prop where
  fits : qs.length ≤ cap
  max : cap ≤ maxLen
  cells : qs ≠ [] → ∃ b off, a = some ⟨b, off, none⟩ ∧ ∀ i, i < qs.length → ∃ a' c', w.cell? ⟨b, off + i * 2, none⟩ = some (.int .i64 (wrN qs i).1) ∧ w.cell? ⟨b, off + i * 2 + 1, none⟩ = some (.slice a' (wrN qs i).2.length c') ∧ SeesB w a' c' (wrN qs i).2
theorem SeesQ.below {w w' : World} {a : Option Addr} {cap : Nat} {qs : List Wr} (h : SeesQ w a cap qs) (hb : Below w.heap.size w w') : SeesQ w' a cap qs :=
  ⟨h.fits, h.max, fun hn => by
    obtain ⟨b, off, ha, hc⟩ := h.cells hn
    exact ⟨b, off, ha, fun i hi => by obtain ⟨a', c', h1, h2, h3⟩ := hc i hi; exact ⟨a', c', bat hb h1, bat hb h2, h3.below hb⟩⟩⟩
theorem infoW : (Tryd.prog.info? 67).map (fun i => (i.zero, i.size, i.bytes)) = some (some (.agg #[.int .i64 0, .slice none 0 0]), 2, 32) := by kernel_rfl

theorem szWrite_any (x : Int) (a : Option Addr) (c n : Nat) (left : Int) (w : World) (hl : 0 ≤ left ∧ left ≤ 1048576) (hn : n ≤ 9223372036854775807) :
    Calls Tryd.prog 27 #[.agg #[.int .i64 x, .slice a n c], .int .i64 left] w fun e w' => e = .returned (.int .i64 (if left - n < 0 then -1 else left - n)) ∧ Below w.heap.size w w' := by
  have B := below1 w (.cells #[.int .i64 x, .slice a n c] 63)
  obtain ⟨l0, l1⟩ := hl
  go_enter Tryd.func27, Tryd.ntmps27
  go_wp2_with fail
  refine (szBytes a c n left _ ⟨l0, l1⟩ hn).mono ?_
  rintro e w1 ⟨rfl, rfl⟩
  by_cases hc : left - n < 0
  · rw [if_pos hc]
    go_wp2
    go_ret
    exact ⟨rfl, B⟩
  · rw [if_neg hc]
    go_wp2
    go_ret
    exact ⟨rfl, B⟩

set_option maxRecDepth 20000 in
set_option maxHeartbeats 2000000 in
theorem szWrites (a : Option Addr) (c : Nat) (qs : List Wr) (left : Int) (w : World) (h : SeesQ w a c qs) (hl : 0 ≤ left ∧ left ≤ 1048576) :
    Calls Tryd.prog 15 #[.slice a qs.length c, .int .i64 left] w fun e w' => ∃ z : Int, e = .returned (.int .i64 z) ∧ (z = -1 ∨ (0 ≤ z ∧ z + (uptoQ qs qs.length : Nat) = left)) ∧ Below w.heap.size w w' := by
  have hm := h.max
  have hf := h.fits
  unfold maxLen at hm
  obtain ⟨l0, l1⟩ := hl
  have HH : Hid (SeesQ w a c qs) := h
  clear h
  by_cases hc : left - qs.length < 0
  · go_enter Tryd.func15, Tryd.ntmps15
    go_wp2
    go_ret
    exact ⟨-1, rfl, .inl rfl, Below.refl _ _⟩
  · go_enter Tryd.func15, Tryd.ntmps15
    go_wp2
    go_loopw [1, 5] (fun s1 i wr => ∃ (j : Nat) (z : Int), j ≤ qs.length ∧ i = .int .i64 j ∧ s1 = .int .i64 z ∧ 0 ≤ z ∧ z ≤ 1048576 ∧ Hid (z + (uptoQ qs j : Nat) + (qs.length - j : Nat) = left) ∧ Below w.heap.size w wr) (fun _ i _ => qs.length - (intOf i).toNat)
    case atStart => exact ⟨0, left - qs.length, Nat.zero_le _, rfl, rfl, by omega, by omega, (by show _ = _; simp only [uptoQ]; omega), Below.refl _ _⟩
    case round =>
      obtain ⟨j, z, hj, rfl, rfl, z0, z1, hz, B⟩ := hrel
      rename World => wr
      by_cases hlt : j < qs.length
      · obtain ⟨b1, o1, rfl, hcs⟩ := (HH.out.below B).cells (by intro e; simp [e] at hlt)
        obtain ⟨a', c', g1, g2, sb⟩ := hcs j hlt
        have KN : Hid (z - ((wrN qs j).2.length : Int) + (uptoQ qs (j + 1) : Nat) + (qs.length - (j + 1) : Nat) = left) := by show _ = _; simp only [uptoQ]; have := hz.out; omega
        have hn : (wrN qs j).2.length ≤ 9223372036854775807 := by have := sb.fits; have := sb.max; unfold maxLen at this; omega
        clear hcs sb hz
        generalize (wrN qs j).2.length = n at *
        generalize (wrN qs j).1 = x at *
        go_wp2_with fail
        refine (szWrite_any x a' c' n z _ ⟨z0, z1⟩ hn).mono ?_
        rintro e w3 ⟨rfl, hb⟩
        replace B := B.trans (hb.mono B.size)
        clear hb g1 g2
        by_cases hc2 : z - n < 0
        · rw [if_pos hc2]
          go_wp2
          go_ret
          exact ⟨-1, rfl, .inl rfl, B⟩
        · rw [if_neg hc2]
          go_wp2
          go_roundw
          case rel => exact ⟨j + 1, _, by omega, by go_num, rfl, by omega, by omega, KN, B⟩
          case measure => simp [intOf]; omega
      · obtain rfl : j = qs.length := by omega
        go_wp2
        go_ret
        exact ⟨z, rfl, .inr ⟨z0, by have := hz.out; omega⟩, B⟩

set_option maxHeartbeats 1000000 in
theorem szDisk_any (a a2 : Option Addr) (c c2 n : Nat) (qs : List Wr) (left : Int) (w : World) (hn : n ≤ 9223372036854775807) (h : SeesQ w a2 c2 qs) (hl : 0 ≤ left ∧ left ≤ 1048576) :
    Calls Tryd.prog 4 #[.agg #[.slice a n c, .slice a2 qs.length c2], .int .i64 left] w fun e w' => ∃ z : Int, e = .returned (.int .i64 z) ∧ (z = -1 ∨ (0 ≤ z ∧ z + n + (uptoQ qs qs.length : Nat) = left)) ∧ Below w.heap.size w w' := by
  have B := below1 w (.cells #[.slice a n c, .slice a2 qs.length c2] 25)
  obtain ⟨l0, l1⟩ := hl
  have S : Hid (SeesQ (w.alloc (.cells #[.slice a n c, .slice a2 qs.length c2] 25)) a2 c2 qs) := h.below B
  clear h
  go_enter Tryd.func4, Tryd.ntmps4
  go_wp2_with fail
  refine (szBytes a c n left _ ⟨l0, l1⟩ hn).mono ?_
  rintro e w1 ⟨rfl, rfl⟩
  by_cases hc : left - n < 0
  · rw [if_pos hc]
    go_wp2
    go_ret
    exact ⟨-1, rfl, .inl rfl, B⟩
  · rw [if_neg hc]
    go_wp2_with fail
    refine (szWrites a2 c2 qs (left - n) _ S.out ⟨by omega, by omega⟩).mono ?_
    rintro e w2 ⟨z, rfl, hz, hb⟩
    replace B := B.trans (hb.mono B.size)
    have HZ : Hid (z = -1 ∨ (0 ≤ z ∧ z + (uptoQ qs qs.length : Nat) = left - n)) := hz
    by_cases h0 : z < 0
    · clear hz
      go_wp2
      go_ret
      exact ⟨-1, rfl, .inl rfl, B⟩
    · have h0' : 0 ≤ z := by omega
      clear hz
      go_wp2
      go_ret
      exact ⟨z, rfl, HZ.out.elim .inl (fun q => .inr ⟨q.1, by have := q.2; omega⟩), B⟩

set_option maxHeartbeats 1000000 in
theorem toWrite_any (x : Int) (a : Option Addr) (cap : Nat) (ds : List Int) (w : World) (h : SeesB w a cap ds) (hs : ds.length ≤ 1048576) :
    Calls Tryd.prog 33 #[.agg #[.int .i64 x, .slice a ds.length cap]] w fun e w' => e = .returned (.agg #[.int .i64 x, .slice (some ⟨w.heap.size + 3, 0, none⟩) ds.length ds.length]) ∧ RowB (w.heap.size + 3) w' (.slice (some ⟨w.heap.size + 3, 0, none⟩) ds.length ds.length) ds ∧ Below w.heap.size w w' := by
  have B := below3 w (.cells #[.int .i64 x, .slice a ds.length cap] 63) (.cells #[.int .i64 0, .slice none 0 0] 67) (.cells #[.int .i64 x, .slice none 0 0] 67)
  go_enter Tryd.func33, Tryd.ntmps33
  go_wp2_with fail
  have R1 : Box2 0 (((w.alloc (.cells #[.int .i64 x, .slice a ds.length cap] 63)).alloc (.cells #[.int .i64 0, .slice none 0 0] 67)).alloc (.cells #[.int .i64 x, .slice none 0 0] 67)) (w.heap.size + 1) (.int .i64 0) (.slice none 0 0) := by
    have := (Box2.new (w.alloc (.cells #[.int .i64 x, .slice a ds.length cap] 63)) (lo := 0) (by omega) (.int .i64 0) (.slice none 0 0) 67).below (below1 _ (.cells #[.int .i64 x, .slice none 0 0] 67))
    simpa using this
  have R2 : Box2 0 (((w.alloc (.cells #[.int .i64 x, .slice a ds.length cap] 63)).alloc (.cells #[.int .i64 0, .slice none 0 0] 67)).alloc (.cells #[.int .i64 x, .slice none 0 0] 67)) (w.heap.size + 2) (.int .i64 x) (.slice none 0 0) := by
    have := Box2.new ((w.alloc (.cells #[.int .i64 x, .slice a ds.length cap] 63)).alloc (.cells #[.int .i64 0, .slice none 0 0] 67)) (lo := 0) (by omega) (.int .i64 x) (.slice none 0 0) 67
    simpa using this
  refine (toBytes a cap ds _ (h.below B) hs).mono ?_
  rintro e w3 ⟨rfl, O3, hb⟩
  replace B := B.trans (hb.mono B.size)
  replace R1 := R1.below hb
  replace R2 := R2.below hb
  clear hb h
  rw [show (((w.alloc (.cells #[.int .i64 x, .slice a ds.length cap] 63)).alloc (.cells #[.int .i64 0, .slice none 0 0] 67)).alloc (.cells #[.int .i64 x, .slice none 0 0] 67)).heap.size = w.heap.size + 3 by simp] at O3 ⊢
  obtain ⟨r0, r1, rf, _⟩ := id R1
  obtain ⟨r2, r3, rg, _⟩ := id R2
  have put : ∀ {W : World} (g o : Nat) (u : Value), g < w.heap.size + 3 → RowB (w.heap.size + 3) W (.slice (some ⟨w.heap.size + 3, 0, none⟩) ds.length ds.length) ds → RowB (w.heap.size + 3) (W.setCell ⟨g, o, none⟩ u) (.slice (some ⟨w.heap.size + 3, 0, none⟩) ds.length ds.length) ds := fun {W} g o u hg q => owns_kept' q (grownBy_setCell (grownBy_refl W (some g)) rfl u) (fun k hk e => by injection e with e; injection hk with hk; dsimp only at hk; omega)
  have O4 : Hid (RowB (w.heap.size + 3) _ (.slice (some ⟨w.heap.size + 3, 0, none⟩) ds.length ds.length) ds) := put (w.heap.size + 1) 1 (.slice (some ⟨w.heap.size + 3, 0, none⟩) ds.length ds.length) (by omega) (put (w.heap.size + 1) 0 (.int .i64 x) (by omega) (put (w.heap.size + 2) 1 (.slice (some ⟨w.heap.size + 3, 0, none⟩) ds.length ds.length) (by omega) O3))
  have B4 := ((B.setCell (p := ⟨w.heap.size + 2, 1, none⟩) (by dsimp only; omega) (.slice (some ⟨w.heap.size + 3, 0, none⟩) ds.length ds.length)).setCell (p := ⟨w.heap.size + 1, 0, none⟩) (by dsimp only; omega) (.int .i64 x)).setCell (p := ⟨w.heap.size + 1, 1, none⟩) (by dsimp only; omega) (.slice (some ⟨w.heap.size + 3, 0, none⟩) ds.length ds.length)
  clear O3 B R1 R2 put
  go_wp2
  exact bodyPost_ret (v := .agg #[.int .i64 x, .slice (some ⟨w.heap.size + 3, 0, none⟩) ds.length ds.length]) (by simp [results, Tryd.results33, go_sem, r0, r1]) rfl ⟨rfl, O4.out, B4⟩

theorem wrC_store : ∀ (qs : List Wr) (vs : List Value) (i : Nat) (x : Int) (u : Value) (d : List Int), ((wrC qs vs).set (i * 2) (.int .i64 x)).set (i * 2 + 1) u = wrC (qs.set i (x, d)) (vs.set i u)
  | [], vs, i, x, u, d => by simp [wrC]
  | q :: qs, [], 0, x, u, d => by simp [wrC]
  | q :: qs, [], i + 1, x, u, d => by simp [wrC]
  | q :: qs, v :: vs, 0, x, u, d => by simp [wrC]
  | q :: qs, v :: vs, i + 1, x, u, d => by
    have := wrC_store qs vs i x u d
    simp only [List.set_cons_succ, wrC]
    rw [show (i + 1) * 2 = i * 2 + 1 + 1 by omega, List.set_cons_succ, List.set_cons_succ, List.set_cons_succ, List.set_cons_succ, this]
/-- The write i is written whole. -/
theorem QuR.store {lo g n c : Nat} {w : World} {vs : List Value} {qs : List Wr} (h : QuR lo w (.slice (some ⟨g, 0, none⟩) n c) vs qs) {i : Nat} (hi : i < qs.length) (x : Int) (u : Value) (d : List Int) (Ru : RowB lo w u d) (nu : ∀ k, u.ownBlock = some k → k ≠ g ∧ ∀ y ∈ vs, y.ownBlock ≠ some k) :
    QuR lo ((w.setCell ⟨g, i * 2, none⟩ (.int .i64 x)).setCell ⟨g, i * 2 + 1, none⟩ u) (.slice (some ⟨g, 0, none⟩) n c) (vs.set i u) (qs.set i (x, d)) ∧ w.grownBy ((w.setCell ⟨g, i * 2, none⟩ (.int .i64 x)).setCell ⟨g, i * 2 + 1, none⟩ u) (some g) := by
  have hl := h.len.out
  obtain ⟨en, _, _⟩ := h.caps
  have own := h.own
  rw [hl, ← en] at own
  obtain ⟨h1, g1⟩ := own.stored (i * 2) (.int .i64 x)
  obtain ⟨h2, g2⟩ := h1.stored (i * 2 + 1) u
  rw [wrC_store _ _ _ _ _ d] at h2
  have G := grownBy_trans g1 g2
  have mem : ∀ {y : Value} {j : Nat}, (vs.set i u)[j]? = some y → (j = i ∧ y = u) ∨ (j ≠ i ∧ vs[j]? = some y) := fun {y j} q => by
    by_cases e : i = j
    · subst e
      rw [List.getElem?_set_self (by omega)] at q
      injection q with q
      exact .inl ⟨rfl, q.symm⟩
    · rw [List.getElem?_set_ne e] at q
      exact .inr ⟨fun e' => e e'.symm, q⟩
  refine ⟨⟨by rw [List.length_set, hl, ← en]; exact h2, (by show _ = _; rw [List.length_set, List.length_set]; exact hl), fun j y hy => ?_, fun y hy k hk => ?_, fun j j' y y' hjj hj hj' k hk => ?_⟩, G⟩
  · rcases mem hy with ⟨rfl, rfl⟩ | ⟨e, q⟩
    · rw [wrN_set_same hi]
      exact owns_kept' Ru G (fun k hk e => (nu k hk).1 (by injection e with e; exact e.symm))
    · rw [wrN_set_other (Ne.symm e)]
      exact owns_kept' (h.rows j y q) G (fun k hk e => h.ne y (List.mem_of_getElem? q) k hk e)
  · obtain ⟨j, hj, e⟩ := List.getElem_of_mem hy
    rcases mem (j := j) (y := y) (by rw [List.getElem?_eq_getElem hj, e]) with ⟨_, rfl⟩ | ⟨_, q⟩
    · exact fun e => (nu k hk).1 (by injection e with e; exact e.symm)
    · exact h.ne y (List.mem_of_getElem? q) k hk
  · rcases mem hj with ⟨_, rfl⟩ | ⟨e1, q1⟩
    · rcases mem hj' with ⟨e2, _⟩ | ⟨_, q2⟩
      · omega
      · exact (nu k hk).2 y' (List.mem_of_getElem? q2)
    · rcases mem hj' with ⟨_, rfl⟩ | ⟨_, q2⟩
      · intro e
        exact (nu k e).2 y (List.mem_of_getElem? q1) hk
      · exact h.apart j j' y y' hjj q1 q2 k hk
theorem wrC_zero : ∀ n, wrC (List.replicate n (0, [])) (List.replicate n (.slice none 0 0)) = (madeCells #[.int .i64 0, .slice none 0 0] (n * 2)).toList := by
  intro n
  apply List.ext_getElem
  · rw [wrC_len _ _ (by simp)]; simp [madeCells]
  · intro i h1 h2
    have hn : i < n * 2 := by rw [wrC_len _ _ (by simp)] at h1; simpa using h1
    obtain ⟨p0, p1⟩ := wrC_at (List.replicate n ((0, []) : Wr)) (List.replicate n (.slice none 0 0)) (i / 2) (by simp) (by simp; omega)
    have hm : i = i / 2 * 2 ∨ i = i / 2 * 2 + 1 := by omega
    apply Option.some.inj
    rw [← List.getElem?_eq_getElem h1, ← List.getElem?_eq_getElem h2]
    have hi2 : i / 2 < n := by omega
    rcases hm with m | m
    · have z : i % 2 = 0 := by omega
      rw [show (wrC (List.replicate n ((0, []) : Wr)) (List.replicate n (.slice none 0 0)))[i]? = _ from (congrArg _ m).trans p0]
      simp [madeCells, wrN, z, hi2, hn]
    · have z : i % 2 = 1 := by omega
      rw [show (wrC (List.replicate n ((0, []) : Wr)) (List.replicate n (.slice none 0 0)))[i]? = _ from (congrArg _ m).trans p1]
      simp [madeCells, z, hi2, hn]

theorem QuR.start {w : World} {lo g n : Nat} (h : w.ownsRow lo 67 2 (.slice (some ⟨g, 0, none⟩) n n) n (madeCells #[.int .i64 0, .slice none 0 0] (n * 2)).toList) : QuR lo w (.slice (some ⟨g, 0, none⟩) n n) (List.replicate n (.slice none 0 0)) (List.replicate n (0, [])) := by
  have all : ∀ {i : Nat} {u : Value}, (List.replicate n (Value.slice none 0 0))[i]? = some u → u = .slice none 0 0 := fun {i u} q => by
    have := List.mem_of_getElem? q
    exact List.eq_of_mem_replicate this
  refine ⟨by rw [List.length_replicate, wrC_zero]; exact h, (by show _ = _; simp), fun i u hu => ?_, fun u hu k hk => ?_, fun i j u u' _ hi _ k hk => ?_⟩
  · rw [all hu]
    have : (wrN (List.replicate n ((0, []) : Wr)) i).2 = [] := by
      unfold wrN
      rcases Nat.lt_or_ge i n with q | q
      · rw [List.getElem?_replicate_of_lt q]; rfl
      · rw [List.getElem?_eq_none (by simpa using q)]; rfl
    rw [this]
    exact RowB.nil _ _
  · rw [List.eq_of_mem_replicate hu] at hk
    cases hk
  · rw [all hi] at hk
    cases hk

set_option maxRecDepth 20000 in
set_option maxHeartbeats 2000000 in
theorem toWrites (a : Option Addr) (cap : Nat) (qs : List Wr) (w : World) (h : SeesQ w a cap qs) (hs : uptoQ qs qs.length ≤ 1048576) :
    Calls Tryd.prog 20 #[.slice a qs.length cap] w fun e w' => e = .returned (.slice (some ⟨w.heap.size, 0, none⟩) qs.length qs.length) ∧ (∃ vs, QuR w.heap.size w' (.slice (some ⟨w.heap.size, 0, none⟩) qs.length qs.length) vs qs ∧ SomeV vs) ∧ Below w.heap.size w w' := by
  obtain ⟨i0, hi, hz0, hz1, hz2⟩ := info_parts infoW
  have hrl : qs.length ≤ 1048576 := by have := uptoQ_mono qs (Nat.zero_le qs.length); simp only [uptoQ] at this; omega
  have HS : Hid (uptoQ qs qs.length ≤ 1048576) := hs
  have HH : Hid (SeesQ w a cap qs) := h
  have hm := h.max
  have hf := h.fits
  unfold maxLen at hm
  clear hs h
  go_enter Tryd.func20, Tryd.ntmps20
  go_wp2_with (at_make; refine wpList_make_full _ rfl _ _ 32 rfl w.heap.size 67 i0 (.agg #[.int .i64 0, .slice none 0 0]) 2 Tryd.underlying32 hi hz0 hz1 .i64 .i64 _ _ qs.length rfl rfl rfl rfl ?b2 ?b3 (Nat.le_refl _) ?_)
  case b2 => rw [hz2]; omega
  case b3 => unfold maxLen; omega
  intro w0 hown0 hgrow0
  have R0 : Hid (QuR w.heap.size w0 (.slice (some ⟨w.heap.size, 0, none⟩) qs.length qs.length) (List.replicate qs.length (.slice none 0 0)) (List.replicate qs.length (0, []))) := QuR.start hown0
  have hb0 : Below w.heap.size w w0 := (Below.refl _ _).grown hgrow0 (Nat.le_refl _) (fun k h => by cases h)
  clear hown0 hgrow0 hi hz0 hz1 hz2
  go_wp2
  go_loopw [4] (fun i wr => ∃ (j : Nat) (vs : List Value) (zs : List Wr), j ≤ qs.length ∧ i = .int .i64 j ∧ Hid (zs.length = qs.length) ∧ Hid ((∀ k, k < j → wrN zs k = wrN qs k) ∧ ∀ k, k < j → ∃ ad l c, vs[k]? = some (.slice (some ad) l c)) ∧ Hid (QuR w.heap.size wr (.slice (some ⟨w.heap.size, 0, none⟩) qs.length qs.length) vs zs) ∧ Below w.heap.size w wr) (fun i _ => qs.length - (intOf i).toNat)
  case atStart => exact ⟨0, _, _, Nat.zero_le _, rfl, (by show _ = _; simp), ⟨fun k hk => absurd hk (by omega), fun k hk => absurd hk (by omega)⟩, R0, hb0⟩
  case round =>
    clear R0 hb0
    obtain ⟨j, vs, zs, hj, rfl, hz, hk, R, B⟩ := hrel
    rename World => wr
    by_cases hlt : j < qs.length
    · obtain ⟨b1, o1, rfl, hc⟩ := (HH.out.below B).cells (by intro e; simp [e] at hlt)
      obtain ⟨a', c', g1, g2, sb⟩ := hc j hlt
      have hrow := uptoQ_row qs hlt
      have HR : Hid ((wrN qs j).2.length ≤ 1048576) := by show _ ≤ _; have := HS.out; omega
      have SB : Hid (SeesB wr a' c' (wrN qs j).2) := sb
      have gl : w.heap.size < wr.heap.size := (R.out.lts.1 w.heap.size rfl).2
      have HK : Hid (∀ W x ds, wrN qs j = (x, ds) → QuR w.heap.size W (.slice (some ⟨w.heap.size, 0, none⟩) qs.length qs.length) (vs.set j (.slice (some ⟨wr.heap.size + 3, 0, none⟩) ds.length ds.length)) (zs.set j (x, ds)) → ∃ vs' zs', Hid (zs'.length = qs.length) ∧ Hid ((∀ k, k < j + 1 → wrN zs' k = wrN qs k) ∧ ∀ k, k < j + 1 → ∃ ad l c, vs'[k]? = some (.slice (some ad) l c)) ∧ Hid (QuR w.heap.size W (.slice (some ⟨w.heap.size, 0, none⟩) qs.length qs.length) vs' zs')) := fun W x ds e Q => by
        refine ⟨_, _, (by show _ = _; rw [List.length_set]; exact hz.out), ⟨fun k hk' => ?_, fun k hk' => ?_⟩, Q⟩
        · by_cases e2 : j = k
          · subst e2
            rw [wrN_set_same (by rw [hz.out]; exact hlt), e]
          · rw [wrN_set_other e2]
            exact hk.out.1 k (by omega)
        · by_cases e2 : j = k
          · subst e2
            exact ⟨_, _, _, List.getElem?_set_self (by have := R.out.len.out; have := hz.out; omega)⟩
          · rw [List.getElem?_set_ne e2]
            exact hk.out.2 k (by omega)
      have hjz : Hid (j < zs.length) := by show _ < _; rw [hz.out]; exact hlt
      obtain ⟨q, eq⟩ : ∃ q, Hid (wrN qs j = q) := ⟨_, rfl⟩
      rw [eq.out] at g1 g2 HR SB
      obtain ⟨x, ds⟩ := q
      dsimp only at g1 g2 HR SB
      clear hc hrow sb hz hk
      go_wp2_with fail
      refine (toWrite_any x a' c' ds _ SB.out HR.out).mono ?_
      rintro e w3 ⟨rfl, R3, hb⟩
      have Q3 := R.out.below hb
      obtain ⟨q1, q2⟩ := QuR.store Q3 (i := j) hjz.out x (.slice (some ⟨wr.heap.size + 3, 0, none⟩) ds.length ds.length) ds (row_base R3 (by omega)) (fun k hk => ⟨by injection hk with hk; dsimp only at hk; omega, fun y hy e => by have := (R.out.lts.2 y hy k e).2; injection hk with hk; dsimp only at hk; omega⟩)
      obtain ⟨vs', zs', z1, z2, z3⟩ := HK.out _ x ds eq.out q1
      obtain ⟨g, c0, a4, c4, e, _, d0, d1, _, fz⟩ := Q3.at' (i := j) hjz.out
      injection e with e1 e2 e3
      injection e1 with e1
      injection e1 with e1
      subst e1
      have B3 := (B.trans (hb.mono B.size)).setCell (p := ⟨w.heap.size, j * 2, none⟩) (Nat.le_refl _) (.int .i64 x)
      have B4 := B3.setCell (p := ⟨w.heap.size, j * 2 + 1, none⟩) (Nat.le_refl _) (.slice (some ⟨wr.heap.size + 3, 0, none⟩) ds.length ds.length)
      have d1' : (w3.setCell ⟨w.heap.size, j * 2, none⟩ (.int .i64 x)).cell? ⟨w.heap.size, j * 2 + 1, none⟩ = _ := (cell_other (.inr (by simp)) _).trans d1
      clear q1 q2 Q3 R3 hb B B3 HK R g1 g2 e2 e3 SB
      generalize Value.slice a4 (wrN zs j).2.length c4 = y1 at *
      generalize (wrN zs j).1 = y0 at *
      go_wp2_with fail
      go_roundw
      case rel => exact ⟨j + 1, vs', zs', by omega, by go_num, z1, z2, z3, B4⟩
      case measure => simp [intOf]; omega
    · obtain rfl : j = qs.length := by omega
      have e : zs = qs := by
        refine List.ext_getElem hz.out fun i h1 h2 => ?_
        have := hk.out.1 i h2
        unfold wrN at this
        rw [List.getElem?_eq_getElem h1, List.getElem?_eq_getElem h2] at this
        exact this
      have RR := R.out
      have SV : Hid (SomeV vs) := fun u hu => by
        obtain ⟨i, hi, e⟩ := List.getElem_of_mem hu
        obtain ⟨ad, l, c, q⟩ := hk.out.2 i (by have := R.out.len.out; have := hz.out; omega)
        rw [List.getElem?_eq_getElem hi, e] at q
        injection q with q
        exact ⟨ad, l, c, q⟩
      rw [e] at RR
      have R5 : Hid (QuR w.heap.size wr (.slice (some ⟨w.heap.size, 0, none⟩) qs.length qs.length) vs qs) := RR
      clear RR R hz hk e
      go_wp2
      go_ret
      exact ⟨rfl, ⟨_, R5.out, SV.out⟩, B⟩

set_option maxHeartbeats 1000000 in
theorem toDisk_any (a a2 : Option Addr) (c c2 : Nat) (bs : List Int) (qs : List Wr) (w : World) (h : SeesB w a c bs) (k : SeesQ w a2 c2 qs) (hb1 : bs.length ≤ 1048576) (hs : uptoQ qs qs.length ≤ 1048576) :
    Calls Tryd.prog 6 #[.agg #[.slice a bs.length c, .slice a2 qs.length c2]] w fun e w' => ∃ a' b' vs, e = .returned (.agg #[.slice (some a') bs.length bs.length, .slice b' qs.length qs.length]) ∧ DkR w.heap.size w' (.slice (some a') bs.length bs.length) (.slice b' qs.length qs.length) vs bs qs ∧ SomeV vs ∧ Below w.heap.size w w' := by
  have B := below3 w (.cells #[.slice a bs.length c, .slice a2 qs.length c2] 25) (.cells #[.slice none 0 0, .slice none 0 0] 34) (.cells #[.slice none 0 0, .slice none 0 0] 34)
  have KW : Hid (SeesQ w a2 c2 qs) := k
  have K1 : Hid (SeesQ (((w.alloc (.cells #[.slice a bs.length c, .slice a2 qs.length c2] 25)).alloc (.cells #[.slice none 0 0, .slice none 0 0] 34)).alloc (.cells #[.slice none 0 0, .slice none 0 0] 34)) a2 c2 qs) := k.below B
  have HS : Hid (uptoQ qs qs.length ≤ 1048576) := hs
  clear hs k
  go_enter Tryd.func6, Tryd.ntmps6
  go_wp2_with fail
  have R0 : Box2 0 (((w.alloc (.cells #[.slice a bs.length c, .slice a2 qs.length c2] 25)).alloc (.cells #[.slice none 0 0, .slice none 0 0] 34)).alloc (.cells #[.slice none 0 0, .slice none 0 0] 34)) w.heap.size (.slice a bs.length c) (.slice a2 qs.length c2) :=
    ((Box2.new w (lo := 0) (by omega) (.slice a bs.length c) (.slice a2 qs.length c2) 25).below (below1 _ _)).below (below1 _ _)
  have R1 : Box2 0 (((w.alloc (.cells #[.slice a bs.length c, .slice a2 qs.length c2] 25)).alloc (.cells #[.slice none 0 0, .slice none 0 0] 34)).alloc (.cells #[.slice none 0 0, .slice none 0 0] 34)) (w.heap.size + 1) (.slice none 0 0) (.slice none 0 0) := by
    have := (Box2.new (w.alloc (.cells #[.slice a bs.length c, .slice a2 qs.length c2] 25)) (lo := 0) (by omega) (.slice none 0 0) (.slice none 0 0) 34).below (below1 _ (.cells #[.slice none 0 0, .slice none 0 0] 34))
    simpa using this
  have R2 : Box2 0 (((w.alloc (.cells #[.slice a bs.length c, .slice a2 qs.length c2] 25)).alloc (.cells #[.slice none 0 0, .slice none 0 0] 34)).alloc (.cells #[.slice none 0 0, .slice none 0 0] 34)) (w.heap.size + 2) (.slice none 0 0) (.slice none 0 0) := by
    have := Box2.new ((w.alloc (.cells #[.slice a bs.length c, .slice a2 qs.length c2] 25)).alloc (.cells #[.slice none 0 0, .slice none 0 0] 34)) (lo := 0) (by omega) (.slice none 0 0) (.slice none 0 0) 34
    simpa using this
  refine (toBytes a c bs _ (h.below B) hb1).mono ?_
  rintro e w3 ⟨rfl, O3, hb⟩
  have K5 : ∀ o u, Hid (SeesQ (w3.setCell ⟨w.heap.size + 2, o, none⟩ u) a2 c2 qs) := fun o u => KW.out.below (((B.trans (hb.mono B.size))).setCell (p := ⟨w.heap.size + 2, o, none⟩) (by dsimp only; omega) u)
  replace B := B.trans (hb.mono B.size)
  replace R0 := R0.below hb
  replace R1 := R1.below hb
  replace R2 := R2.below hb
  clear hb h K1
  rw [show (((w.alloc (.cells #[.slice a bs.length c, .slice a2 qs.length c2] 25)).alloc (.cells #[.slice none 0 0, .slice none 0 0] 34)).alloc (.cells #[.slice none 0 0, .slice none 0 0] 34)).heap.size = w.heap.size + 3 by simp] at O3 ⊢
  obtain ⟨z0, z1, zf, _⟩ := id R0
  obtain ⟨r2, r3, rg, _⟩ := id R2
  have lt3 := (World.ownsRow.lt O3 (w.heap.size + 3) rfl).2
  have put : ∀ {W : World} (g o : Nat) (u : Value), g < w.heap.size + 3 → RowB (w.heap.size + 3) W (.slice (some ⟨w.heap.size + 3, 0, none⟩) bs.length bs.length) bs → RowB (w.heap.size + 3) (W.setCell ⟨g, o, none⟩ u) (.slice (some ⟨w.heap.size + 3, 0, none⟩) bs.length bs.length) bs := fun {W} g o u hg q => owns_kept' q (grownBy_setCell (grownBy_refl W (some g)) rfl u) (fun k hk e => by injection e with e; injection hk with hk; dsimp only at hk; omega)
  have O4 : Hid (RowB (w.heap.size + 3) _ (.slice (some ⟨w.heap.size + 3, 0, none⟩) bs.length bs.length) bs) := put (w.heap.size + 2) 0 (.slice (some ⟨w.heap.size + 3, 0, none⟩) bs.length bs.length) (by omega) O3
  have B4 := B.setCell (p := ⟨w.heap.size + 2, 0, none⟩) (by dsimp only; omega) (.slice (some ⟨w.heap.size + 3, 0, none⟩) bs.length bs.length)
  have R4 : Box2 0 (w3.setCell ⟨w.heap.size + 2, 0, none⟩ (.slice (some ⟨w.heap.size + 3, 0, none⟩) bs.length bs.length)) (w.heap.size + 2) (.slice (some ⟨w.heap.size + 3, 0, none⟩) bs.length bs.length) (.slice none 0 0) :=
    ⟨cell_same R2.c0 _, (cell_other (.inr (by simp)) _).trans R2.c1, fun o => (World.frozen?_setCell ..).trans (R2.fr o), R2.lo⟩
  have R5 : Box2 0 (w3.setCell ⟨w.heap.size + 2, 0, none⟩ (.slice (some ⟨w.heap.size + 3, 0, none⟩) bs.length bs.length)) (w.heap.size + 1) (.slice none 0 0) (.slice none 0 0) :=
    ⟨(cell_other (.inl (by simp)) _).trans R1.c0, (cell_other (.inl (by simp)) _).trans R1.c1, fun o => (World.frozen?_setCell ..).trans (R1.fr o), R1.lo⟩
  have z1' : (w3.setCell ⟨w.heap.size + 2, 0, none⟩ (.slice (some ⟨w.heap.size + 3, 0, none⟩) bs.length bs.length)).cell? ⟨w.heap.size, 1, none⟩ = _ := (cell_other (.inl (by simp)) _).trans z1
  have K4 : Hid (SeesQ (w3.setCell ⟨w.heap.size + 2, 0, none⟩ (.slice (some ⟨w.heap.size + 3, 0, none⟩) bs.length bs.length)) a2 c2 qs) := K5 _ _
  clear O3 B R0 R1 R2 K5
  go_wp2_with fail
  refine (toWrites a2 c2 qs _ K4.out HS.out).mono ?_
  rintro e w5 ⟨rfl, ⟨vs, Q5, SV5⟩, hb⟩
  have SV6 : Hid (SomeV vs) := SV5
  clear SV5
  rw [show (w3.setCell ⟨w.heap.size + 2, 0, none⟩ (.slice (some ⟨w.heap.size + 3, 0, none⟩) bs.length bs.length)).heap.size = w3.heap.size by simp] at Q5 ⊢
  have B5 := B4.trans (hb.mono B4.size)
  have O5 := O4.out.below hb
  obtain ⟨q0, q1, qf, _⟩ := R4.below hb
  obtain ⟨p0, p1, pf, _⟩ := R5.below hb
  clear hb z1' r2 r3 rg z0 z1 zf O4 B4 R4 R5 K4
  have putQ : ∀ {W : World} (g o : Nat) (u : Value), g < w.heap.size + 3 → QuR w3.heap.size W (.slice (some ⟨w3.heap.size, 0, none⟩) qs.length qs.length) vs qs → QuR w3.heap.size (W.setCell ⟨g, o, none⟩ u) (.slice (some ⟨w3.heap.size, 0, none⟩) qs.length qs.length) vs qs := fun {W} g o u hg q => q.kept (grownBy_setCell (grownBy_refl W (some g)) rfl u) (fun k hk e => by injection e with e; have := (q.lts.1 k hk).1; omega) (fun y hy k hk e => by injection e with e; have := (q.lts.2 y hy k hk).1; omega)
  have O6 := put (w.heap.size + 1) 1 (.slice (some ⟨w3.heap.size, 0, none⟩) qs.length qs.length) (by omega) (put (w.heap.size + 1) 0 (.slice (some ⟨w.heap.size + 3, 0, none⟩) bs.length bs.length) (by omega) (put (w.heap.size + 2) 1 (.slice (some ⟨w3.heap.size, 0, none⟩) qs.length qs.length) (by omega) O5))
  have Q6 := putQ (w.heap.size + 1) 1 (.slice (some ⟨w3.heap.size, 0, none⟩) qs.length qs.length) (by omega) (putQ (w.heap.size + 1) 0 (.slice (some ⟨w.heap.size + 3, 0, none⟩) bs.length bs.length) (by omega) (putQ (w.heap.size + 2) 1 (.slice (some ⟨w3.heap.size, 0, none⟩) qs.length qs.length) (by omega) Q5))
  have B6 := ((B5.setCell (p := ⟨w.heap.size + 2, 1, none⟩) (by dsimp only; omega) (.slice (some ⟨w3.heap.size, 0, none⟩) qs.length qs.length)).setCell (p := ⟨w.heap.size + 1, 0, none⟩) (by dsimp only; omega) (.slice (some ⟨w.heap.size + 3, 0, none⟩) bs.length bs.length)).setCell (p := ⟨w.heap.size + 1, 1, none⟩) (by dsimp only; omega) (.slice (some ⟨w3.heap.size, 0, none⟩) qs.length qs.length)
  have D6 : Hid (DkR w.heap.size _ (.slice (some ⟨w.heap.size + 3, 0, none⟩) bs.length bs.length) (.slice (some ⟨w3.heap.size, 0, none⟩) qs.length qs.length) vs bs qs) := ⟨row_base O6 (by omega), Q6.base (by omega), fun k hk => by
    injection hk with hk
    dsimp only at hk
    exact ⟨fun e => by injection e with e; dsimp only at e; omega, fun u hu e => by have := (Q6.lts.2 u hu k e).1; omega⟩⟩
  clear put putQ O6 Q6 O5 Q5 B5
  go_wp2
  exact bodyPost_ret (v := .agg #[.slice (some ⟨w.heap.size + 3, 0, none⟩) bs.length bs.length, .slice (some ⟨w3.heap.size, 0, none⟩) qs.length qs.length]) (by simp [results, Tryd.results6, go_sem, p0, p1]) rfl ⟨_, _, _, rfl, D6.out, SV6.out, B6⟩
end Go.Proofs.YtgcaemhcdpddiaaDoor

/- An operation of a region that draws its order, taken first. -/
namespace Go.Proofs.YtgcaemhcdpddiaaDoor

theorem sA {l : List Value} {i : Nat} {a : Value} : l.toArray.setIfInBounds i a = (l.set i a).toArray := List.setIfInBounds_toArray ..
theorem sB {a b : Value} {l : List Value} : (a :: l).set 0 b = b :: l := rfl
theorem sC {a b : Value} {l : List Value} {n : Nat} : (a :: l).set (n + 1) b = a :: l.set n b := rfl
theorem takeQ {P : Program} {ops : Array Oper} {Q : Exit → Act → World → Prop} {md : Region.Mode} {S : World → Prop} {i : Nat} {oi : Oper} {v : Value} {fuel : Nat} {listed : Array Bool} {a : Act} {w : World} (hi : ops[i]? = some oi)
    (hf : (Region.noSelect ops && Region.free md ops listed i && (Region.ready md ops listed).contains i) = true)
    (hQ : ∀ c a w, Q (.panic c) (a.put oi.dst v) w → Q (.panic c) a w) (hw : Region.wanted oi (yielded ops a.tmps) = true)
    (hy : ∀ w, S w → (execOp a.eval oi).run P w = .ok (.value v) w) (hS : S w)
    (h : wpAnyH P md ops Q S fuel (listed.setIfInBounds i true) (a.put oi.dst v) w) : wpAnyH P md ops Q S (fuel + 1) listed a w := by
  simp only [Bool.and_eq_true] at hf
  exact wpAnyH_take hi hf.1.1 hf.1.2 hf.2 hQ (Or.inl ⟨hw, hy⟩) hS h
end Go.Proofs.YtgcaemhcdpddiaaDoor

/- An operation of a region that draws its order, taken first: one that is wanted, one that is not. -/
namespace Go.Proofs.YtgcaemhcdpddiaaDoor

theorem takeW {P : Program} {ops : Array Oper} {Q : Exit → Act → World → Prop} {md : Region.Mode} {S : World → Prop} {i : Nat} {oi : Oper} {v : Value} {fuel : Nat} {listed : Array Bool} {a : Act} {w : World} (hi : ops[i]? = some oi)
    (hs : Region.noSelect ops = true) (hf : Region.free md ops listed i = true) (hr : (Region.ready md ops listed).contains i = true)
    (hQ : ∀ c a w, Q (.panic c) (a.put oi.dst v) w → Q (.panic c) a w) (hw : Region.wanted oi (yielded ops a.tmps) = true)
    (hy : ∀ w, S w → (execOp a.eval oi).run P w = .ok (.value v) w) (hS : S w)
    (h : wpAnyH P md ops Q S fuel (listed.setIfInBounds i true) (a.put oi.dst v) w) : wpAnyH P md ops Q S (fuel + 1) listed a w :=
  wpAnyH_take hi hs hf hr hQ (Or.inl ⟨hw, hy⟩) hS h
theorem takeN {P : Program} {ops : Array Oper} {Q : Exit → Act → World → Prop} {md : Region.Mode} {S : World → Prop} {i : Nat} {oi : Oper} {fuel : Nat} {listed : Array Bool} {a : Act} {w : World} (hi : ops[i]? = some oi)
    (hs : Region.noSelect ops = true) (hf : Region.free md ops listed i = true) (hr : (Region.ready md ops listed).contains i = true)
    (hQ : ∀ c a w, Q (.panic c) (a.put oi.dst undef) w → Q (.panic c) a w) (hw : Region.wanted oi (yielded ops a.tmps) = false) (hS : S w)
    (h : wpAnyH P md ops Q S fuel (listed.setIfInBounds i true) (a.put oi.dst undef) w) : wpAnyH P md ops Q S (fuel + 1) listed a w :=
  wpAnyH_take hi hs hf hr hQ (Or.inr ⟨hw, rfl⟩) hS h
end Go.Proofs.YtgcaemhcdpddiaaDoor
