/- A stack of trees at work, as an iterator keeps it: what it is, what taking one off and putting its kids on makes of it. -/
import Derived.Test.YtdkhaghcnijilaaGreatTfW
import Derived.Test.YtdkhaghcnijilaaGreatTrM
import Derived.Test.YtdkhaghcnijilaaGreatTrJ
namespace Go.Proofs.YtdkhaghcnijilaaGreat
open Go.RowKit

/-- The least number of which this holds (0 where there is none). -/
noncomputable def leastN (p : Nat → Prop) : Nat := Classical.epsilon (fun k => p k ∧ ∀ j, p j → k ≤ j)
theorem least_ex {p : Nat → Prop} : ∀ k, p k → ∃ m, p m ∧ ∀ j, p j → m ≤ j := by
  intro k
  induction k using Nat.strongRecOn with
  | ind k ih =>
    intro h
    by_cases c : ∃ j, j < k ∧ p j
    · obtain ⟨j, hj, hp⟩ := c
      exact ih j hj hp
    · exact ⟨k, h, fun j hj => Nat.le_of_not_lt (fun e => c ⟨j, e, hj⟩)⟩
theorem least_at {p : Nat → Prop} (h : ∃ k, p k) : p (leastN p) ∧ ∀ j, p j → leastN p ≤ j := by
  obtain ⟨k, hk⟩ := h
  exact Classical.epsilon_spec (least_ex k hk)
theorem least_lt {p q : Nat → Prop} {k : Nat} (h : q k) (hk : k < leastN p) : leastN q < leastN p := Nat.lt_of_le_of_lt ((least_at ⟨k, h⟩).2 k h) hk

/-- Pointers stay where the rows of pointers do. -/
theorem RowWp.heap {base : Nat} {w w' : World} {v : Value} {qs : List Ptr} (h : RowWp base w v qs) (q : ∀ (g : Nat) (cs : Array Value), w.heap[g]? = some (.cells cs 63 (0, 0)) → w'.heap[g]? = w.heap[g]?) : RowWp base w' v qs := by
  rcases h.2 with ⟨hv, h0⟩ | ⟨g, cap', cur, hv, hb, hh, r⟩
  · exact ⟨h.1, .inl ⟨hv, h0⟩⟩
  · exact ⟨h.1, .inr ⟨g, cap', cur, hv, hb, (q g cur hh).trans hh, r⟩⟩
theorem RowWp.ty {base : Nat} {w : World} {v : Value} {qs : List Ptr} (h : RowWp base w v qs) (k : Nat) (hk : v.ownBlock = some k) : ∃ cs : Array Value, w.heap[k]? = some (.cells cs 63 (0, 0)) := by
  rcases h.2 with ⟨hv, h0⟩ | ⟨g, cap', cur, hv, hb, hh, r⟩
  · rw [hv] at hk; cases hk
  · rw [hv] at hk
    injection hk with hk
    exact ⟨cur, by rw [← hk]; exact hh⟩
theorem RowWp.one (w : World) {base : Nat} (h : base ≤ w.heap.size) (p : Nat) : RowWp base (w.alloc (.cells #[.pointer (some ⟨p, 0, none⟩)] 63)) (.slice (some ⟨w.heap.size, 0, none⟩) 1 1) [(p, 0)] :=
  ⟨rfl, .inr ⟨w.heap.size, 1, #[.pointer (some ⟨p, 0, none⟩)], rfl, h, heap_alloc_new _ _, Nat.le_refl _, by simp [maxLen], rfl, rfl⟩⟩
/-- The last one is left out. -/
theorem RowWp.pop {base : Nat} {w : World} {a : Option Addr} {n c : Nat} {qs : List Ptr} {q : Ptr} (h : RowWp base w (.slice a n c) (qs ++ [q])) : RowWp base w (.slice a qs.length c) qs := by
  rcases h.2 with ⟨hv, h0⟩ | ⟨g, cap', cur, hv, hb, hh, hf, hm, hs, ht⟩
  · simp at h0
  · injection hv with e1 e2 e3
    subst e1 e3
    rw [List.length_append, List.length_singleton] at hf ht
    refine ⟨by simp, .inr ⟨g, c, cur, rfl, hb, hh, by omega, hm, hs, ?_⟩⟩
    have h2 := congrArg (List.take qs.length) ht
    rw [List.take_take, List.map_append, List.take_append_of_le_length (by simp), List.take_of_length_le (by simp : (qs.map ptV).length ≤ qs.length)] at h2
    rw [show min qs.length ((qs.length + 1) * 1) = qs.length by omega] at h2
    rw [Nat.mul_one]
    exact h2
theorem RowWp.at {base : Nat} {w : World} {a : Option Addr} {n c : Nat} {qs : List Ptr} {q : Ptr} (h : RowWp base w (.slice a n c) (qs ++ [q])) : ∃ g, a = some ⟨g, 0, none⟩ ∧ n = qs.length + 1 ∧ n ≤ c ∧ c ≤ maxLen ∧ w.cell? ⟨g, qs.length, none⟩ = some (ptV q) := by
  rcases h.2 with ⟨hv, h0⟩ | ⟨g, cap', cur, hv, hb, hh, hf, hm, hs, ht⟩
  · simp at h0
  · injection hv with e1 e2 e3
    subst e1 e2 e3
    rw [List.length_append, List.length_singleton] at hf ht ⊢
    have hk : ((qs ++ [q]).map ptV)[qs.length]? = some (ptV q) := by simp
    rw [← ht, List.getElem?_take_of_lt (by omega)] at hk
    exact ⟨g, rfl, rfl, hf, hm, (cell_of_row w g _ _ _ _ hh).trans (by simpa using hk)⟩
theorem WkL.pop {w : World} {qs : List Ptr} {q : Ptr} {ts : List Nd} {t : Nd} (h : WkL w (qs ++ [q]) (ts ++ [t])) : WkL w qs ts ∧ q.2 = 0 ∧ WkAt w q.1 t := by
  have hl : qs.length = ts.length := by have := h.1; simp at this; exact this
  have hn := h.2 ts.length (by simp)
  rw [ptAt_snoc, if_pos hl.symm, ndA_append, if_neg (by omega), Nat.sub_self] at hn
  refine ⟨⟨hl, fun i hi => ?_⟩, hn⟩
  have hi2 := h.2 i (by simp; omega)
  rw [ptAt_snoc, if_neg (by omega), ndA_append, if_pos hi] at hi2
  exact hi2

/-- The trees on the stack: k tells how much is left to come. -/
structure OvS (w : World) (b : Nat) (J : List Int → World → Prop) (wn : Bx) (tot : List Int) (k : Nat) (pre : List Int) (v : Value) (sq : List Ptr) (st : List Nd) (W : World) : Prop where
  row : RowWp b W v sq
  wk : WkL w sq st
  hd : ∀ x ∈ st, ∃ top d, Hd top x d
  j : J pre W
  pm : (pre ++ fdV.fdL wn st).Perm tot
  sz : st.length + ndSz.ndsSz st = k
  le : k ≤ 1048577
  bel : Below b w W
def OvR (w : World) (b : Nat) (J : List Int → World → Prop) (wn : Bx) (tot : List Int) (v : Value) (W : World) (k : Nat) : Prop := ∃ pre sq st, OvS w b J wn tot k pre v sq st W
theorem hd_kids {t : Nd} (h : ∃ top d, Hd top t d) : ∀ x ∈ t.ks, ∃ top d, Hd top x d := by
  obtain ⟨top, d, h⟩ := h
  obtain ⟨b, bs, is, ks⟩ := t
  cases d with
  | zero =>
    obtain ⟨h1, _⟩ := h
    intro x hx
    rw [show Nd.ks (.mk b bs is ks) = ks from rfl] at hx
    rw [show ks = [] from h1] at hx
    cases hx
  | succ d => exact fun x hx => ⟨false, d, h.2.2 x hx⟩
theorem OvS.two {w : World} {b : Nat} {J : List Int → World → Prop} {wn : Bx} {tot : List Int} {k : Nat} {pre : List Int} {v : Value} {sq : List Ptr} {st : List Nd} {W : World} (h : OvS w b J wn tot k pre v sq st W) : (sq = [] ∧ st = []) ∨ ∃ sq' q st' t, sq = sq' ++ [q] ∧ st = st' ++ [t] := by
  have hl := h.wk.1
  rcases List.eq_nil_or_concat sq with e | ⟨sq', q, e⟩
  · left
    subst e
    exact ⟨rfl, List.eq_nil_of_length_eq_zero hl.symm⟩
  · right
    rcases List.eq_nil_or_concat st with e2 | ⟨st', t, e2⟩
    · subst e e2; simp at hl
    · exact ⟨sq', q, st', t, by rw [e, List.concat_eq_append], by rw [e2, List.concat_eq_append]⟩
theorem fd_all {wn : Bx} {pre tot : List Int} (h : (pre ++ fdV.fdL wn []).Perm tot) : pre.Perm tot := by simpa [fdV.fdL] using h
/-- What a node on the stack has to tell is no more than is left. -/
theorem fd_room {wn : Bx} {b : Bx} {bs : List Bx} {is : List Int} {ks st : List Nd} {pre tot : List Int} (h : (pre ++ fdV.fdL wn (st ++ [.mk b bs is ks])).Perm tot) : pre.length + (fdI wn bs is is.length).length ≤ tot.length := by
  have := h.length_eq
  rw [fdL_app] at this
  simp only [fdV.fdL, fdV, List.append_nil, List.length_append] at this
  omega
theorem fdI_mono (wn : Bx) (bs : List Bx) (is : List Int) {m n : Nat} (h : m ≤ n) : (fdI wn bs is m).length ≤ (fdI wn bs is n).length := by
  induction n with
  | zero => obtain rfl : m = 0 := by omega
            exact Nat.le_refl _
  | succ n ih =>
    rcases Nat.eq_or_lt_of_le h with e | e
    · rw [e]; exact Nat.le_refl _
    · have := ih (by omega)
      simp only [fdI, List.length_append]
      omega
/-- What is barred is taken off, nothing comes. -/
theorem OvS.bar {w : World} {b : Nat} {J : List Int → World → Prop} {wn : Bx} {tot : List Int} {k : Nat} {pre : List Int} {a : Option Addr} {n c : Nat} {sq : List Ptr} {q : Ptr} {st : List Nd} {t : Nd} {W : World} (h : OvS w b J wn tot k pre (.slice a n c) (sq ++ [q]) (st ++ [t]) W) (ho : ovX t.b wn = false) : ∃ k', k' < k ∧ OvS w b J wn tot k' pre (.slice a sq.length c) sq st W := by
  obtain ⟨top, d, hd⟩ := h.hd t (by simp)
  have e := fd_none hd ho
  have s := h.sz
  have l := h.le
  rw [sz_app, List.length_append, List.length_singleton] at s
  refine ⟨st.length + ndSz.ndsSz st, by omega, ⟨h.row.pop, h.wk.pop.1, fun x hx => h.hd x (by simp [hx]), h.j, ?_, rfl, by omega, h.bel⟩⟩
  have p := h.pm
  rw [fdL_app] at p
  simp only [fdV.fdL, e, List.append_nil] at p
  exact p
/-- A node is taken off, its kids are put on. -/
theorem OvS.next {w : World} {b : Nat} {J : List Int → World → Prop} {wn : Bx} {tot : List Int} {k : Nat} {pre : List Int} {v v' : Value} {sq qk : List Ptr} {q : Ptr} {st : List Nd} {t : Nd} {W W' : World} (h : OvS w b J wn tot k pre v (sq ++ [q]) (st ++ [t]) W) (hk : WkL w qk t.ks) (R : RowWp b W' v' (sq ++ qk)) (hj : J (pre ++ fdI wn t.bs t.is t.is.length) W') (hb : Below b w W') : ∃ k', k' < k ∧ OvS w b J wn tot k' (pre ++ fdI wn t.bs t.is t.is.length) v' (sq ++ qk) (st ++ t.ks) W' := by
  have s := h.sz
  have l := h.le
  have s2 := sz_ks t
  have s3 : ndSz.ndsSz [t] = ndSz t := by simp [ndSz.ndsSz]
  rw [sz_app, List.length_append, List.length_singleton, s3] at s
  refine ⟨(st ++ t.ks).length + ndSz.ndsSz (st ++ t.ks), ?_, ⟨R, h.wk.pop.1.app hk, fun x hx => ?_, hj, ?_, rfl, ?_, hb⟩⟩
  · rw [sz_app, List.length_append]; omega
  · rcases List.mem_append.1 hx with hx | hx
    · exact h.hd x (by simp [hx])
    · exact hd_kids (h.hd t (by simp)) x hx
  · have p := h.pm
    obtain ⟨bb, bs, is, ks⟩ := t
    exact fd_pop p
  · rw [sz_app, List.length_append]; omega
theorem OvS.len {w : World} {b : Nat} {J : List Int → World → Prop} {wn : Bx} {tot : List Int} {k : Nat} {pre : List Int} {v : Value} {sq : List Ptr} {st : List Nd} {W : World} (h : OvS w b J wn tot k pre v sq st W) : sq.length ≤ 1048577 := by
  have := h.sz
  have := h.le
  have := h.wk.1
  omega
end Go.Proofs.YtdkhaghcnijilaaGreat
