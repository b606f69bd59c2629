import Derived.Test.YtdkhaghcnijilaaGreatTrV
import Derived.Test.YtdkhaghcnijilaaGreatTrM
import Derived.Test.YtdkhaghcnijilaaGreatTrX
import Derived.Test.YtdkhaghcnijilaaGreatTrY
/- What stays of nodes at work while one variable and one row are written. -/
namespace Go.Proofs.YtdkhaghcnijilaaGreat
open Go.RowKit

theorem Plain.fr {w : World} {p : Nat} (h : Plain w p) (o : Nat) : w.frozen? ⟨p, o, none⟩ = false := by
  obtain ⟨cs, T, e⟩ := h
  unfold World.frozen?
  rw [e]
  simp
/-- What nodes at work hold in the first cell of a block. -/
def Rd : Value → Prop
  | .int _ _ => True
  | .pointer (some _) => True
  | _ => False
/-- Every cell stays but a slice (nil, a flag) in the first cell of a block; blocks of cells do. -/
structure Kp (w w' : World) : Prop where
  c : ∀ b k v, w.cell? ⟨b, k, none⟩ = some v → (k = 0 → Rd v) → w'.cell? ⟨b, k, none⟩ = some v
  p : ∀ b, Plain w b → Plain w' b
theorem Kp.refl (w : World) : Kp w w := ⟨fun _ _ _ h _ => h, fun _ h => h⟩
theorem Kp.trans {a b c : World} (h : Kp a b) (k : Kp b c) : Kp a c := ⟨fun _ _ _ e n => k.c _ _ _ (h.c _ _ _ e n) n, fun _ q => k.p _ (h.p _ q)⟩
theorem Kp.below {w w' : World} (hb : Below w.heap.size w w') : Kp w w' := ⟨fun _ _ _ h _ => bat hb h, fun _ h => h.below hb⟩
theorem Kp.obj {w : World} {q : Nat} (h : ∀ cs T f, w.heap[q]? ≠ some (.cells cs T f)) (o : Obj) : Kp w (w.putObj q o) := by
  constructor
  · intro b k v e _
    have ne : b ≠ q := by
      rintro rfl
      unfold World.cell? at e
      dsimp only at e
      split at e
      · rename_i h2; exact h _ _ _ h2
      · cases e
    rw [World.cell?_of_block (World.putObj_heap_other ne)]
    exact e
  · rintro b ⟨cs, T, e⟩
    have ne : b ≠ q := by
      rintro rfl
      exact h _ _ _ e
    exact ⟨cs, T, (World.putObj_heap_other ne).trans e⟩
theorem Kp.loop {w : World} {q : Nat} {L : Loop} (h : w.heap[q]? = some (.loop L)) (o : Obj) : Kp w (w.putObj q o) := Kp.obj (fun _ _ _ e => by rw [h] at e; cases e) o
theorem Kp.put {w : World} {p : Nat} {v0 : Value} (h : w.cell? ⟨p, 0, none⟩ = some v0) (n : ¬ Rd v0) (u : Value) : Kp w (w.setCell ⟨p, 0, none⟩ u) := by
  refine ⟨fun b k v e nv => ?_, fun b hb => hb.put u⟩
  by_cases hb : p ≠ b ∨ 0 ≠ k
  · exact (cell_other hb u).trans e
  · have e1 : p = b := by by_cases q : p = b; · exact q
                          · exact absurd (.inl q) hb
    have e2 : 0 = k := by by_cases q : 0 = k; · exact q
                          · exact absurd (.inr q) hb
    subst e1 e2
    rw [h] at e
    injection e with e
    subst e
    exact absurd (nv rfl) n
theorem Kp.grown {w w' : World} {p : Nat} {a : Option Addr} {n c : Nat} {T : TypeId} (g : w.grownBy w' (some p)) (h : w.heap[p]? = some (.cells #[.slice a n c] T (0, 0))) (h' : Plain w' p) : Kp w w' := by
  have same : ∀ b, b ≠ p → b < w.heap.size → w'.heap[b]? = w.heap[b]? := fun b ne hb => g.block b hb (fun e => ne (by injection e))
  constructor
  · intro b k v e nv
    have hlt : b < w.heap.size := World.block_lt_of_cell? w _ e
    by_cases ne : b = p
    · subst ne
      exfalso
      unfold World.cell? at e
      rw [h] at e
      rcases k with _ | k
      · simp at e
        subst e
        exact nv rfl
      · simp at e
    · rw [World.cell?_of_block (same b ne hlt)]
      exact e
  · intro b hb
    by_cases ne : b = p
    · subst ne; exact h'
    · obtain ⟨cs, T', e⟩ := id hb
      exact ⟨cs, T', (same b ne hb.lt).trans e⟩
theorem Four.kp {w w' : World} {p o : Nat} {x : Bx} (h : Four w p o x) (k : Kp w w') : Four w' p o x := by
  obtain ⟨g1, g2, g3, g4⟩ := h
  exact ⟨k.c _ _ _ g1 (fun _ => trivial), k.c _ _ _ g2 (fun _ => trivial), k.c _ _ _ g3 (fun _ => trivial), k.c _ _ _ g4 (fun _ => trivial)⟩
theorem Wk6.kp {w w' : World} {p : Nat} {x : Bx} {v1 v2 : Value} (h : Wk6 w p x v1 v2) (k : Kp w w') : Wk6 w' p x v1 v2 :=
  ⟨h.four.kp k, k.c _ _ _ h.c4 (fun e => by cases e), k.c _ _ _ h.c5 (fun e => by cases e), (k.p _ h.pl).fr, k.p _ h.pl⟩
theorem SeesIt.kp {w w' : World} {a : Option Addr} {c : Nat} {bs : List Bx} {is : List Int} (h : SeesIt w a c bs is) (k : Kp w w') : SeesIt w' a c bs is :=
  ⟨h.len, h.fits, h.max, fun hn => by
    obtain ⟨b, off, ha, hc⟩ := h.cells hn
    exact ⟨b, off, ha, fun i hi => ⟨(hc i hi).1.kp k, k.c _ _ _ (hc i hi).2 (fun _ => trivial)⟩⟩⟩
theorem SeesTp.kp {w w' : World} {a : Option Addr} {c : Nat} {qs : List Ptr} (h : SeesTp w a c qs) (k : Kp w w') : SeesTp w' a c qs :=
  ⟨h.fits, h.max, fun hn => by
    obtain ⟨b, off, ha, hc⟩ := h.cells hn
    exact ⟨b, off, ha, fun i hi => k.c _ _ _ (hc i hi) (fun _ => trivial)⟩⟩
theorem WkAt.kp {w w' : World} (k : Kp w w') : ∀ (t : Nd) {p : Nat}, WkAt w p t → WkAt w' p t := by
  refine Nd.ind (P := fun t => ∀ {p : Nat}, WkAt w p t → WkAt w' p t) ?_
  intro b bs is ks ih p h
  cases h with
  | mk K I Q hl hz h0 hlt hN => exact .mk (K.kp k) (I.kp k) (Q.kp k) hl hz h0 hlt (fun i hi => ih _ (ndA_mem hi) (hN i hi))
theorem WkL.kp {w w' : World} {qs : List Ptr} {ts : List Nd} (h : WkL w qs ts) (k : Kp w w') : WkL w' qs ts := ⟨h.1, fun i hi => ⟨(h.2 i hi).1, WkAt.kp k _ (h.2 i hi).2⟩⟩
/-- A node at work that was made but now: its kids are elder (W0), its rows lie in no block of this row. -/
structure RtN (w0 w : World) (av : Option Nat) (q : Ptr) (t : Nd) : Prop where
  z : q.2 = 0
  n : some q.1 ≠ av
  ex : ∃ a1 c1 a2 c2 qs, Wk6 w q.1 t.b (.slice a1 t.bs.length c1) (.slice a2 t.ks.length c2) ∧ SeesIt w a1 c1 t.bs t.is ∧ SeesTp w a2 c2 qs ∧ WkL w0 qs t.ks ∧ (∀ i, i < t.ks.length → (ptAt qs i).1 < q.1) ∧ (t.ks.length = 0 → a2 = none ∧ c2 = 0) ∧ (∀ b off, a1 = some ⟨b, off, none⟩ → t.bs ≠ [] → some b ≠ av) ∧ (∀ b off, a2 = some ⟨b, off, none⟩ → t.ks ≠ [] → some b ≠ av)
theorem RtN.kp {w0 w w' : World} {av : Option Nat} {q : Ptr} {t : Nd} (h : RtN w0 w av q t) (k : Kp w w') : RtN w0 w' av q t := by
  obtain ⟨a1, c1, a2, c2, qs, K, I, Q, L, r⟩ := h.ex
  exact ⟨h.z, h.n, a1, c1, a2, c2, qs, K.kp k, I.kp k, Q.kp k, L, r⟩
theorem RtN.grow {w0 w w' : World} {av av' : Option Nat} {q : Ptr} {t : Nd} (h : RtN w0 w av q t) (g : w.grownBy w' av) (ha : av' = av ∨ ∃ k, av' = some k ∧ w.heap.size ≤ k) : RtN w0 w' av' q t := by
  obtain ⟨a1, c1, a2, c2, qs, K, I, Q, L, hlt, hz, n1, n2⟩ := h.ex
  have new : ∀ b, b < w.heap.size → some b ≠ av → some b ≠ av' := fun b hb ne => by
    rcases ha with e | ⟨k, e, hk⟩
    · rw [e]; exact ne
    · rw [e]; intro e2; injection e2 with e2; omega
  have same : ∀ b, b < w.heap.size → some b ≠ av → ∀ k, w'.cell? ⟨b, k, none⟩ = w.cell? ⟨b, k, none⟩ := fun b hb ne k => World.cell?_of_block (g.block b hb ne)
  have lt1 : ∀ b off, a1 = some ⟨b, off, none⟩ → t.bs ≠ [] → b < w.heap.size := fun b off e hn => by
    obtain ⟨b', off', e', hc⟩ := I.cells hn
    rw [e'] at e
    injection e with e
    injection e with e1 e2
    have := World.block_lt_of_cell? w _ (hc 0 (List.length_pos_iff.2 hn)).2
    dsimp only at this
    omega
  have lt2 : ∀ b off, a2 = some ⟨b, off, none⟩ → t.ks ≠ [] → b < w.heap.size := fun b off e hn => by
    have hn' : qs ≠ [] := by rw [← List.length_pos_iff, L.1, List.length_pos_iff]; exact hn
    obtain ⟨b', off', e', hc⟩ := Q.cells hn'
    rw [e'] at e
    injection e with e
    injection e with e1 e2
    have := World.block_lt_of_cell? w _ (hc 0 (List.length_pos_iff.2 hn'))
    dsimp only at this
    omega
  have sq := same q.1 K.lt h.n
  refine ⟨h.z, new _ K.lt h.n, a1, c1, a2, c2, qs, ?_, ?_, ?_, L, hlt, hz, fun b off e hn => new b (lt1 b off e hn) (n1 b off e hn), fun b off e hn => new b (lt2 b off e hn) (n2 b off e hn)⟩
  · obtain ⟨⟨f0, f1, f2, f3⟩, f4, f5, _, pl⟩ := K
    have pl' : Plain w' q.1 := by
      obtain ⟨cs, T, e⟩ := id pl
      exact ⟨cs, T, (g.block _ pl.lt h.n).trans e⟩
    exact ⟨⟨(sq _).trans f0, (sq _).trans f1, (sq _).trans f2, (sq _).trans f3⟩, (sq _).trans f4, (sq _).trans f5, pl'.fr, pl'⟩
  · refine ⟨I.len, I.fits, I.max, fun hn => ?_⟩
    obtain ⟨b, off, ea, hc⟩ := I.cells hn
    have sb := same b (lt1 b off ea hn) (n1 b off ea hn)
    refine ⟨b, off, ea, fun i hi => ?_⟩
    obtain ⟨⟨f0, f1, f2, f3⟩, f4⟩ := hc i hi
    exact ⟨⟨(sb _).trans f0, (sb _).trans f1, (sb _).trans f2, (sb _).trans f3⟩, (sb _).trans f4⟩
  · refine ⟨Q.fits, Q.max, fun hn => ?_⟩
    have hn' : t.ks ≠ [] := by rw [← List.length_pos_iff, ← L.1, List.length_pos_iff]; exact hn
    obtain ⟨b, off, ea, hc⟩ := Q.cells hn
    have sb := same b (lt2 b off ea hn') (n2 b off ea hn')
    exact ⟨b, off, ea, fun i hi => (sb _).trans (hc i hi)⟩
theorem RtN.at {w0 w : World} {av : Option Nat} {q : Ptr} {t : Nd} (h : RtN w0 w av q t) (k : Kp w0 w) : q.2 = 0 ∧ WkAt w q.1 t := by
  obtain ⟨a1, c1, a2, c2, qs, K, I, Q, L, hlt, hz, _⟩ := h.ex
  refine ⟨h.z, ?_⟩
  obtain ⟨b, bs, is, ks⟩ := t
  exact .mk K I Q L.1 hz (fun i hi => (L.2 i hi).1) hlt (fun i hi => WkAt.kp k _ (L.2 i hi).2)
/-- What the program puts together for a node, its kids from below. -/
structure NewN (w0 w : World) (lo q : Nat) (t : Nd) : Prop where
  le : lo ≤ q
  ex : ∃ a1 c1 a2 c2 qs, Wk6 w q (bxT t) (.slice a1 t.bs.length c1) (.slice a2 t.ks.length c2) ∧ SeesIt w a1 c1 t.bs t.is ∧ SeesTp w a2 c2 qs ∧ WkL w0 qs t.ks ∧ (∀ i, i < t.ks.length → (ptAt qs i).1 < q) ∧ (t.ks.length = 0 → a2 = none ∧ c2 = 0) ∧ From lo t.bs.length a1 ∧ From lo t.ks.length a2
theorem NewN.rt {w0 w : World} {lo q : Nat} {t : Nd} {av : Option Nat} (h : NewN w0 w lo q t) (e : t.b = bxT t) (ha : ∀ k, av = some k → k < lo) : RtN w0 w av (q, 0) t := by
  obtain ⟨a1, c1, a2, c2, qs, K, I, Q, L, hlt, hz, f1, f2⟩ := h.ex
  refine ⟨rfl, fun e => ?_, a1, c1, a2, c2, qs, ?_, I, Q, L, hlt, hz, fun b off e hn e2 => ?_, fun b off e hn e2 => ?_⟩
  · have := ha _ e.symm
    have := h.le
    omega
  · rw [e]; exact K
  · have := ha _ e2.symm
    have := f1 b off e (List.length_pos_iff.2 hn)
    omega
  · have := ha _ e2.symm
    have := f2 b off e (List.length_pos_iff.2 hn)
    omega
/-- The kids of the first trees, and of the next one. -/
theorem kdN_split {ts : List Nd} {j n : Nat} (h : j ≤ n) : ∃ r, kdN ts n = kdN ts j ++ r := by
  induction n with
  | zero => obtain rfl : j = 0 := by omega
            exact ⟨[], by simp⟩
  | succ n ih =>
    by_cases e : j = n + 1
    · subst e; exact ⟨[], by simp⟩
    · obtain ⟨r, hr⟩ := ih (by omega)
      exact ⟨r ++ (ndA ts n).ks, by simp only [kdN]; rw [hr, List.append_assoc]⟩
theorem kdN_drop {ts : List Nd} {j : Nat} (h : j < ts.length) : (kdN ts ts.length).drop (kdN ts j).length = (ndA ts j).ks ++ (kdN ts ts.length).drop (kdN ts (j + 1)).length := by
  obtain ⟨r, hr⟩ := kdN_split (ts := ts) (show j + 1 ≤ ts.length by omega)
  rw [hr, List.drop_left' rfl]
  have : kdN ts (j + 1) = kdN ts j ++ (ndA ts j).ks := rfl
  rw [this, List.append_assoc, List.drop_left' rfl]
theorem WkL.two {w : World} {qs : List Ptr} {ts us : List Nd} (h : WkL w qs (ts ++ us)) : WkL w (qs.take ts.length) ts ∧ WkL w (qs.drop ts.length) us := by
  have hl := h.1
  rw [List.length_append] at hl
  refine ⟨⟨by rw [List.length_take]; omega, fun i hi => ?_⟩, ⟨by rw [List.length_drop]; omega, fun i hi => ?_⟩⟩
  · have := h.2 i (by rw [List.length_append]; omega)
    rw [ndA_append, if_pos hi] at this
    have e : ptAt (qs.take ts.length) i = ptAt qs i := by unfold ptAt; rw [List.getElem?_take_of_lt hi]
    rw [e]
    exact this
  · have := h.2 (ts.length + i) (by rw [List.length_append]; omega)
    rw [ndA_append, if_neg (by omega), Nat.add_sub_cancel_left] at this
    have e : ptAt (qs.drop ts.length) i = ptAt qs (ts.length + i) := by unfold ptAt; rw [List.getElem?_drop]
    rw [e]
    exact this
theorem SeesTp.take {w : World} {a : Option Addr} {c : Nat} {qs : List Ptr} (h : SeesTp w a c qs) (n : Nat) : SeesTp w a c (qs.take n) := by
  refine ⟨Nat.le_trans (by rw [List.length_take]; omega) h.fits, h.max, fun hn => ?_⟩
  have hq : qs ≠ [] := by intro e; rw [e] at hn; simp at hn
  obtain ⟨b, off, ea, hc⟩ := h.cells hq
  refine ⟨b, off, ea, fun i hi => ?_⟩
  rw [List.length_take] at hi
  have e : ptAt (qs.take n) i = ptAt qs i := by unfold ptAt; rw [List.getElem?_take_of_lt (by omega)]
  rw [e]
  exact hc i (by omega)
theorem SeesTp.drop {w : World} {a : Option Addr} {c : Nat} {qs : List Ptr} (h : SeesTp w a c qs) {n : Nat} (hn : n ≤ qs.length) : SeesTp w (if c = n then a else a.map (fun x => x.add n)) (c - n) (qs.drop n) := by
  refine ⟨by rw [List.length_drop]; have := h.fits; omega, Nat.le_trans (Nat.sub_le _ _) h.max, fun hne => ?_⟩
  have hq : n < qs.length := by
    rcases Nat.lt_or_ge n qs.length with k | k
    · exact k
    · rw [List.drop_eq_nil_of_le k] at hne; exact absurd rfl hne
  obtain ⟨b, off, ea, hc⟩ := h.cells (by intro e; rw [e] at hq; simp at hq)
  have := h.fits
  refine ⟨b, off + n, by rw [if_neg (by omega), ea, Option.map_some, Addr.add_lit], fun i hi => ?_⟩
  rw [List.length_drop] at hi
  have e : ptAt (qs.drop n) i = ptAt qs (n + i) := by unfold ptAt; rw [List.getElem?_drop]
  rw [e, Nat.add_assoc]
  exact hc (n + i) (by omega)
end Go.Proofs.YtdkhaghcnijilaaGreat

/- A node is put to work over kids that are at work; what treeOf keeps from level to level. -/
namespace Go.Proofs.YtdkhaghcnijilaaGreat
open Go.RowKit

theorem atWork_any {w0 w3 : World} (p o lo : Nat) (t : Nd) (v1 v2 v3 : Value) (a : Option Addr) (c : Nat) (qs : List Ptr) (us : List Nd) (w : World) (S : Sev w p o t.b v1 v2 v3) (N : NdUp w0 lo t v1 v2 v3) (B0 : Below w0.heap.size w0 w) (hf : formW t.bs t.is t.ks = false) (Q : SeesTp w3 a c qs) (L : WkL w3 qs (t.ks ++ us)) (K : Kp w3 w) :
    Calls Tryz.prog 68 #[.pointer (some ⟨p, o, none⟩), .slice a t.ks.length c] w fun e w' => ∃ q, e = .returned (.pointer (some ⟨q, 0, none⟩)) ∧ NewN w3 w' w.heap.size q t ∧ Below w.heap.size w w' := by
  obtain ⟨b, bs, is, ks⟩ := t
  simp only [Nd.b, Nd.bs, Nd.is, Nd.ks] at *
  by_cases hk : ks = []
  · subst hk
    obtain ⟨f1, f2, f3⟩ := formW_leaf.1 hf
    refine (atWorkLeaf p o lo (.mk b bs is []) v1 v2 v3 a c w S N B0 f1 (by simp only [Nd.is]; omega)).mono ?_
    rintro e w1 ⟨q, a1, c1, rfl, K1, I1, F1, hq, hb⟩
    simp only [Nd.bs, Nd.is] at *
    exact ⟨q, rfl, ⟨hq, a1, c1, none, 0, [], K1, I1, ⟨by simp, by simp [maxLen], fun h => absurd rfl h⟩, ⟨rfl, fun i hi => absurd hi (by simp [Nd.ks])⟩, fun i hi => absurd hi (by simp [Nd.ks]), fun _ => ⟨rfl, rfl⟩, F1, fun b off e => by cases e⟩, hb⟩
  · have hp : 0 < ks.length := List.length_pos_iff.2 hk
    obtain ⟨f1, f2, f3⟩ := (formW_inn hp).1 hf
    obtain ⟨L1, _⟩ := L.two
    have L1w := L1.kp K
    have Q1 := (Q.take ks.length).kp K
    have hql : (qs.take ks.length).length = ks.length := L1.1
    obtain ⟨b1, o1, ea, _⟩ := Q1.cells (by rw [← List.length_pos_iff]; omega)
    subst ea
    have C := atWorkInner p o b1 o1 c ks.length (qs.take ks.length) (ks.map Nd.b) w Q1 hql.symm (by rw [hql, List.length_map]) (fun i hi => by
      rw [List.length_map] at hi
      obtain ⟨z, W⟩ := L1w.2 i hi
      obtain ⟨_, _, _, _, _, K6, _⟩ := W.open
      have e : bxAt (ks.map Nd.b) i = (ndA ks i).b := by unfold bxAt ndA; rw [List.getElem?_map, List.getElem?_eq_getElem hi]; rfl
      rw [e]
      exact ⟨z, K6.four⟩) (by rw [List.length_map]; exact hp) (by rw [List.length_map]; omega)
    rw [List.length_map] at C
    refine C.mono ?_
    rintro e w1 ⟨q, a2, c2, rfl, K2, S2, F2, hq, hb⟩
    have e0 : bxT (.mk b bs is ks) = jnI (ks.map Nd.b) := if_neg (show ¬ ks.length = 0 by omega)
    obtain rfl := List.eq_nil_of_length_eq_zero f2
    obtain rfl := List.eq_nil_of_length_eq_zero f3
    refine ⟨q, rfl, ⟨hq, none, 0, a2, c2, qs.take ks.length, by rw [e0]; exact K2, ⟨rfl, by simp [Nd.bs], by simp [maxLen], fun h => absurd rfl h⟩, S2, L1, fun i hi => ?_, fun h => absurd h (show ¬ ks.length = 0 by omega), fun b off e => (by cases e), F2⟩, hb⟩
    obtain ⟨_, W⟩ := L1w.2 i hi
    obtain ⟨_, _, _, _, _, K6, _⟩ := W.open
    have := K6.lt
    omega
/-- The levels and what lies there. -/
structure TI (b : Nat) (lv : Value) (w1 W : World) : Prop where
  bel : Below b w1 W
  c4 : W.cell? ⟨b, 0, none⟩ = some lv
  c6 : W.cell? ⟨b + 2, 0, none⟩ = some lv
  sz : b + 2 < W.heap.size
theorem TI.under {b : Nat} {lv : Value} {w1 W W' : World} (h : TI b lv w1 W) (hb : Below (b + 3) W W') : TI b lv w1 W' :=
  ⟨h.bel.trans (hb.mono (by omega)), (World.cell?_of_block (a := ⟨b, 0, none⟩) (hb.block _ (by show b < b + 3; omega))).trans h.c4, (World.cell?_of_block (a := ⟨b + 2, 0, none⟩) (hb.block _ (by show b + 2 < b + 3; omega))).trans h.c6, Nat.lt_of_lt_of_le h.sz hb.size⟩
theorem TI.grown {b : Nat} {lv : Value} {w1 W W' : World} (h : TI b lv w1 W) (g : W.grownBy W' (some (b + 1))) : TI b lv w1 W' :=
  ⟨h.bel.grown g (by have := h.sz; omega) (fun k e => by injection e with e; omega), (World.cell?_of_block (a := ⟨b, 0, none⟩) (g.block b (by have := h.sz; omega) (fun e => by injection e with e; omega))).trans h.c4, (World.cell?_of_block (a := ⟨b + 2, 0, none⟩) (g.block (b + 2) h.sz (fun e => by injection e with e; omega))).trans h.c6, Nat.lt_of_lt_of_le h.sz g.size⟩
theorem TI.loop {b : Nat} {lv : Value} {w1 W : World} (h : TI b lv w1 W) (o : Obj) : TI b lv w1 (W.putObj (b + 4) o) := h.under (belowPut W (B := b + 3) (by omega) o)
/-- The one variable that is written. -/
def Bel5 (b : Nat) (W : World) (a : Option Addr) (n c : Nat) : Prop := W.heap[b + 1]? = some (.cells #[.slice a n c] 96 (0, 0))
theorem Bel5.cell {b : Nat} {W : World} {a : Option Addr} {n c : Nat} (h : Bel5 b W a n c) : W.cell? ⟨b + 1, 0, none⟩ = some (.slice a n c) := by
  unfold World.cell?
  rw [show W.heap[b + 1]? = _ from h]
  rfl
theorem Bel5.pl {b : Nat} {W : World} {a : Option Addr} {n c : Nat} (h : Bel5 b W a n c) : Plain W (b + 1) := ⟨_, _, h⟩
theorem Bel5.put {b : Nat} {W : World} {a : Option Addr} {n c : Nat} (h : Bel5 b W a n c) (a' : Option Addr) (n' c' : Nat) : Bel5 b (W.setCell ⟨b + 1, 0, none⟩ (.slice a' n' c')) a' n' c' := by
  unfold Bel5 at *
  simp only [World.setCell]
  rw [Array.getElem?_modify, if_pos rfl, h]
  rfl
theorem Bel5.of {b : Nat} {W W' : World} {a : Option Addr} {n c : Nat} (h : Bel5 b W a n c) (e : W'.heap[b + 1]? = W.heap[b + 1]?) : Bel5 b W' a n c := e.trans h
/-- What is at work above a level. -/
def lvB (L : Nat) (t : Nd) (s : Nat) : List Nd := if s < L then lvl t s else []
/-- Between two levels. -/
structure TJ (b : Nat) (lv : Value) (L : Nat) (t : Nd) (w1 : World) (s : Nat) (W : World) : Prop where
  ti : TI b lv w1 W
  le : s ≤ L
  lw : ∃ a c qs, Bel5 b W a qs.length c ∧ SeesTp W a c qs ∧ WkL W qs (lvB L t s)
  ck : ∀ k, s ≤ k → k < L → ∀ x ∈ lvl t k, chkN (L - 1) x
theorem TJ.loop {b : Nat} {lv : Value} {L : Nat} {t : Nd} {w1 : World} {s : Nat} {W : World} {l : Loop} (hl : W.heap[b + 4]? = some (.loop l)) (h : TJ b lv L t w1 s W) (o : Obj) : TJ b lv L t w1 s (W.putObj (b + 4) o) := by
  obtain ⟨ti, le, ⟨a, c, qs, h5, hq, hw⟩, ck⟩ := h
  have k := Kp.loop hl o
  exact ⟨ti.loop o, le, ⟨a, c, qs, (World.putObj_heap_other (by omega)).trans h5, hq.kp k, hw.kp k⟩, ck⟩
/-- The answer was no. -/
structure TD (p : Nat) (w W : World) : Prop where
  c2 : W.cell? ⟨p + 1, 0, none⟩ = some (.pointer none)
  c3 : W.cell? ⟨p + 2, 0, none⟩ = some (.bool false)
  bel : Below p w W
theorem TD.under {p B : Nat} {w W W' : World} (h : TD p w W) (hb : Below B W W') (hp : p + 2 < B) : TD p w W' :=
  ⟨(World.cell?_of_block (a := ⟨p + 1, 0, none⟩) (hb.block _ (by show p + 1 < B; omega))).trans h.c2, (World.cell?_of_block (a := ⟨p + 2, 0, none⟩) (hb.block _ hp)).trans h.c3, h.bel.trans (hb.mono (by omega))⟩
/-- Within a level. -/
structure TK (b : Nat) (lv : Value) (L : Nat) (t : Nd) (ts : List Nd) (w1 w3 : World) (j : Nat) (s8 : Value) (wr : World) : Prop where
  ti : TI b lv w1 wr
  g : w3.grownBy wr (some (b + 1))
  lw : ∃ a c qs, Bel5 b wr a qs.length c ∧ SeesTp w3 a c qs ∧ WkL w3 qs ((kdN ts ts.length).drop (kdN ts j).length)
  nd : ∃ ns : List Ptr, ns.length = j ∧ RowWp w3.heap.size wr s8 ns ∧ ∀ i, i < j → RtN w3 wr s8.ownBlock (ptAt ns i) (ndA ts i)
  ck : ∀ i, i < j → chkN (L - 1) (ndA ts i)
theorem grownBy_below {w w' : World} (hb : Below w.heap.size w w') (row : Option Nat) : w.grownBy w' row := ⟨hb.os, hb.tape, hb.output, hb.size, fun k hk _ => hb.block k hk⟩
theorem Above.ofGrown {B r : Nat} {w w' : World} (g : w.grownBy w' (some r)) (hr : r < B) : Above B w w' := ⟨g.size, fun k hk hl => g.block k hl (fun e => by injection e with e; omega)⟩
theorem TK.below {b : Nat} {lv : Value} {L : Nat} {t : Nd} {ts : List Nd} {w1 w3 : World} {j : Nat} {s8 : Value} {wr w4 : World} (h : TK b lv L t ts w1 w3 j s8 wr) (hb : Below wr.heap.size wr w4) : TK b lv L t ts w1 w3 j s8 w4 := by
  obtain ⟨ti, g, ⟨a, c, qs, h5, hq, hw⟩, ⟨ns, hn, hr, hd⟩, ck⟩ := h
  have sz := ti.sz
  exact ⟨ti.under (hb.mono (by omega)), grownBy_trans g (grownBy_below hb _), ⟨a, c, qs, h5.of (hb.block _ (by omega)), hq, hw⟩, ⟨ns, hn, hr.below hb, fun i hi => (hd i hi).kp (Kp.below hb)⟩, ck⟩
theorem TK.kp {b : Nat} {lv : Value} {L : Nat} {t : Nd} {ts : List Nd} {w1 w3 : World} {j : Nat} {s8 : Value} {wr : World} (h : TK b lv L t ts w1 w3 j s8 wr) (h3 : ∃ a n c, Bel5 b w3 a n c) : Kp w3 wr := by
  obtain ⟨a, n, c, h5⟩ := h3
  obtain ⟨a', c', qs, h5', _⟩ := h.lw
  exact Kp.grown h.g h5 h5'.pl
theorem owns_keptT {w w' : World} {base e size n : Nat} {v : Value} {xs : List Value} {row : Option Nat} (h : w.ownsRow base e size v n xs) (hg : w.grownBy w' row) (hne : ∀ k, v.ownBlock = some k → row ≠ some k) : w'.ownsRow base e size v n xs := by
  refine h.kept hg ?_
  cases e : v.ownBlock with
  | none => exact .inl rfl
  | some k => exact .inr (fun q => hne k e q.symm)

theorem grownBy_own {a w w' : World} {r row : Option Nat} (h : a.grownBy w r) (g : w.grownBy w' row) (hr : ∀ k, row = some k → a.heap.size ≤ k) : a.grownBy w' r :=
  ⟨g.os.trans h.os, g.tape.trans h.tape, g.output.trans h.output, Nat.le_trans h.size g.size, fun k hk ne => (g.block k (Nat.lt_of_lt_of_le hk h.size) (fun e => by have := hr k e.symm; omega)).trans (h.block k hk ne)⟩
theorem TI.own {b : Nat} {lv : Value} {w1 W W' : World} {row : Option Nat} (h : TI b lv w1 W) (g : W.grownBy W' row) (hr : ∀ k, row = some k → b + 3 ≤ k) : TI b lv w1 W' :=
  ⟨h.bel.grown g (by have := h.sz; omega) (fun k e => by have := hr k e; omega), (World.cell?_of_block (a := ⟨b, 0, none⟩) (g.block b (by have := h.sz; omega) (fun e => by have := hr b e.symm; omega))).trans h.c4, (World.cell?_of_block (a := ⟨b + 2, 0, none⟩) (g.block (b + 2) h.sz (fun e => by have := hr _ e.symm; omega))).trans h.c6, Nat.lt_of_lt_of_le h.sz g.size⟩
/-- Behind the append. -/
structure TM (b : Nat) (lv : Value) (ts : List Nd) (w1 w3 : World) (j : Nat) (v : Value) (ns : List Ptr) (a : Option Addr) (n c : Nat) (W : World) : Prop where
  ti : TI b lv w1 W
  g : w3.grownBy W (some (b + 1))
  h5 : Bel5 b W a n c
  hn : ns.length = j
  row : RowWp w3.heap.size W v ns
  nd : ∀ i, i < j → RtN w3 W v.ownBlock (ptAt ns i) (ndA ts i)
theorem TM.below {b : Nat} {lv : Value} {ts : List Nd} {w1 w3 : World} {j : Nat} {v : Value} {ns : List Ptr} {a : Option Addr} {n c : Nat} {wr w4 : World} (h : TM b lv ts w1 w3 j v ns a n c wr) (hb : Below wr.heap.size wr w4) : TM b lv ts w1 w3 j v ns a n c w4 := by
  obtain ⟨ti, g, h5, hn, hr, hd⟩ := h
  have sz := ti.sz
  exact ⟨ti.under (hb.mono (by omega)), grownBy_trans g (grownBy_below hb _), h5.of (hb.block _ (by omega)), hn, hr.below hb, fun i hi => (hd i hi).kp (Kp.below hb)⟩
theorem TM.snoc {b : Nat} {lv : Value} {ts : List Nd} {w1 w3 : World} {j : Nat} {v v7 : Value} {ns : List Ptr} {a : Option Addr} {n c : Nat} {w6 w7 : World} {q : Ptr} (h : TM b lv ts w1 w3 j v ns a n c w6) (hq : RtN w3 w6 v.ownBlock q (ndA ts j)) (R7 : RowWp w3.heap.size w7 v7 (ns ++ [q])) (G7 : w6.grownBy w7 v.ownBlock) (A7 : v7.ownBlock = v.ownBlock ∨ v7.ownBlock = some w6.heap.size) (hb3 : b + 3 ≤ w3.heap.size) : TM b lv ts w1 w3 (j + 1) v7 (ns ++ [q]) a n c w7 := by
  obtain ⟨ti, g, h5, hn, hr, hd⟩ := h
  have own : ∀ k, v.ownBlock = some k → w3.heap.size ≤ k := fun k hk => (World.ownsRow.lt hr k hk).1
  have A8 : v7.ownBlock = v.ownBlock ∨ ∃ k, v7.ownBlock = some k ∧ w6.heap.size ≤ k := by
    rcases A7 with e | e
    · exact .inl e
    · exact .inr ⟨_, e, Nat.le_refl _⟩
  refine ⟨ti.own G7 (fun k hk => by have := own k hk; omega), grownBy_own g G7 own, h5.of (G7.block _ (by have := ti.sz; omega) (fun e => by have := own _ e.symm; omega)), by rw [List.length_append, hn]; rfl, R7, fun i hi => ?_⟩
  rw [ptAt_snoc, hn]
  split
  · rename_i e; rw [e]; exact hq.grow G7 A8
  · exact (hd i (by omega)).grow G7 A8
theorem TM.store {b : Nat} {lv : Value} {L : Nat} {t : Nd} {ts : List Nd} {w1 w3 : World} {j : Nat} {v : Value} {ns : List Ptr} {a : Option Addr} {n c : Nat} {w7 : World} (h : TM b lv ts w1 w3 j v ns a n c w7) (hb3 : b + 3 ≤ w3.heap.size) {a6 : Option Addr} {n6 c6 : Nat} {q6 : List Ptr} (en : n6 = q6.length) (S6 : SeesTp w3 a6 c6 q6) (W6 : WkL w3 q6 ((kdN ts ts.length).drop (kdN ts j).length)) (ck : ∀ i, i < j → chkN (L - 1) (ndA ts i)) : TK b lv L t ts w1 w3 j v (w7.setCell ⟨b + 1, 0, none⟩ (.slice a6 n6 c6)) := by
  subst en
  obtain ⟨ti, g, h5, hn, hr, hd⟩ := h
  have gq : w7.grownBy (w7.setCell ⟨b + 1, 0, none⟩ (.slice a6 q6.length c6)) (some (b + 1)) := grownBy_setCell (p := ⟨b + 1, 0, none⟩) (grownBy_refl _ _) rfl _
  have h6 := h5.put a6 q6.length c6
  have k := Kp.grown gq h5 h6.pl
  refine ⟨ti.grown gq, grownBy_trans g gq, ⟨a6, c6, q6, h6, S6, W6⟩, ⟨ns, hn, ?_, fun i hi => (hd i hi).kp k⟩, ck⟩
  exact owns_keptT hr gq (fun k hk e => by have := (World.ownsRow.lt hr k hk).1; injection e with e; omega)
/-- All of a level are at work. -/
theorem TK.level {b : Nat} {lv : Value} {L : Nat} {t : Nd} {ts : List Nd} {w1 w3 : World} {v : Value} {wr : World} (h : TK b lv L t ts w1 w3 ts.length v wr) (k3 : Kp w3 wr) : ∃ a c ns, v = .slice a ns.length c ∧ TI b lv w1 (wr.setCell ⟨b + 1, 0, none⟩ (.slice a ns.length c)) ∧ w3.grownBy (wr.setCell ⟨b + 1, 0, none⟩ (.slice a ns.length c)) (some (b + 1)) ∧ Bel5 b (wr.setCell ⟨b + 1, 0, none⟩ (.slice a ns.length c)) a ns.length c ∧ SeesTp (wr.setCell ⟨b + 1, 0, none⟩ (.slice a ns.length c)) a c ns ∧ WkL (wr.setCell ⟨b + 1, 0, none⟩ (.slice a ns.length c)) ns ts := by
  obtain ⟨ti, g, ⟨a', c', qs', h5, _, _⟩, ⟨ns, hn, hr, hd⟩, ck⟩ := h
  obtain ⟨a, c, e, S, _⟩ := RowWp.sees hr
  have gq : wr.grownBy (wr.setCell ⟨b + 1, 0, none⟩ (.slice a ns.length c)) (some (b + 1)) := grownBy_setCell (p := ⟨b + 1, 0, none⟩) (grownBy_refl _ _) rfl _
  have h6 := h5.put a ns.length c
  have k := Kp.grown gq h5 h6.pl
  exact ⟨a, c, ns, e, ti.grown gq, grownBy_trans g gq, h6, S.kp k, hn, fun i hi => by
    obtain ⟨z, W⟩ := (hd i hi).at k3
    exact ⟨z, WkAt.kp k _ W⟩⟩
end Go.Proofs.YtdkhaghcnijilaaGreat
