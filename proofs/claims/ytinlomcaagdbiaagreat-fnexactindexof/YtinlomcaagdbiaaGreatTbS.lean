/- Tellings (a node at work, and the place that is to tell it): rows of them, the stack of those that are open; a make in a drawn region. -/
import Derived.Test.YtinlomcaagdbiaaGreatTbW
import Derived.Test.YtinlomcaagdbiaaGreatTbA
import Derived.Lib.SliceRun
import Derived.OwnWalk
import Derived.Laws.AppendOwnNone
namespace Go.Proofs.YtinlomcaagdbiaaGreat
open Go.RowKit

theorem infoTe : (Tryz.prog.info? 87).map (fun i => (i.zero, i.size, i.bytes)) = some (some (.agg #[.pointer none, .pointer none]), 2, 16) := by kernel_rfl
abbrev Te := Ptr × Ptr
def teC (es : List Te) : List Value := es.flatMap fun e => [ptV e.1, ptV e.2]
def teAt (es : List Te) (i : Nat) : Te := es[i]?.getD ((0, 0), (0, 0))
theorem teC_append (ps qs : List Te) : teC (ps ++ qs) = teC ps ++ teC qs := by simp [teC]
theorem teC_len : ∀ es : List Te, (teC es).length = es.length * 2
 | [] => rfl
 | e :: r => by
  have := teC_len r
  have e2 : teC (e :: r) = [ptV e.1, ptV e.2] ++ teC r := rfl
  rw [e2, List.length_append, this, List.length_cons]
  simp only [List.length_cons, List.length_nil]
  omega
theorem teC_at : ∀ (es : List Te) (j : Nat), j < es.length → (teC es)[j * 2]? = some (ptV (teAt es j).1) ∧ (teC es)[j * 2 + 1]? = some (ptV (teAt es j).2)
 | [], j, h => absurd h (by simp)
 | p :: r, 0, _ => ⟨rfl, rfl⟩
 | p :: r, j + 1, h => by
  have ih := teC_at r j (by simpa using h)
  have e : teC (p :: r) = [ptV p.1, ptV p.2] ++ teC r := rfl
  have eb : teAt (p :: r) (j + 1) = teAt r j := rfl
  rw [e, eb, show (j + 1) * 2 = 2 + j * 2 by omega, show 2 + j * 2 + 1 = 2 + (j * 2 + 1) by omega, List.getElem?_append_right (by simp), List.getElem?_append_right (by simp)]
  simpa using ih
theorem teC_ones (es : List Te) : ∀ u ∈ teC es, u.oneCell' = true := by
 intro u hu
 simp only [teC, List.mem_flatMap] at hu
 obtain ⟨p, _, h⟩ := hu
 simp only [List.mem_cons, List.not_mem_nil, or_false] at h
 rcases h with rfl | rfl <;> rfl
def RowTe (base : Nat) (w : World) (v : Value) (es : List Te) : Prop := w.ownsRow base 87 2 v es.length (teC es)
theorem RowTe.nil (base : Nat) (w : World) : RowTe base w (.slice none 0 0) [] := ⟨rfl, .inl ⟨rfl, rfl⟩⟩
theorem RowTe.snocs {base : Nat} {w : World} {v : Value} {es rs : List Te} (h : w.ownsRow base 87 2 v (es.length + rs.length) (teC es ++ teC rs)) : RowTe base w v (es ++ rs) := by
 unfold RowTe
 rw [teC_append, List.length_append]
 exact h
theorem RowTe.below {base : Nat} {w w' : World} {v : Value} {es : List Te} (h : RowTe base w v es) (hb : Below w.heap.size w w') : RowTe base w' v es := owns_below h hb
theorem te_new (w : World) (e : TypeId) (p q o : Nat) : ∀ j z, (teC [((p, 0), (q, o))])[j]? = some z → (w.alloc (.cells #[.pointer (some ⟨p, 0, none⟩), .pointer (some ⟨q, o, none⟩)] e)).cell? ((⟨w.heap.size, 0, none⟩ : Addr).add j) = some z := by
 intro j z hz
 rcases j with _ | _ | j
 ·simp [teC, ptV] at hz; subst hz; exact cell_new w #[.pointer (some ⟨p, 0, none⟩), .pointer (some ⟨q, o, none⟩)] e 0 rfl
 ·simp [teC, ptV] at hz; subst hz; exact cell_new w #[.pointer (some ⟨p, 0, none⟩), .pointer (some ⟨q, o, none⟩)] e 1 rfl
 ·simp [teC] at hz
theorem RowTe.one (w : World) {base : Nat} (h : base ≤ w.heap.size) (p q o : Nat) : RowTe base (w.alloc (.cells #[.pointer (some ⟨p, 0, none⟩), .pointer (some ⟨q, o, none⟩)] 87)) (.slice (some ⟨w.heap.size, 0, none⟩) 1 1) [((p, 0), (q, o))] :=
 ⟨rfl, .inr ⟨w.heap.size, 1, #[.pointer (some ⟨p, 0, none⟩), .pointer (some ⟨q, o, none⟩)], rfl, h, heap_alloc_new _ _, Nat.le_refl _, by simp [maxLen], rfl, rfl⟩⟩
theorem RowTe.two {base : Nat} {w : World} {v : Value} {es : List Te} (h : RowTe base w v es) : (v = .slice none 0 0 ∧ es = []) ∨ ∃ g cap, v = .slice (some ⟨g, 0, none⟩) es.length cap ∧ (∀ j u, (teC es)[j]? = some u → w.cell? ((⟨g, 0, none⟩ : Addr).add j) = some u) ∧ base ≤ g := by
 rcases h.2 with ⟨hv, h0⟩ | ⟨g, cap', cur, hv, hb, hh, hf, hm, hs, ht⟩
 ·exact .inl ⟨hv, List.eq_nil_of_length_eq_zero h0⟩
 ·refine .inr ⟨g, cap', hv, fun j u hu => ?_, hb⟩
  have hj : j < es.length * 2 := by have := (List.getElem?_eq_some_iff.mp hu).1; rw [teC_len] at this; exact this
  rw [← ht, List.getElem?_take_of_lt (by omega)] at hu
  rw [Addr.add_lit, Nat.zero_add]
  exact (cell_of_row w g j _ _ _ hh).trans (by simpa using hu)
theorem RowTe.pop {base : Nat} {w : World} {a : Option Addr} {n c : Nat} {es : List Te} {e : Te} (h : RowTe base w (.slice a n c) (es ++ [e])) : RowTe base w (.slice a es.length c) es := by
 rcases h.2 with ⟨hv, h0⟩ | ⟨g, cap', cur, hv, hb, hh, hf, hm, hs, ht⟩
 ·simp at h0
 ·injection hv with e1 e2 e3
  subst e1 e3
  rw [List.length_append, List.length_singleton] at hf ht
  refine ⟨teC_len es, .inr ⟨g, c, cur, rfl, hb, hh, by omega, hm, hs, ?_⟩⟩
  have h2 := congrArg (List.take (es.length * 2)) ht
  rw [List.take_take, teC_append, List.take_append_of_le_length (by rw [teC_len]; omega), List.take_of_length_le (by rw [teC_len]; omega : (teC es).length ≤ es.length * 2)] at h2
  rw [show min (es.length * 2) ((es.length + 1) * 2) = es.length * 2 by omega] at h2
  exact h2
theorem RowTe.at {base : Nat} {w : World} {a : Option Addr} {n c : Nat} {es : List Te} {e : Te} (h : RowTe base w (.slice a n c) (es ++ [e])) : ∃ g, a = some ⟨g, 0, none⟩ ∧ n = es.length + 1 ∧ n ≤ c ∧ c ≤ maxLen ∧ w.cell? ⟨g, es.length * 2, none⟩ = some (ptV e.1) ∧ w.cell? ⟨g, es.length * 2 + 1, none⟩ = some (ptV e.2) := by
 have hr := h
 rcases h.2 with ⟨hv, h0⟩ | ⟨g, cap', cur, hv, hb, hh, hf, hm, hs, ht⟩
 ·simp at h0
 ·injection hv with e1 e2 e3
  subst e1 e2 e3
  have hl : (es ++ [e]).length = es.length + 1 := by simp
  have c := teC_at (es ++ [e]) es.length (by simp)
  have et : teAt (es ++ [e]) es.length = e := by simp [teAt]
  rw [et] at c
  rw [← ht, hl, List.getElem?_take_of_lt (by omega), List.getElem?_take_of_lt (by omega)] at c
  rw [hl] at hf ⊢
  exact ⟨g, rfl, rfl, hf, hm, (cell_of_row w g _ _ _ _ hh).trans (by simpa using c.1), (cell_of_row w g _ _ _ _ hh).trans (by simpa using c.2)⟩
theorem RowTe.sl {base : Nat} {w : World} {v : Value} {es : List Te} (h : RowTe base w v es) : ∃ a c, v = .slice a es.length c ∧ es.length ≤ c ∧ c ≤ maxLen := by
 rcases h.2 with ⟨hv, h0⟩ | ⟨g, cap', cur, hv, _, _, hf, hm, _⟩
 ·exact ⟨none, 0, by rw [hv, h0], by omega, by simp [maxLen]⟩
 ·exact ⟨_, cap', hv, hf, hm⟩

theorem wp_append_none {P : Program} {w : World} {o : Oper} {a : Act} {K : Act → World → Prop} {Q : Exit → Act → World → Prop} (s x : Operand) (t : TypeId)
  (ho : o.op = .call { callee := .builtin .append, args := #[s, x], argTypes := #[t, t] }) (base : Nat) (e : TypeId) (i : TypeInfo) (size : Nat) (ht : P.underlying t = some (.slice e)) (hi : P.info? e = some i)
  (v : Value) (k : Nat) (xs : List Value) (hs : a.eval s = v) (hown : w.ownsRow base e size v k xs) (hx : a.eval x = .slice none 0 0) (h : K (a.put o.dst v) w) : o.wp P a w K Q := by
 have hrun := run_append_owned_none (P := P) (w := w) base t o.type e i size ht hi v k xs hown
 unfold Oper.wp execOp
 simp only [ho, resolve, invoke, builtin, Sem.run_bind, Sem.run_pure, Result.andThen_ok, List.map_toArray, List.map_cons, List.map_nil, hs, hx, hrun]
 exact h
theorem wp_make_full {P : Program} {w : World} {o : Oper} {a : Act} {K : Act → World → Prop} {Q : Exit → Act → World → Prop} (l c : Operand) (t : TypeId) (hop : o.op = Op.makeSlice t l c)
  (base : Nat) (e : TypeId) (i : TypeInfo) (z : Value) (size : Nat) (h1 : P.underlying t = some (.slice e)) (h2 : P.info? e = some i) (h3 : i.zero = some z) (h4 : i.size = size)
  (kl kc : IntKind) (L C : Int) (n : Nat) (hl : a.eval l = .int kl L) (hc : a.eval c = .int kc C) (hL : L = (n : Int)) (hC : C = (n : Int)) (b2 : i.bytes * n ≤ 281474976710656) (b3 : n ≤ maxLen) (b4 : base ≤ w.heap.size)
  (hK : ∀ w', w'.ownsRow base e size (.slice (some ⟨w.heap.size, 0, none⟩) n n) n (madeCells z.cells (n * size)).toList → w.grownBy w' none → K (a.put o.dst (.slice (some ⟨w.heap.size, 0, none⟩) n n)) w') : o.wp P a w K Q := by
 obtain ⟨w', hrun, r1, r2⟩ := run_make_full (P := P) w base t e i z size h1 h2 h3 h4 kl kc n b2 b3 b4
 subst hL
 subst hC
 unfold Oper.wp
 simp [execOp, hop, hl, hc, hrun, Result.andThen]
 exact hK w' r1 r2
theorem made_at (z : Array Value) {n k : Nat} (h : k < n) : (madeCells z n).toList[k]? = some (z[k % z.size]!) := by
 have hs : k < (madeCells z n).size := by rw [size_madeCells]; exact h
 rw [Array.getElem?_toList, Array.getElem?_eq_getElem hs]
 simp [madeCells]
theorem zeroN {w : World} {base g n : Nat} (h : w.ownsRow base 32 7 (.slice (some ⟨g, 0, none⟩) n n) n (madeCells (Value.agg #[.int .i64 0, .int .i64 0, .int .i64 0, .int .i64 0, .slice none 0 0, .slice none 0 0, .slice none 0 0]).cells (n * 7)).toList) : ∀ i, i < n → Sev w g (i * 7) (0, 0, 0, 0) (.slice none 0 0) (.slice none 0 0) (.slice none 0 0) := by
 intro i hi
 have q : ∀ (k : Nat) (v : Value), k < 7 → (#[Value.int .i64 0, .int .i64 0, .int .i64 0, .int .i64 0, .slice none 0 0, .slice none 0 0, .slice none 0 0] : Array Value)[k]! = v → w.cell? ⟨g, i * 7 + k, none⟩ = some v := fun k v hk e => by
  rw [h.cellAt (i * 7 + k) (by omega), made_at _ (by omega)]
  have e2 : (Value.agg #[.int .i64 0, .int .i64 0, .int .i64 0, .int .i64 0, .slice none 0 0, .slice none 0 0, .slice none 0 0]).cells = #[Value.int .i64 0, .int .i64 0, .int .i64 0, .int .i64 0, .slice none 0 0, .slice none 0 0, .slice none 0 0] := by rfl
  rw [e2]
  have e3 : (i * 7 + k) % (#[Value.int .i64 0, .int .i64 0, .int .i64 0, .int .i64 0, .slice none 0 0, .slice none 0 0, .slice none 0 0] : Array Value).size = k := by
   show (i * 7 + k) % 7 = k
   omega
  rw [e3, e]
 exact ⟨⟨q 0 _ (by omega) rfl, q 1 _ (by omega) rfl, q 2 _ (by omega) rfl, q 3 _ (by omega) rfl⟩, q 4 _ (by omega) rfl, q 5 _ (by omega) rfl, q 6 _ (by omega) rfl⟩
theorem NdFp.lt {w : World} : ∀ (t : Nd) {F : Nat → Prop} {v1 v2 v3 : Value}, NdFp w F t v1 v2 v3 → NdFp w (fun q => F q ∧ q < w.heap.size) t v1 v2 v3 := by
 refine Nd.ind (P := fun t => ∀ {F : Nat → Prop} {v1 v2 v3 : Value}, NdFp w F t v1 v2 v3 → NdFp w (fun q => F q ∧ q < w.heap.size) t v1 v2 v3) ?_
 intro b bs is ks ih F v1 v2 v3 h
 cases h with
 | @mk _ _ _ _ _ a1 a2 a3 c1 c2 c3 q1 q2 q3 G g1 g2 g3 s1 s2 h3 m3 i1 i2 i3 A hG hS hN =>
  have up : ∀ {n q a}, In1 w F n a q → In1 w (fun q => F q ∧ q < w.heap.size) n a q := fun i => ⟨i.ad, fun hn => ⟨i.mem hn, i.lt hn⟩, i.lt, i.fr⟩
  refine .mk (G := fun i q => G i q ∧ q < w.heap.size) s1 s2 h3 m3 (up i1) (up i2) (up i3) ⟨A.d12, A.d13, A.d23, fun hn i hi g => A.k1 hn i hi g.1, fun hn i hi g => A.k2 hn i hi g.1, fun i hi g => A.k3 i hi g.1, fun i j q hi hj ne g g' => A.kk i j q hi hj ne g.1 g'.1⟩ (fun i q hi g => ⟨hG i q hi g.1, g.2⟩) hS (fun i hi => ih _ (ndA_mem hi) (hN i hi))

structure TeB (w wr : World) (l : Ptr) : Prop where
 g : w.grownBy wr (some l.1)
 at' : ∀ b k v, w.cell? ⟨b, k, none⟩ = some v → ¬ (b = l.1 ∧ l.2 ≤ k ∧ k < l.2 + 7) → wr.cell? ⟨b, k, none⟩ = some v
 fr : ∀ b o, b < w.heap.size → w.frozen? ⟨b, o, none⟩ = false → wr.frozen? ⟨b, o, none⟩ = false
theorem TeB.refl (w : World) (l : Ptr) : TeB w w l := ⟨grownBy_refl _ _, fun _ _ _ e _ => e, fun _ _ _ e => e⟩
theorem TeB.grown {w wr w' : World} {l : Ptr} {R : Option Nat} (h : TeB w wr l) (g : wr.grownBy w' R) (hR : ∀ k, R = some k → w.heap.size ≤ k) : TeB w w' l := by
 have ne : ∀ b, b < w.heap.size → some b ≠ R := fun b hb e => by have := hR b e.symm; omega
 exact ⟨⟨g.os.trans h.g.os, g.tape.trans h.g.tape, g.output.trans h.g.output, Nat.le_trans h.g.size g.size, fun b hb n => (g.block b (Nat.lt_of_lt_of_le hb h.g.size) (ne b hb)).trans (h.g.block b hb n)⟩, fun b k v e n => by
  have hb := World.block_lt_of_cell? w _ e
  exact (World.cell?_of_block (a := ⟨b, k, none⟩) (g.block b (Nat.lt_of_lt_of_le hb h.g.size) (ne b hb))).trans (h.at' b k v e n), fun b o hb e => (grown_fr g (Nat.lt_of_lt_of_le hb h.g.size) (ne b hb) o).trans (h.fr b o hb e)⟩
theorem TeB.more {w wr w' : World} {l : Ptr} (h : TeB w wr l) (hb : Below wr.heap.size wr w') : TeB w w' l := h.grown (grown_of_below hb) (fun k e => by cases e)
theorem TeB.put {w wr : World} {l : Ptr} (h : TeB w wr l) {k : Nat} (h1 : l.2 ≤ k) (h2 : k < l.2 + 7) (u : Value) : TeB w (wr.setCell ⟨l.1, k, none⟩ u) l :=
 ⟨grownBy_setCell h.g rfl u, fun b j v e n => (cell_other (by
  by_cases c : l.1 = b
  ·right; rintro rfl; exact n ⟨c.symm, h1, h2⟩
  ·exact .inl c) u).trans (h.at' b j v e n), fun b o hb e => by rw [World.frozen?_setCell]; exact h.fr b o hb e⟩
theorem TeB.bel {w0 w wr : World} {l : Ptr} (h : TeB w wr l) (B : Below w0.heap.size w0 w) (hl : w0.heap.size ≤ l.1) : Below w0.heap.size w0 wr := B.grown h.g B.size (fun k e => by injection e with e; omega)

theorem Opn.below {w w' : World} {base : Nat} {R : Option Nat} {ls : List Ptr} (h : Opn w base R ls) (hb : Below w.heap.size w w') : Opn w' base R ls :=
 ⟨fun i hi => (h.z i hi).below hb, fun i o hi => (World.frozen?_of_block (a := ⟨_, o, none⟩) (hb.block _ (show (ptAt ls i).1 < w.heap.size from World.block_lt_of_cell? w _ (h.z i hi).c6))).trans (h.fr i o hi), h.ge, h.ne, h.ap⟩
theorem Wand.below {w w' : World} {base : Nat} {R : Option Nat} {ls : List Ptr} {ts : List Nd} {l0 : Ptr} {t0 : Nd} (K : Wand w base R ls ts l0 t0) (hb : Below w.heap.size w w') : Wand w' base R ls ts l0 t0 := by
 intro w'' Fs O hA hge hdj
 refine K w'' Fs ⟨Nat.le_trans hb.size O.size, fun b k v e nR nS => O.at' b k v (bat hb e) nR nS, fun b o hb' nR e => O.fr b o (Nat.lt_of_lt_of_le hb' hb.size) nR ((World.frozen?_of_block (a := ⟨b, o, none⟩) (hb.block b hb')).trans e)⟩ hA (fun i q hi f => Nat.le_trans hb.size (hge i q hi f)) hdj
structure FoS (w0 : World) (l0 : Ptr) (t0 : Nd) (k : Nat) (v : Value) (es : List Te) (ts : List Nd) (W : World) : Prop where
 row : RowTe w0.heap.size W v es
 wk : WkL w0 (es.map Prod.fst) ts
 op : Opn W w0.heap.size v.ownBlock (es.map Prod.snd)
 wd : Wand W w0.heap.size v.ownBlock (es.map Prod.snd) ts l0 t0
 sz : ndM.ndsM ts = k
 le : k ≤ 1048577
 bel : Below w0.heap.size w0 W
def FoR (w0 : World) (l0 : Ptr) (t0 : Nd) (v : Value) (W : World) (k : Nat) : Prop := ∃ es ts, FoS w0 l0 t0 k v es ts W ∧ ∀ x ∈ ts, ndSz x ≤ 1048576
theorem FoS.below {w0 : World} {l0 : Ptr} {t0 : Nd} {k : Nat} {v : Value} {es : List Te} {ts : List Nd} {W W' : World} (h : FoS w0 l0 t0 k v es ts W) (hb : Below W.heap.size W W') : FoS w0 l0 t0 k v es ts W' :=
 ⟨h.row.below hb, h.wk, h.op.below hb, h.wd.below hb, h.sz, h.le, h.bel.trans (hb.mono h.bel.size)⟩
theorem FoS.len {w0 : World} {l0 : Ptr} {t0 : Nd} {k : Nat} {v : Value} {es : List Te} {ts : List Nd} {W : World} (h : FoS w0 l0 t0 k v es ts W) : es.length ≤ k := by
 have h1 := h.wk.1
 rw [List.length_map] at h1
 have := ndsM_len ts
 have := h.sz
 omega
theorem FoS.two {w0 : World} {l0 : Ptr} {t0 : Nd} {k : Nat} {v : Value} {es : List Te} {ts : List Nd} {W : World} (h : FoS w0 l0 t0 k v es ts W) : (es = [] ∧ ts = []) ∨ ∃ es' e ts' t, es = es' ++ [e] ∧ ts = ts' ++ [t] := by
 have hl := h.wk.1
 rw [List.length_map] at hl
 rcases List.eq_nil_or_concat es with e | ⟨sq', q, e⟩
 ·left
  subst e
  exact ⟨rfl, List.eq_nil_of_length_eq_zero hl.symm⟩
 ·right
  rcases List.eq_nil_or_concat ts with e2 | ⟨st', t, e2⟩
  ·subst e e2; simp at hl
  ·exact ⟨sq', q, st', t, by rw [e, List.concat_eq_append], by rw [e2, List.concat_eq_append]⟩
theorem WkL.last {w : World} {qs : List Ptr} {q : Ptr} {ts : List Nd} {t : Nd} (h : WkL w (qs ++ [q]) (ts ++ [t])) : WkL w qs ts ∧ q.2 = 0 ∧ WkAt w q.1 t := by
 have hl : qs.length = ts.length := by have := h.1; simp at this; exact this
 have hn := h.2 ts.length (by simp)
 rw [ptAt_snoc, if_pos hl.symm, ndA_append, if_neg (by omega), Nat.sub_self] at hn
 refine ⟨⟨hl, fun i hi => ?_⟩, hn⟩
 have hi2 := h.2 i (by simp; omega)
 rw [ptAt_snoc, if_neg (by omega), ndA_append, if_pos hi] at hi2
 exact hi2
def teK (qk : List Ptr) (q3 : Nat) : List Te := qk.zip (spots q3 qk.length)
theorem teK_fst (qk : List Ptr) (q3 : Nat) : (teK qk q3).map Prod.fst = qk := by unfold teK; rw [List.map_fst_zip]; rw [spots_len]; exact Nat.le_refl _
theorem teK_snd (qk : List Ptr) (q3 : Nat) : (teK qk q3).map Prod.snd = spots q3 qk.length := by unfold teK; rw [List.map_snd_zip]; rw [spots_len]; exact Nat.le_refl _
theorem teK_len (qk : List Ptr) (q3 : Nat) : (teK qk q3).length = qk.length := by unfold teK; rw [List.length_zip, spots_len]; omega
theorem FoS.next {w0 : World} {l0 : Ptr} {t0 : Nd} {k : Nat} {v v' : Value} {es : List Te} {e : Te} {ts : List Nd} {t : Nd} {W W2 W3 : World} {qk : List Ptr} {q3 : Nat} (h : FoS w0 l0 t0 k v (es ++ [e]) (ts ++ [t]) W) (T : Told W W2 e.2 t q3) (B2 : TeB W W2 e.2) (hk : WkL w0 qk t.ks) (G : W2.grownBy W3 v.ownBlock) (R : RowTe w0.heap.size W3 v' (es ++ teK qk q3)) (hv : v'.ownBlock = v.ownBlock ∨ v'.ownBlock = some W2.heap.size) : ∃ k', k' < k ∧ FoS w0 l0 t0 k' v' (es ++ teK qk q3) (ts ++ t.ks) W3 := by
 have wk := h.wk
 have op := h.op
 have wd := h.wd
 rw [List.map_append, List.map_cons, List.map_nil] at wk op wd
 obtain ⟨wk1, _, _⟩ := wk.last
 have hl : (es.map Prod.snd).length = ts.length := by have := wk1.1; rw [List.length_map] at this; rw [List.length_map]; exact this
 have hRl : ∀ k, v.ownBlock = some k → k < W.heap.size := fun k hk => (World.ownsRow.lt h.row k hk).2
 have hR' : v'.ownBlock = v.ownBlock ∨ ∀ k, v'.ownBlock = some k → W2.heap.size ≤ k := by
  rcases hv with c | c
  ·exact .inl c
  ·exact .inr (fun k e => by rw [c] at e; injection e with e; omega)
 have hkl : qk.length = t.ks.length := hk.1
 have hge : w0.heap.size ≤ e.2.1 := by
  have := op.ge (es.map Prod.snd).length (by rw [List.length_append]; simp)
  rw [ptAt_app, if_neg (by omega), Nat.sub_self] at this
  exact this
 have s := h.sz
 rw [ndsM_app] at s
 have s3 : ndM.ndsM [t] = 1 + ndM.ndsM t.ks := by obtain ⟨b, bs, is, ks⟩ := t; simp [ndM.ndsM, ndM, Nd.ks]
 have l := h.le
 refine ⟨ndM.ndsM (ts ++ t.ks), ?_, R, ?_, ?_, ?_, rfl, ?_, ?_⟩
 ·rw [ndsM_app]; omega
 ·rw [List.map_append, teK_fst]
  exact wk1.app hk
 ·rw [List.map_append, teK_snd, hkl]
  exact op.step T G hR' hRl h.bel.size
 ·rw [List.map_append, teK_snd, hkl]
  exact wd.step op hl T G hR' hRl
 ·rw [ndsM_app]; omega
 ·exact (B2.bel h.bel hge).grown G (B2.bel h.bel hge).size (fun k hk => (World.ownsRow.lt h.row k hk).1)
end Go.Proofs.YtinlomcaagdbiaaGreat
