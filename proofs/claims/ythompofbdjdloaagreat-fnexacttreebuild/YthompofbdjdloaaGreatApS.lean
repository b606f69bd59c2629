/- Appends of lists that are only seen, in a drawn region: numbers, boxes. -/
import Derived.Test.YthompofbdjdloaaGreatTbL
import Derived.Test.YthompofbdjdloaaGreatIntsL
import Derived.Laws.AppendOwnNone
import Derived.Lib.SliceRun
namespace Go.Proofs.YthompofbdjdloaaGreat
open Go.RowKit

theorem run_append_zeroS {P : Program} {w : World} (base : Nat) (t ty e : TypeId) (i : TypeInfo) (size : Nat) (ht : P.underlying t = some (.slice e)) (hi : P.info? e = some i) (v : Value) (n c : Nat) (xs : List Value) (hown : w.ownsRow base e size v n xs) :
    (Builtin.append_ #[t, t] ty #[v, .slice none 0 c]).run P w = .ok v w := by
  rcases hown.2 with ⟨rfl, rfl⟩ | ⟨g, cap, cur, rfl, _, _, hnc, _⟩
  · simp [Builtin.append_, run_underlying ht, sizeOf, typeInfo, hi, Builtin.lenOf, Builtin.firstCells]
  · simp [Builtin.append_, run_underlying ht, sizeOf, typeInfo, hi, Builtin.lenOf, Builtin.firstCells, hnc, storeCells]
set_option maxRecDepth 100000 in
theorem wp_append_sI {w : World} {o : Oper} {a : Act} {K : Act → World → Prop} {Q : Exit → Act → World → Prop} (s x : Operand)
    (ho : o.op = .call { callee := .builtin .append, args := #[s, x], argTypes := #[22, 22] }) (base : Nat) (v : Value) (ds : List Int) (hs : a.eval s = v) (R : RowI base w v ds) (aa : Option Addr) (cc : Nat) (is : List Int) (hx : a.eval x = .slice aa is.length cc) (S : SeesI w aa cc is) (hl : ds.length + is.length ≤ 4000000) (hb : base ≤ w.heap.size)
    (h : ∀ v' w', RowI base w' v' (ds ++ is) → w.grownBy w' v.ownBlock → K (a.put o.dst v') w') : o.wp Tryz.prog a w K Q := by
  obtain ⟨iX, hiX, hx0, hx1, hx2⟩ := info_parts infoI
  cases aa with
  | none =>
    have e : is = [] := by
      rcases is with _ | ⟨y, l⟩
      · rfl
      · obtain ⟨b, off, e, _⟩ := S.cells (by simp)
        cases e
    subst e
    have hrun := run_append_zeroS (P := Tryz.prog) (w := w) base 22 o.type 3 iX 1 Tryz.underlying22 hiX v ds.length cc (ds.map (Value.int .i64)) R
    unfold Oper.wp execOp
    simp only [List.length_nil] at hx
    simp only [ho, resolve, invoke, builtin, Sem.run_bind, Sem.run_pure, Result.andThen_ok, List.map_toArray, List.map_cons, List.map_nil, hs, hx, hrun]
    exact h v w (by rw [List.append_nil]; exact R) (grownBy_refl _ _)
  | some ad =>
    refine wp_append_at s x 22 ho base 3 iX (.int .i64 0) 1 8 Tryz.underlying22 hiX hx0 hx1 hx2 rfl (by decide) v ds.length (ds.map (Value.int .i64)) hs R ad is.length cc (is.map (Value.int .i64)) hx (by simp) (fun j u hu => ?_) (onesI _) (by unfold maxLen; omega) (by omega) hb (fun v' w' R' G _ => h v' w' ?_ G)
    · have hj : j < is.length := by have := (List.getElem?_eq_some_iff.mp hu).1; simpa using this
      obtain ⟨b, off, e, hc⟩ := S.cells (by intro e; rw [e] at hj; simp at hj)
      injection e with e
      subst e
      rw [Addr.add_lit, hc j hj, ← hu, List.getElem?_map, List.getElem?_eq_getElem hj]
      rfl
    · unfold RowI
      rw [List.map_append, List.length_append]
      exact R'
theorem boxC_len : ∀ bs : List Bx, (boxC bs).length = bs.length * 4
  | [] => rfl
  | e :: r => by
    have := boxC_len r
    have e2 : boxC (e :: r) = [.int .i64 e.1, .int .i64 e.2.1, .int .i64 e.2.2.1, .int .i64 e.2.2.2] ++ boxC r := rfl
    rw [e2, List.length_append, this, List.length_cons]
    simp only [List.length_cons, List.length_nil]
    omega
theorem boxC_seen {w : World} {b off : Nat} : ∀ (bs : List Bx) (j : Nat) (u : Value), (∀ i, i < bs.length → Four w b (off + i * 4) (bxAt bs i)) → (boxC bs)[j]? = some u → w.cell? ⟨b, off + j, none⟩ = some u := by
  intro bs j u hc hu
  have hj : j < bs.length * 4 := by have := (List.getElem?_eq_some_iff.mp hu).1; rw [boxC_len] at this; exact this
  obtain ⟨c0, c1, c2, c3⟩ := boxC_at bs (j / 4) (by omega)
  obtain ⟨f0, f1, f2, f3⟩ := hc (j / 4) (by omega)
  rcases (show j % 4 = 0 ∨ j % 4 = 1 ∨ j % 4 = 2 ∨ j % 4 = 3 by omega) with m | m | m | m
  · have e : j = j / 4 * 4 := by omega
    rw [← e] at c0 f0
    rw [c0] at hu
    rw [f0, ← hu]
  · have e : j / 4 * 4 + 1 = j := by omega
    rw [e] at c1
    rw [show off + j / 4 * 4 + 1 = off + j by omega] at f1
    rw [c1] at hu
    rw [f1, ← hu]
  · have e : j / 4 * 4 + 2 = j := by omega
    rw [e] at c2
    rw [show off + j / 4 * 4 + 2 = off + j by omega] at f2
    rw [c2] at hu
    rw [f2, ← hu]
  · have e : j / 4 * 4 + 3 = j := by omega
    rw [e] at c3
    rw [show off + j / 4 * 4 + 3 = off + j by omega] at f3
    rw [c3] at hu
    rw [f3, ← hu]
set_option maxRecDepth 100000 in
theorem wp_append_sX {w : World} {o : Oper} {a : Act} {K : Act → World → Prop} {Q : Exit → Act → World → Prop} (s x : Operand)
    (ho : o.op = .call { callee := .builtin .append, args := #[s, x], argTypes := #[29, 29] }) (base : Nat) (v : Value) (ds : List Bx) (hs : a.eval s = v) (R : RowBx base w v ds) (aa : Option Addr) (cc : Nat) (bs : List Bx) (hx : a.eval x = .slice aa bs.length cc) (S : SeesX w aa cc bs) (hl : ds.length + bs.length ≤ 4000000) (hb : base ≤ w.heap.size)
    (h : ∀ v' w', RowBx base w' v' (ds ++ bs) → w.grownBy w' v.ownBlock → K (a.put o.dst v') w') : o.wp Tryz.prog a w K Q := by
  obtain ⟨iX, hiX, hx0, hx1, hx2⟩ := info_parts infoX
  cases aa with
  | none =>
    have e : bs = [] := by
      rcases bs with _ | ⟨y, l⟩
      · rfl
      · obtain ⟨b, off, e, _⟩ := S.cells (by simp)
        cases e
    subst e
    have hrun := run_append_zeroS (P := Tryz.prog) (w := w) base 29 o.type 28 iX 4 Tryz.underlying29 hiX v ds.length cc (boxC ds) R
    unfold Oper.wp execOp
    simp only [List.length_nil] at hx
    simp only [ho, resolve, invoke, builtin, Sem.run_bind, Sem.run_pure, Result.andThen_ok, List.map_toArray, List.map_cons, List.map_nil, hs, hx, hrun]
    exact h v w (by rw [List.append_nil]; exact R) (grownBy_refl _ _)
  | some ad =>
    refine wp_append_at s x 29 ho base 28 iX (.agg #[.int .i64 0, .int .i64 0, .int .i64 0, .int .i64 0]) 4 32 Tryz.underlying29 hiX hx0 hx1 hx2 rfl (by decide) v ds.length (boxC ds) hs R ad bs.length cc (boxC bs) hx (boxC_len bs) (fun j u hu => ?_) (boxC_ones _) (by unfold maxLen; omega) (by omega) hb (fun v' w' R' G _ => h v' w' ?_ G)
    · have hj : j < bs.length * 4 := by have := (List.getElem?_eq_some_iff.mp hu).1; rw [boxC_len] at this; exact this
      obtain ⟨b, off, e, hc⟩ := S.cells (by intro e; rw [e] at hj; simp at hj)
      injection e with e
      subst e
      rw [Addr.add_lit]
      exact boxC_seen bs j u hc hu
    · unfold RowBx
      rw [boxC_append, List.length_append]
      exact R'
theorem ownsTyK {base e s n : Nat} {w : World} {v : Value} {xs : List Value} (h : w.ownsRow base e s v n xs) (k : Nat) (hk : v.ownBlock = some k) : ∃ cs : Array Value, w.heap[k]? = some (.cells cs e (0, 0)) := by
  rcases h.2 with ⟨hv, h0⟩ | ⟨g, cap', cur, hv, hb, hh, r⟩
  · rw [hv] at hk; cases hk
  · rw [hv] at hk
    injection hk with hk
    exact ⟨cur, by rw [← hk]; exact hh⟩
/-- Rows of two types lie apart. -/
theorem tyNeK {w : World} {e e' : TypeId} {k k' : Nat} (h : ∃ cs : Array Value, w.heap[k]? = some (.cells cs e (0, 0))) (h' : ∃ cs : Array Value, w.heap[k']? = some (.cells cs e' (0, 0))) (ne : e ≠ e') : k ≠ k' := by
  intro q
  subst q
  obtain ⟨c1, e1⟩ := h
  obtain ⟨c2, e2⟩ := h'
  rw [e1] at e2
  injection e2 with e2
  injection e2 with _ e2 _
  exact ne e2
theorem ownsApK {base e s n base' e' s' n' : Nat} {w w' : World} {v v' : Value} {xs xs' : List Value} (h : w.ownsRow base e s v n xs) (h' : w.ownsRow base' e' s' v' n' xs') (ne : e ≠ e') (g : w.grownBy w' v'.ownBlock) : w'.ownsRow base e s v n xs := by
  refine World.ownsRow.kept h g ?_
  cases q : v.ownBlock with
  | none => exact .inl rfl
  | some k => exact .inr (fun e2 => tyNeK (ownsTyK h k q) (ownsTyK h' k e2.symm) ne rfl)
theorem rowI_seesK {base : Nat} {w : World} {v : Value} {ds : List Int} (h : RowI base w v ds) : ∃ a c, v = .slice a ds.length c ∧ SeesI w a c ds ∧ ∀ b o, a = some ⟨b, o, none⟩ → base ≤ b ∧ v.ownBlock = some b := by
  obtain ⟨a, c, e, h1, h2⟩ := h.shape'
  refine ⟨a, c, e, ⟨h1, h2, fun hn => ?_⟩, fun b o ea => ?_⟩
  · obtain ⟨q, cap, e2, _, _⟩ := h.shape hn
    rw [e] at e2
    injection e2 with e3 _ e5
    rw [e, e3] at h
    exact ⟨q, 0, e3, fun i hi => by rw [Nat.zero_add]; exact h.at' hi⟩
  · have hb : v.ownBlock = some b := by rw [e, ea]; rfl
    exact ⟨(World.ownsRow.lt h b hb).1, hb⟩
theorem rowX_seesK {base : Nat} {w : World} {v : Value} {bs : List Bx} (h : RowBx base w v bs) : ∃ a c, v = .slice a bs.length c ∧ SeesX w a c bs ∧ ∀ b o, a = some ⟨b, o, none⟩ → base ≤ b ∧ v.ownBlock = some b := by
  obtain ⟨a, c, e, S⟩ := RowBx.sees h
  refine ⟨a, c, e, S, fun b o ea => ?_⟩
  have hb : v.ownBlock = some b := by rw [e, ea]; rfl
  exact ⟨(World.ownsRow.lt h b hb).1, hb⟩
end Go.Proofs.YthompofbdjdloaaGreat
