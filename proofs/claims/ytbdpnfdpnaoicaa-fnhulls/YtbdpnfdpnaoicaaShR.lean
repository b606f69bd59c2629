/- Shapes that a call owns, with what stands in them: each row in a block of its own. -/
import Derived.Test.YtbdpnfdpnaoicaaDrS
import Derived.Test.YtbdpnfdpnaoicaaHeld
import Derived.Test.YtbdpnfdpnaoicaaMark
import Derived.Deep.Cut
namespace Go.Proofs.Ytbdpnfdpnaoicaa
open Go.RowKit

/-- A cell of an older block, where but one block was written. -/
theorem cell_drawn {w w' : World} {p b o : Nat} {u : Value} (g : w.grownBy w' (some p)) (c : w.cell? ⟨b, o, none⟩ = some u) (ne : b ≠ p) : w'.cell? ⟨b, o, none⟩ = some u :=
  (World.cell?_of_block (a := ⟨b, o, none⟩) (g.block b (World.block_lt_of_cell? _ _ c) (fun e => ne (by simpa using e)))).trans c
theorem SeesP.drawn {w w' : World} {p q off c : Nat} {ps : List (Int × Int)} (h : SeesP w (some ⟨q, off, none⟩) c ps) (g : w.grownBy w' (some p)) (ne : q ≠ p) : SeesP w' (some ⟨q, off, none⟩) c ps :=
  ⟨h.fits, h.max, fun hn => by
    obtain ⟨b, o, e, hc⟩ := h.cells hn
    simp only [Option.some.injEq, Addr.mk.injEq] at e
    obtain ⟨rfl, rfl, _⟩ := e
    exact ⟨_, _, rfl, fun i hi => ⟨cell_drawn g (hc i hi).1 ne, cell_drawn g (hc i hi).2 ne⟩⟩⟩
theorem SeesP.drawnA {w w' : World} {p c : Nat} {a : Option Addr} {ps : List (Int × Int)} (h : SeesP w a c ps) (g : w.grownBy w' (some p)) (ne : ∀ b off, a = some ⟨b, off, none⟩ → ps ≠ [] → b ≠ p) : SeesP w' a c ps :=
  ⟨h.fits, h.max, fun hn => by
    obtain ⟨b, o, e, hc⟩ := h.cells hn
    exact ⟨_, _, e, fun i hi => ⟨cell_drawn g (hc i hi).1 (ne b o e hn), cell_drawn g (hc i hi).2 (ne b o e hn)⟩⟩⟩
theorem SeesP.newsD {w : World} {b off cap : Nat} {ps : List (Int × Int)} (h : SeesP w (some ⟨b, off, none⟩) cap ps) : ∀ j u, (ptC ps)[j]? = some u → w.cell? ((⟨b, off, none⟩ : Addr).add j) = some u := by
  intro j u hu
  have hj : j < ps.length * 2 := by
    have := (List.getElem?_eq_some_iff.mp hu).1
    rwa [ptC_len] at this
  have hi : j / 2 < ps.length := by omega
  obtain ⟨b', off', e, hc⟩ := h.cells (by intro e; simp [e] at hi)
  simp only [Option.some.injEq, Addr.mk.injEq] at e
  obtain ⟨rfl, rfl, _⟩ := e
  obtain ⟨c0, c1⟩ := hc _ hi
  obtain ⟨p0, p1⟩ := ptC_at ps (j / 2) hi
  rw [Addr.add_lit]
  have hm : j = j / 2 * 2 ∨ j = j / 2 * 2 + 1 := by omega
  rcases hm with m | m
  · rw [m] at hu ⊢
    rw [p0] at hu
    injection hu with hu
    rw [← hu]
    exact c0
  · rw [m] at hu ⊢
    rw [p1] at hu
    injection hu with hu
    rw [← hu, ← Nat.add_assoc]
    exact c1
theorem SeesP.newsA {w : World} {ad : Addr} {cap : Nat} {ps : List (Int × Int)} (h : SeesP w (some ad) cap ps) : ∀ j u, (ptC ps)[j]? = some u → w.cell? (ad.add j) = some u := by
  by_cases e : ps = []
  · subst e
    intro j u hu
    simp [ptC] at hu
  · obtain ⟨b, off, q, _⟩ := h.cells e
    injection q with q
    subst q
    exact h.newsD
theorem infoR' : (Try.prog.info? 24).map (fun i => (i.zero, i.size, i.bytes)) = some (some (.slice none 0 0), 1, 24) := by kernel_rfl
theorem slice_newR (w : World) (e : TypeId) (x : Value) : ∀ j u, ([x])[j]? = some u → (w.alloc (.cells #[x] e)).cell? ((⟨w.heap.size, 0, none⟩ : Addr).add j) = some u := by
  intro j u hu
  cases j with
  | zero =>
    simp at hu
    subst hu
    exact cell_new w #[x] e 0 rfl
  | succ j => simp at hu
theorem Ext2.box {lo p : Nat} {w w' : World} {v x0 x1 : Value} (g : w.grownBy w' v.ownBlock) (B : Box2 lo w p x0 x1) (ne : v.ownBlock ≠ some p) : Box2 lo w' p x0 x1 := by
  have hb := g.block p B.lt (fun e => ne e.symm)
  exact ⟨(World.cell?_of_block hb).trans B.c0, (World.cell?_of_block hb).trans B.c1, fun o => (World.frozen?_of_block (a := ⟨p, o, none⟩) hb).trans (B.fr o), B.lo⟩
theorem Box2.set1 {lo p : Nat} {w : World} {x0 x1 : Value} (h : Box2 lo w p x0 x1) (u : Value) : Box2 lo (w.setCell ⟨p, 1, none⟩ u) p x0 u :=
  ⟨(cell_other (.inr (by simp)) u).trans h.c0, cell_same h.c1 u, fun o => (World.frozen?_setCell ..).trans (h.fr o), h.lo⟩

/-- A list of rows of points of the call's own: each row in a block of its own. -/
structure ShR (lo : Nat) (w : World) (v : Value) (vs : List Value) (rs : List (List (Int × Int))) : Prop where
  own : w.ownsRow lo 24 1 v vs.length vs
  len : Hid (vs.length = rs.length)
  rows : ∀ (i : Nat) (u : Value), vs[i]? = some u → RowPt lo w u (rowA rs i)
  ne : ∀ u ∈ vs, ∀ k, u.ownBlock = some k → v.ownBlock ≠ some k
  apart : ∀ (i j : Nat) (u u' : Value), i < j → vs[i]? = some u → vs[j]? = some u' → ∀ k, u.ownBlock = some k → u'.ownBlock ≠ some k
theorem ShR.row {lo : Nat} {w : World} {v u : Value} {vs : List Value} {rs : List (List (Int × Int))} (h : ShR lo w v vs rs) (hu : u ∈ vs) : ∃ ps, RowPt lo w u ps := by
  obtain ⟨i, hi, e⟩ := List.getElem_of_mem hu
  exact ⟨_, h.rows i u (by rw [List.getElem?_eq_getElem hi, e])⟩
theorem ShR.kept {lo : Nat} {w w' : World} {v : Value} {vs : List Value} {rs : List (List (Int × Int))} {row : Option Nat} (h : ShR lo w v vs rs) (g : w.grownBy w' row) (nv : ∀ k, v.ownBlock = some k → row ≠ some k) (nr : ∀ u ∈ vs, ∀ k, u.ownBlock = some k → row ≠ some k) : ShR lo w' v vs rs :=
  ⟨owns_kept h.own g nv, h.len, fun i u hu => owns_kept (h.rows i u hu) g (nr u (List.mem_of_getElem? hu)), h.ne, h.apart⟩
theorem ShR.below {lo : Nat} {w w' : World} {v : Value} {vs : List Value} {rs : List (List (Int × Int))} (h : ShR lo w v vs rs) (hb : Below w.heap.size w w') : ShR lo w' v vs rs :=
  h.kept (grown_of_below hb) (fun _ _ e => by cases e) (fun _ _ _ _ e => by cases e)
theorem ShR.lts {lo : Nat} {w : World} {v : Value} {vs : List Value} {rs : List (List (Int × Int))} (h : ShR lo w v vs rs) : (∀ k, v.ownBlock = some k → lo ≤ k ∧ k < w.heap.size) ∧ ∀ u ∈ vs, ∀ k, u.ownBlock = some k → lo ≤ k ∧ k < w.heap.size :=
  ⟨fun k hk => World.ownsRow.lt h.own k hk, fun u hu k hk => by
    obtain ⟨ps, R⟩ := h.row hu
    exact World.ownsRow.lt R k hk⟩
theorem ShR.drawn {lo p : Nat} {w w' : World} {v : Value} {vs : List Value} {rs : List (List (Int × Int))} (h : ShR lo w v vs rs) (g : w.grownBy w' (some p)) (hp : p < lo) : ShR lo w' v vs rs :=
  h.kept g (fun k hk e => by have := (h.lts.1 k hk).1; injection e with e; omega) (fun u hu k hk e => by
    have := (h.lts.2 u hu k hk).1
    injection e with e
    omega)
theorem ShR.base {lo lo' : Nat} {w : World} {v : Value} {vs : List Value} {rs : List (List (Int × Int))} (h : ShR lo w v vs rs) (hl : lo' ≤ lo) : ShR lo' w v vs rs :=
  ⟨row_base h.own hl, h.len, fun i u hu => row_base (h.rows i u hu) hl, h.ne, h.apart⟩
theorem ShR.nil (lo : Nat) (w : World) : ShR lo w (.slice none 0 0) [] [] :=
  ⟨⟨rfl, .inl ⟨rfl, rfl⟩⟩, rfl, fun _ _ h => (by simp at h), fun _ h => (by cases h), fun i j u u' _ h => (by simp at h)⟩
theorem ShR.shape {lo : Nat} {w : World} {v : Value} {vs : List Value} {rs : List (List (Int × Int))} (h : ShR lo w v vs rs) : ∃ a c, v = .slice a vs.length c ∧ vs.length ≤ c ∧ c ≤ maxLen := by
  rcases h.own.2 with ⟨hv, h0⟩ | ⟨q, cap, cur, hv, _, _, hf, hm, _⟩
  · exact ⟨none, 0, by rw [hv, h0], by omega, by simp [maxLen]⟩
  · exact ⟨_, cap, hv, hf, hm⟩
/-- The row i, as it lies in the list. -/
theorem ShR.at' {lo : Nat} {w : World} {v : Value} {vs : List Value} {rs : List (List (Int × Int))} (h : ShR lo w v vs rs) {i : Nat} (hi : i < rs.length) : ∃ g c a' c', v = .slice (some ⟨g, 0, none⟩) rs.length c ∧ vs[i]? = some (.slice a' (rowA rs i).length c') ∧ w.cell? ⟨g, i, none⟩ = some (.slice a' (rowA rs i).length c') ∧ RowPt lo w (.slice a' (rowA rs i).length c') (rowA rs i) := by
  have hl := h.len.out
  have hiv : i < vs.length := by omega
  obtain ⟨g, c, e⟩ := (show ∃ g c, v = .slice (some ⟨g, 0, none⟩) vs.length c by
    rcases h.own.2 with ⟨hv, h0⟩ | ⟨q, cap, cur, hv, _⟩
    · omega
    · exact ⟨q, cap, hv⟩)
  have hv := List.getElem?_eq_getElem hiv
  have R := h.rows i _ hv
  obtain ⟨a', c', e', _, _⟩ := R.shape
  rw [e'] at R hv
  have own := h.own
  rw [e] at own
  refine ⟨g, c, a', c', by rw [e, hl], hv, ?_, R⟩
  rw [World.ownsRow.cellAt own i (by omega), hv]
theorem ShR.sees {lo : Nat} {w : World} {a : Option Addr} {n c : Nat} {vs : List Value} {rs : List (List (Int × Int))} (h : ShR lo w (.slice a n c) vs rs) : SeesS w a c rs := by
  obtain ⟨a2, c2, e, f, m⟩ := h.shape
  injection e with e1 e2 e3
  subst e1 e3
  refine ⟨by have := h.len.out; omega, m, fun hn => ?_⟩
  have hp : 0 < rs.length := List.length_pos_iff.2 hn
  obtain ⟨g, c0, _, _, e, _⟩ := h.at' hp
  injection e with e1 e2 e3
  subst e1
  refine ⟨g, 0, rfl, fun i hi => ?_⟩
  obtain ⟨g', c', a', c'', e, _, hc, R⟩ := h.at' hi
  injection e with e1 e2 e3
  injection e1 with e1
  injection e1 with e1
  subst e1
  exact ⟨a', c'', by rw [Nat.zero_add]; exact hc, R.seesP⟩
theorem rowA_append_left {rs : List (List (Int × Int))} {ps : List (Int × Int)} {i : Nat} (h : i < rs.length) : rowA (rs ++ [ps]) i = rowA rs i := by
  unfold rowA
  rw [List.getElem?_append_left h]
theorem rowA_append_last {rs : List (List (Int × Int))} {ps : List (Int × Int)} : rowA (rs ++ [ps]) rs.length = ps := by
  unfold rowA
  rw [List.getElem?_append_right (Nat.le_refl _), Nat.sub_self]
  rfl
theorem rowA_take {rs : List (List (Int × Int))} {j : Nat} (h : j < rs.length) : rs.take (j + 1) = rs.take j ++ [rowA rs j] := by
  rw [List.take_add_one]
  unfold rowA
  rw [List.getElem?_eq_getElem h]
  rfl
/-- A row more. -/
theorem ShR.snoc {lo : Nat} {w w' : World} {v v' u : Value} {vs : List Value} {rs : List (List (Int × Int))} {ps : List (Int × Int)} (h : ShR lo w v vs rs) (Ru : RowPt lo w u ps) (nu : ∀ k, u.ownBlock = some k → v.ownBlock ≠ some k ∧ v'.ownBlock ≠ some k ∧ ∀ x ∈ vs, x.ownBlock ≠ some k)
    (own : w'.ownsRow lo 24 1 v' (vs.length + 1) (vs ++ [u])) (g : w.grownBy w' v.ownBlock) (at' : v'.ownBlock = v.ownBlock ∨ v'.ownBlock = some w.heap.size) : ShR lo w' v' (vs ++ [u]) (rs ++ [ps]) := by
  have keep : ∀ x ps, RowPt lo w x ps → (∀ k, x.ownBlock = some k → v.ownBlock ≠ some k) → RowPt lo w' x ps := fun x ps R n => owns_kept R g n
  have hl := h.len.out
  refine ⟨by rw [List.length_append]; exact own, (by show _ = _; rw [List.length_append, List.length_append, hl]; rfl), fun i x hx => ?_, fun x hx k hk => ?_, fun i j x x' hij hi hj k hk => ?_⟩
  · by_cases hi : i < vs.length
    · rw [List.getElem?_append_left hi] at hx
      rw [rowA_append_left (by omega)]
      exact keep x _ (h.rows i x hx) (h.ne x (List.mem_of_getElem? hx))
    · have hi2 : i = vs.length := by
        have := (List.getElem?_eq_some_iff.mp hx).1
        rw [List.length_append] at this
        simp at this
        omega
      subst hi2
      rw [List.getElem?_append_right (Nat.le_refl _), Nat.sub_self] at hx
      simp at hx
      subst hx
      rw [hl, rowA_append_last]
      exact keep _ ps Ru (fun k hk => (nu k hk).1)
  · rcases List.mem_append.1 hx with hx | hx
    · rcases at' with e | e
      · rw [e]; exact h.ne x hx k hk
      · have := (h.lts.2 x hx k hk).2
        rw [e]
        intro q
        injection q with q
        omega
    · simp at hx
      subst hx
      exact (nu k hk).2.1
  · by_cases hjl : j < vs.length
    · rw [List.getElem?_append_left (by omega)] at hi
      rw [List.getElem?_append_left hjl] at hj
      exact h.apart i j x x' hij hi hj k hk
    · have hj2 : j = vs.length := by
        have := (List.getElem?_eq_some_iff.mp hj).1
        rw [List.length_append] at this
        simp at this
        omega
      subst hj2
      rw [List.getElem?_append_left (by omega)] at hi
      rw [List.getElem?_append_right (Nat.le_refl _), Nat.sub_self] at hj
      simp at hj
      subst hj
      intro q
      exact (nu k q).2.2 x (List.mem_of_getElem? hi) hk
theorem rowA_set_same {rs : List (List (Int × Int))} {ps : List (Int × Int)} {i : Nat} (h : i < rs.length) : rowA (rs.set i ps) i = ps := by
  unfold rowA
  rw [List.getElem?_set_self h]
  rfl
theorem rowA_set_other {rs : List (List (Int × Int))} {ps : List (Int × Int)} {i j : Nat} (h : i ≠ j) : rowA (rs.set i ps) j = rowA rs j := by
  unfold rowA
  rw [List.getElem?_set_ne h]
/-- The row i is written anew. -/
theorem ShR.set {lo : Nat} {w w' : World} {v u : Value} {vs : List Value} {rs : List (List (Int × Int))} {ps : List (Int × Int)} {i : Nat} (h : ShR lo w v vs rs) (hi : i < rs.length) (hu : vs[i]? = some u) (Ru : RowPt lo w' u ps) (g : w.grownBy w' u.ownBlock) : ShR lo w' v vs (rs.set i ps) := by
  have hm := List.mem_of_getElem? hu
  refine ⟨owns_kept h.own g (fun k hk e => h.ne u hm k e hk), (by show _ = _; rw [List.length_set]; exact h.len.out), fun j x hx => ?_, h.ne, h.apart⟩
  by_cases e : i = j
  · subst e
    rw [rowA_set_same hi]
    rw [hu] at hx
    injection hx with hx
    rw [← hx]
    exact Ru
  · rw [rowA_set_other e]
    refine owns_kept (h.rows j x hx) g (fun k hk q => ?_)
    rcases Nat.lt_or_gt_of_ne e with lt | gt
    · exact h.apart i j u x lt hu hx k q hk
    · exact h.apart j i x u gt hx hu k hk q
theorem ptC_set : ∀ (ps : List (Int × Int)) (i : Nat) (x y : Int), ((ptC ps).set (i * 2) (.int .i64 x)).set (i * 2 + 1) (.int .i64 y) = ptC (ps.set i (x, y))
  | [], _, _, _ => by simp [ptC]
  | p :: r, 0, x, y => by simp [ptC]
  | p :: r, i + 1, x, y => by
    have e : ptC (p :: r) = .int .i64 p.1 :: .int .i64 p.2 :: ptC r := rfl
    have e2 : ptC ((p :: r).set (i + 1) (x, y)) = .int .i64 p.1 :: .int .i64 p.2 :: ptC (r.set i (x, y)) := rfl
    rw [e, e2, show (i + 1) * 2 = i * 2 + 1 + 1 by omega, List.set_cons_succ, List.set_cons_succ, List.set_cons_succ, List.set_cons_succ, ptC_set r i x y]
/-- A point of a row is written anew. -/
theorem RowPt.setAt {lo g n cap : Nat} {w : World} {ps : List (Int × Int)} (h : RowPt lo w (.slice (some ⟨g, 0, none⟩) n cap) ps) (i : Nat) (x y : Int) :
    RowPt lo ((w.setCell ⟨g, i * 2, none⟩ (.int .i64 x)).setCell ⟨g, i * 2 + 1, none⟩ (.int .i64 y)) (.slice (some ⟨g, 0, none⟩) n cap) (ps.set i (x, y)) ∧ w.grownBy ((w.setCell ⟨g, i * 2, none⟩ (.int .i64 x)).setCell ⟨g, i * 2 + 1, none⟩ (.int .i64 y)) (some g) := by
  unfold RowPt at *
  obtain ⟨a, c, e, _, _⟩ := RowPt.shape h
  injection e with e1 e2 e3
  subst e2
  obtain ⟨h1, g1⟩ := h.stored (i * 2) (.int .i64 x)
  obtain ⟨h2, g2⟩ := h1.stored (i * 2 + 1) (.int .i64 y)
  rw [ptC_set] at h2
  rw [List.length_set]
  exact ⟨h2, grownBy_trans g1 g2⟩
theorem ShR.puts {base lo hi : Nat} {w w' : World} {v : Value} {vs : List Value} {rs : List (List (Int × Int))} (h : ShR base w v vs rs) (P : Puts lo hi w w') (nv : ∀ k, v.ownBlock = some k → k < lo ∨ hi ≤ k) (nr : ∀ u ∈ vs, ∀ k, u.ownBlock = some k → k < lo ∨ hi ≤ k) : ShR base w' v vs rs :=
  P (fun W => ShR base W v vs rs) (fun W b o u h1 h2 q => q.kept (grownBy_setCell (grownBy_refl W (some b)) rfl u) (fun k hk e => by have := nv k hk; injection e with e; omega) (fun x hx k hk e => by have := nr x hx k hk; injection e with e; omega)) h
end Go.Proofs.Ytbdpnfdpnaoicaa
