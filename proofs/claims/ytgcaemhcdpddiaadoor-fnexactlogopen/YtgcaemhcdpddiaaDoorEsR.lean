/- Rows of bytes, each with where it ends, in a list of a call's own, each row in a block of its own. -/
import Derived.Test.YtgcaemhcdpddiaaDoorBsR
namespace Go.Proofs.YtgcaemhcdpddiaaDoor
open Go.RowKit

theorem infoEs2 : (Tryd.prog.info? 57).map (fun i => (i.zero, i.size, i.bytes)) = some (some (.agg #[.slice none 0 0, .int .i64 0]), 2, 32) := by kernel_rfl
def esC (us : List (Value × Int)) : List Value := us.flatMap fun p => [p.1, .int .i64 p.2]
theorem esC_len (us : List (Value × Int)) : (esC us).length = us.length * 2 := by
  induction us with
  | nil => rfl
  | cons p r ih => simp only [esC, List.flatMap_cons, List.length_append, List.length_cons, List.length_nil] at *; omega
theorem esC_snoc (us : List (Value × Int)) (p : Value × Int) : esC (us ++ [p]) = esC us ++ [p.1, .int .i64 p.2] := by simp [esC]
theorem esC_at : ∀ (us : List (Value × Int)) (j : Nat) (p : Value × Int), us[j]? = some p → (esC us)[j * 2]? = some p.1 ∧ (esC us)[j * 2 + 1]? = some (.int .i64 p.2)
  | [], j, p, h => by simp at h
  | q :: r, 0, p, h => by simp at h; subst h; exact ⟨rfl, rfl⟩
  | q :: r, j + 1, p, h => by
    rw [List.getElem?_cons_succ] at h
    have := esC_at r j p h
    have e1 : (j + 1) * 2 = j * 2 + 1 + 1 := by omega
    have e2 : (j + 1) * 2 + 1 = j * 2 + 1 + 1 + 1 := by omega
    have e0 : esC (q :: r) = q.1 :: .int .i64 q.2 :: esC r := rfl
    rw [e0, e1]
    refine ⟨?_, ?_⟩
    · rw [List.getElem?_cons_succ, List.getElem?_cons_succ]; exact this.1
    · rw [List.getElem?_cons_succ, List.getElem?_cons_succ]; exact this.2
theorem pair_newE (w : World) (e : TypeId) (x : Value) (n : Int) : ∀ j u, ([x, .int .i64 n])[j]? = some u → (w.alloc (.cells #[x, .int .i64 n] e)).cell? ((⟨w.heap.size, 0, none⟩ : Addr).add j) = some u := by
  intro j u hu
  rcases j with _ | _ | j
  · simp at hu; subst hu; exact cell_new w #[x, .int .i64 n] e 0 rfl
  · simp at hu; subst hu; exact cell_new w #[x, .int .i64 n] e 1 rfl
  · simp at hu
structure EsR (lo : Nat) (w : World) (v : Value) (us : List (Value × Int)) (rs : List (List Int)) : Prop where
  own : w.ownsRow lo 57 2 v us.length (esC us)
  len : Hid (us.length = rs.length)
  rows : ∀ (i : Nat) (u : Value × Int), us[i]? = some u → RowB lo w u.1 (rowY rs i)
  ne : ∀ u ∈ us, ∀ k, u.1.ownBlock = some k → v.ownBlock ≠ some k
  apart : ∀ (i j : Nat) (u u' : Value × Int), i < j → us[i]? = some u → us[j]? = some u' → ∀ k, u.1.ownBlock = some k → u'.1.ownBlock ≠ some k
theorem EsR.row {lo : Nat} {w : World} {v : Value} {u : Value × Int} {us : List (Value × Int)} {rs : List (List Int)} (h : EsR lo w v us rs) (hu : u ∈ us) : ∃ ps, RowB lo w u.1 ps := by
  obtain ⟨i, hi, e⟩ := List.getElem_of_mem hu
  exact ⟨_, h.rows i u (by rw [List.getElem?_eq_getElem hi, e])⟩
theorem EsR.kept {lo : Nat} {w w' : World} {v : Value} {us : List (Value × Int)} {rs : List (List Int)} {row : Option Nat} (h : EsR lo w v us rs) (g : w.grownBy w' row) (nv : ∀ k, v.ownBlock = some k → row ≠ some k) (nr : ∀ u ∈ us, ∀ k, u.1.ownBlock = some k → row ≠ some k) : EsR lo w' v us rs :=
  ⟨owns_kept' h.own g nv, h.len, fun i u hu => owns_kept' (h.rows i u hu) g (nr u (List.mem_of_getElem? hu)), h.ne, h.apart⟩
theorem EsR.below {lo : Nat} {w w' : World} {v : Value} {us : List (Value × Int)} {rs : List (List Int)} (h : EsR lo w v us rs) (hb : Below w.heap.size w w') : EsR lo w' v us rs :=
  h.kept (grown_of_below hb) (fun _ _ e => by cases e) (fun _ _ _ _ e => by cases e)
theorem EsR.lts {lo : Nat} {w : World} {v : Value} {us : List (Value × Int)} {rs : List (List Int)} (h : EsR lo w v us rs) : (∀ k, v.ownBlock = some k → lo ≤ k ∧ k < w.heap.size) ∧ ∀ u ∈ us, ∀ k, u.1.ownBlock = some k → lo ≤ k ∧ k < w.heap.size :=
  ⟨fun k hk => World.ownsRow.lt h.own k hk, fun u hu k hk => by
    obtain ⟨ps, R⟩ := h.row hu
    exact World.ownsRow.lt R k hk⟩
theorem EsR.base {lo lo' : Nat} {w : World} {v : Value} {us : List (Value × Int)} {rs : List (List Int)} (h : EsR lo w v us rs) (hl : lo' ≤ lo) : EsR lo' w v us rs :=
  ⟨row_base h.own hl, h.len, fun i u hu => row_base (h.rows i u hu) hl, h.ne, h.apart⟩
theorem EsR.nil (lo : Nat) (w : World) : EsR lo w (.slice none 0 0) [] [] :=
  ⟨⟨rfl, .inl ⟨rfl, rfl⟩⟩, rfl, fun _ _ h => (by simp at h), fun _ h => (by cases h), fun i j u u' _ h => (by simp at h)⟩
theorem EsR.shape {lo : Nat} {w : World} {v : Value} {us : List (Value × Int)} {rs : List (List Int)} (h : EsR lo w v us rs) : ∃ a c, v = .slice a us.length c ∧ us.length ≤ c ∧ c ≤ maxLen := by
  rcases h.own.2 with ⟨hv, h0⟩ | ⟨q, cap, cur, hv, _, _, hf, hm, _⟩
  · exact ⟨none, 0, by rw [hv, h0], by omega, by simp [maxLen]⟩
  · exact ⟨_, cap, hv, hf, hm⟩
theorem EsR.at' {lo : Nat} {w : World} {v : Value} {us : List (Value × Int)} {rs : List (List Int)} (h : EsR lo w v us rs) {i : Nat} (hi : i < us.length) : ∃ g c a' c' n, v = .slice (some ⟨g, 0, none⟩) us.length c ∧ us[i]? = some (.slice a' (rowY rs i).length c', n) ∧ w.cell? ⟨g, i * 2, none⟩ = some (.slice a' (rowY rs i).length c') ∧ w.cell? ⟨g, i * 2 + 1, none⟩ = some (.int .i64 n) ∧ RowB lo w (.slice a' (rowY rs i).length c') (rowY rs i) := by
  obtain ⟨g, c, e⟩ := (show ∃ g c, v = .slice (some ⟨g, 0, none⟩) us.length c by
    rcases h.own.2 with ⟨hv, h0⟩ | ⟨q, cap, cur, hv, _⟩
    · omega
    · exact ⟨q, cap, hv⟩)
  have hv := List.getElem?_eq_getElem hi
  generalize us[i] = u at hv
  obtain ⟨u1, n⟩ := u
  have R := h.rows i _ hv
  dsimp only at R
  obtain ⟨a', c', e', _, _⟩ := R.shape'
  subst e'
  have own := h.own
  rw [e] at own
  obtain ⟨p0, p1⟩ := esC_at us i _ hv
  exact ⟨g, c, a', c', n, e, hv, (own.cellAt (i * 2) (by omega)).trans p0, (own.cellAt (i * 2 + 1) (by omega)).trans p1, R⟩
theorem EsR.snoc {lo : Nat} {w w' : World} {v v' u : Value} {n : Int} {us : List (Value × Int)} {rs : List (List Int)} {ps : List Int} (h : EsR lo w v us rs) (Ru : RowB lo w u ps) (nu : ∀ k, u.ownBlock = some k → v.ownBlock ≠ some k ∧ v'.ownBlock ≠ some k ∧ ∀ x ∈ us, x.1.ownBlock ≠ some k)
    (own : w'.ownsRow lo 57 2 v' (us.length + 1) (esC us ++ [u, .int .i64 n])) (g : w.grownBy w' v.ownBlock) (at' : v'.ownBlock = v.ownBlock ∨ v'.ownBlock = some w.heap.size) : EsR lo w' v' (us ++ [(u, n)]) (rs ++ [ps]) := by
  have keep : ∀ x ps, RowB lo w x ps → (∀ k, x.ownBlock = some k → v.ownBlock ≠ some k) → RowB lo w' x ps := fun x ps R n => owns_kept' R g n
  have hl := h.len.out
  refine ⟨by rw [List.length_append, esC_snoc]; exact own, (by show _ = _; rw [List.length_append, List.length_append, hl]; rfl), fun i x hx => ?_, fun x hx k hk => ?_, fun i j x x' hij hi hj k hk => ?_⟩
  · by_cases hi : i < us.length
    · rw [List.getElem?_append_left hi] at hx
      rw [rowY_append_left (by omega)]
      exact keep x.1 _ (h.rows i x hx) (h.ne x (List.mem_of_getElem? hx))
    · have hi2 : i = us.length := by
        have := (List.getElem?_eq_some_iff.mp hx).1
        rw [List.length_append] at this
        simp at this
        omega
      subst hi2
      rw [List.getElem?_append_right (Nat.le_refl _), Nat.sub_self] at hx
      simp at hx
      subst hx
      rw [hl, rowY_append_last]
      exact keep _ ps Ru (fun k hk => (nu k hk).1)
  · rcases List.mem_append.1 hx with hx | hx
    · rcases at' with e | e
      · rw [e]; exact h.ne x hx k hk
      · have := (h.lts.2 x hx k hk).2
        rw [e]
        intro q
        injection q with q
        omega
    · simp at hx
      subst hx
      exact (nu k hk).2.1
  · by_cases hjl : j < us.length
    · rw [List.getElem?_append_left (by omega)] at hi
      rw [List.getElem?_append_left hjl] at hj
      exact h.apart i j x x' hij hi hj k hk
    · have hj2 : j = us.length := by
        have := (List.getElem?_eq_some_iff.mp hj).1
        rw [List.length_append] at this
        simp at this
        omega
      subst hj2
      rw [List.getElem?_append_left (by omega)] at hi
      rw [List.getElem?_append_right (Nat.le_refl _), Nat.sub_self] at hj
      simp at hj
      subst hj
      intro q
      exact (nu k q).2.2 x (List.mem_of_getElem? hi) hk
end Go.Proofs.YtgcaemhcdpddiaaDoor
