/- The laws' helpers on disks: their sizes, their copies. -/
import Derived.Test.YtagkcaiodciomaaQuM
namespace Go.Proofs.Ytagkcaiodciomaa
open Go.RowKit

/-- Writes that lie in memory, one behind the other. -/
structure SeesQ (w : World) (a : Option Addr) (cap : Nat) (qs : List Wr) : Prop where
  fits : qs.length ≤ cap
  max : cap ≤ maxLen
  cells : qs ≠ [] → ∃ b off, a = some ⟨b, off, none⟩ ∧ ∀ i, i < qs.length → ∃ a' c', w.cell? ⟨b, off + i * 2, none⟩ = some (.int .i64 (wrN qs i).1) ∧ w.cell? ⟨b, off + i * 2 + 1, none⟩ = some (.slice a' (wrN qs i).2.length c') ∧ SeesB w a' c' (wrN qs i).2
theorem SeesQ.below {w w' : World} {a : Option Addr} {cap : Nat} {qs : List Wr} (h : SeesQ w a cap qs) (hb : Below w.heap.size w w') : SeesQ w' a cap qs :=
  ⟨h.fits, h.max, fun hn => by
    obtain ⟨b, off, ha, hc⟩ := h.cells hn
    exact ⟨b, off, ha, fun i hi => by obtain ⟨a', c', h1, h2, h3⟩ := hc i hi; exact ⟨a', c', bat hb h1, bat hb h2, h3.below hb⟩⟩⟩
theorem infoW : (Try.prog.info? 39).map (fun i => (i.zero, i.size, i.bytes)) = some (some (.agg #[.int .i64 0, .slice none 0 0]), 2, 32) := by kernel_rfl

theorem wrC_store : ∀ (qs : List Wr) (vs : List Value) (i : Nat) (x : Int) (u : Value) (d : List Int), ((wrC qs vs).set (i * 2) (.int .i64 x)).set (i * 2 + 1) u = wrC (qs.set i (x, d)) (vs.set i u)
  | [], vs, i, x, u, d => by simp [wrC]
  | q :: qs, [], 0, x, u, d => by simp [wrC]
  | q :: qs, [], i + 1, x, u, d => by simp [wrC]
  | q :: qs, v :: vs, 0, x, u, d => by simp [wrC]
  | q :: qs, v :: vs, i + 1, x, u, d => by
    have := wrC_store qs vs i x u d
    simp only [List.set_cons_succ, wrC]
    rw [show (i + 1) * 2 = i * 2 + 1 + 1 by omega, List.set_cons_succ, List.set_cons_succ, List.set_cons_succ, List.set_cons_succ, this]
/-- The write i is written whole. -/
theorem QuR.store {lo g n c : Nat} {w : World} {vs : List Value} {qs : List Wr} (h : QuR lo w (.slice (some ⟨g, 0, none⟩) n c) vs qs) {i : Nat} (hi : i < qs.length) (x : Int) (u : Value) (d : List Int) (Ru : RowB lo w u d) (nu : ∀ k, u.ownBlock = some k → k ≠ g ∧ ∀ y ∈ vs, y.ownBlock ≠ some k) :
    QuR lo ((w.setCell ⟨g, i * 2, none⟩ (.int .i64 x)).setCell ⟨g, i * 2 + 1, none⟩ u) (.slice (some ⟨g, 0, none⟩) n c) (vs.set i u) (qs.set i (x, d)) ∧ w.grownBy ((w.setCell ⟨g, i * 2, none⟩ (.int .i64 x)).setCell ⟨g, i * 2 + 1, none⟩ u) (some g) := by
  have hl := h.len.out
  obtain ⟨en, _, _⟩ := h.caps
  have own := h.own
  rw [hl, ← en] at own
  obtain ⟨h1, g1⟩ := own.stored (i * 2) (.int .i64 x)
  obtain ⟨h2, g2⟩ := h1.stored (i * 2 + 1) u
  rw [wrC_store _ _ _ _ _ d] at h2
  have G := grownBy_trans g1 g2
  have mem : ∀ {y : Value} {j : Nat}, (vs.set i u)[j]? = some y → (j = i ∧ y = u) ∨ (j ≠ i ∧ vs[j]? = some y) := fun {y j} q => by
    by_cases e : i = j
    · subst e
      rw [List.getElem?_set_self (by omega)] at q
      injection q with q
      exact .inl ⟨rfl, q.symm⟩
    · rw [List.getElem?_set_ne e] at q
      exact .inr ⟨fun e' => e e'.symm, q⟩
  refine ⟨⟨by rw [List.length_set, hl, ← en]; exact h2, (by show _ = _; rw [List.length_set, List.length_set]; exact hl), fun j y hy => ?_, fun y hy k hk => ?_, fun j j' y y' hjj hj hj' k hk => ?_⟩, G⟩
  · rcases mem hy with ⟨rfl, rfl⟩ | ⟨e, q⟩
    · rw [wrN_set_same hi]
      exact owns_kept' Ru G (fun k hk e => (nu k hk).1 (by injection e with e; exact e.symm))
    · rw [wrN_set_other (Ne.symm e)]
      exact owns_kept' (h.rows j y q) G (fun k hk e => h.ne y (List.mem_of_getElem? q) k hk e)
  · obtain ⟨j, hj, e⟩ := List.getElem_of_mem hy
    rcases mem (j := j) (y := y) (by rw [List.getElem?_eq_getElem hj, e]) with ⟨_, rfl⟩ | ⟨_, q⟩
    · exact fun e => (nu k hk).1 (by injection e with e; exact e.symm)
    · exact h.ne y (List.mem_of_getElem? q) k hk
  · rcases mem hj with ⟨_, rfl⟩ | ⟨e1, q1⟩
    · rcases mem hj' with ⟨e2, _⟩ | ⟨_, q2⟩
      · omega
      · exact (nu k hk).2 y' (List.mem_of_getElem? q2)
    · rcases mem hj' with ⟨_, rfl⟩ | ⟨_, q2⟩
      · intro e
        exact (nu k e).2 y (List.mem_of_getElem? q1) hk
      · exact h.apart j j' y y' hjj q1 q2 k hk
theorem wrC_zero : ∀ n, wrC (List.replicate n (0, [])) (List.replicate n (.slice none 0 0)) = (madeCells #[.int .i64 0, .slice none 0 0] (n * 2)).toList := by
  intro n
  apply List.ext_getElem
  · rw [wrC_len _ _ (by simp)]; simp [madeCells]
  · intro i h1 h2
    have hn : i < n * 2 := by rw [wrC_len _ _ (by simp)] at h1; simpa using h1
    obtain ⟨p0, p1⟩ := wrC_at (List.replicate n ((0, []) : Wr)) (List.replicate n (.slice none 0 0)) (i / 2) (by simp) (by simp; omega)
    have hm : i = i / 2 * 2 ∨ i = i / 2 * 2 + 1 := by omega
    apply Option.some.inj
    rw [← List.getElem?_eq_getElem h1, ← List.getElem?_eq_getElem h2]
    have hi2 : i / 2 < n := by omega
    rcases hm with m | m
    · have z : i % 2 = 0 := by omega
      rw [show (wrC (List.replicate n ((0, []) : Wr)) (List.replicate n (.slice none 0 0)))[i]? = _ from (congrArg _ m).trans p0]
      simp [madeCells, wrN, z, hi2, hn]
    · have z : i % 2 = 1 := by omega
      rw [show (wrC (List.replicate n ((0, []) : Wr)) (List.replicate n (.slice none 0 0)))[i]? = _ from (congrArg _ m).trans p1]
      simp [madeCells, z, hi2, hn]

theorem QuR.start {w : World} {lo g n : Nat} (h : w.ownsRow lo 39 2 (.slice (some ⟨g, 0, none⟩) n n) n (madeCells #[.int .i64 0, .slice none 0 0] (n * 2)).toList) : QuR lo w (.slice (some ⟨g, 0, none⟩) n n) (List.replicate n (.slice none 0 0)) (List.replicate n (0, [])) := by
  have all : ∀ {i : Nat} {u : Value}, (List.replicate n (Value.slice none 0 0))[i]? = some u → u = .slice none 0 0 := fun {i u} q => by
    have := List.mem_of_getElem? q
    exact List.eq_of_mem_replicate this
  refine ⟨by rw [List.length_replicate, wrC_zero]; exact h, (by show _ = _; simp), fun i u hu => ?_, fun u hu k hk => ?_, fun i j u u' _ hi _ k hk => ?_⟩
  · rw [all hu]
    have : (wrN (List.replicate n ((0, []) : Wr)) i).2 = [] := by
      unfold wrN
      rcases Nat.lt_or_ge i n with q | q
      · rw [List.getElem?_replicate_of_lt q]; rfl
      · rw [List.getElem?_eq_none (by simpa using q)]; rfl
    rw [this]
    exact RowB.nil _ _
  · rw [List.eq_of_mem_replicate hu] at hk
    cases hk
  · rw [all hi] at hk
    cases hk

end Go.Proofs.Ytagkcaiodciomaa
