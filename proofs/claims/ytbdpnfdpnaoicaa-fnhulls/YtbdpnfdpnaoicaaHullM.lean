/- Hulls: points in order, each once; the chain of left turns. No program is named here. -/
import Derived.Test.YtbdpnfdpnaoicaaBase
namespace Go.Proofs.Ytbdpnfdpnaoicaa

abbrev Pn := Int × Int
def ltP (a b : Pn) : Prop := a.1 < b.1 ∨ (a.1 = b.1 ∧ a.2 < b.2)
theorem ltP_asymm {a b : Pn} (h : ltP a b) (k : ltP b a) : False := by unfold ltP at *; omega
theorem ltP_trans {a b c : Pn} (h : ltP a b) (k : ltP b c) : ltP a c := by unfold ltP at *; omega
theorem ltP_tri (a b : Pn) : ltP a b ∨ a = b ∨ ltP b a := by
  obtain ⟨a1, a2⟩ := a
  obtain ⟨b1, b2⟩ := b
  unfold ltP
  simp only [Prod.mk.injEq]
  omega
/-- The points of a list in order, each once. -/
def Sus (ps S : List Pn) : Prop := S.Pairwise ltP ∧ ∀ p, p ∈ S ↔ p ∈ ps
theorem sus_one : ∀ {l l' : List Pn}, (∀ p, p ∈ l ↔ p ∈ l') → l.Pairwise ltP → l'.Pairwise ltP → l = l'
  | [], [], _, _, _ => rfl
  | [], b :: r, m, _, _ => absurd ((m b).2 List.mem_cons_self) (by simp)
  | a :: l, [], m, _, _ => absurd ((m a).1 List.mem_cons_self) (by simp)
  | a :: l, b :: l', m, h, k => by
    rw [List.pairwise_cons] at h k
    have e : a = b := by
      rcases List.mem_cons.1 ((m a).1 List.mem_cons_self) with e | e
      · exact e
      · rcases List.mem_cons.1 ((m b).2 List.mem_cons_self) with e' | e'
        · exact e'.symm
        · exact (ltP_asymm (k.1 a e) (h.1 b e')).elim
    subst e
    have nl : a ∉ l := fun h' => by have := h.1 a h'; unfold ltP at this; omega
    have nl' : a ∉ l' := fun h' => by have := k.1 a h'; unfold ltP at this; omega
    rw [sus_one (fun p => ?_) h.2 k.2]
    have hm := m p
    rw [List.mem_cons, List.mem_cons] at hm
    constructor
    · intro hp
      rcases hm.1 (.inr hp) with rfl | q
      · exact absurd hp nl
      · exact q
    · intro hp
      rcases hm.2 (.inr hp) with rfl | q
      · exact absurd hp nl'
      · exact q
theorem Sus.one {ps S S' : List Pn} (h : Sus ps S) (k : Sus ps S') : S = S' := sus_one (fun p => (h.2 p).trans (k.2 p).symm) h.1 k.1
theorem Sus.nil : Sus [] [] := ⟨List.Pairwise.nil, fun _ => Iff.rfl⟩

/-- The last points go that do not turn left to p: a row with its last point first. -/
def popR : List Pn → Pn → List Pn
  | b :: a :: r, p => if ar a.1 a.2 b.1 b.2 p.1 p.2 ≤ 0 then popR (a :: r) p else b :: a :: r
  | ks, _ => ks
def chnR (ks : List Pn) : List Pn → List Pn
  | [] => ks
  | p :: r => chnR (p :: popR ks p) r
theorem popR_pop {a b p : Pn} {r : List Pn} (h : ar a.1 a.2 b.1 b.2 p.1 p.2 ≤ 0) : popR (b :: a :: r) p = popR (a :: r) p := by rw [popR, if_pos h]
theorem popR_stay {a b p : Pn} {r : List Pn} (h : ¬ ar a.1 a.2 b.1 b.2 p.1 p.2 ≤ 0) : popR (b :: a :: r) p = b :: a :: r := by rw [popR, if_neg h]
theorem popR_short {ks : List Pn} (p : Pn) (h : ks.length ≤ 1) : popR ks p = ks := by
  match ks, h with
  | [], _ => rfl
  | [_], _ => rfl
theorem popR_len : ∀ (ks : List Pn) (p : Pn), (popR ks p).length ≤ ks.length ∧ (0 < ks.length → 0 < (popR ks p).length)
  | [], p => ⟨Nat.le_refl _, fun h => absurd h (by simp)⟩
  | [a], p => ⟨Nat.le_refl _, fun _ => by simp [popR]⟩
  | b :: a :: r, p => by
    by_cases h : ar a.1 a.2 b.1 b.2 p.1 p.2 ≤ 0
    · rw [popR_pop h]
      have ih := popR_len (a :: r) p
      simp only [List.length_cons] at *
      exact ⟨by omega, fun _ => ih.2 (by omega)⟩
    · rw [popR_stay h]
      exact ⟨Nat.le_refl _, fun h => h⟩
theorem popR_mem : ∀ (ks : List Pn) (p q : Pn), q ∈ popR ks p → q ∈ ks
  | [], p, q, h => h
  | [a], p, q, h => h
  | b :: a :: r, p, q, h => by
    by_cases c : ar a.1 a.2 b.1 b.2 p.1 p.2 ≤ 0
    · rw [popR_pop c] at h
      exact List.mem_cons_of_mem _ (popR_mem (a :: r) p q h)
    · rw [popR_stay c] at h
      exact h
theorem chnR_len : ∀ (ps ks : List Pn), (chnR ks ps).length ≤ ks.length + ps.length ∧ ks.length ≤ ks.length ∧ (0 < ks.length + ps.length → 0 < (chnR ks ps).length) ∧ (0 < ks.length → 0 < ps.length → 2 ≤ (chnR ks ps).length) ∧ (2 ≤ ks.length → 2 ≤ (chnR ks ps).length)
  | [], ks => ⟨by simp [chnR], Nat.le_refl _, fun h => by simpa [chnR] using h, fun _ h => absurd h (by simp), fun h => by simpa [chnR] using h⟩
  | p :: r, ks => by
    have ih := chnR_len r (p :: popR ks p)
    have pl := popR_len ks p
    simp only [List.length_cons, chnR] at *
    refine ⟨by omega, Nat.le_refl _, fun _ => ih.2.2.1 (by omega), fun h _ => ?_, fun h => ?_⟩
    · exact ih.2.2.2.2 (by have := pl.2 h; omega)
    · exact ih.2.2.2.2 (by have := pl.2 (by omega); omega)
theorem chnR_mem : ∀ (ps ks : List Pn) (q : Pn), q ∈ chnR ks ps → q ∈ ks ∨ q ∈ ps
  | [], ks, q, h => .inl h
  | p :: r, ks, q, h => by
    rcases chnR_mem r (p :: popR ks p) q h with h | h
    · rcases List.mem_cons.1 h with rfl | h
      · exact .inr List.mem_cons_self
      · exact .inl (popR_mem ks p q h)
    · exact .inr (List.mem_cons_of_mem _ h)
theorem chnR_snoc : ∀ (ps ks : List Pn) (p : Pn), chnR ks (ps ++ [p]) = p :: popR (chnR ks ps) p
  | [], _, _ => rfl
  | q :: r, ks, p => chnR_snoc r (q :: popR ks q) p
/-- Half of a hull. -/
def chn (ps : List Pn) : List Pn := (chnR [] ps).reverse
theorem chn_two {ps : List Pn} (h : 2 ≤ ps.length) : 2 ≤ (chn ps).length := by
  unfold chn
  rw [List.length_reverse]
  match ps, h with
  | a :: b :: r, _ => exact (chnR_len (b :: r) (a :: popR [] a)).2.2.2.1 (by simp) (by simp)
theorem chn_len (ps : List Pn) : (chn ps).length ≤ ps.length := by
  have := (chnR_len ps []).1
  unfold chn
  rw [List.length_reverse]
  simpa using this
/-- The hull of points in order, each once. -/
def hul (S : List Pn) : List Pn := if S.length < 2 then S else (chn S).dropLast ++ (chn S.reverse).dropLast
theorem hul_two {S : List Pn} (h : S.length = 2) : hul S = S := by
  match S, h with
  | [a, b], _ => rfl
theorem hul_len (S : List Pn) : (hul S).length ≤ 2 * S.length := by
  unfold hul
  split
  · omega
  · have a := chn_len S
    have b := chn_len S.reverse
    rw [List.length_reverse] at b
    simp only [List.length_append, List.length_dropLast]
    omega
end Go.Proofs.Ytbdpnfdpnaoicaa
