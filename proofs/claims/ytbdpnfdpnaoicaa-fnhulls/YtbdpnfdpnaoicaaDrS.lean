/- Shapes that are drawn: a list of rows that a call owns, whatever stands in them. -/
import Derived.Test.YtbdpnfdpnaoicaaPtX
import Derived.Test.YtbdpnfdpnaoicaaPtsL
import Derived.Test.YtbdpnfdpnaoicaaCurN
import Derived.Maps.AppendAt
namespace Go.Proofs.Ytbdpnfdpnaoicaa
open Go.RowKit

/-- A list of rows of points of the call's own: each row in a block of its own. -/
structure RingsR (lo : Nat) (w : World) (v : Value) (vs : List Value) : Prop where
  own : w.ownsRow lo 24 1 v vs.length vs
  rows : ∀ u ∈ vs, ∃ ps, RowPt lo w u ps ∧ ps.length ≤ 200
  ne : ∀ u ∈ vs, ∀ k, u.ownBlock = some k → v.ownBlock ≠ some k
  apart : ∀ (i j : Nat) (u u' : Value), i < j → vs[i]? = some u → vs[j]? = some u' → ∀ k, u.ownBlock = some k → u'.ownBlock ≠ some k
  few : vs.length ≤ 20
theorem owns_kept {w w' : World} {base e size n : Nat} {v : Value} {xs : List Value} {row : Option Nat} (h : w.ownsRow base e size v n xs) (g : w.grownBy w' row) (ne : ∀ k, v.ownBlock = some k → row ≠ some k) : w'.ownsRow base e size v n xs := by
  refine h.kept g ?_
  cases q : v.ownBlock with
  | none => exact .inl rfl
  | some k => exact .inr (fun e => ne k q e.symm)
theorem RingsR.kept {lo : Nat} {w w' : World} {v : Value} {vs : List Value} {row : Option Nat} (h : RingsR lo w v vs) (g : w.grownBy w' row) (nv : ∀ k, v.ownBlock = some k → row ≠ some k) (nr : ∀ u ∈ vs, ∀ k, u.ownBlock = some k → row ≠ some k) : RingsR lo w' v vs :=
  ⟨owns_kept h.own g nv, fun u hu => by
    obtain ⟨ps, R, l⟩ := h.rows u hu
    exact ⟨ps, owns_kept R g (nr u hu), l⟩, h.ne, h.apart, h.few⟩
theorem RingsR.below {lo : Nat} {w w' : World} {v : Value} {vs : List Value} (h : RingsR lo w v vs) (hb : Below w.heap.size w w') : RingsR lo w' v vs :=
  h.kept (grown_of_below hb) (fun _ _ e => by cases e) (fun _ _ _ _ e => by cases e)
/-- What is drawn on leaves it. -/
theorem RingsR.drawn {lo p : Nat} {w w' : World} {v : Value} {vs : List Value} (h : RingsR lo w v vs) (g : w.grownBy w' (some p)) (hp : p < lo) : RingsR lo w' v vs :=
  h.kept g (fun k hk e => by have := (World.ownsRow.lt h.own k hk).1; injection e with e; omega) (fun u hu k hk e => by
    obtain ⟨ps, R, _⟩ := h.rows u hu
    have := (World.ownsRow.lt R k hk).1
    injection e with e
    omega)
theorem RingsR.base {lo lo' : Nat} {w : World} {v : Value} {vs : List Value} (h : RingsR lo w v vs) (hl : lo' ≤ lo) : RingsR lo' w v vs :=
  ⟨row_base h.own hl, fun u hu => by
    obtain ⟨ps, R, l⟩ := h.rows u hu
    exact ⟨ps, row_base R hl, l⟩, h.ne, h.apart, h.few⟩
theorem RowPt.drawn {lo p : Nat} {w w' : World} {v : Value} {ps : List (Int × Int)} (h : RowPt lo w v ps) (g : w.grownBy w' (some p)) (hp : p < lo) : RowPt lo w' v ps :=
  owns_kept h g (fun k hk e => by have := (World.ownsRow.lt h k hk).1; injection e with e; omega)
theorem RingsR.nil (lo : Nat) (w : World) : RingsR lo w (.slice none 0 0) [] :=
  ⟨⟨rfl, .inl ⟨rfl, rfl⟩⟩, fun _ h => (by cases h), fun _ h => (by cases h), fun i j u u' _ h => (by simp at h), by simp⟩
theorem RingsR.shape {lo : Nat} {w : World} {v : Value} {vs : List Value} (h : RingsR lo w v vs) : ∃ a c, v = .slice a vs.length c ∧ vs.length ≤ c ∧ c ≤ maxLen := by
  rcases h.own.2 with ⟨hv, h0⟩ | ⟨q, cap, cur, hv, _, _, hf, hm, _⟩
  · exact ⟨none, 0, by rw [hv, h0], by omega, by simp [maxLen]⟩
  · exact ⟨_, cap, hv, hf, hm⟩
/-- The shape that is seen there. -/
theorem RingsR.sees {lo : Nat} {w : World} {a : Option Addr} {c : Nat} {vs : List Value} (h : RingsR lo w (.slice a vs.length c) vs) : ∃ rs : List (List (Int × Int)), rs.length = vs.length ∧ SeesS w a c rs ∧ (∀ i, i < rs.length → (rowA rs i).length ≤ 200) := by
  have pick : ∃ f : Value → List (Int × Int), ∀ u ∈ vs, RowPt lo w u (f u) ∧ (f u).length ≤ 200 := by
    refine ⟨fun u => Classical.choose (p := fun ps => u ∈ vs → RowPt lo w u ps ∧ ps.length ≤ 200) ?_, fun u hu => ?_⟩
    · by_cases hu : u ∈ vs
      · obtain ⟨ps, R, l⟩ := h.rows u hu
        exact ⟨ps, fun _ => ⟨R, l⟩⟩
      · exact ⟨[], fun q => absurd q hu⟩
    · exact Classical.choose_spec (p := fun ps => u ∈ vs → RowPt lo w u ps ∧ ps.length ≤ 200) _ hu
  obtain ⟨f, hf⟩ := pick
  have at' : ∀ i (hi : i < vs.length), rowA (vs.map f) i = f vs[i] := fun i hi => by
    unfold rowA
    rw [List.getElem?_map, List.getElem?_eq_getElem hi]
    rfl
  refine ⟨vs.map f, List.length_map .., ?_, fun i hi => ?_⟩
  · have sh := h.own.2
    rcases sh with ⟨hv, h0⟩ | ⟨q, cap, cur, hv, hb, hh, hfit, hmax, hs, ht⟩
    · injection hv with h1 h2 h3
      subst h1 h3
      have : vs = [] := List.eq_nil_of_length_eq_zero h0
      subst this
      exact ⟨by simp, by simp [maxLen], fun hn => absurd rfl hn⟩
    · injection hv with h1 h2 h3
      subst h1 h3
      refine ⟨by rw [List.length_map]; exact hfit, hmax, fun _ => ⟨q, 0, rfl, fun i hi => ?_⟩⟩
      rw [List.length_map] at hi
      rw [at' i hi]
      obtain ⟨R, l⟩ := hf vs[i] (List.getElem_mem hi)
      generalize f vs[i] = qs at *
      obtain ⟨a', c', e, _, _⟩ := R.shape
      refine ⟨a', c', ?_, ?_⟩
      · rw [Nat.zero_add, World.ownsRow.cellAt h.own i (by omega), List.getElem?_eq_getElem hi, e]
      · rw [e] at R
        exact R.seesP
  · rw [List.length_map] at hi
    rw [at' i hi]
    exact (hf vs[i] (List.getElem_mem hi)).2
end Go.Proofs.Ytbdpnfdpnaoicaa
