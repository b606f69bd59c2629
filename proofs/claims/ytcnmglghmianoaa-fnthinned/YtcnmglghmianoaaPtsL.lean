/- The laws' helpers on lists of points: their sizes, their copies, whether two are equal. -/
import Derived.Test.YtcnmglghmianoaaPtW
import Derived.Deep.RegionHeld3
namespace Go.Proofs.Ytcnmglghmianoaa
open Go.RowKit

theorem infoP : (Try.prog.info? 31).map (fun i => (i.zero, i.size, i.bytes)) = some (some (.agg #[.int .i64 0, .int .i64 0]), 2, 16) := by kernel_rfl

/-- A row of points that is being filled. -/
structure RowP (w : World) (g n j : Nat) (ps : List (Int × Int)) : Prop where
  c : ∀ i, i < j → w.cell? ⟨g, i * 2, none⟩ = some (.int .i64 (ps[i]?.getD (0, 0)).1) ∧ w.cell? ⟨g, i * 2 + 1, none⟩ = some (.int .i64 (ps[i]?.getD (0, 0)).2)
  u : ∀ i, j ≤ i → i < n → (∃ v, w.cell? ⟨g, i * 2, none⟩ = some v) ∧ ∃ v, w.cell? ⟨g, i * 2 + 1, none⟩ = some v
  fr : ∀ o, w.frozen? ⟨g, o, none⟩ = false
  lt : g < w.heap.size
theorem RowP.below {w w' : World} {g n j : Nat} {ps : List (Int × Int)} (h : RowP w g n j ps) (hb : Below w.heap.size w w') : RowP w' g n j ps := by
  obtain ⟨q, r⟩ := at_block hb h.lt
  exact ⟨fun i hi => ⟨(q _).trans (h.c i hi).1, (q _).trans (h.c i hi).2⟩, fun i h1 h2 => ⟨by obtain ⟨v, hv⟩ := (h.u i h1 h2).1; exact ⟨v, (q _).trans hv⟩, by obtain ⟨v, hv⟩ := (h.u i h1 h2).2; exact ⟨v, (q _).trans hv⟩⟩, fun o => (r o).trans (h.fr o), Nat.lt_of_lt_of_le h.lt hb.size⟩
theorem RowP.start {w : World} {base e g n : Nat} {xs : List Value} (ps : List (Int × Int)) (h : w.ownsRow base e 2 (.slice (some ⟨g, 0, none⟩) n n) n xs) : RowP w g n 0 ps := by
  obtain ⟨h1, h2⟩ := h
  rcases h2 with ⟨h2, _⟩ | ⟨g', cap', cur, hv, hb, hh, hc, hm, hs, ht⟩
  · cases h2
  simp only [Value.slice.injEq, Option.some.injEq, Addr.mk.injEq, and_true] at hv
  obtain ⟨rfl, _, rfl⟩ := hv
  have get : ∀ k, k < n * 2 → ∃ v, w.cell? ⟨g, k, none⟩ = some v := fun k hk => by
    rw [cell_of_row w g k cur e (0, 0) hh]
    exact ⟨cur[k]'(by omega), Array.getElem?_eq_getElem (by omega)⟩
  refine ⟨fun i hi => absurd hi (by omega), fun i _ hi => ⟨get _ (by omega), get _ (by omega)⟩, fun o => by simp [World.frozen?, hh], ?_⟩
  rcases Nat.lt_or_ge g w.heap.size with k | k
  · exact k
  · rw [Array.getElem?_eq_none k] at hh
    cases hh
theorem RowP.step {w : World} {g n j : Nat} {ps : List (Int × Int)} (h : RowP w g n j ps) (hj : j < n) {x y : Int} (hx : (ps[j]?.getD (0, 0)).1 = x) (hy : (ps[j]?.getD (0, 0)).2 = y) :
    RowP ((w.setCell ⟨g, j * 2, none⟩ (.int .i64 x)).setCell ⟨g, j * 2 + 1, none⟩ (.int .i64 y)) g n (j + 1) ps := by
  obtain ⟨⟨v0, h0⟩, ⟨v1, h1⟩⟩ := h.u j (Nat.le_refl _) hj
  have other : ∀ o, o ≠ j * 2 → o ≠ j * 2 + 1 → ((w.setCell ⟨g, j * 2, none⟩ (.int .i64 x)).setCell ⟨g, j * 2 + 1, none⟩ (.int .i64 y)).cell? ⟨g, o, none⟩ = w.cell? ⟨g, o, none⟩ := fun o e1 e2 =>
    (cell_other (.inr (Ne.symm e2)) _).trans (cell_other (.inr (Ne.symm e1)) _)
  refine ⟨fun i hi => ?_, fun i h2 h3 => ?_, fun o => ((World.frozen?_setCell ..).trans (World.frozen?_setCell ..)).trans (h.fr o), by simpa using h.lt⟩
  · by_cases e : i = j
    · subst e
      rw [hx, hy]
      exact ⟨(cell_other (.inr (by omega)) _).trans (cell_same h0 _), cell_same ((cell_other (.inr (by omega)) _).trans h1) _⟩
    · rw [other _ (by omega) (by omega), other _ (by omega) (by omega)]
      exact h.c i (by omega)
  · rw [other _ (by omega) (by omega), other _ (by omega) (by omega)]
    exact h.u i (by omega) h3

end Go.Proofs.Ytcnmglghmianoaa
