/- Rings of points: the program's edgesOf, twiceArea, TwiceArea. -/
import Derived.Test.YtnjbedhealpgcaaGreatRing
import Derived.Test.YtnjbedhealpgcaaGreatPtsL
namespace Go.Proofs.YtnjbedhealpgcaaGreat
open Go.RowKit

theorem ptWrong_any (x y : Int) (w : World) :
  Calls Tryz.prog 104 #[.agg #[.int .i64 x, .int .i64 y]] w fun e w' => e = .returned (.bool (!ptOk x y)) ∧ Below w.heap.size w w' := by
 have bn := below1 w (.cells #[.int .i64 x, .int .i64 y] 38)
 obtain ⟨t, ht⟩ : ∃ t, Hid (ptOk x y = t) := ⟨_, rfl⟩
 rw [ht.out]
 cases t
 all_goals
  go_enter Tryz.func104, Tryz.ntmps104
  go_wp2_with fail
  refine (implPtOk x y _).mono ?_
  rintro e w1 ⟨rfl, hb⟩
  rw [ht.out]
  replace bn := bn.trans (hb.mono bn.size)
  go_wp2
  go_ret
  exact ⟨rfl, bn⟩

structure SeesE (w : World) (g n j : Nat) (ps : List (Int × Int)) : Prop where
 c : ∀ i, i < j → w.cell? ⟨g, i * 4, none⟩ = some (.int .i64 (ptA ps i).1) ∧ w.cell? ⟨g, i * 4 + 1, none⟩ = some (.int .i64 (ptA ps i).2) ∧ w.cell? ⟨g, i * 4 + 2, none⟩ = some (.int .i64 (ptA ps (nx ps.length i)).1) ∧ w.cell? ⟨g, i * 4 + 3, none⟩ = some (.int .i64 (ptA ps (nx ps.length i)).2)
 u : ∀ o, j * 4 ≤ o → o < n * 4 → ∃ v, w.cell? ⟨g, o, none⟩ = some v
 fr : ∀ o, w.frozen? ⟨g, o, none⟩ = false
 lt : g < w.heap.size
theorem SeesE.below {w w' : World} {g n j : Nat} {ps : List (Int × Int)} (h : SeesE w g n j ps) (hb : Below w.heap.size w w') : SeesE w' g n j ps := by
 obtain ⟨q, r⟩ := at_block hb h.lt
 exact ⟨fun i hi => ⟨(q _).trans (h.c i hi).1, (q _).trans (h.c i hi).2.1, (q _).trans (h.c i hi).2.2.1, (q _).trans (h.c i hi).2.2.2⟩, fun o h1 h2 => by obtain ⟨v, hv⟩ := h.u o h1 h2; exact ⟨v, (q _).trans hv⟩, fun o => (r o).trans (h.fr o), Nat.lt_of_lt_of_le h.lt hb.size⟩
theorem SeesE.start {w : World} {base e g n : Nat} {xs : List Value} (ps : List (Int × Int)) (h : w.ownsRow base e 4 (.slice (some ⟨g, 0, none⟩) n n) n xs) : SeesE w g n 0 ps := by
 obtain ⟨h1, h2⟩ := h
 rcases h2 with ⟨h2, _⟩ | ⟨g', cap', cur, hv, hb, hh, hc, hm, hs, ht⟩
 ·cases h2
 simp only [Value.slice.injEq, Option.some.injEq, Addr.mk.injEq, and_true] at hv
 obtain ⟨rfl, _, rfl⟩ := hv
 refine ⟨fun i hi => absurd hi (by omega), fun k _ hk => ?_, fun o => by simp [World.frozen?, hh], ?_⟩
 ·rw [cell_of_row w g k cur e (0, 0) hh]
  exact ⟨cur[k]'(by omega), Array.getElem?_eq_getElem (by omega)⟩
 ·rcases Nat.lt_or_ge g w.heap.size with k | k
  ·exact k
  ·rw [Array.getElem?_eq_none k] at hh
   cases hh
theorem SeesE.step {w : World} {g n j : Nat} {ps : List (Int × Int)} (h : SeesE w g n j ps) (hj : j < n) {x y u v : Int} (hx : (ptA ps j).1 = x) (hy : (ptA ps j).2 = y) (hu : (ptA ps (nx ps.length j)).1 = u) (hv : (ptA ps (nx ps.length j)).2 = v) :
  SeesE ((((w.setCell ⟨g, j * 4, none⟩ (.int .i64 x)).setCell ⟨g, j * 4 + 1, none⟩ (.int .i64 y)).setCell ⟨g, j * 4 + 2, none⟩ (.int .i64 u)).setCell ⟨g, j * 4 + 3, none⟩ (.int .i64 v)) g n (j + 1) ps := by
 obtain ⟨v0, h0⟩ := h.u (j * 4) (by omega) (by omega)
 obtain ⟨v1, h1⟩ := h.u (j * 4 + 1) (by omega) (by omega)
 obtain ⟨v2, h2⟩ := h.u (j * 4 + 2) (by omega) (by omega)
 obtain ⟨v3, h3⟩ := h.u (j * 4 + 3) (by omega) (by omega)
 have other : ∀ o, o ≠ j * 4 → o ≠ j * 4 + 1 → o ≠ j * 4 + 2 → o ≠ j * 4 + 3 → ((((w.setCell ⟨g, j * 4, none⟩ (.int .i64 x)).setCell ⟨g, j * 4 + 1, none⟩ (.int .i64 y)).setCell ⟨g, j * 4 + 2, none⟩ (.int .i64 u)).setCell ⟨g, j * 4 + 3, none⟩ (.int .i64 v)).cell? ⟨g, o, none⟩ = w.cell? ⟨g, o, none⟩ := fun o e1 e2 e3 e4 =>
  (cell_other (.inr (Ne.symm e4)) _).trans ((cell_other (.inr (Ne.symm e3)) _).trans ((cell_other (.inr (Ne.symm e2)) _).trans (cell_other (.inr (Ne.symm e1)) _)))
 refine ⟨fun i hi => ?_, fun o h4 h5 => ?_, fun o => (((World.frozen?_setCell ..).trans (World.frozen?_setCell ..)).trans ((World.frozen?_setCell ..).trans (World.frozen?_setCell ..))).trans (h.fr o), by simpa using h.lt⟩
 ·by_cases e : i = j
  ·subst e
   rw [hx, hy, hu, hv]
   refine ⟨?_, ?_, ?_, ?_⟩
   ·exact (cell_other (.inr (by omega)) _).trans ((cell_other (.inr (by omega)) _).trans ((cell_other (.inr (by omega)) _).trans (cell_same h0 _)))
   ·exact (cell_other (.inr (by omega)) _).trans ((cell_other (.inr (by omega)) _).trans (cell_same ((cell_other (.inr (by omega)) _).trans h1) _))
   ·exact (cell_other (.inr (by omega)) _).trans (cell_same ((cell_other (.inr (by omega)) _).trans ((cell_other (.inr (by omega)) _).trans h2)) _)
   ·exact cell_same ((cell_other (.inr (by omega)) _).trans ((cell_other (.inr (by omega)) _).trans ((cell_other (.inr (by omega)) _).trans h3))) _
  ·rw [other _ (by omega) (by omega) (by omega) (by omega), other _ (by omega) (by omega) (by omega) (by omega), other _ (by omega) (by omega) (by omega) (by omega), other _ (by omega) (by omega) (by omega) (by omega)]
   exact h.c i (by omega)
 ·rw [other _ (by omega) (by omega) (by omega) (by omega)]
  exact h.u o (by omega) h5
end Go.Proofs.YtnjbedhealpgcaaGreat
