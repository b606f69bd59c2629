/- The laws' helpers on lists of boxes: their sizes, their copies, whether two are equal, their marks. -/
import Derived.Test.YthompofbdjdloaaGreatPtG
import Derived.Deep.RegionHeld3
namespace Go.Proofs.YthompofbdjdloaaGreat
open Go.RowKit

abbrev Bx := Int × Int × Int × Int
def bxAt (bs : List Bx) (i : Nat) : Bx := bs[i]?.getD (0, 0, 0, 0)
/-- Four cells, one behind the other. -/
def Four (w : World) (b o : Nat) (x : Bx) : Prop := w.cell? ⟨b, o, none⟩ = some (.int .i64 x.1) ∧ w.cell? ⟨b, o + 1, none⟩ = some (.int .i64 x.2.1) ∧ w.cell? ⟨b, o + 2, none⟩ = some (.int .i64 x.2.2.1) ∧ w.cell? ⟨b, o + 3, none⟩ = some (.int .i64 x.2.2.2)
theorem Four.below {w w' : World} {b o : Nat} {x : Bx} (h : Four w b o x) (hb : Below w.heap.size w w') : Four w' b o x := ⟨bat hb h.1, bat hb h.2.1, bat hb h.2.2.1, bat hb h.2.2.2⟩
/-- Boxes that lie in memory, one behind the other. -/
structure SeesX (w : World) (a : Option Addr) (cap : Nat) (bs : List Bx) : Prop where
  fits : bs.length ≤ cap
  max : cap ≤ maxLen
  cells : bs ≠ [] → ∃ b off, a = some ⟨b, off, none⟩ ∧ ∀ i, i < bs.length → Four w b (off + i * 4) (bxAt bs i)
theorem SeesX.below {w w' : World} {a : Option Addr} {cap : Nat} {bs : List Bx} (h : SeesX w a cap bs) (hb : Below w.heap.size w w') : SeesX w' a cap bs :=
  ⟨h.fits, h.max, fun hn => by
    obtain ⟨b, off, ha, hc⟩ := h.cells hn
    exact ⟨b, off, ha, fun i hi => (hc i hi).below hb⟩⟩

theorem infoX : (Tryz.prog.info? 28).map (fun i => (i.zero, i.size, i.bytes)) = some (some (.agg #[.int .i64 0, .int .i64 0, .int .i64 0, .int .i64 0]), 4, 32) := by kernel_rfl

theorem szBoxs (a : Option Addr) (c n : Nat) (left : Int) (w : World) (hl : 0 ≤ left ∧ left ≤ 1048576) (hn : n ≤ 9223372036854775807) :
    Calls Tryz.prog 6 #[.slice a n c, .int .i64 left] w fun e w' => e = .returned (.int .i64 (if left - n < 0 then -1 else left - n)) ∧ w' = w := by
  obtain ⟨h1, h2⟩ := hl
  by_cases hc : left - n < 0
  · rw [if_pos hc]
    go_enter Tryz.func6, Tryz.ntmps6
    go_wp2
    go_ret
    exact ⟨rfl, rfl⟩
  · rw [if_neg hc]
    go_enter Tryz.func6, Tryz.ntmps6
    go_wp2
    go_ret
    exact ⟨rfl, rfl⟩

/-- A row of boxes that is being filled. -/
structure RowX (w : World) (g n j : Nat) (bs : List Bx) : Prop where
  c : ∀ i, i < j → Four w g (i * 4) (bxAt bs i)
  u : ∀ k, k < n * 4 → ∃ v, w.cell? ⟨g, k, none⟩ = some v
  fr : ∀ o, w.frozen? ⟨g, o, none⟩ = false
  lt : g < w.heap.size
theorem RowX.below {w w' : World} {g n j : Nat} {bs : List Bx} (h : RowX w g n j bs) (hb : Below w.heap.size w w') : RowX w' g n j bs := by
  obtain ⟨q, r⟩ := at_block hb h.lt
  exact ⟨fun i hi => (h.c i hi).below hb, fun k hk => by obtain ⟨v, hv⟩ := h.u k hk; exact ⟨v, (q _).trans hv⟩, fun o => (r o).trans (h.fr o), Nat.lt_of_lt_of_le h.lt hb.size⟩
theorem RowX.start {w : World} {base e g n : Nat} {xs : List Value} (bs : List Bx) (h : w.ownsRow base e 4 (.slice (some ⟨g, 0, none⟩) n n) n xs) : RowX w g n 0 bs := by
  obtain ⟨h1, h2⟩ := h
  rcases h2 with ⟨h2, _⟩ | ⟨g', cap', cur, hv, hb, hh, hc, hm, hs, ht⟩
  · cases h2
  simp only [Value.slice.injEq, Option.some.injEq, Addr.mk.injEq, and_true] at hv
  obtain ⟨rfl, _, rfl⟩ := hv
  have get : ∀ k, k < n * 4 → ∃ v, w.cell? ⟨g, k, none⟩ = some v := fun k hk => by
    rw [cell_of_row w g k cur e (0, 0) hh]
    exact ⟨cur[k]'(by omega), Array.getElem?_eq_getElem (by omega)⟩
  refine ⟨fun i hi => absurd hi (by omega), get, fun o => by simp [World.frozen?, hh], ?_⟩
  rcases Nat.lt_or_ge g w.heap.size with k | k
  · exact k
  · rw [Array.getElem?_eq_none k] at hh
    cases hh
theorem cell_ex {w : World} {g k o : Nat} {x : Value} (h : ∃ v, w.cell? ⟨g, k, none⟩ = some v) : ∃ v, (w.setCell ⟨g, o, none⟩ x).cell? ⟨g, k, none⟩ = some v := by
  obtain ⟨v, hv⟩ := h
  by_cases e : o = k
  · subst e
    exact ⟨x, cell_same hv _⟩
  · exact ⟨v, (cell_other (.inr e) _).trans hv⟩
theorem RowX.set {w : World} {g n j o : Nat} {bs : List Bx} (h : RowX w g n j bs) (x : Value) : RowX (w.setCell ⟨g, o, none⟩ x) g n 0 bs :=
  ⟨fun i hi => absurd hi (by omega), fun k hk => cell_ex (h.u k hk), fun o => (World.frozen?_setCell ..).trans (h.fr o), by simpa using h.lt⟩
def put4 (w : World) (g o : Nat) (x : Bx) : World := (((w.setCell ⟨g, o, none⟩ (.int .i64 x.1)).setCell ⟨g, o + 1, none⟩ (.int .i64 x.2.1)).setCell ⟨g, o + 2, none⟩ (.int .i64 x.2.2.1)).setCell ⟨g, o + 3, none⟩ (.int .i64 x.2.2.2)
theorem put4_at {w : World} {g o : Nat} {x : Bx} (h : ∀ k, k < 4 → ∃ v, w.cell? ⟨g, o + k, none⟩ = some v) : Four (put4 w g o x) g o x := by
  obtain ⟨v0, h0⟩ := h 0 (by omega)
  obtain ⟨v1, h1⟩ := h 1 (by omega)
  obtain ⟨v2, h2⟩ := h 2 (by omega)
  obtain ⟨v3, h3⟩ := h 3 (by omega)
  unfold put4
  refine ⟨?_, ?_, ?_, ?_⟩
  · exact (cell_other (.inr (by omega)) _).trans ((cell_other (.inr (by omega)) _).trans ((cell_other (.inr (by omega)) _).trans (cell_same h0 _)))
  · exact (cell_other (.inr (by omega)) _).trans ((cell_other (.inr (by omega)) _).trans (cell_same ((cell_other (.inr (by omega)) _).trans h1) _))
  · exact (cell_other (.inr (by omega)) _).trans (cell_same ((cell_other (.inr (by omega)) _).trans ((cell_other (.inr (by omega)) _).trans h2)) _)
  · exact cell_same ((cell_other (.inr (by omega)) _).trans ((cell_other (.inr (by omega)) _).trans ((cell_other (.inr (by omega)) _).trans h3))) _
theorem put4_other {w : World} {g o k : Nat} {x : Bx} (h : k < o ∨ o + 4 ≤ k) : (put4 w g o x).cell? ⟨g, k, none⟩ = w.cell? ⟨g, k, none⟩ := by
  unfold put4
  exact (cell_other (.inr (by omega)) _).trans ((cell_other (.inr (by omega)) _).trans ((cell_other (.inr (by omega)) _).trans (cell_other (.inr (by omega)) _)))
theorem RowX.step {w : World} {g n j : Nat} {bs : List Bx} (h : RowX w g n j bs) (hj : j < n) {x : Bx} (hx : bxAt bs j = x) : RowX (put4 w g (j * 4) x) g n (j + 1) bs := by
  refine ⟨fun i hi => ?_, fun k hk => cell_ex (cell_ex (cell_ex (cell_ex (h.u k hk)))), fun o => ?_, by simpa [put4] using h.lt⟩
  · by_cases e : i = j
    · subst e
      rw [hx]
      exact put4_at (fun k hk => h.u _ (by omega))
    · obtain ⟨c0, c1, c2, c3⟩ := h.c i (by omega)
      exact ⟨(put4_other (by omega)).trans c0, (put4_other (by omega)).trans c1, (put4_other (by omega)).trans c2, (put4_other (by omega)).trans c3⟩
  · unfold put4
    exact (World.frozen?_setCell ..).trans ((World.frozen?_setCell ..).trans ((World.frozen?_setCell ..).trans ((World.frozen?_setCell ..).trans (h.fr o))))
theorem RowX.sees {w : World} {g n : Nat} {bs : List Bx} (h : RowX w g n n bs) (hn : bs.length = n) (hm : n ≤ maxLen) : SeesX w (some ⟨g, 0, none⟩) n bs :=
  ⟨by omega, hm, fun _ => ⟨g, 0, rfl, fun i hi => by rw [Nat.zero_add]; exact h.c i (by omega)⟩⟩

set_option maxRecDepth 20000 in
set_option maxHeartbeats 1000000 in
theorem toBoxs (a : Option Addr) (cap : Nat) (bs : List Bx) (w : World) (h : SeesX w a cap bs) (hs : bs.length ≤ 1048576) :
    Calls Tryz.prog 9 #[.slice a bs.length cap] w fun e w' => e = .returned (.slice (some ⟨w.heap.size, 0, none⟩) bs.length bs.length) ∧ RowX w' w.heap.size bs.length bs.length bs ∧ Below w.heap.size w w' := by
  obtain ⟨i0, hi, hz0, hz1, hz2⟩ := info_parts infoX
  go_enter Tryz.func9, Tryz.ntmps9
  go_wp2_with (at_make; refine wpList_make_full _ rfl _ _ 29 rfl w.heap.size 28 i0 (.agg #[.int .i64 0, .int .i64 0, .int .i64 0, .int .i64 0]) 4 Tryz.underlying29 hi hz0 hz1 .i64 .i64 _ _ bs.length rfl rfl rfl rfl ?b2 ?b3 (Nat.le_refl _) ?_)
  case b2 => rw [hz2]; omega
  case b3 => unfold maxLen; omega
  intro w0 hown0 hgrow0
  have R := RowX.start bs hown0
  have hb0 : Below w.heap.size w w0 := (Below.refl _ _).grown hgrow0 (Nat.le_refl _) (fun k h => by cases h)
  have hm := h.max
  have hf := h.fits
  unfold maxLen at hm
  clear hown0 hgrow0 hi hz0 hz1 hz2
  go_wp2
  go_loopw [4] (fun i wr => ∃ j : Nat, j ≤ bs.length ∧ i = .int .i64 j ∧ RowX wr w.heap.size bs.length j bs ∧ Below w.heap.size w wr) (fun i _ => bs.length - (intOf i).toNat)
  case atStart => exact ⟨0, Nat.zero_le _, rfl, R, hb0⟩
  case round =>
    clear R hb0
    obtain ⟨j, hj, rfl, R, B⟩ := hrel
    by_cases hlt : j < bs.length
    · obtain ⟨b1, o1, rfl, hc⟩ := (h.below B).cells (by intro e; simp [e] at hlt)
      obtain ⟨g1, g2, g3, g4⟩ := hc j hlt
      obtain ⟨x, ux⟩ : ∃ x, Hid (bxAt bs j = x) := ⟨_, rfl⟩
      rw [ux.out] at g1 g2 g3 g4
      obtain ⟨x1, x2, x3, x4⟩ := x
      dsimp only at g1 g2 g3 g4
      clear hc
      go_wp2_with fail
      refine (toBox_any _ _ _ _ _).mono ?_
      rintro e w3 ⟨rfl, hb⟩
      replace R := R.below hb
      replace B := B.trans (hb.mono B.size)
      clear hb g1 g2 g3 g4
      obtain ⟨v0, c0⟩ := R.u (j * 4) (by omega)
      obtain ⟨v1, c1⟩ := R.u (j * 4 + 1) (by omega)
      obtain ⟨v2, c2⟩ := R.u (j * 4 + 2) (by omega)
      obtain ⟨v3, c3⟩ := R.u (j * 4 + 3) (by omega)
      have cf := R.fr
      replace R := R.step hlt ux.out
      unfold put4 at R
      dsimp only at R
      replace B := (((B.setCell (p := ⟨w.heap.size, j * 4, none⟩) (Nat.le_refl _) (.int .i64 x1)).setCell (p := ⟨w.heap.size, j * 4 + 1, none⟩) (Nat.le_refl _) (.int .i64 x2)).setCell (p := ⟨w.heap.size, j * 4 + 2, none⟩) (Nat.le_refl _) (.int .i64 x3)).setCell (p := ⟨w.heap.size, j * 4 + 3, none⟩) (Nat.le_refl _) (.int .i64 x4)
      go_wp2_with fail
      go_roundw
      case rel => exact ⟨j + 1, by omega, by go_num, R, B⟩
      case measure => simp [intOf]; omega
    · have hje : j = bs.length := by omega
      subst hje
      go_wp2
      go_ret
      exact ⟨rfl, R, B⟩
end Go.Proofs.YthompofbdjdloaaGreat
