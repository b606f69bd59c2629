import Derived.Test.YtbdpnfdpnaoicaaPtX
import Derived.Deep.RegionHeld3
/- The laws' helpers on lists of points: their sizes, their copies, whether two are equal. -/
namespace Go.Proofs.Ytbdpnfdpnaoicaa
open Go.RowKit

theorem infoP : (Try.prog.info? 29).map (fun i => (i.zero, i.size, i.bytes)) = some (some (.agg #[.int .i64 0, .int .i64 0]), 2, 16) := by kernel_rfl

/-- A row of points that is being filled. -/
structure RowP (w : World) (g n j : Nat) (ps : List (Int × Int)) : Prop where
  c : ∀ i, i < j → w.cell? ⟨g, i * 2, none⟩ = some (.int .i64 (ps[i]?.getD (0, 0)).1) ∧ w.cell? ⟨g, i * 2 + 1, none⟩ = some (.int .i64 (ps[i]?.getD (0, 0)).2)
  u : ∀ i, j ≤ i → i < n → (∃ v, w.cell? ⟨g, i * 2, none⟩ = some v) ∧ ∃ v, w.cell? ⟨g, i * 2 + 1, none⟩ = some v
  fr : ∀ o, w.frozen? ⟨g, o, none⟩ = false
  lt : g < w.heap.size
theorem RowP.below {w w' : World} {g n j : Nat} {ps : List (Int × Int)} (h : RowP w g n j ps) (hb : Below w.heap.size w w') : RowP w' g n j ps := by
  obtain ⟨q, r⟩ := at_block hb h.lt
  exact ⟨fun i hi => ⟨(q _).trans (h.c i hi).1, (q _).trans (h.c i hi).2⟩, fun i h1 h2 => ⟨by obtain ⟨v, hv⟩ := (h.u i h1 h2).1; exact ⟨v, (q _).trans hv⟩, by obtain ⟨v, hv⟩ := (h.u i h1 h2).2; exact ⟨v, (q _).trans hv⟩⟩, fun o => (r o).trans (h.fr o), Nat.lt_of_lt_of_le h.lt hb.size⟩
theorem RowP.start {w : World} {base e g n : Nat} {xs : List Value} (ps : List (Int × Int)) (h : w.ownsRow base e 2 (.slice (some ⟨g, 0, none⟩) n n) n xs) : RowP w g n 0 ps := by
  obtain ⟨h1, h2⟩ := h
  rcases h2 with ⟨h2, _⟩ | ⟨g', cap', cur, hv, hb, hh, hc, hm, hs, ht⟩
  · cases h2
  simp only [Value.slice.injEq, Option.some.injEq, Addr.mk.injEq, and_true] at hv
  obtain ⟨rfl, _, rfl⟩ := hv
  have get : ∀ k, k < n * 2 → ∃ v, w.cell? ⟨g, k, none⟩ = some v := fun k hk => by
    rw [cell_of_row w g k cur e (0, 0) hh]
    exact ⟨cur[k]'(by omega), Array.getElem?_eq_getElem (by omega)⟩
  refine ⟨fun i hi => absurd hi (by omega), fun i _ hi => ⟨get _ (by omega), get _ (by omega)⟩, fun o => by simp [World.frozen?, hh], ?_⟩
  rcases Nat.lt_or_ge g w.heap.size with k | k
  · exact k
  · rw [Array.getElem?_eq_none k] at hh
    cases hh
theorem RowP.step {w : World} {g n j : Nat} {ps : List (Int × Int)} (h : RowP w g n j ps) (hj : j < n) {x y : Int} (hx : (ps[j]?.getD (0, 0)).1 = x) (hy : (ps[j]?.getD (0, 0)).2 = y) :
    RowP ((w.setCell ⟨g, j * 2, none⟩ (.int .i64 x)).setCell ⟨g, j * 2 + 1, none⟩ (.int .i64 y)) g n (j + 1) ps := by
  obtain ⟨⟨v0, h0⟩, ⟨v1, h1⟩⟩ := h.u j (Nat.le_refl _) hj
  have other : ∀ o, o ≠ j * 2 → o ≠ j * 2 + 1 → ((w.setCell ⟨g, j * 2, none⟩ (.int .i64 x)).setCell ⟨g, j * 2 + 1, none⟩ (.int .i64 y)).cell? ⟨g, o, none⟩ = w.cell? ⟨g, o, none⟩ := fun o e1 e2 =>
    (cell_other (.inr (Ne.symm e2)) _).trans (cell_other (.inr (Ne.symm e1)) _)
  refine ⟨fun i hi => ?_, fun i h2 h3 => ?_, fun o => ((World.frozen?_setCell ..).trans (World.frozen?_setCell ..)).trans (h.fr o), by simpa using h.lt⟩
  · by_cases e : i = j
    · subst e
      rw [hx, hy]
      exact ⟨(cell_other (.inr (by omega)) _).trans (cell_same h0 _), cell_same ((cell_other (.inr (by omega)) _).trans h1) _⟩
    · rw [other _ (by omega) (by omega), other _ (by omega) (by omega)]
      exact h.c i (by omega)
  · rw [other _ (by omega) (by omega), other _ (by omega) (by omega)]
    exact h.u i (by omega) h3

end Go.Proofs.Ytbdpnfdpnaoicaa

/- Shapes in memory; the laws' helpers on them: their sizes, their copies, whether two are equal. -/
namespace Go.Proofs.Ytbdpnfdpnaoicaa
open Go.RowKit

/-- A row of a shape. -/
def rowA (rs : List (List (Int × Int))) (i : Nat) : List (Int × Int) := rs[i]?.getD []
/-- Rows of points that lie in memory. -/
structure SeesS (w : World) (a : Option Addr) (cap : Nat) (rs : List (List (Int × Int))) : Prop where
  fits : rs.length ≤ cap
  max : cap ≤ maxLen
  cells : rs ≠ [] → ∃ b off, a = some ⟨b, off, none⟩ ∧ ∀ i, i < rs.length → ∃ a' c', w.cell? ⟨b, off + i, none⟩ = some (.slice a' (rowA rs i).length c') ∧ SeesP w a' c' (rowA rs i)
theorem SeesS.below {w w' : World} {a : Option Addr} {cap : Nat} {rs : List (List (Int × Int))} (h : SeesS w a cap rs) (hb : Below w.heap.size w w') : SeesS w' a cap rs :=
  ⟨h.fits, h.max, fun hn => by
    obtain ⟨b, off, ha, hc⟩ := h.cells hn
    exact ⟨b, off, ha, fun i hi => by obtain ⟨a', c', h1, h2⟩ := hc i hi; exact ⟨a', c', bat hb h1, h2.below hb⟩⟩⟩
/-- How many rows and points there are, up to a row. -/
def upto (rs : List (List (Int × Int))) : Nat → Nat
  | 0 => rs.length
  | j + 1 => upto rs j + (rowA rs j).length
theorem upto_le (rs : List (List (Int × Int))) (j d : Nat) : upto rs j ≤ upto rs (j + d) := by
  induction d with
  | zero => exact Nat.le_refl _
  | succ d ih => rw [← Nat.add_assoc]; simp only [upto]; omega
theorem row_le (rs : List (List (Int × Int))) {i n : Nat} (h : i < n) : (rowA rs i).length + rs.length ≤ upto rs n := by
  have h1 := upto_le rs (i + 1) (n - (i + 1))
  rw [show i + 1 + (n - (i + 1)) = n by omega] at h1
  have h2 := upto_le rs 0 i
  simp only [upto, Nat.zero_add] at h1 h2
  omega

end Go.Proofs.Ytbdpnfdpnaoicaa

/- Shapes: their copies, whether two are equal. -/
namespace Go.Proofs.Ytbdpnfdpnaoicaa
open Go.RowKit

theorem infoR : (Try.prog.info? 24).map (fun i => (i.zero, i.size, i.bytes)) = some (some (.slice none 0 0), 1, 24) := by kernel_rfl
theorem SeesP.put1 {w : World} {a : Option Addr} {cap g : Nat} {ps : List (Int × Int)} (h : SeesP w a cap ps) (ne : ∀ b off, a = some ⟨b, off, none⟩ → b ≠ g) (o : Nat) (u : Value) : SeesP (w.setCell ⟨g, o, none⟩ u) a cap ps :=
  ⟨h.fits, h.max, fun hn => by
    obtain ⟨b, off, ha, hc⟩ := h.cells hn
    exact ⟨b, off, ha, fun i hi => ⟨(cell_other (.inl (Ne.symm (ne b off ha))) u).trans (hc i hi).1, (cell_other (.inl (Ne.symm (ne b off ha))) u).trans (hc i hi).2⟩⟩⟩

/-- Rows of points that are being copied: the first j are there, each in a block of its own. -/
structure RowS (w : World) (g n j : Nat) (rs : List (List (Int × Int))) : Prop where
  c : ∀ i, i < j → ∃ b c', w.cell? ⟨g, i, none⟩ = some (.slice (some ⟨b, 0, none⟩) (rowA rs i).length c') ∧ SeesP w (some ⟨b, 0, none⟩) c' (rowA rs i) ∧ g < b ∧ b < w.heap.size ∧ ∀ o, w.frozen? ⟨b, o, none⟩ = false
  u : ∀ i, j ≤ i → i < n → ∃ v, w.cell? ⟨g, i, none⟩ = some v
  fr : ∀ o, w.frozen? ⟨g, o, none⟩ = false
  lt : g < w.heap.size
theorem RowS.below {w w' : World} {g n j : Nat} {rs : List (List (Int × Int))} (h : RowS w g n j rs) (hb : Below w.heap.size w w') : RowS w' g n j rs := by
  obtain ⟨q, r⟩ := at_block hb h.lt
  exact ⟨fun i hi => by obtain ⟨b, c', h1, h2, h3⟩ := h.c i hi; exact ⟨b, c', (q _).trans h1, h2.below hb, h3.1, Nat.lt_of_lt_of_le h3.2.1 hb.size, fun o => (hb.frozen (p := ⟨b, o, none⟩) h3.2.1).trans (h3.2.2 o)⟩, fun i h1 h2 => by obtain ⟨v, hv⟩ := h.u i h1 h2; exact ⟨v, (q _).trans hv⟩, fun o => (r o).trans (h.fr o), Nat.lt_of_lt_of_le h.lt hb.size⟩
theorem RowS.start {w : World} {base e g n : Nat} {xs : List Value} (rs : List (List (Int × Int))) (h : w.ownsRow base e 1 (.slice (some ⟨g, 0, none⟩) n n) n xs) : RowS w g n 0 rs := by
  obtain ⟨h1, h2⟩ := h
  rcases h2 with ⟨h2, _⟩ | ⟨g', cap', cur, hv, hb, hh, hc, hm, hs, ht⟩
  · cases h2
  simp only [Value.slice.injEq, Option.some.injEq, Addr.mk.injEq, and_true] at hv
  obtain ⟨rfl, _, rfl⟩ := hv
  refine ⟨fun i hi => absurd hi (by omega), fun k _ hk => ?_, fun o => by simp [World.frozen?, hh], ?_⟩
  · rw [cell_of_row w g k cur e (0, 0) hh]
    exact ⟨cur[k]'(by omega), Array.getElem?_eq_getElem (by omega)⟩
  · rcases Nat.lt_or_ge g w.heap.size with k | k
    · exact k
    · rw [Array.getElem?_eq_none k] at hh
      cases hh
theorem RowS.step {w : World} {g n j b c' : Nat} {rs : List (List (Int × Int))} (h : RowS w g n j rs) (hj : j < n) (hs : SeesP w (some ⟨b, 0, none⟩) c' (rowA rs j)) (hb : g < b) (hl : b < w.heap.size) (hr : ∀ o, w.frozen? ⟨b, o, none⟩ = false) :
    RowS (w.setCell ⟨g, j, none⟩ (.slice (some ⟨b, 0, none⟩) (rowA rs j).length c')) g n (j + 1) rs := by
  obtain ⟨v0, h0⟩ := h.u j (Nat.le_refl _) hj
  refine ⟨fun i hi => ?_, fun i h2 h3 => ?_, fun o => (World.frozen?_setCell ..).trans (h.fr o), by simpa using h.lt⟩
  · by_cases e : i = j
    · subst e
      exact ⟨b, c', cell_same h0 _, hs.put1 (fun b' off' e => by simp only [Option.some.injEq, Addr.mk.injEq] at e; omega) _ _, hb, by simpa using hl, fun o => (World.frozen?_setCell ..).trans (hr o)⟩
    · obtain ⟨b2, c2, h4, h5, h6⟩ := h.c i (by omega)
      exact ⟨b2, c2, (cell_other (.inr (Ne.symm e)) _).trans h4, h5.put1 (fun b' off' e => by simp only [Option.some.injEq, Addr.mk.injEq] at e; omega) _ _, h6.1, by simpa using h6.2.1, fun o => (World.frozen?_setCell ..).trans (h6.2.2 o)⟩
  · obtain ⟨v, hv⟩ := h.u i (by omega) h3
    exact ⟨v, (cell_other (.inr (by omega)) _).trans hv⟩

/-- Rows of points in blocks of a call's own. -/
structure OwnS (lo : Nat) (w : World) (a : Option Addr) (cap : Nat) (rs : List (List (Int × Int))) : Prop where
  fits : rs.length ≤ cap
  max : cap ≤ maxLen
  cells : rs ≠ [] → ∃ b off, a = some ⟨b, off, none⟩ ∧ lo ≤ b ∧ ∀ i, i < rs.length → ∃ a' c', w.cell? ⟨b, off + i, none⟩ = some (.slice a' (rowA rs i).length c') ∧ SeesP w a' c' (rowA rs i) ∧ ∀ b' off', a' = some ⟨b', off', none⟩ → lo ≤ b' ∧ b < b' ∧ b' < w.heap.size ∧ ∀ o, w.frozen? ⟨b', o, none⟩ = false
theorem OwnS.sees {lo : Nat} {w : World} {a : Option Addr} {cap : Nat} {rs : List (List (Int × Int))} (h : OwnS lo w a cap rs) : SeesS w a cap rs :=
  ⟨h.fits, h.max, fun hn => by
    obtain ⟨b, off, ha, _, hc⟩ := h.cells hn
    exact ⟨b, off, ha, fun i hi => by obtain ⟨a', c', h1, h2, _⟩ := hc i hi; exact ⟨a', c', h1, h2⟩⟩⟩
theorem OwnS.below {lo : Nat} {w w' : World} {a : Option Addr} {cap : Nat} {rs : List (List (Int × Int))} (h : OwnS lo w a cap rs) (hb : Below w.heap.size w w') : OwnS lo w' a cap rs :=
  ⟨h.fits, h.max, fun hn => by
    obtain ⟨b, off, ha, hl, hc⟩ := h.cells hn
    exact ⟨b, off, ha, hl, fun i hi => by obtain ⟨a', c', h1, h2, h3⟩ := hc i hi; exact ⟨a', c', bat hb h1, h2.below hb, fun b' off' e => ⟨(h3 b' off' e).1, (h3 b' off' e).2.1, Nat.lt_of_lt_of_le (h3 b' off' e).2.2.1 hb.size, fun o => (hb.frozen (p := ⟨b', o, none⟩) (h3 b' off' e).2.2.1).trans ((h3 b' off' e).2.2.2 o)⟩⟩⟩⟩
theorem OwnS.base_le {lo lo' : Nat} {w : World} {a : Option Addr} {cap : Nat} {rs : List (List (Int × Int))} (h : OwnS lo w a cap rs) (hb : lo' ≤ lo) : OwnS lo' w a cap rs :=
  ⟨h.fits, h.max, fun hn => by
    obtain ⟨b, off, ha, hl, hc⟩ := h.cells hn
    exact ⟨b, off, ha, Nat.le_trans hb hl, fun i hi => by obtain ⟨a', c', h1, h2, h3⟩ := hc i hi; exact ⟨a', c', h1, h2, fun b' off' e => ⟨Nat.le_trans hb (h3 b' off' e).1, (h3 b' off' e).2⟩⟩⟩⟩
theorem OwnS.put {lo g : Nat} {w : World} {a : Option Addr} {cap : Nat} {rs : List (List (Int × Int))} (h : OwnS lo w a cap rs) (hg : g < lo) (o : Nat) (u : Value) : OwnS lo (w.setCell ⟨g, o, none⟩ u) a cap rs :=
  ⟨h.fits, h.max, fun hn => by
    obtain ⟨b, off, ha, hl, hc⟩ := h.cells hn
    exact ⟨b, off, ha, hl, fun i hi => by obtain ⟨a', c', h1, h2, h3⟩ := hc i hi; exact ⟨a', c', (cell_other (.inl (by omega)) u).trans h1, h2.put1 (fun b' off' e => by have := (h3 b' off' e).1; omega) o u, fun b' off' e => ⟨(h3 b' off' e).1, (h3 b' off' e).2.1, by simpa using (h3 b' off' e).2.2.1, fun o => (World.frozen?_setCell ..).trans ((h3 b' off' e).2.2.2 o)⟩⟩⟩⟩

/-- Rows that are no nil. -/
def Somes (w : World) (a : Option Addr) (n : Nat) : Prop := ∃ b off, a = some ⟨b, off, none⟩ ∧ ∀ i, i < n → ∃ ad l c, w.cell? ⟨b, off + i, none⟩ = some (.slice (some ad) l c)
theorem Somes.below {w w' : World} {a : Option Addr} {n : Nat} (h : Somes w a n) (hb : Below w.heap.size w w') : Somes w' a n := by
  obtain ⟨b, off, e, k⟩ := h
  exact ⟨b, off, e, fun i hi => by obtain ⟨ad, l, c, q⟩ := k i hi; exact ⟨ad, l, c, bat hb q⟩⟩
theorem Somes.put {g n b off : Nat} {w : World} (h : Somes w (some ⟨b, off, none⟩) n) (ne : b ≠ g) (o : Nat) (u : Value) : Somes (w.setCell ⟨g, o, none⟩ u) (some ⟨b, off, none⟩) n := by
  obtain ⟨b', off', e, k⟩ := h
  simp only [Option.some.injEq, Addr.mk.injEq] at e
  obtain ⟨rfl, rfl, _⟩ := e
  exact ⟨b, off, rfl, fun i hi => by obtain ⟨ad, l, c, q⟩ := k i hi; exact ⟨ad, l, c, (cell_other (.inl (Ne.symm ne)) u).trans q⟩⟩

end Go.Proofs.Ytbdpnfdpnaoicaa
