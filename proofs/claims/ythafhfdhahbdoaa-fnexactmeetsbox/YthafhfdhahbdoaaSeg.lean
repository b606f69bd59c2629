/- Segments that lie in memory, one behind the other; the edges of a ring. -/
import Derived.Test.YthafhfdhahbdoaaRing
import Derived.Test.YthafhfdhahbdoaaPtG
import Derived.Test.YthafhfdhahbdoaaEq
import Derived.Laws.AppendOwnNone
import Derived.Handy
namespace Go.Proofs.Ythafhfdhahbdoaa
open Go.RowKit

/-- A segment: its ends. -/
abbrev Sg := (Int × Int) × (Int × Int)
def sgA (es : List Sg) (i : Nat) : Sg := es[i]?.getD ((0, 0), (0, 0))
structure SeesQ (w : World) (a : Option Addr) (cap : Nat) (es : List Sg) : Prop where
  fits : es.length ≤ cap
  max : cap ≤ maxLen
  cells : es ≠ [] → ∃ b off, a = some ⟨b, off, none⟩ ∧ ∀ i, i < es.length → w.cell? ⟨b, off + i * 4, none⟩ = some (.int .i64 (sgA es i).1.1) ∧ w.cell? ⟨b, off + i * 4 + 1, none⟩ = some (.int .i64 (sgA es i).1.2) ∧ w.cell? ⟨b, off + i * 4 + 2, none⟩ = some (.int .i64 (sgA es i).2.1) ∧ w.cell? ⟨b, off + i * 4 + 3, none⟩ = some (.int .i64 (sgA es i).2.2)
theorem SeesQ.below {w w' : World} {a : Option Addr} {cap : Nat} {es : List Sg} (h : SeesQ w a cap es) (hb : Below w.heap.size w w') : SeesQ w' a cap es :=
  ⟨h.fits, h.max, fun hn => by
    obtain ⟨b, off, ha, hc⟩ := h.cells hn
    exact ⟨b, off, ha, fun i hi => ⟨bat hb (hc i hi).1, bat hb (hc i hi).2.1, bat hb (hc i hi).2.2.1, bat hb (hc i hi).2.2.2⟩⟩⟩

/-- The edges of a ring. -/
def edL (ps : List (Int × Int)) : List Sg := (List.range ps.length).map fun i => (ptA ps i, ptA ps (nx ps.length i))
theorem edL_len (ps : List (Int × Int)) : (edL ps).length = ps.length := by simp [edL]
theorem edL_at {ps : List (Int × Int)} {i : Nat} (h : i < ps.length) : sgA (edL ps) i = (ptA ps i, ptA ps (nx ps.length i)) := by
  unfold sgA edL
  rw [List.getElem?_map, List.getElem?_range h]
  rfl
theorem SeesE.q {w : World} {g : Nat} {ps : List (Int × Int)} (h : SeesE w g ps.length ps.length ps) (hs : ps.length ≤ 60) : SeesQ w (some ⟨g, 0, none⟩) ps.length (edL ps) :=
  ⟨by rw [edL_len]; exact Nat.le_refl _, by unfold maxLen; omega, fun _ => ⟨g, 0, rfl, fun i hi => by
    rw [edL_len] at hi
    obtain ⟨h1, h2, h3, h4⟩ := h.c i hi
    rw [edL_at hi, Nat.zero_add]
    exact ⟨h1, h2, h3, h4⟩⟩⟩

/-- The cells of segments. -/
def sgC (es : List Sg) : List Value := es.flatMap fun e => [.int .i64 e.1.1, .int .i64 e.1.2, .int .i64 e.2.1, .int .i64 e.2.2]
theorem sgC_len (es : List Sg) : (sgC es).length = es.length * 4 := by
  induction es with
  | nil => rfl
  | cons p r ih => simp only [sgC, List.flatMap_cons, List.length_append, List.length_cons, List.length_nil] at *; omega
theorem sgC_append (es fs : List Sg) : sgC (es ++ fs) = sgC es ++ sgC fs := by simp [sgC]
theorem sgC_at : ∀ (es : List Sg) (j : Nat), j < es.length → (sgC es)[j * 4]? = some (.int .i64 (sgA es j).1.1) ∧ (sgC es)[j * 4 + 1]? = some (.int .i64 (sgA es j).1.2) ∧ (sgC es)[j * 4 + 2]? = some (.int .i64 (sgA es j).2.1) ∧ (sgC es)[j * 4 + 3]? = some (.int .i64 (sgA es j).2.2)
  | [], j, h => absurd h (by simp)
  | p :: r, 0, _ => ⟨rfl, rfl, rfl, rfl⟩
  | p :: r, j + 1, h => by
    have ih := sgC_at r j (by simpa using h)
    have e : sgC (p :: r) = [.int .i64 p.1.1, .int .i64 p.1.2, .int .i64 p.2.1, .int .i64 p.2.2] ++ sgC r := rfl
    have e2 : sgA (p :: r) (j + 1) = sgA r j := by simp [sgA]
    rw [e, e2, show (j + 1) * 4 = 4 + j * 4 by omega, show 4 + j * 4 + 1 = 4 + (j * 4 + 1) by omega, show 4 + j * 4 + 2 = 4 + (j * 4 + 2) by omega, show 4 + j * 4 + 3 = 4 + (j * 4 + 3) by omega, List.getElem?_append_right (by simp), List.getElem?_append_right (by simp), List.getElem?_append_right (by simp), List.getElem?_append_right (by simp)]
    simpa using ih
theorem sgC_ones (es : List Sg) : ∀ u ∈ sgC es, u.oneCell' = true := by
  intro u hu
  simp only [sgC, List.mem_flatMap] at hu
  obtain ⟨p, _, h⟩ := hu
  simp only [List.mem_cons, List.not_mem_nil, or_false] at h
  rcases h with rfl | rfl | rfl | rfl <;> rfl
/-- The cells that a slice of segments sees. -/
theorem SeesQ.news {w : World} {ad : Addr} {cap : Nat} {es : List Sg} (h : SeesQ w (some ad) cap es) : ∀ j u, (sgC es)[j]? = some u → w.cell? (ad.add j) = some u := by
  intro j u hu
  have hj : j < es.length * 4 := by have := (List.getElem?_eq_some_iff.mp hu).1; rwa [sgC_len] at this
  have hi : j / 4 < es.length := by omega
  obtain ⟨b, off, ha, hc⟩ := h.cells (by intro e; simp [e] at hi)
  simp only [Option.some.injEq] at ha
  subst ha
  obtain ⟨c0, c1, c2, c3⟩ := hc _ hi
  obtain ⟨s0, s1, s2, s3⟩ := sgC_at es _ hi
  rw [show (⟨b, off, none⟩ : Addr).add j = ⟨b, off + j, none⟩ by simp [Addr.add]]
  have hm : j % 4 = 0 ∨ j % 4 = 1 ∨ j % 4 = 2 ∨ j % 4 = 3 := by omega
  rcases hm with m | m | m | m
  · rw [show j / 4 * 4 = j by omega] at c0 s0
    rw [s0] at hu
    rw [c0, hu]
  · rw [show j / 4 * 4 + 1 = j by omega] at s1
    rw [show off + j / 4 * 4 + 1 = off + j by omega] at c1
    rw [s1] at hu
    rw [c1, hu]
  · rw [show j / 4 * 4 + 2 = j by omega] at s2
    rw [show off + j / 4 * 4 + 2 = off + j by omega] at c2
    rw [s2] at hu
    rw [c2, hu]
  · rw [show j / 4 * 4 + 3 = j by omega] at s3
    rw [show off + j / 4 * 4 + 3 = off + j by omega] at c3
    rw [s3] at hu
    rw [c3, hu]
/-- Segments in a row of their own. -/
def RowQ (base : Nat) (w : World) (v : Value) (es : List Sg) : Prop := w.ownsRow base 56 4 v es.length (sgC es)
theorem RowQ.nil (base : Nat) (w : World) : RowQ base w (.slice none 0 0) [] := ⟨rfl, .inl ⟨rfl, rfl⟩⟩
theorem RowQ.below {base : Nat} {w w' : World} {v : Value} {es : List Sg} (h : RowQ base w v es) (hb : Below w.heap.size w w') : RowQ base w' v es := owns_below h hb
theorem RowQ.shape {base : Nat} {w : World} {v : Value} {es : List Sg} (h : RowQ base w v es) : ∃ a cap, v = .slice a es.length cap ∧ es.length ≤ cap ∧ cap ≤ maxLen := by
  rcases h.2 with ⟨hv, h0⟩ | ⟨q, cap, cur, hv, _, _, hf, hm, _⟩
  · exact ⟨none, 0, by rw [hv, h0], by omega, by simp [maxLen]⟩
  · exact ⟨_, cap, hv, hf, hm⟩
theorem RowQ.sees {base : Nat} {w : World} {a : Option Addr} {cap : Nat} {es : List Sg} (h : RowQ base w (.slice a es.length cap) es) : SeesQ w a cap es := by
  rcases h.2 with ⟨hv, h0⟩ | ⟨q, cap', cur, hv, hb, hh, hf, hm, hs, ht⟩
  · injection hv with h1 h2 h3
    subst h1 h3
    exact ⟨by omega, by simp [maxLen], fun hn => absurd (List.eq_nil_of_length_eq_zero h0) hn⟩
  · injection hv with h1 h2 h3
    subst h1 h3
    refine ⟨hf, hm, fun _ => ⟨q, 0, rfl, fun i hi => ?_⟩⟩
    have c : ∀ k u, (sgC es)[k]? = some u → w.cell? ⟨q, 0 + k, none⟩ = some u := by
      intro k u hk
      rw [← ht] at hk
      have hk2 : k < es.length * 4 := by
        have := (List.getElem?_eq_some_iff.mp hk).1
        rw [List.length_take] at this
        omega
      rw [List.getElem?_take_of_lt hk2] at hk
      rw [Nat.zero_add]
      exact (cell_of_row w q k _ _ _ hh).trans (by simpa using hk)
    obtain ⟨c1, c2, c3, c4⟩ := sgC_at es i hi
    exact ⟨c _ _ c1, by have := c _ _ c2; rwa [← Nat.add_assoc] at this, by have := c _ _ c3; rwa [← Nat.add_assoc] at this, by have := c _ _ c4; rwa [← Nat.add_assoc] at this⟩

/-- The first point of a ring, of its edges. -/
theorem start_any (g : Nat) (ps : List (Int × Int)) (w : World) (h : SeesE w g ps.length ps.length ps) (h0 : 0 < ps.length) :
    Calls Try.prog 78 #[.slice (some ⟨g, 0, none⟩) ps.length ps.length] w fun e w' => e = .returned (.agg #[.int .i64 (ptA ps 0).1, .int .i64 (ptA ps 0).2]) ∧ Below w.heap.size w w' := by
  have bn := below1 w (.cells #[.int .i64 0, .int .i64 0] 35)
  obtain ⟨g1, g2, _, _⟩ := (h.below bn).c 0 h0
  simp only [Nat.zero_mul, Nat.zero_add] at g1 g2
  generalize (ptA ps 0).1 = x at *
  generalize (ptA ps 0).2 = y at *
  have hne : g ≠ w.heap.size := Nat.ne_of_lt h.lt
  go_enter Try.func78, Try.ntmps78
  go_wp2
  go_returns
  exact ⟨rfl, below1 _ _⟩
end Go.Proofs.Ythafhfdhahbdoaa
