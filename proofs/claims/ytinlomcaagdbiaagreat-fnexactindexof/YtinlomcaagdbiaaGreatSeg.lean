import Derived.Test.YtinlomcaagdbiaaGreatRing
import Derived.Test.YtinlomcaagdbiaaGreatPtB
import Derived.Laws.AppendOwnNone
import Derived.Handy
import Derived.Lib.AppendZeros
import Derived.Deep.RegionHeld3
/- Segments that lie in memory, one behind the other; the edges of a ring. -/
namespace Go.Proofs.YtinlomcaagdbiaaGreat
open Go.RowKit

abbrev Sg := (Int × Int) × (Int × Int)
def sgA (es : List Sg) (i : Nat) : Sg := es[i]?.getD ((0, 0), (0, 0))
structure SeesQ (w : World) (a : Option Addr) (cap : Nat) (es : List Sg) : Prop where
 fits : es.length ≤ cap
 max : cap ≤ maxLen
 cells : es ≠ [] → ∃ b off, a = some ⟨b, off, none⟩ ∧ ∀ i, i < es.length → w.cell? ⟨b, off + i * 4, none⟩ = some (.int .i64 (sgA es i).1.1) ∧ w.cell? ⟨b, off + i * 4 + 1, none⟩ = some (.int .i64 (sgA es i).1.2) ∧ w.cell? ⟨b, off + i * 4 + 2, none⟩ = some (.int .i64 (sgA es i).2.1) ∧ w.cell? ⟨b, off + i * 4 + 3, none⟩ = some (.int .i64 (sgA es i).2.2)
theorem SeesQ.below {w w' : World} {a : Option Addr} {cap : Nat} {es : List Sg} (h : SeesQ w a cap es) (hb : Below w.heap.size w w') : SeesQ w' a cap es :=
 ⟨h.fits, h.max, fun hn => by
  obtain ⟨b, off, ha, hc⟩ := h.cells hn
  exact ⟨b, off, ha, fun i hi => ⟨bat hb (hc i hi).1, bat hb (hc i hi).2.1, bat hb (hc i hi).2.2.1, bat hb (hc i hi).2.2.2⟩⟩⟩

def edL (ps : List (Int × Int)) : List Sg := (List.range ps.length).map fun i => (ptA ps i, ptA ps (nx ps.length i))
theorem edL_len (ps : List (Int × Int)) : (edL ps).length = ps.length := by simp [edL]
theorem edL_at {ps : List (Int × Int)} {i : Nat} (h : i < ps.length) : sgA (edL ps) i = (ptA ps i, ptA ps (nx ps.length i)) := by
 unfold sgA edL
 rw [List.getElem?_map, List.getElem?_range h]
 rfl
theorem SeesE.q {w : World} {g : Nat} {ps : List (Int × Int)} (h : SeesE w g ps.length ps.length ps) (hs : ps.length ≤ 60) : SeesQ w (some ⟨g, 0, none⟩) ps.length (edL ps) :=
 ⟨by rw [edL_len]; exact Nat.le_refl _, by unfold maxLen; omega, fun _ => ⟨g, 0, rfl, fun i hi => by
  rw [edL_len] at hi
  obtain ⟨h1, h2, h3, h4⟩ := h.c i hi
  rw [edL_at hi, Nat.zero_add]
  exact ⟨h1, h2, h3, h4⟩⟩⟩

def sgC (es : List Sg) : List Value := es.flatMap fun e => [.int .i64 e.1.1, .int .i64 e.1.2, .int .i64 e.2.1, .int .i64 e.2.2]
theorem sgC_len (es : List Sg) : (sgC es).length = es.length * 4 := by
 induction es with
 | nil => rfl
 | cons p r ih => simp only [sgC, List.flatMap_cons, List.length_append, List.length_cons, List.length_nil] at *; omega
theorem sgC_append (es fs : List Sg) : sgC (es ++ fs) = sgC es ++ sgC fs := by simp [sgC]
theorem sgC_at : ∀ (es : List Sg) (j : Nat), j < es.length → (sgC es)[j * 4]? = some (.int .i64 (sgA es j).1.1) ∧ (sgC es)[j * 4 + 1]? = some (.int .i64 (sgA es j).1.2) ∧ (sgC es)[j * 4 + 2]? = some (.int .i64 (sgA es j).2.1) ∧ (sgC es)[j * 4 + 3]? = some (.int .i64 (sgA es j).2.2)
 | [], j, h => absurd h (by simp)
 | p :: r, 0, _ => ⟨rfl, rfl, rfl, rfl⟩
 | p :: r, j + 1, h => by
  have ih := sgC_at r j (by simpa using h)
  have e : sgC (p :: r) = [.int .i64 p.1.1, .int .i64 p.1.2, .int .i64 p.2.1, .int .i64 p.2.2] ++ sgC r := rfl
  have e2 : sgA (p :: r) (j + 1) = sgA r j := by simp [sgA]
  rw [e, e2, show (j + 1) * 4 = 4 + j * 4 by omega, show 4 + j * 4 + 1 = 4 + (j * 4 + 1) by omega, show 4 + j * 4 + 2 = 4 + (j * 4 + 2) by omega, show 4 + j * 4 + 3 = 4 + (j * 4 + 3) by omega, List.getElem?_append_right (by simp), List.getElem?_append_right (by simp), List.getElem?_append_right (by simp), List.getElem?_append_right (by simp)]
  simpa using ih
theorem sgC_ones (es : List Sg) : ∀ u ∈ sgC es, u.oneCell' = true := by
 intro u hu
 simp only [sgC, List.mem_flatMap] at hu
 obtain ⟨p, _, h⟩ := hu
 simp only [List.mem_cons, List.not_mem_nil, or_false] at h
 rcases h with rfl | rfl | rfl | rfl <;> rfl
theorem SeesQ.news {w : World} {ad : Addr} {cap : Nat} {es : List Sg} (h : SeesQ w (some ad) cap es) : ∀ j u, (sgC es)[j]? = some u → w.cell? (ad.add j) = some u := by
 intro j u hu
 have hj : j < es.length * 4 := by have := (List.getElem?_eq_some_iff.mp hu).1; rwa [sgC_len] at this
 have hi : j / 4 < es.length := by omega
 obtain ⟨b, off, ha, hc⟩ := h.cells (by intro e; simp [e] at hi)
 simp only [Option.some.injEq] at ha
 subst ha
 obtain ⟨c0, c1, c2, c3⟩ := hc _ hi
 obtain ⟨s0, s1, s2, s3⟩ := sgC_at es _ hi
 rw [show (⟨b, off, none⟩ : Addr).add j = ⟨b, off + j, none⟩ by simp [Addr.add]]
 have hm : j % 4 = 0 ∨ j % 4 = 1 ∨ j % 4 = 2 ∨ j % 4 = 3 := by omega
 rcases hm with m | m | m | m
 ·rw [show j / 4 * 4 = j by omega] at c0 s0
  rw [s0] at hu
  rw [c0, hu]
 ·rw [show j / 4 * 4 + 1 = j by omega] at s1
  rw [show off + j / 4 * 4 + 1 = off + j by omega] at c1
  rw [s1] at hu
  rw [c1, hu]
 ·rw [show j / 4 * 4 + 2 = j by omega] at s2
  rw [show off + j / 4 * 4 + 2 = off + j by omega] at c2
  rw [s2] at hu
  rw [c2, hu]
 ·rw [show j / 4 * 4 + 3 = j by omega] at s3
  rw [show off + j / 4 * 4 + 3 = off + j by omega] at c3
  rw [s3] at hu
  rw [c3, hu]
def RowQ (base : Nat) (w : World) (v : Value) (es : List Sg) : Prop := w.ownsRow base 182 4 v es.length (sgC es)
theorem RowQ.nil (base : Nat) (w : World) : RowQ base w (.slice none 0 0) [] := ⟨rfl, .inl ⟨rfl, rfl⟩⟩
theorem RowQ.shape {base : Nat} {w : World} {v : Value} {es : List Sg} (h : RowQ base w v es) : ∃ a cap, v = .slice a es.length cap ∧ es.length ≤ cap ∧ cap ≤ maxLen := by
 rcases h.2 with ⟨hv, h0⟩ | ⟨q, cap, cur, hv, _, _, hf, hm, _⟩
 ·exact ⟨none, 0, by rw [hv, h0], by omega, by simp [maxLen]⟩
 ·exact ⟨_, cap, hv, hf, hm⟩
theorem RowQ.sees {base : Nat} {w : World} {a : Option Addr} {cap : Nat} {es : List Sg} (h : RowQ base w (.slice a es.length cap) es) : SeesQ w a cap es := by
 rcases h.2 with ⟨hv, h0⟩ | ⟨q, cap', cur, hv, hb, hh, hf, hm, hs, ht⟩
 ·injection hv with h1 h2 h3
  subst h1 h3
  exact ⟨by omega, by simp [maxLen], fun hn => absurd (List.eq_nil_of_length_eq_zero h0) hn⟩
 ·injection hv with h1 h2 h3
  subst h1 h3
  refine ⟨hf, hm, fun _ => ⟨q, 0, rfl, fun i hi => ?_⟩⟩
  have c : ∀ k u, (sgC es)[k]? = some u → w.cell? ⟨q, 0 + k, none⟩ = some u := by
   intro k u hk
   rw [← ht] at hk
   have hk2 : k < es.length * 4 := by
    have := (List.getElem?_eq_some_iff.mp hk).1
    rw [List.length_take] at this
    omega
   rw [List.getElem?_take_of_lt hk2] at hk
   rw [Nat.zero_add]
   exact (cell_of_row w q k _ _ _ hh).trans (by simpa using hk)
  obtain ⟨c1, c2, c3, c4⟩ := sgC_at es i hi
  exact ⟨c _ _ c1, by have := c _ _ c2; rwa [← Nat.add_assoc] at this, by have := c _ _ c3; rwa [← Nat.add_assoc] at this, by have := c _ _ c4; rwa [← Nat.add_assoc] at this⟩

end Go.Proofs.YtinlomcaagdbiaaGreat

/- A row of points that a call owns; a point more behind it. -/
namespace Go.Proofs.YtinlomcaagdbiaaGreat
open Go.RowKit

theorem infoPt : (Tryz.prog.info? 25).map (fun i => (i.zero, i.size, i.bytes)) = some (some (.agg #[.int .i64 0, .int .i64 0]), 2, 16) := by kernel_rfl
def ptC (ps : List (Int × Int)) : List Value := ps.flatMap fun p => [.int .i64 p.1, .int .i64 p.2]
theorem ptC_len (ps : List (Int × Int)) : (ptC ps).length = ps.length * 2 := by
 induction ps with
 | nil => rfl
 | cons p r ih => simp only [ptC, List.flatMap_cons, List.length_append, List.length_cons, List.length_nil] at *; omega
theorem ptC_append (ps qs : List (Int × Int)) : ptC (ps ++ qs) = ptC ps ++ ptC qs := by simp [ptC]
theorem ptC_at : ∀ (ps : List (Int × Int)) (j : Nat), j < ps.length → (ptC ps)[j * 2]? = some (.int .i64 (ps[j]?.getD (0, 0)).1) ∧ (ptC ps)[j * 2 + 1]? = some (.int .i64 (ps[j]?.getD (0, 0)).2)
 | [], j, h => absurd h (by simp)
 | p :: r, 0, _ => ⟨rfl, rfl⟩
 | p :: r, j + 1, h => by
  have ih := ptC_at r j (by simpa using h)
  have e : ptC (p :: r) = [.int .i64 p.1, .int .i64 p.2] ++ ptC r := rfl
  rw [e, show (j + 1) * 2 = 2 + j * 2 by omega, show 2 + j * 2 + 1 = 2 + (j * 2 + 1) by omega, List.getElem?_append_right (by simp), List.getElem?_append_right (by simp)]
  simpa using ih
theorem ptC_ones (ps : List (Int × Int)) : ∀ u ∈ ptC ps, u.oneCell' = true := by
 intro u hu
 simp only [ptC, List.mem_flatMap] at hu
 obtain ⟨p, _, h⟩ := hu
 simp only [List.mem_cons, List.not_mem_nil, or_false] at h
 rcases h with rfl | rfl <;> rfl
def RowPt (base : Nat) (w : World) (v : Value) (ps : List (Int × Int)) : Prop := w.ownsRow base 25 2 v ps.length (ptC ps)
theorem RowPt.nil (base : Nat) (w : World) : RowPt base w (.slice none 0 0) [] := ⟨rfl, .inl ⟨rfl, rfl⟩⟩
theorem RowPt.empty (w : World) {base : Nat} (h : base ≤ w.heap.size) : RowPt base (w.alloc (.cells #[] 25)) (.slice (some ⟨w.heap.size, 0, none⟩) 0 0) [] :=
 ⟨rfl, .inr ⟨w.heap.size, 0, #[], rfl, h, heap_alloc_new _ _, Nat.le_refl _, by simp [maxLen], rfl, rfl⟩⟩
theorem RowPt.shape {base : Nat} {w : World} {v : Value} {ps : List (Int × Int)} (h : RowPt base w v ps) : ∃ a cap, v = .slice a ps.length cap ∧ ps.length ≤ cap ∧ cap ≤ maxLen := by
 rcases h.2 with ⟨hv, h0⟩ | ⟨q, cap, cur, hv, _, _, hf, hm, _⟩
 ·exact ⟨none, 0, by rw [hv, h0], by omega, by simp [maxLen]⟩
 ·exact ⟨_, cap, hv, hf, hm⟩
theorem RowPt.seesP {base : Nat} {w : World} {a : Option Addr} {cap : Nat} {ps : List (Int × Int)} (h : RowPt base w (.slice a ps.length cap) ps) : SeesP w a cap ps := by
 rcases h.2 with ⟨hv, h0⟩ | ⟨q, cap', cur, hv, hb, hh, hf, hm, hs, ht⟩
 ·injection hv with h1 h2 h3
  subst h1 h3
  exact ⟨by omega, by simp [maxLen], fun hn => absurd (List.eq_nil_of_length_eq_zero h0) hn⟩
 ·injection hv with h1 h2 h3
  subst h1 h3
  refine ⟨hf, hm, fun _ => ⟨q, 0, rfl, fun i hi => ?_⟩⟩
  have c : ∀ k u, (ptC ps)[k]? = some u → w.cell? ⟨q, 0 + k, none⟩ = some u := by
   intro k u hk
   rw [← ht] at hk
   have hk2 : k < ps.length * 2 := by
    have := (List.getElem?_eq_some_iff.mp hk).1
    rw [List.length_take] at this
    omega
   rw [List.getElem?_take_of_lt hk2] at hk
   rw [Nat.zero_add]
   exact (cell_of_row w q k _ _ _ hh).trans (by simpa using hk)
  obtain ⟨c1, c2⟩ := ptC_at ps i hi
  exact ⟨c _ _ c1, by have := c _ _ c2; rwa [← Nat.add_assoc] at this⟩
end Go.Proofs.YtinlomcaagdbiaaGreat

/- Rows of segments put behind each other: slices.Grow of nil, slices.Concat. -/
namespace Go.Proofs.YtinlomcaagdbiaaGreat
open Go.RowKit

def rowQ (rs : List (List Sg)) (i : Nat) : List Sg := rs[i]?.getD []
structure SeesR (w : World) (a : Option Addr) (cap : Nat) (rs : List (List Sg)) : Prop where
 fits : rs.length ≤ cap
 max : cap ≤ maxLen
 cells : rs ≠ [] → ∃ b off, a = some ⟨b, off, none⟩ ∧ ∀ i, i < rs.length → ∃ a' c', w.cell? ⟨b, off + i, none⟩ = some (.slice a' (rowQ rs i).length c') ∧ SeesQ w a' c' (rowQ rs i)
theorem SeesR.below {w w' : World} {a : Option Addr} {cap : Nat} {rs : List (List Sg)} (h : SeesR w a cap rs) (hb : Below w.heap.size w w') : SeesR w' a cap rs :=
 ⟨h.fits, h.max, fun hn => by
  obtain ⟨b, off, ha, hc⟩ := h.cells hn
  exact ⟨b, off, ha, fun i hi => by obtain ⟨a', c', h1, h2⟩ := hc i hi; exact ⟨a', c', bat hb h1, h2.below hb⟩⟩⟩

set_option maxRecDepth 20000 in
theorem growQ (n : Nat) (hn : n ≤ 1000) (w : World) :
  Calls Tryz.prog 152 #[.slice none 0 0, .int .i64 n] w fun e w' => ∃ v, e = .returned v ∧ RowQ w.heap.size w' v [] ∧ Below w.heap.size w w' := by
 obtain ⟨i0, hi, hz0, hz1, hz2⟩ := info_parts infoE
 by_cases h0 : n = 0
 ·subst h0
  go_enter Tryz.func152, Tryz.ntmps152
  go_wp2
  go_ret
  exact ⟨_, rfl, RowQ.nil _ _, Below.refl _ _⟩
 ·have hrz : ∀ ty (W : World), (Builtin.append_ #[161, 3] ty #[.slice none 0 0, .int .i64 (n : Int)]).run Tryz.prog W = .ok (.slice (some ⟨W.heap.size, 0, none⟩) n (grownCap W n 0 182)) (W.drew.alloc (.cells (Builtin.zeroCells (.agg #[.int .i64 0, .int .i64 0, .int .i64 0, .int .i64 0] : Value).cells n ++ Builtin.zeroCells (.agg #[.int .i64 0, .int .i64 0, .int .i64 0, .int .i64 0] : Value).cells (grownCap W n 0 182 - n)) 182)) := fun ty W =>
   Lib.run_append_nil_zeros W 161 3 ty 182 i0 (.agg #[.int .i64 0, .int .i64 0, .int .i64 0, .int .i64 0]) .i64 .i64 Tryz.underlying161 Tryz.underlying3 hi hz0 n (by omega) (by rw [hz1]; omega) (by omega) (by rw [hz2]; omega)
  have hge := grownCap_ge w n 0 182
  have hle := grownCap_le_maxLen w n 0 182 (by unfold maxLen; omega)
  have hrun := fun ty => hrz ty w
  clear hrz
  generalize grownCap w n 0 182 = G at *
  have HM : Hid (G ≤ maxLen) := hle
  unfold maxLen at hle
  have hcz : (Builtin.zeroCells (.agg #[.int .i64 0, .int .i64 0, .int .i64 0, .int .i64 0] : Value).cells n ++ Builtin.zeroCells (.agg #[.int .i64 0, .int .i64 0, .int .i64 0, .int .i64 0] : Value).cells (G - n)).size = G * 4 := by
   rw [Array.size_append, size_zeroCells, size_zeroCells]
   show n * 4 + (G - n) * 4 = G * 4
   omega
  generalize Builtin.zeroCells (.agg #[.int .i64 0, .int .i64 0, .int .i64 0, .int .i64 0] : Value).cells n ++ Builtin.zeroCells (.agg #[.int .i64 0, .int .i64 0, .int .i64 0, .int .i64 0] : Value).cells (G - n) = cur at *
  have h1 : (0 : Int) < n := by omega
  go_enter Tryz.func152, Tryz.ntmps152
  go_wp2_with (at_builtin; refine Lib.wpList_append_run _ rfl _ _ _ _ rfl _ _ rfl rfl _ _ (hrun _) ?_)
  go_ret
  refine ⟨_, rfl, ⟨rfl, .inr ⟨w.heap.size, G, cur, rfl, Nat.le_refl _, ?_, Nat.zero_le _, HM.out, hcz, ?_⟩⟩, ?_⟩
  ·exact heap_alloc_new w.drew _
  ·simp [sgC]
  ·exact (Below.refl _ _).drew.trans (below1 w.drew _)

def lenToQ (rs : List (List Sg)) : Nat → Nat
 | 0 => 0
 | j + 1 => lenToQ rs j + (rowQ rs j).length
theorem flat_takeQ (rs : List (List Sg)) : ∀ j, j < rs.length → (rs.take (j + 1)).flatten = (rs.take j).flatten ++ rowQ rs j := by
 intro j hj
 rw [List.take_add_one, List.getElem?_eq_getElem hj, List.flatten_append]
 unfold rowQ
 rw [List.getElem?_eq_getElem hj]
 simp
theorem lenToQ_flat (rs : List (List Sg)) : ∀ j, j ≤ rs.length → (rs.take j).flatten.length = lenToQ rs j
 | 0, _ => by simp [lenToQ]
 | j + 1, h => by
  rw [flat_takeQ rs j (by omega), List.length_append, lenToQ_flat rs j (by omega)]
  rfl
theorem lenToQ_le (rs : List (List Sg)) (hl : ∀ i, i < rs.length → (rowQ rs i).length ≤ 60) : ∀ j, j ≤ rs.length → lenToQ rs j ≤ 60 * j
 | 0, _ => by simp [lenToQ]
 | j + 1, h => by
  have := lenToQ_le rs hl j (by omega)
  have := hl j (by omega)
  simp only [lenToQ]
  omega

set_option maxRecDepth 20000 in
set_option maxHeartbeats 1000000 in
theorem concatQ (a : Option Addr) (c : Nat) (rs : List (List Sg)) (w : World) (h : SeesR w a c rs) (hn : rs.length ≤ 12) (hl : ∀ i, i < rs.length → 0 < (rowQ rs i).length ∧ (rowQ rs i).length ≤ 60) :
  Calls Tryz.prog 135 #[.slice a rs.length c] w fun e w' => ∃ v, e = .returned v ∧ RowQ w.heap.size w' v rs.flatten ∧ Below w.heap.size w w' := by
 obtain ⟨i0, hi, hz0, hz1, hz2⟩ := info_parts infoE
 have hm := h.max
 have hf := h.fits
 unfold maxLen at hm
 have LB := lenToQ_le rs (fun i q => (hl i q).2)
 have LF := lenToQ_flat rs
 have HL : Hid (∀ i, i < rs.length → 0 < (rowQ rs i).length ∧ (rowQ rs i).length ≤ 60) := hl
 have HB : Hid (∀ j, j ≤ rs.length → lenToQ rs j ≤ 60 * j) := LB
 have HF : Hid (∀ j, j ≤ rs.length → (rs.take j).flatten.length = lenToQ rs j) := LF
 clear hl LB LF
 go_enter Tryz.func135, Tryz.ntmps135
 go_wp2
 go_loopw [3, 11] (fun s3 s11 wr => ∃ j : Nat, j ≤ rs.length ∧ s11 = .int .i64 j ∧ s3 = .int .i64 (lenToQ rs j : Nat) ∧ Below w.heap.size w wr) (fun _ s11 _ => rs.length - (intOf s11).toNat)
 case atStart => exact ⟨0, Nat.zero_le _, rfl, rfl, Below.refl _ _⟩
 case round =>
  obtain ⟨j, hj, rfl, rfl, B0⟩ := hrel
  rename World => wq
  have b0 := HB.out j hj
  by_cases hlt : j < rs.length
  ·obtain ⟨b, off, rfl, hc⟩ := (h.below B0).cells (by intro e; simp [e] at hlt)
   obtain ⟨a', c', g, _⟩ := hc j hlt
   obtain ⟨_, b2⟩ := HL.out j hlt
   have E : Hid (lenToQ rs (j + 1) = lenToQ rs j + (rowQ rs j).length) := (rfl : lenToQ rs (j + 1) = _)
   clear hc
   generalize (rowQ rs j).length = m at *
   generalize lenToQ rs j = l at *
   have hneg : ¬ ((l : Int) + (m : Int) < 0) := by omega
   go_wp2
   go_roundw
   case rel => exact ⟨j + 1, by omega, by go_num, (by rw [E.out]; go_num), B0⟩
   case measure => simp [intOf]; omega
  ·obtain rfl : j = rs.length := by omega
   generalize lenToQ rs rs.length = l at *
   go_wp2_with fail
   refine (growQ l (by omega) _).mono ?_
   rintro e w1 ⟨v, rfl, R, hb⟩
   have B := B0.trans (hb.mono B0.size)
   replace R : RowQ w.heap.size w1 v [] := row_base R B0.size
   clear hb B0
   go_wp2
   go_loopw [6, 27] (fun s6 s27 wr => ∃ j : Nat, j ≤ rs.length ∧ s27 = .int .i64 j ∧ RowQ w.heap.size wr s6 (rs.take j).flatten ∧ Below w.heap.size w wr) (fun _ s27 _ => rs.length - (intOf s27).toNat)
   case atStart => exact ⟨0, Nat.zero_le _, rfl, R, B⟩
   case round =>
    clear R B
    obtain ⟨i, hi', rfl, R, B⟩ := hrel
    rename World => wr
    by_cases hli : i < rs.length
    ·obtain ⟨b, off, rfl, hc⟩ := (h.below B).cells (by intro e; simp [e] at hli)
     obtain ⟨a', c', g, S⟩ := hc i hli
     obtain ⟨b1, b2⟩ := HL.out i hli
     have FT := flat_takeQ rs i hli
     have b3 : ((rs.take i).flatten).length ≤ 60 * i := by rw [HF.out i (by omega)]; exact HB.out i (by omega)
     obtain ⟨b5, o5, rfl, _⟩ := S.cells (by intro e; simp [e] at b1)
     have NW := S.news
     obtain ⟨ts, hts⟩ : ∃ z, Hid ((rs.take i).flatten = z) := ⟨_, rfl⟩
     rw [hts.out] at FT R b3
     have HFT : Hid ((rs.take (i + 1)).flatten = ts ++ rowQ rs i) := FT
     clear hc FT hts S
     generalize rowQ rs i = qs at *
     have bz := B.size
     go_wp2_with (at_builtin; refine wpList_append_own _ rfl (.tmp 31) (.tmp 32) 161 rfl w.heap.size 182 i0 (.agg #[.int .i64 0, .int .i64 0, .int .i64 0, .int .i64 0]) 4 32 Tryz.underlying161 hi hz0 hz1 hz2 rfl (by decide) u6 ts.length (sgC ts) rfl R ⟨b5, o5, none⟩ qs.length _ (sgC qs) rfl (sgC_len _) NW (sgC_ones _) (by unfold maxLen; omega) (by omega) bz ?_)
     intro v7 w7 R7 G7 _
     rw [← sgC_append, ← List.length_append] at R7
     have B7 := B.grown G7 bz (fun k hk => (World.ownsRow.lt R k hk).1)
     go_wp2
     go_roundw
     case rel => exact ⟨i + 1, by omega, by go_num, (by rw [HFT.out]; exact R7), B7⟩
     case measure => simp [intOf]; omega
    ·obtain rfl : i = rs.length := by omega
     rw [List.take_length] at R
     go_wp2
     go_ret
     exact ⟨_, rfl, R, B⟩
end Go.Proofs.YtinlomcaagdbiaaGreat

/- Turns: of the program, of the specification. -/
namespace Go.Proofs.YtinlomcaagdbiaaGreat
open Go.RowKit

set_option maxRecDepth 20000 in
set_option maxHeartbeats 2000000 in
theorem turn_any (x1 y1 x2 y2 x3 y3 : Int) (w : World) (c1 : Crd x1) (d1 : Crd y1) (c2 : Crd x2) (d2 : Crd y2) (c3 : Crd x3) (d3 : Crd y3) :
  Calls Tryz.prog 151 #[.agg #[.int .i64 x1, .int .i64 y1], .agg #[.int .i64 x2, .int .i64 y2], .agg #[.int .i64 x3, .int .i64 y3]] w fun e w' => e = .returned (.int .i64 (sgn1 (ar x1 y1 x2 y2 x3 y3))) ∧ Below w.heap.size w w' := by
 have k0 := ptbox3 w x1 y1 x2 y2 x3 y3 25
 have B0 := ptbelow3 w x1 y1 x2 y2 x3 y3 25
 have e1 := c2.dif c1
 have e2 := d2.dif d1
 have e3 := c3.dif c1
 have e4 := d3.dif d1
 have H : Hid ((x2 - x1) * (y3 - y1) - (y2 - y1) * (x3 - x1) = ar x1 y1 x2 y2 x3 y3) := (rfl : _ = ar x1 y1 x2 y2 x3 y3)
 go_enter Tryz.func151, Tryz.ntmps151
 go_wp2_with fail
 generalize (((w.alloc (.cells #[.int .i64 x1, .int .i64 y1] 25)).alloc (.cells #[.int .i64 x2, .int .i64 y2] 25)).alloc (.cells #[.int .i64 x3, .int .i64 y3] 25)) = W0 at *
 have B : Below W0.heap.size W0 W0 := Below.refl _ _
 go_region_held3 (fun w' => w'.cell? ⟨w.heap.size, 0, none⟩ = some (.int .i64 x1) ∧ w'.cell? ⟨w.heap.size, 1, none⟩ = some (.int .i64 y1) ∧ w'.cell? ⟨w.heap.size + 1, 0, none⟩ = some (.int .i64 x2) ∧ w'.cell? ⟨w.heap.size + 1, 1, none⟩ = some (.int .i64 y2) ∧ w'.cell? ⟨w.heap.size + 1 + 1, 0, none⟩ = some (.int .i64 x3) ∧ w'.cell? ⟨w.heap.size + 1 + 1, 1, none⟩ = some (.int .i64 y3))
  (first | exact k0 | exact ptkeep3 k0 B | exact ptkeep3 k0 B.drew)
  (first
  | (go_at_call 161; refine (way_any _ _ _ _ _ (by assumption) (by assumption) (by assumption) (by assumption)).mono ?_; rintro e w1 ⟨rfl, hb⟩; (first | replace B := B.trans (hb.mono B.size) | replace B := B.drew.trans (hb.mono B.drew.size)))
  | (go_at_call 118; refine (across_any _ _ _ _ _ (by assumption) (by assumption) (by assumption) (by assumption)).mono ?_; rintro e w1 ⟨rfl, hb⟩; (first | replace B := B.trans (hb.mono B.size) | replace B := B.drew.trans (hb.mono B.drew.size)); rw [H.out])
  | (go_at_call 108; refine (compare0 _ _).mono ?_; rintro e w1 ⟨rfl, rfl⟩))
 all_goals
  go_wp2
  go_ret
  exact ⟨rfl, B0.trans (B.mono B0.size)⟩

end Go.Proofs.YtinlomcaagdbiaaGreat

/- An operation of a region that draws its order, taken first: one that is wanted, one that is not. -/
namespace Go.Proofs.YtinlomcaagdbiaaGreat

theorem takeW {P : Program} {ops : Array Oper} {Q : Exit → Act → World → Prop} {md : Region.Mode} {S : World → Prop} {i : Nat} {oi : Oper} {v : Value} {fuel : Nat} {listed : Array Bool} {a : Act} {w : World} (hi : ops[i]? = some oi)
  (hs : Region.noSelect ops = true) (hf : Region.free md ops listed i = true) (hr : (Region.ready md ops listed).contains i = true)
  (hQ : ∀ c a w, Q (.panic c) (a.put oi.dst v) w → Q (.panic c) a w) (hw : Region.wanted oi (yielded ops a.tmps) = true)
  (hy : ∀ w, S w → (execOp a.eval oi).run P w = .ok (.value v) w) (hS : S w)
  (h : wpAnyH P md ops Q S fuel (listed.setIfInBounds i true) (a.put oi.dst v) w) : wpAnyH P md ops Q S (fuel + 1) listed a w :=
 wpAnyH_take hi hs hf hr hQ (Or.inl ⟨hw, hy⟩) hS h
theorem takeN {P : Program} {ops : Array Oper} {Q : Exit → Act → World → Prop} {md : Region.Mode} {S : World → Prop} {i : Nat} {oi : Oper} {fuel : Nat} {listed : Array Bool} {a : Act} {w : World} (hi : ops[i]? = some oi)
  (hs : Region.noSelect ops = true) (hf : Region.free md ops listed i = true) (hr : (Region.ready md ops listed).contains i = true)
  (hQ : ∀ c a w, Q (.panic c) (a.put oi.dst undef) w → Q (.panic c) a w) (hw : Region.wanted oi (yielded ops a.tmps) = false) (hS : S w)
  (h : wpAnyH P md ops Q S fuel (listed.setIfInBounds i true) (a.put oi.dst undef) w) : wpAnyH P md ops Q S (fuel + 1) listed a w :=
 wpAnyH_take hi hs hf hr hQ (Or.inr ⟨hw, rfl⟩) hS h
end Go.Proofs.YtinlomcaagdbiaaGreat
