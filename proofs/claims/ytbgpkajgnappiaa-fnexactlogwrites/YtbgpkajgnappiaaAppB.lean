/- What is put behind a row of bytes that is not empty: bytes that are seen, noughts. -/
import Derived.Test.YtbgpkajgnappiaaZer
import Derived.Test.YtbgpkajgnappiaaBytL
namespace Go.Proofs.Ytbgpkajgnappiaa
open Go.RowKit

theorem two_new8 (w : World) (e : TypeId) (y z : Int) : ∀ j u, ([y, z].map (Value.int .u8))[j]? = some u → (w.alloc (.cells #[.int .u8 y, .int .u8 z] e)).cell? ((⟨w.heap.size, 0, none⟩ : Addr).add j) = some u := by
  intro j u hu
  match j, hu with
  | 0, hu =>
    simp at hu
    subst hu
    exact cell_new w #[.int .u8 y, .int .u8 z] e 0 rfl
  | 1, hu =>
    simp at hu
    subst hu
    exact cell_new w #[.int .u8 y, .int .u8 z] e 1 rfl
  | j + 2, hu => simp at hu

/-- Two bytes in a new block. -/
theorem sees_two (w : World) (e : TypeId) (y z : Int) : SeesB (w.alloc (.cells #[.int .u8 y, .int .u8 z] e)) (some ⟨w.heap.size, 0, none⟩) 2 [y, z] := by
  refine ⟨Nat.le_refl _, by unfold maxLen; omega, fun _ => ⟨w.heap.size, 0, rfl, fun i hi => ?_⟩⟩
  match i, hi with
  | 0, _ => exact cell_new w #[.int .u8 y, .int .u8 z] e 0 rfl
  | 1, _ => exact cell_new w #[.int .u8 y, .int .u8 z] e 1 rfl

set_option maxRecDepth 20000 in
theorem appB {base : Nat} {w : World} {v : Value} {bs ds : List Int} {a : Option Addr} {c : Nat} (h : RowB base w v bs) (hne : bs ≠ []) (hd : SeesB w a c ds) (hl : bs.length + ds.length ≤ 1000000) (hb : base ≤ w.heap.size) :
    ∃ v' w', (Builtin.append_ #[24, 24] 24 #[v, .slice a ds.length c]).run Try.prog w = .ok v' w' ∧ RowB base w' v' (bs ++ ds) ∧ w.grownBy w' v.ownBlock ∧ (v'.ownBlock = v.ownBlock ∨ v'.ownBlock = some w.heap.size) := by
  obtain ⟨i8, hi8, hy0, hy1, hy2⟩ := info_parts infoB
  cases a with
  | some ad =>
    have news : ∀ j u, (ds.map (Value.int .u8))[j]? = some u → w.cell? (ad.add j) = some u := by
      intro j u hu
      have hj : j < ds.length := by
        have := (List.getElem?_eq_some_iff.mp hu).1
        simpa using this
      obtain ⟨b, off, e, hc⟩ := hd.cells (by intro e; rw [e] at hj; simp at hj)
      injection e with e
      subst e
      rw [Addr.add_lit, hc j hj]
      rw [List.getElem?_map, List.getElem?_eq_getElem hj] at hu
      rw [List.getElem?_eq_getElem hj]
      exact hu
    obtain ⟨v', w', hr, R, G, -, A⟩ := run_append_own_at (P := Try.prog) w base 24 24 5 i8 (.int .u8 0) 1 1 Try.underlying24 hi8 hy0 hy1 hy2 rfl (by decide) v bs.length (bs.map (Value.int .u8)) h ad ds.length c (ds.map (Value.int .u8)) (by simp) news (ones8 _) (by unfold maxLen; omega) (by omega) hb
    exact ⟨v', w', hr, RowB.app R, G, A⟩
  | none =>
    obtain rfl : ds = [] := by
      rcases ds with _ | ⟨d, ds⟩
      · rfl
      · obtain ⟨b, off, e, _⟩ := hd.cells (by simp)
        cases e
    obtain ⟨q, cap, rfl, -, -⟩ := h.shape hne
    obtain ⟨hf, -⟩ := h.caps
    obtain ⟨hl2, h2⟩ := id h
    rcases h2 with ⟨hv, _⟩ | ⟨g', cap', cur, hv, hbg, hg, hnc, hcm, hcs, htake⟩
    · cases hv
    · refine ⟨_, w, ?_, by rw [List.append_nil]; exact h, grownBy_refl _ _, .inl rfl⟩
      simp [Builtin.append_, run_underlying (P := Try.prog) Try.underlying24, sizeOf, typeInfo, hi8, Builtin.lenOf, hf, run_firstCells_none, Addr.add_lit, storeCells]

set_option maxRecDepth 20000 in
/-- The same behind any row, where what is put lies somewhere. -/
theorem appS {base : Nat} {w : World} {v : Value} {bs ds : List Int} {ad : Addr} {c : Nat} (h : RowB base w v bs) (hd : SeesB w (some ad) c ds) (hl : bs.length + ds.length ≤ 1000000) (hb : base ≤ w.heap.size) :
    ∃ v' w', (Builtin.append_ #[24, 24] 24 #[v, .slice (some ad) ds.length c]).run Try.prog w = .ok v' w' ∧ RowB base w' v' (bs ++ ds) ∧ w.grownBy w' v.ownBlock ∧ (v'.ownBlock = v.ownBlock ∨ v'.ownBlock = some w.heap.size) := by
  obtain ⟨i8, hi8, hy0, hy1, hy2⟩ := info_parts infoB
  have news : ∀ j u, (ds.map (Value.int .u8))[j]? = some u → w.cell? (ad.add j) = some u := by
    intro j u hu
    have hj : j < ds.length := by
      have := (List.getElem?_eq_some_iff.mp hu).1
      simpa using this
    obtain ⟨b, off, e, hc⟩ := hd.cells (by intro e; rw [e] at hj; simp at hj)
    injection e with e
    subst e
    rw [Addr.add_lit, hc j hj]
    rw [List.getElem?_map, List.getElem?_eq_getElem hj] at hu
    rw [List.getElem?_eq_getElem hj]
    exact hu
  obtain ⟨v', w', hr, R, G, -, A⟩ := run_append_own_at (P := Try.prog) w base 24 24 5 i8 (.int .u8 0) 1 1 Try.underlying24 hi8 hy0 hy1 hy2 rfl (by decide) v bs.length (bs.map (Value.int .u8)) h ad ds.length c (ds.map (Value.int .u8)) (by simp) news (ones8 _) (by unfold maxLen; omega) (by omega) hb
  exact ⟨v', w', hr, RowB.app R, G, A⟩
/-- A part of bytes that are seen. -/
theorem SeesB.part {w : World} {b off c : Nat} {bs : List Int} (h : SeesB w (some ⟨b, off, none⟩) c bs) {i n : Nat} (hi : i + n ≤ bs.length) : SeesB w (some ⟨b, off + i, none⟩) (c - i) ((bs.drop i).take n) := by
  have hl : ((bs.drop i).take n).length = n := by rw [List.length_take, List.length_drop]; omega
  have := h.fits
  have := h.max
  refine ⟨by rw [hl]; omega, by omega, fun hne => ⟨b, off + i, rfl, fun j hj => ?_⟩⟩
  rw [hl] at hj
  obtain ⟨b', off', e, hc⟩ := h.cells (by intro e; rw [e] at hi; simp at hi; omega)
  injection e with e
  injection e with e1 e2
  subst e1 e2
  rw [Nat.add_assoc, hc (i + j) (by omega), List.getElem?_take_of_lt hj, List.getElem?_drop]

set_option maxRecDepth 20000 in
theorem appZ {base : Nat} {w : World} {v : Value} {bs : List Int} (h : RowB base w v bs) (hne : bs ≠ []) (k : Nat) (hl : bs.length + k ≤ 1000000) (hb : base ≤ w.heap.size) :
    ∃ v' w', (Builtin.append_ #[24, 3] 24 #[v, .int .i64 k]).run Try.prog w = .ok v' w' ∧ RowB base w' v' (bs ++ List.replicate k 0) ∧ w.grownBy w' v.ownBlock ∧ (v'.ownBlock = v.ownBlock ∨ v'.ownBlock = some w.heap.size) := by
  obtain ⟨i8, hi8, hy0, hy1, hy2⟩ := info_parts infoB
  obtain ⟨q, cap, rfl, -, -⟩ := h.shape hne
  obtain ⟨v', w', hr, R, G, A⟩ := run_zeros (P := Try.prog) w base 24 3 24 5 i8 .i64 .i64 Try.underlying24 Try.underlying3 hi8 hy0 hy1 hy2 q bs.length cap (bs.map (Value.int .u8)) h k hl hb
  refine ⟨v', w', hr, ?_, G, A⟩
  unfold RowB
  rw [List.map_append, List.length_append, List.map_replicate, List.length_replicate]
  exact R
end Go.Proofs.Ytbgpkajgnappiaa
