/- Rows of points put behind each other: slices.Grow of nil, slices.Concat. -/
import Derived.Test.YtgfpmhpjcadhjaaPtsL
import Derived.Test.YtgfpmhpjcadhjaaRowPt
import Derived.Lib.AppendZeros
namespace Go.Proofs.Ytgfpmhpjcadhjaa
open Go.RowKit

/-- The cells that a slice of points sees. -/
theorem SeesP.news {w : World} {ad : Addr} {cap : Nat} {ps : List (Int × Int)} (h : SeesP w (some ad) cap ps) : ∀ j u, (ptC ps)[j]? = some u → w.cell? (ad.add j) = some u := by
  intro j u hu
  have hj : j < ps.length * 2 := by have := (List.getElem?_eq_some_iff.mp hu).1; rwa [ptC_len] at this
  have hi : j / 2 < ps.length := by omega
  obtain ⟨b, off, ha, hc⟩ := h.cells (by intro e; simp [e] at hi)
  simp only [Option.some.injEq] at ha
  subst ha
  obtain ⟨c0, c1⟩ := hc _ hi
  obtain ⟨s0, s1⟩ := ptC_at ps _ hi
  rw [show (⟨b, off, none⟩ : Addr).add j = ⟨b, off + j, none⟩ by simp [Addr.add]]
  have hm : j % 2 = 0 ∨ j % 2 = 1 := by omega
  rcases hm with m | m
  · rw [show j / 2 * 2 = j by omega] at c0 s0
    rw [s0] at hu
    rw [c0, hu]
  · rw [show j / 2 * 2 + 1 = j by omega] at s1
    rw [show off + j / 2 * 2 + 1 = off + j by omega] at c1
    rw [s1] at hu
    rw [c1, hu]

set_option maxRecDepth 20000 in
theorem growP (n : Nat) (hn : n ≤ 1000) (w : World) :
    Calls Try.prog 49 #[.slice none 0 0, .int .i64 n] w fun e w' => ∃ v, e = .returned v ∧ RowPt w.heap.size w' v [] ∧ Below w.heap.size w w' := by
  obtain ⟨i0, hi, hz0, hz1, hz2⟩ := info_parts infoPt
  by_cases h0 : n = 0
  · subst h0
    go_enter Try.func49, Try.ntmps49
    go_wp2
    go_ret
    exact ⟨_, rfl, RowPt.nil _ _, Below.refl _ _⟩
  · have hrz : ∀ ty (W : World), (Builtin.append_ #[48, 3] ty #[.slice none 0 0, .int .i64 (n : Int)]).run Try.prog W = .ok (.slice (some ⟨W.heap.size, 0, none⟩) n (grownCap W n 0 27)) (W.drew.alloc (.cells (Builtin.zeroCells (.agg #[.int .i64 0, .int .i64 0] : Value).cells n ++ Builtin.zeroCells (.agg #[.int .i64 0, .int .i64 0] : Value).cells (grownCap W n 0 27 - n)) 27)) := fun ty W =>
      Lib.run_append_nil_zeros W 48 3 ty 27 i0 (.agg #[.int .i64 0, .int .i64 0]) .i64 .i64 Try.underlying48 Try.underlying3 hi hz0 n (by omega) (by rw [hz1]; omega) (by omega) (by rw [hz2]; omega)
    have hge := grownCap_ge w n 0 27
    have hle := grownCap_le_maxLen w n 0 27 (by unfold maxLen; omega)
    have hrun := fun ty => hrz ty w
    clear hrz
    generalize grownCap w n 0 27 = G at *
    have HM : Hid (G ≤ maxLen) := hle
    unfold maxLen at hle
    have hcz : (Builtin.zeroCells (.agg #[.int .i64 0, .int .i64 0] : Value).cells n ++ Builtin.zeroCells (.agg #[.int .i64 0, .int .i64 0] : Value).cells (G - n)).size = G * 2 := by
      rw [Array.size_append, size_zeroCells, size_zeroCells]
      show n * 2 + (G - n) * 2 = G * 2
      omega
    generalize Builtin.zeroCells (.agg #[.int .i64 0, .int .i64 0] : Value).cells n ++ Builtin.zeroCells (.agg #[.int .i64 0, .int .i64 0] : Value).cells (G - n) = cur at *
    have h1 : (0 : Int) < n := by omega
    go_enter Try.func49, Try.ntmps49
    go_wp2_with (at_builtin; refine Lib.wpList_append_run _ rfl _ _ _ _ rfl _ _ rfl rfl _ _ (hrun _) ?_)
    go_ret
    refine ⟨_, rfl, ⟨rfl, .inr ⟨w.heap.size, G, cur, rfl, Nat.le_refl _, ?_, Nat.zero_le _, HM.out, hcz, ?_⟩⟩, ?_⟩
    · exact heap_alloc_new w.drew _
    · simp [ptC]
    · exact (Below.refl _ _).drew.trans (below1 w.drew _)

/-- How many there are up to a row. -/
def lenToP (rs : List (List (Int × Int))) : Nat → Nat
  | 0 => 0
  | j + 1 => lenToP rs j + (rowA rs j).length
theorem flat_takeP (rs : List (List (Int × Int))) : ∀ j, j < rs.length → (rs.take (j + 1)).flatten = (rs.take j).flatten ++ rowA rs j := by
  intro j hj
  rw [List.take_add_one, List.getElem?_eq_getElem hj, List.flatten_append]
  unfold rowA
  rw [List.getElem?_eq_getElem hj]
  simp
theorem lenToP_flat (rs : List (List (Int × Int))) : ∀ j, j ≤ rs.length → (rs.take j).flatten.length = lenToP rs j
  | 0, _ => by simp [lenToP]
  | j + 1, h => by
    rw [flat_takeP rs j (by omega), List.length_append, lenToP_flat rs j (by omega)]
    rfl
theorem lenToP_le (rs : List (List (Int × Int))) (hl : ∀ i, i < rs.length → (rowA rs i).length ≤ 60) : ∀ j, j ≤ rs.length → lenToP rs j ≤ 60 * j
  | 0, _ => by simp [lenToP]
  | j + 1, h => by
    have := lenToP_le rs hl j (by omega)
    have := hl j (by omega)
    simp only [lenToP]
    omega

set_option maxRecDepth 20000 in
set_option maxHeartbeats 1000000 in
theorem concatP (a : Option Addr) (c : Nat) (rs : List (List (Int × Int))) (w : World) (h : SeesS w a c rs) (hn : rs.length ≤ 12) (hl : ∀ i, i < rs.length → 0 < (rowA rs i).length ∧ (rowA rs i).length ≤ 60) :
    Calls Try.prog 34 #[.slice a rs.length c] w fun e w' => ∃ v, e = .returned v ∧ RowPt w.heap.size w' v rs.flatten ∧ Below w.heap.size w w' := by
  obtain ⟨i0, hi, hz0, hz1, hz2⟩ := info_parts infoPt
  have hm := h.max
  have hf := h.fits
  unfold maxLen at hm
  have LB := lenToP_le rs (fun i q => (hl i q).2)
  have LF := lenToP_flat rs
  have HL : Hid (∀ i, i < rs.length → 0 < (rowA rs i).length ∧ (rowA rs i).length ≤ 60) := hl
  have HB : Hid (∀ j, j ≤ rs.length → lenToP rs j ≤ 60 * j) := LB
  have HF : Hid (∀ j, j ≤ rs.length → (rs.take j).flatten.length = lenToP rs j) := LF
  clear hl LB LF
  go_enter Try.func34, Try.ntmps34
  go_wp2
  go_loopw [3, 11] (fun s3 s11 wr => ∃ j : Nat, j ≤ rs.length ∧ s11 = .int .i64 j ∧ s3 = .int .i64 (lenToP rs j : Nat) ∧ Below w.heap.size w wr) (fun _ s11 _ => rs.length - (intOf s11).toNat)
  case atStart => exact ⟨0, Nat.zero_le _, rfl, rfl, Below.refl _ _⟩
  case round =>
    obtain ⟨j, hj, rfl, rfl, B0⟩ := hrel
    rename World => wq
    have b0 := HB.out j hj
    by_cases hlt : j < rs.length
    · obtain ⟨b, off, rfl, hc⟩ := (h.below B0).cells (by intro e; simp [e] at hlt)
      obtain ⟨a', c', g, _⟩ := hc j hlt
      obtain ⟨_, b2⟩ := HL.out j hlt
      have E : Hid (lenToP rs (j + 1) = lenToP rs j + (rowA rs j).length) := (rfl : lenToP rs (j + 1) = _)
      clear hc
      generalize (rowA rs j).length = m at *
      generalize lenToP rs j = l at *
      have hneg : ¬ ((l : Int) + (m : Int) < 0) := by omega
      go_wp2
      go_roundw
      case rel => exact ⟨j + 1, by omega, by go_num, (by rw [E.out]; go_num), B0⟩
      case measure => simp [intOf]; omega
    · obtain rfl : j = rs.length := by omega
      generalize lenToP rs rs.length = l at *
      go_wp2_with fail
      refine (growP l (by omega) _).mono ?_
      rintro e w1 ⟨v, rfl, R, hb⟩
      have B := B0.trans (hb.mono B0.size)
      replace R : RowPt w.heap.size w1 v [] := row_base R B0.size
      clear hb B0
      go_wp2
      go_loopw [6, 27] (fun s6 s27 wr => ∃ j : Nat, j ≤ rs.length ∧ s27 = .int .i64 j ∧ RowPt w.heap.size wr s6 (rs.take j).flatten ∧ Below w.heap.size w wr) (fun _ s27 _ => rs.length - (intOf s27).toNat)
      case atStart => exact ⟨0, Nat.zero_le _, rfl, R, B⟩
      case round =>
        clear R B
        obtain ⟨i, hi', rfl, R, B⟩ := hrel
        rename World => wr
        by_cases hli : i < rs.length
        · obtain ⟨b, off, rfl, hc⟩ := (h.below B).cells (by intro e; simp [e] at hli)
          obtain ⟨a', c', g, S⟩ := hc i hli
          obtain ⟨b1, b2⟩ := HL.out i hli
          have FT := flat_takeP rs i hli
          have b3 : ((rs.take i).flatten).length ≤ 60 * i := by rw [HF.out i (by omega)]; exact HB.out i (by omega)
          obtain ⟨b5, o5, rfl, _⟩ := S.cells (by intro e; simp [e] at b1)
          have NW := S.news
          obtain ⟨ts, hts⟩ : ∃ z, Hid ((rs.take i).flatten = z) := ⟨_, rfl⟩
          rw [hts.out] at FT R b3
          have HFT : Hid ((rs.take (i + 1)).flatten = ts ++ rowA rs i) := FT
          clear hc FT hts S
          generalize rowA rs i = qs at *
          have bz := B.size
          go_wp2_with (at_builtin; refine wpList_append_own _ rfl (.tmp 31) (.tmp 32) 48 rfl w.heap.size 27 i0 (.agg #[.int .i64 0, .int .i64 0]) 2 16 Try.underlying48 hi hz0 hz1 hz2 rfl (by decide) u6 ts.length (ptC ts) rfl R ⟨b5, o5, none⟩ qs.length _ (ptC qs) rfl (ptC_len _) NW (ptC_ones _) (by unfold maxLen; omega) (by omega) bz ?_)
          intro v7 w7 R7 G7 _
          rw [← ptC_append, ← List.length_append] at R7
          have B7 := B.grown G7 bz (fun k hk => (World.ownsRow.lt R k hk).1)
          go_wp2
          go_roundw
          case rel => exact ⟨i + 1, by omega, by go_num, (by rw [HFT.out]; exact R7), B7⟩
          case measure => simp [intOf]; omega
        · obtain rfl : i = rs.length := by omega
          rw [List.take_length] at R
          go_wp2
          go_ret
          exact ⟨_, rfl, R, B⟩
end Go.Proofs.Ytgfpmhpjcadhjaa
