/- Rows of segments put behind each other: slices.Grow of nil, slices.Concat. -/
import Derived.Test.YthafhfdhahbdoaaSeg
import Derived.Test.YthafhfdhahbdoaaRowPt
import Derived.Lib.AppendZeros
namespace Go.Proofs.Ythafhfdhahbdoaa
open Go.RowKit

/-- A row of segments among several. -/
def rowQ (rs : List (List Sg)) (i : Nat) : List Sg := rs[i]?.getD []
/-- Rows of segments that lie in memory. -/
structure SeesR (w : World) (a : Option Addr) (cap : Nat) (rs : List (List Sg)) : Prop where
  fits : rs.length ≤ cap
  max : cap ≤ maxLen
  cells : rs ≠ [] → ∃ b off, a = some ⟨b, off, none⟩ ∧ ∀ i, i < rs.length → ∃ a' c', w.cell? ⟨b, off + i, none⟩ = some (.slice a' (rowQ rs i).length c') ∧ SeesQ w a' c' (rowQ rs i)
theorem SeesR.below {w w' : World} {a : Option Addr} {cap : Nat} {rs : List (List Sg)} (h : SeesR w a cap rs) (hb : Below w.heap.size w w') : SeesR w' a cap rs :=
  ⟨h.fits, h.max, fun hn => by
    obtain ⟨b, off, ha, hc⟩ := h.cells hn
    exact ⟨b, off, ha, fun i hi => by obtain ⟨a', c', h1, h2⟩ := hc i hi; exact ⟨a', c', bat hb h1, h2.below hb⟩⟩⟩

set_option maxRecDepth 20000 in
theorem growQ (n : Nat) (hn : n ≤ 1000) (w : World) :
    Calls Try.prog 86 #[.slice none 0 0, .int .i64 n] w fun e w' => ∃ v, e = .returned v ∧ RowQ w.heap.size w' v [] ∧ Below w.heap.size w w' := by
  obtain ⟨i0, hi, hz0, hz1, hz2⟩ := info_parts infoE
  by_cases h0 : n = 0
  · subst h0
    go_enter Try.func86, Try.ntmps86
    go_wp2
    go_ret
    exact ⟨_, rfl, RowQ.nil _ _, Below.refl _ _⟩
  · have hrz : ∀ ty (W : World), (Builtin.append_ #[77, 3] ty #[.slice none 0 0, .int .i64 (n : Int)]).run Try.prog W = .ok (.slice (some ⟨W.heap.size, 0, none⟩) n (grownCap W n 0 56)) (W.drew.alloc (.cells (Builtin.zeroCells (.agg #[.int .i64 0, .int .i64 0, .int .i64 0, .int .i64 0] : Value).cells n ++ Builtin.zeroCells (.agg #[.int .i64 0, .int .i64 0, .int .i64 0, .int .i64 0] : Value).cells (grownCap W n 0 56 - n)) 56)) := fun ty W =>
      Lib.run_append_nil_zeros W 77 3 ty 56 i0 (.agg #[.int .i64 0, .int .i64 0, .int .i64 0, .int .i64 0]) .i64 .i64 Try.underlying77 Try.underlying3 hi hz0 n (by omega) (by rw [hz1]; omega) (by omega) (by rw [hz2]; omega)
    have hge := grownCap_ge w n 0 56
    have hle := grownCap_le_maxLen w n 0 56 (by unfold maxLen; omega)
    have hrun := fun ty => hrz ty w
    clear hrz
    generalize grownCap w n 0 56 = G at *
    have HM : Hid (G ≤ maxLen) := hle
    unfold maxLen at hle
    have hcz : (Builtin.zeroCells (.agg #[.int .i64 0, .int .i64 0, .int .i64 0, .int .i64 0] : Value).cells n ++ Builtin.zeroCells (.agg #[.int .i64 0, .int .i64 0, .int .i64 0, .int .i64 0] : Value).cells (G - n)).size = G * 4 := by
      rw [Array.size_append, size_zeroCells, size_zeroCells]
      show n * 4 + (G - n) * 4 = G * 4
      omega
    generalize Builtin.zeroCells (.agg #[.int .i64 0, .int .i64 0, .int .i64 0, .int .i64 0] : Value).cells n ++ Builtin.zeroCells (.agg #[.int .i64 0, .int .i64 0, .int .i64 0, .int .i64 0] : Value).cells (G - n) = cur at *
    have h1 : (0 : Int) < n := by omega
    go_enter Try.func86, Try.ntmps86
    go_wp2_with (at_builtin; refine Lib.wpList_append_run _ rfl _ _ _ _ rfl _ _ rfl rfl _ _ (hrun _) ?_)
    go_ret
    refine ⟨_, rfl, ⟨rfl, .inr ⟨w.heap.size, G, cur, rfl, Nat.le_refl _, ?_, Nat.zero_le _, HM.out, hcz, ?_⟩⟩, ?_⟩
    · exact heap_alloc_new w.drew _
    · simp [sgC]
    · exact (Below.refl _ _).drew.trans (below1 w.drew _)

/-- How many there are up to a row. -/
def lenToQ (rs : List (List Sg)) : Nat → Nat
  | 0 => 0
  | j + 1 => lenToQ rs j + (rowQ rs j).length
theorem flat_takeQ (rs : List (List Sg)) : ∀ j, j < rs.length → (rs.take (j + 1)).flatten = (rs.take j).flatten ++ rowQ rs j := by
  intro j hj
  rw [List.take_add_one, List.getElem?_eq_getElem hj, List.flatten_append]
  unfold rowQ
  rw [List.getElem?_eq_getElem hj]
  simp
theorem lenToQ_flat (rs : List (List Sg)) : ∀ j, j ≤ rs.length → (rs.take j).flatten.length = lenToQ rs j
  | 0, _ => by simp [lenToQ]
  | j + 1, h => by
    rw [flat_takeQ rs j (by omega), List.length_append, lenToQ_flat rs j (by omega)]
    rfl
theorem lenToQ_le (rs : List (List Sg)) (hl : ∀ i, i < rs.length → (rowQ rs i).length ≤ 60) : ∀ j, j ≤ rs.length → lenToQ rs j ≤ 60 * j
  | 0, _ => by simp [lenToQ]
  | j + 1, h => by
    have := lenToQ_le rs hl j (by omega)
    have := hl j (by omega)
    simp only [lenToQ]
    omega

set_option maxRecDepth 20000 in
set_option maxHeartbeats 1000000 in
theorem concatQ (a : Option Addr) (c : Nat) (rs : List (List Sg)) (w : World) (h : SeesR w a c rs) (hn : rs.length ≤ 12) (hl : ∀ i, i < rs.length → 0 < (rowQ rs i).length ∧ (rowQ rs i).length ≤ 60) :
    Calls Try.prog 81 #[.slice a rs.length c] w fun e w' => ∃ v, e = .returned v ∧ RowQ w.heap.size w' v rs.flatten ∧ Below w.heap.size w w' := by
  obtain ⟨i0, hi, hz0, hz1, hz2⟩ := info_parts infoE
  have hm := h.max
  have hf := h.fits
  unfold maxLen at hm
  have LB := lenToQ_le rs (fun i q => (hl i q).2)
  have LF := lenToQ_flat rs
  have HL : Hid (∀ i, i < rs.length → 0 < (rowQ rs i).length ∧ (rowQ rs i).length ≤ 60) := hl
  have HB : Hid (∀ j, j ≤ rs.length → lenToQ rs j ≤ 60 * j) := LB
  have HF : Hid (∀ j, j ≤ rs.length → (rs.take j).flatten.length = lenToQ rs j) := LF
  clear hl LB LF
  go_enter Try.func81, Try.ntmps81
  go_wp2
  go_loopw [3, 11] (fun s3 s11 wr => ∃ j : Nat, j ≤ rs.length ∧ s11 = .int .i64 j ∧ s3 = .int .i64 (lenToQ rs j : Nat) ∧ Below w.heap.size w wr) (fun _ s11 _ => rs.length - (intOf s11).toNat)
  case atStart => exact ⟨0, Nat.zero_le _, rfl, rfl, Below.refl _ _⟩
  case round =>
    obtain ⟨j, hj, rfl, rfl, B0⟩ := hrel
    rename World => wq
    have b0 := HB.out j hj
    by_cases hlt : j < rs.length
    · obtain ⟨b, off, rfl, hc⟩ := (h.below B0).cells (by intro e; simp [e] at hlt)
      obtain ⟨a', c', g, _⟩ := hc j hlt
      obtain ⟨_, b2⟩ := HL.out j hlt
      have E : Hid (lenToQ rs (j + 1) = lenToQ rs j + (rowQ rs j).length) := (rfl : lenToQ rs (j + 1) = _)
      clear hc
      generalize (rowQ rs j).length = m at *
      generalize lenToQ rs j = l at *
      have hneg : ¬ ((l : Int) + (m : Int) < 0) := by omega
      go_wp2
      go_roundw
      case rel => exact ⟨j + 1, by omega, by go_num, (by rw [E.out]; go_num), B0⟩
      case measure => simp [intOf]; omega
    · obtain rfl : j = rs.length := by omega
      generalize lenToQ rs rs.length = l at *
      go_wp2_with fail
      refine (growQ l (by omega) _).mono ?_
      rintro e w1 ⟨v, rfl, R, hb⟩
      have B := B0.trans (hb.mono B0.size)
      replace R : RowQ w.heap.size w1 v [] := row_base R B0.size
      clear hb B0
      go_wp2
      go_loopw [6, 27] (fun s6 s27 wr => ∃ j : Nat, j ≤ rs.length ∧ s27 = .int .i64 j ∧ RowQ w.heap.size wr s6 (rs.take j).flatten ∧ Below w.heap.size w wr) (fun _ s27 _ => rs.length - (intOf s27).toNat)
      case atStart => exact ⟨0, Nat.zero_le _, rfl, R, B⟩
      case round =>
        clear R B
        obtain ⟨i, hi', rfl, R, B⟩ := hrel
        rename World => wr
        by_cases hli : i < rs.length
        · obtain ⟨b, off, rfl, hc⟩ := (h.below B).cells (by intro e; simp [e] at hli)
          obtain ⟨a', c', g, S⟩ := hc i hli
          obtain ⟨b1, b2⟩ := HL.out i hli
          have FT := flat_takeQ rs i hli
          have b3 : ((rs.take i).flatten).length ≤ 60 * i := by rw [HF.out i (by omega)]; exact HB.out i (by omega)
          obtain ⟨b5, o5, rfl, _⟩ := S.cells (by intro e; simp [e] at b1)
          have NW := S.news
          obtain ⟨ts, hts⟩ : ∃ z, Hid ((rs.take i).flatten = z) := ⟨_, rfl⟩
          rw [hts.out] at FT R b3
          have HFT : Hid ((rs.take (i + 1)).flatten = ts ++ rowQ rs i) := FT
          clear hc FT hts S
          generalize rowQ rs i = qs at *
          have bz := B.size
          go_wp2_with (at_builtin; refine wpList_append_own _ rfl (.tmp 31) (.tmp 32) 77 rfl w.heap.size 56 i0 (.agg #[.int .i64 0, .int .i64 0, .int .i64 0, .int .i64 0]) 4 32 Try.underlying77 hi hz0 hz1 hz2 rfl (by decide) u6 ts.length (sgC ts) rfl R ⟨b5, o5, none⟩ qs.length _ (sgC qs) rfl (sgC_len _) NW (sgC_ones _) (by unfold maxLen; omega) (by omega) bz ?_)
          intro v7 w7 R7 G7 _
          rw [← sgC_append, ← List.length_append] at R7
          have B7 := B.grown G7 bz (fun k hk => (World.ownsRow.lt R k hk).1)
          go_wp2
          go_roundw
          case rel => exact ⟨i + 1, by omega, by go_num, (by rw [HFT.out]; exact R7), B7⟩
          case measure => simp [intOf]; omega
        · obtain rfl : i = rs.length := by omega
          rw [List.take_length] at R
          go_wp2
          go_ret
          exact ⟨_, rfl, R, B⟩
end Go.Proofs.Ythafhfdhahbdoaa
