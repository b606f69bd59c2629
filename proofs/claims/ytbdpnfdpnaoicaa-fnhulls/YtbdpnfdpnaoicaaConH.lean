/- slices.Concat of two rows of points, each up to 500. -/
import Derived.Test.YtbdpnfdpnaoicaaConP
namespace Go.Proofs.Ytbdpnfdpnaoicaa
open Go.RowKit

theorem lenToH_le (rs : List (List (Int × Int))) (hl : ∀ i, i < rs.length → (rowA rs i).length ≤ 500) : ∀ j, j ≤ rs.length → lenToP rs j ≤ 500 * j
  | 0, _ => by simp [lenToP]
  | j + 1, h => by
    have := lenToH_le rs hl j (by omega)
    have := hl j (by omega)
    simp only [lenToP]
    omega

set_option maxRecDepth 20000 in
set_option maxHeartbeats 1000000 in
theorem concatH (a : Option Addr) (c : Nat) (rs : List (List (Int × Int))) (w : World) (h : SeesS w a c rs) (hn : rs.length ≤ 2) (hl : ∀ i, i < rs.length → 0 < (rowA rs i).length ∧ (rowA rs i).length ≤ 500) :
    Calls Try.prog 24 #[.slice a rs.length c] w fun e w' => ∃ v, e = .returned v ∧ RowPt w.heap.size w' v rs.flatten ∧ Below w.heap.size w w' := by
  obtain ⟨i0, hi, hz0, hz1, hz2⟩ := info_parts infoPt
  have hm := h.max
  have hf := h.fits
  unfold maxLen at hm
  have LB := lenToH_le rs (fun i q => (hl i q).2)
  have LF := lenToP_flat rs
  have HL : Hid (∀ i, i < rs.length → 0 < (rowA rs i).length ∧ (rowA rs i).length ≤ 500) := hl
  have HB : Hid (∀ j, j ≤ rs.length → lenToP rs j ≤ 500 * j) := LB
  have HF : Hid (∀ j, j ≤ rs.length → (rs.take j).flatten.length = lenToP rs j) := LF
  clear hl LB LF
  go_enter Try.func24, Try.ntmps24
  go_wp2
  go_loopw [3, 11] (fun s3 s11 wr => ∃ j : Nat, j ≤ rs.length ∧ s11 = .int .i64 j ∧ s3 = .int .i64 (lenToP rs j : Nat) ∧ Below w.heap.size w wr) (fun _ s11 _ => rs.length - (intOf s11).toNat)
  case atStart => exact ⟨0, Nat.zero_le _, rfl, rfl, Below.refl _ _⟩
  case round =>
    obtain ⟨j, hj, rfl, rfl, B0⟩ := hrel
    rename World => wq
    have b0 := HB.out j hj
    by_cases hlt : j < rs.length
    · obtain ⟨b, off, rfl, hc⟩ := (h.below B0).cells (by intro e; simp [e] at hlt)
      obtain ⟨a', c', g, _⟩ := hc j hlt
      obtain ⟨_, b2⟩ := HL.out j hlt
      have E : Hid (lenToP rs (j + 1) = lenToP rs j + (rowA rs j).length) := (rfl : lenToP rs (j + 1) = _)
      clear hc
      generalize (rowA rs j).length = m at *
      generalize lenToP rs j = l at *
      have hneg : ¬ ((l : Int) + (m : Int) < 0) := by omega
      go_wp2
      go_roundw
      case rel => exact ⟨j + 1, by omega, by go_num, (by rw [E.out]; go_num), B0⟩
      case measure => simp [intOf]; omega
    · obtain rfl : j = rs.length := by omega
      generalize lenToP rs rs.length = l at *
      go_wp2_with fail
      refine (growP l (by omega) _).mono ?_
      rintro e w1 ⟨v, rfl, R, hb⟩
      have B := B0.trans (hb.mono B0.size)
      replace R : RowPt w.heap.size w1 v [] := row_base R B0.size
      clear hb B0
      go_wp2
      go_loopw [6, 27] (fun s6 s27 wr => ∃ j : Nat, j ≤ rs.length ∧ s27 = .int .i64 j ∧ RowPt w.heap.size wr s6 (rs.take j).flatten ∧ Below w.heap.size w wr) (fun _ s27 _ => rs.length - (intOf s27).toNat)
      case atStart => exact ⟨0, Nat.zero_le _, rfl, R, B⟩
      case round =>
        clear R B
        obtain ⟨i, hi', rfl, R, B⟩ := hrel
        rename World => wr
        by_cases hli : i < rs.length
        · obtain ⟨b, off, rfl, hc⟩ := (h.below B).cells (by intro e; simp [e] at hli)
          obtain ⟨a', c', g, S⟩ := hc i hli
          obtain ⟨b1, b2⟩ := HL.out i hli
          have FT := flat_takeP rs i hli
          have b3 : ((rs.take i).flatten).length ≤ 500 * i := by rw [HF.out i (by omega)]; exact HB.out i (by omega)
          obtain ⟨b5, o5, rfl, _⟩ := S.cells (by intro e; simp [e] at b1)
          have NW := S.news
          obtain ⟨ts, hts⟩ : ∃ z, Hid ((rs.take i).flatten = z) := ⟨_, rfl⟩
          rw [hts.out] at FT R b3
          have HFT : Hid ((rs.take (i + 1)).flatten = ts ++ rowA rs i) := FT
          clear hc FT hts S
          generalize rowA rs i = qs at *
          have bz := B.size
          go_wp2_with (at_builtin; refine wpList_append_own _ rfl (.tmp 31) (.tmp 32) 24 rfl w.heap.size 29 i0 (.agg #[.int .i64 0, .int .i64 0]) 2 16 Try.underlying24 hi hz0 hz1 hz2 rfl (by decide) u6 ts.length (ptC ts) rfl R ⟨b5, o5, none⟩ qs.length _ (ptC qs) rfl (ptC_len _) NW (ptC_ones _) (by unfold maxLen; omega) (by omega) bz ?_)
          intro v7 w7 R7 G7 _
          rw [← ptC_append, ← List.length_append] at R7
          have B7 := B.grown G7 bz (fun k hk => (World.ownsRow.lt R k hk).1)
          go_wp2
          go_roundw
          case rel => exact ⟨i + 1, by omega, by go_num, (by rw [HFT.out]; exact R7), B7⟩
          case measure => simp [intOf]; omega
        · obtain rfl : i = rs.length := by omega
          rw [List.take_length] at R
          go_wp2
          go_ret
          exact ⟨_, rfl, R, B⟩
end Go.Proofs.Ytbdpnfdpnaoicaa
