/- All points of a shape: of the specification (l5Points). -/
import Derived.Test.YthafhfdhahbdoaaConP
import Derived.Test.YthafhfdhahbdoaaRowPt
namespace Go.Proofs.Ythafhfdhahbdoaa
open Go.RowKit

set_option maxRecDepth 20000 in
set_option maxHeartbeats 1000000 in
theorem l5Points_any (n : Int) (a : Option Addr) (c : Nat) (rs : List (List (Int × Int))) (w : World) (h : SeesS w a c rs) (hn : rs.length ≤ 12) (hl : ∀ i, i < rs.length → 0 < (rowA rs i).length ∧ (rowA rs i).length ≤ 60) :
    Calls Try.prog 26 #[.agg #[.int .i64 n, .slice a rs.length c]] w fun e w' => ∃ v, e = .returned v ∧ RowPt w.heap.size w' v rs.flatten ∧ Below w.heap.size w w' := by
  obtain ⟨i0, hi, hz0, hz1, hz2⟩ := info_parts infoPt
  have hm := h.max
  have hf := h.fits
  unfold maxLen at hm
  have B0 := below1 w (.cells #[.int .i64 n, .slice a rs.length c] 33)
  have R0 := RowPt.empty (w.alloc (.cells #[.int .i64 n, .slice a rs.length c] 33)) (Nat.le_refl _)
  have B1 := below1 (w.alloc (.cells #[.int .i64 n, .slice a rs.length c] 33)) (.cells #[] 35)
  have VS := Box2.new w (lo := w.heap.size) (Nat.le_refl _) (.int .i64 n) (.slice a rs.length c) 33
  have SW := h.below B0
  have hW : (w.alloc (.cells #[.int .i64 n, .slice a rs.length c] 33)).heap.size = w.heap.size + 1 := by simp
  rw [hW] at R0 B1
  have HL : Hid (∀ i, i < rs.length → 0 < (rowA rs i).length ∧ (rowA rs i).length ≤ 60) := hl
  have HB : Hid (∀ j, j ≤ rs.length → lenToP rs j ≤ 60 * j) := lenToP_le rs (fun i q => (hl i q).2)
  have HF : Hid (∀ j, j ≤ rs.length → (rs.take j).flatten.length = lenToP rs j) := lenToP_flat rs
  clear hl h
  go_enter Try.func26, Try.ntmps26
  go_wp2
  generalize w.alloc (.cells #[.int .i64 n, .slice a rs.length c] 33) = W1 at *
  generalize W1.alloc (.cells #[] 35) = W at *
  go_loopw [3, 4] (fun s3 s4 wr => ∃ j : Nat, j ≤ rs.length ∧ s4 = .int .i64 j ∧ RowPt (w.heap.size + 1) wr s3 (rs.take j).flatten ∧ Below (w.heap.size + 1) W1 wr) (fun _ s4 _ => rs.length - (intOf s4).toNat)
  case atStart => exact ⟨0, Nat.zero_le _, rfl, R0, B1⟩
  case round =>
    clear R0 B1
    obtain ⟨i, hi', rfl, R, B⟩ := hrel
    rename World => wr
    have B' : Below W1.heap.size W1 wr := by rw [hW]; exact B
    obtain ⟨k0, k1, _, _⟩ := VS.below B'
    by_cases hli : i < rs.length
    · obtain ⟨b, off, rfl, hc⟩ := (SW.below B').cells (by intro e; simp [e] at hli)
      obtain ⟨a', c', g, S⟩ := hc i hli
      obtain ⟨b1, b2⟩ := HL.out i hli
      have FT := flat_takeP rs i hli
      have b3 : ((rs.take i).flatten).length ≤ 60 * i := by rw [HF.out i (by omega)]; exact HB.out i (by omega)
      obtain ⟨b5, o5, rfl, _⟩ := S.cells (by intro e; simp [e] at b1)
      have NW := S.news
      obtain ⟨ts, hts⟩ : ∃ z, Hid ((rs.take i).flatten = z) := ⟨_, rfl⟩
      rw [hts.out] at FT R b3
      have HFT : Hid ((rs.take (i + 1)).flatten = ts ++ rowA rs i) := FT
      clear hc FT hts S
      generalize rowA rs i = qs at *
      have bz : w.heap.size + 1 ≤ wr.heap.size := by have := B'.size; omega
      go_wp2_with (at_builtin; refine wpList_append_own _ rfl (.tmp 13) (.tmp 18) 57 rfl (w.heap.size + 1) 35 i0 (.agg #[.int .i64 0, .int .i64 0]) 2 16 Try.underlying57 hi hz0 hz1 hz2 rfl (by decide) u3 ts.length (ptC ts) rfl R ⟨b5, o5, none⟩ qs.length _ (ptC qs) rfl (ptC_len _) NW (ptC_ones _) (by unfold maxLen; omega) (by omega) bz ?_)
      intro v7 w7 R7 G7 _
      rw [← ptC_append, ← List.length_append] at R7
      have B7 := B.grown G7 bz (fun k hk => (World.ownsRow.lt R k hk).1)
      clear k0 k1
      go_wp2
      go_roundw
      case rel => exact ⟨i + 1, by omega, by go_num, (by rw [HFT.out]; exact R7), B7⟩
      case measure => simp [intOf]; omega
    · obtain rfl : i = rs.length := by omega
      rw [List.take_length] at R
      go_wp2
      go_ret
      exact ⟨_, rfl, row_base R (by omega), B0.trans (B'.mono B0.size)⟩
end Go.Proofs.Ythafhfdhahbdoaa
