/- Entries of a call's own are marked, and a shape behind them. -/
import Derived.Test.YtecjeomcbcpfiaaGreatMkE
namespace Go.Proofs.YtecjeomcbcpfiaaGreat
open Go.RowKit

set_option maxRecDepth 20000 in
set_option maxHeartbeats 2000000 in
theorem markEntriesK (g hi : Nat) (es : List En) (gb tp : Nat → Nat) (w : World) (h : MkEn w g es gb tp) (hh : ∀ i, i < es.length → tp i ≤ hi) (hg : g < hi) (hs : uptoE es es.length ≤ 1048576) :
    Calls Tryz.prog 12 #[.slice (some ⟨g, 0, none⟩) es.length es.length, .int .i64 1] w fun e w' => ∃ k : Int, e = .returned (.int .i64 k) ∧ 0 ≤ k ∧ k ≤ 50000000 ∧ Puts g hi w w' := by
  have HS : Hid (uptoE es es.length ≤ 1048576) := hs
  have hm : es.length ≤ 1048576 := by have := uptoE_le es 0 es.length; simp only [uptoE, Nat.zero_add] at this; omega
  have HH : Hid (∀ i, i < es.length → tp i ≤ hi) := hh
  clear hs hh
  go_enter Tryz.func12, Tryz.ntmps12
  go_wp2
  go_loopw [1, 5] (fun s1 i wr => ∃ (j : Nat) (k : Int), j ≤ es.length ∧ i = .int .i64 j ∧ s1 = .int .i64 k ∧ 0 ≤ k ∧ Hid (k ≤ 1 + 2 * (j : Int) + 2 * (uptoE es j : Int)) ∧ Hid (MkEn wr g es gb tp) ∧ Hid (Puts g hi w wr)) (fun _ i _ => es.length - (intOf i).toNat)
  case atStart => exact ⟨0, 1, Nat.zero_le _, rfl, rfl, by omega, (by show _ ≤ _; omega), h, Puts.refl _ _ _⟩
  case round =>
    obtain ⟨j, k, hj, rfl, rfl, k0, k1, M, P⟩ := hrel
    rename World => wr
    by_cases hlt : j < es.length
    · have M1 := M.out.put (o := j * 3) (u := .int .i64 k) (by omega)
      have M2 := M1.put (o := j * 3 + 1) (u := .int .i64 (k + 1)) (by omega)
      obtain ⟨⟨v0, c0⟩, _, _, _⟩ := M.out.c j hlt
      obtain ⟨_, ⟨v1, c1⟩, _, _⟩ := M1.c j hlt
      obtain ⟨_, _, c2, MS⟩ := M2.c j hlt
      have f0 := M.out.fr
      have f1 := M1.fr
      have P2 : Hid (Puts g hi w ((wr.setCell ⟨g, j * 3, none⟩ (.int .i64 k)).setCell ⟨g, j * 3 + 1, none⟩ (.int .i64 (k + 1)))) := (P.out.put (Nat.le_refl g) hg (j * 3) (.int .i64 k)).put (Nat.le_refl g) hg (j * 3 + 1) (.int .i64 (k + 1))
      have M2' : Hid (MkEn ((wr.setCell ⟨g, j * 3, none⟩ (.int .i64 k)).setCell ⟨g, j * 3 + 1, none⟩ (.int .i64 (k + 1))) g es gb tp) := M2
      have oj := M.out.o j hlt
      have hrow := enRow_le es hlt
      have HR : Hid (upto (enA es j).2.2 (enA es j).2.2.length ≤ 1048576) := by show _ ≤ _; have := HS.out; omega
      have HE : Hid (uptoE es (j + 1) = uptoE es j + upto (enA es j).2.2 (enA es j).2.2.length) := rfl
      have kb : k ≤ 50000000 := by
        have a1 := k1.out
        have a2 := uptoE_le es j (es.length - j)
        rw [show j + (es.length - j) = es.length by omega] at a2
        have := HS.out
        omega
      have HT := HH.out j hlt
      have hgb : g ≤ gb j + 1 := by omega
      have HTP : Hid (tp j ≤ hi) := HT
      have HRL : (enA es j).2.2.length ≤ maxLen := by
        have a1 := upto_le (enA es j).2.2 0 (enA es j).2.2.length
        simp only [upto, Nat.zero_add] at a1
        have := HR.out
        unfold maxLen
        omega
      clear M1 M2 M P hrow HT oj
      have MSH : Hid (MarkS (gb j + 1) (tp j) ((wr.setCell ⟨g, j * 3, none⟩ (.int .i64 k)).setCell ⟨g, j * 3 + 1, none⟩ (.int .i64 (k + 1))) (gb j) 0 (enA es j).2.2) := MS
      have HRH : Hid ((enA es j).2.2.length ≤ maxLen) := HRL
      clear MS HRL
      generalize (enA es j).2.2 = rs at *
      go_wp2_with fail
      refine (markRowsK (gb j) 0 rs.length (gb j + 1) (tp j) rs (k + 1 + 1) _ MSH.out (by omega) HRH.out (Nat.le_refl _) HR.out (by omega) (by omega)).mono ?_
      rintro e w3 ⟨k3, rfl, k30, k31, P3⟩
      have P4 : Hid (Puts g hi w w3) := P2.out.trans (P3.wider hgb HTP.out)
      have M4 : Hid (MkEn w3 g es gb tp) := M2'.out.puts hlt P3
      have K4 : Hid (k3 ≤ 1 + 2 * ((j + 1 : Nat) : Int) + 2 * (uptoE es (j + 1) : Int)) := by show _ ≤ _; rw [HE.out]; have := k1.out; push_cast; omega
      clear P3 MSH P2 M2' c0 c1 c2 f0 f1 k31
      go_wp2
      go_roundw
      case rel => exact ⟨j + 1, k3, by omega, by go_num, rfl, k30, K4, M4, P4⟩
      case measure => simp [intOf]; omega
    · obtain rfl : j = es.length := by omega
      have kb : Hid (k ≤ 50000000) := by show _ ≤ _; have := k1.out; have := HS.out; omega
      go_wp2
      go_ret
      exact ⟨_, rfl, k0, kb.out, P.out⟩

theorem markEmptyK (K : Int) (a : Option Addr) (c : Nat) (w : World) :
    Calls Tryz.prog 29 #[.slice a 0 c, .int .i64 K] w fun e w' => e = .returned (.int .i64 K) ∧ w' = w := by
  go_enter Tryz.func29, Tryz.ntmps29
  go_wp2
  go_loopw [1, 5] (fun s1 i wr => i = .int .i64 0 ∧ s1 = .int .i64 K ∧ Hid (wr = w)) (fun _ _ _ => 0)
  case atStart => exact ⟨rfl, rfl, rfl⟩
  case round =>
    obtain ⟨rfl, rfl, hw⟩ := hrel
    go_wp2
    go_ret
    exact ⟨rfl, hw.out⟩

theorem markShapeK (n K : Int) (lo hi : Nat) (a : Option Addr) (c : Nat) (rs : List (List (Int × Int))) (w : World) (h : OwnS lo w a c rs) (hh : ∀ b off, a = some ⟨b, off, none⟩ → MarkS (b + 1) hi w b off rs) (hs : upto rs rs.length ≤ 1048576) (K0 : 0 ≤ K) (K1 : K ≤ 100000000) :
    Calls Tryz.prog 20 #[.agg #[.int .i64 n, .slice a rs.length c], .int .i64 K] w fun e w' => ∃ k : Int, e = .returned (.int .i64 k) ∧ 0 ≤ k ∧ Puts lo hi (w.alloc (.cells #[.int .i64 n, .slice a rs.length c] 48)) w' := by
  have hm := h.max
  have hf := h.fits
  have HS : Hid (upto rs rs.length ≤ 1048576) := hs
  clear hs
  by_cases hz : rs.length = 0
  · obtain rfl : rs = [] := List.eq_nil_of_length_eq_zero hz
    clear h hh hz
    go_enter Tryz.func20, Tryz.ntmps20
    go_wp2_with fail
    refine (markEmptyK K a c _).mono ?_
    rintro e w3 ⟨rfl, rfl⟩
    go_wp2
    go_ret
    exact ⟨_, rfl, K0, Puts.refl _ _ _⟩
  · obtain ⟨b, off, rfl, hlo, _⟩ := h.cells (by intro e; simp [e] at hz)
    have M := hh b off rfl
    have M2 := M.below (below1 w (.cells #[.int .i64 n, .slice (some ⟨b, off, none⟩) rs.length c] 48))
    clear h hh M
    go_enter Tryz.func20, Tryz.ntmps20
    go_wp2_with fail
    refine (markRowsK b off c (b + 1) hi rs K _ M2 (by omega) hm hf HS.out K0 K1).mono ?_
    rintro e w3 ⟨k, rfl, k0, _, P⟩
    have P2 : Hid (Puts lo hi (w.alloc (.cells #[.int .i64 n, .slice (some ⟨b, off, none⟩) rs.length c] 48)) w3) := P.wider (by omega) (Nat.le_refl _)
    clear P M2
    go_wp2
    go_ret
    exact ⟨_, rfl, k0, P2.out⟩
end Go.Proofs.YtecjeomcbcpfiaaGreat
