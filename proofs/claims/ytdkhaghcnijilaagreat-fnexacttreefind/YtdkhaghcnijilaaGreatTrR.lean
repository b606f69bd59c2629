/- Whether a tree is right, of the specification: TreeOk. -/
import Derived.Test.YtdkhaghcnijilaaGreatTrQ
namespace Go.Proofs.YtdkhaghcnijilaaGreat
open Go.RowKit

/-- A tree is right. -/
def okT (t : Nd) : Bool := decide (0 < (lk t true).1) && decide ((lk t true).2 ≤ 600)

set_option maxRecDepth 20000 in
set_option maxHeartbeats 2000000 in
theorem specTreeOk (t : Nd) (v1 v2 v3 : Value) (w : World) (h : NdIn 0 w t v1 v2 v3) (hs : ndSz t ≤ 1048576) :
    Calls Tryz.prog 31 #[ndV t v1 v2 v3] w fun e w' => e = .returned (.bool (okT t)) ∧ Below w.heap.size w w' := by
  have HO : Hid (okT t = (decide (0 < (lk t true).1) && decide ((lk t true).2 ≤ 600))) := (rfl : okT t = _)
  have C := fun W (hb : Below w.heap.size w W) => l15Look_any t v1 v2 v3 true W (NdIn.keep hb _ h) hs
  obtain ⟨a1, c1, a2, c2, a3, c3, rfl, rfl, rfl, _⟩ := h.open
  have hle := lk_le t true
  unfold ndV at *
  obtain ⟨⟨x1, x2, x3, x4⟩, ux⟩ : ∃ x, Hid (t.b = x) := ⟨_, rfl⟩
  rw [ux.out] at C ⊢
  dsimp only at C ⊢
  generalize lk t true = r at *
  obtain ⟨d, n⟩ := r
  dsimp only at C HO hle
  have hd : d ≤ 1048577 := by omega
  have hn : n ≤ 1048576 := by omega
  generalize t.bs.length = m1 at *
  generalize t.is.length = m2 at *
  generalize t.ks.length = m3 at *
  have B := below1 w (.cells #[.int .i64 x1, .int .i64 x2, .int .i64 x3, .int .i64 x4, .slice a1 m1 c1, .slice a2 m2 c2, .slice a3 m3 c3] 39)
  have V := Sev.new w x1 x2 x3 x4 (.slice a1 m1 c1) (.slice a2 m2 c2) (.slice a3 m3 c3) 39
  obtain ⟨⟨k0, k1, k2, k3⟩, k4, k5, k6⟩ := id V
  simp only [Nat.zero_add] at k0 k1 k2 k3 k4 k5 k6
  clear h hle hs ux
  go_enter Tryz.func31, Tryz.ntmps31
  go_wp2_with fail
  generalize w.alloc (.cells #[.int .i64 x1, .int .i64 x2, .int .i64 x3, .int .i64 x4, .slice a1 m1 c1, .slice a2 m2 c2, .slice a3 m3 c3] 39) = W0 at *
  refine (C _ B).mono ?_
  rintro e w1 ⟨rfl, hb⟩
  replace B := B.trans (hb.mono B.size)
  clear hb k0 k1 k2 k3 k4 k5 k6 V C
  by_cases q1 : 0 < d
  · have f1 : (0 : Int) < (d : Int) := by omega
    by_cases q2 : n ≤ 600
    · have f2 : (n : Int) ≤ 600 := by omega
      have F : Hid (okT t = true) := by show _ = _; rw [HO.out]; simp [q1, q2]
      clear HO
      go_wp2
      go_ret
      exact ⟨by rw [F.out]; rfl, B⟩
    · have f2 : decide ((n : Int) ≤ 600) = false := decide_eq_false (by omega)
      have F : Hid (okT t = false) := by show _ = _; rw [HO.out]; simp [q2]
      clear HO
      go_wp2
      go_ret
      exact ⟨by rw [F.out]; rfl, B⟩
  · have f1 : ¬ (0 : Int) < (d : Int) := by omega
    have F : Hid (okT t = false) := by show _ = _; rw [HO.out]; simp [q1]
    clear HO
    go_wp2
    go_ret
    exact ⟨by rw [F.out]; rfl, B⟩
end Go.Proofs.YtdkhaghcnijilaaGreat
