/- A ring's own faults, of the specification (l5Ring): the first ring. -/
import Derived.Test.YthafhfdhahbdoaaSelfS
import Derived.Test.YthafhfdhahbdoaaFramePs
import Derived.Test.YthafhfdhahbdoaaRing
import Derived.Deep.DeepCutAuto
namespace Go.Proofs.Ythafhfdhahbdoaa
open Go.RowKit

/-- A ring that is simple and turns to the left. -/
def firstB (ps : List (Int × Int)) : Bool := !slf ps ps.length && decide (0 < tw ps ps.length)

set_option maxRecDepth 20000 in
set_option maxHeartbeats 1500000 in
theorem l5Ring_zero (n : Int) (a : Option Addr) (c : Nat) (rs : List (List (Int × Int))) (w : World) (h : SeesS w a c rs) (hr : 0 < rs.length) (ok : okL (rowA rs 0) = true) (hs : (rowA rs 0).length ≤ 60) :
    Calls Try.prog 35 #[.agg #[.int .i64 n, .slice a rs.length c], .int .i64 0] w fun e w' => ∃ z x y : Int, e = .returned (.tuple #[.int .i64 z, .int .i64 x, .int .i64 y]) ∧ Hid (decide (z = 0) = firstB (rowA rs 0)) ∧ Below w.heap.size w w' := by
  have hm := h.max
  have hf := h.fits
  unfold maxLen at hm
  have B0 := below1 w (.cells #[.int .i64 n, .slice a rs.length c] 33)
  have V0 := Box2.new w (lo := w.heap.size) (Nat.le_refl _) (.int .i64 n) (.slice a rs.length c) 33
  obtain ⟨b, off, rfl, hc⟩ := (h.below B0).cells (by intro e; simp [e] at hr)
  obtain ⟨a', c', g, P⟩ := hc 0 hr
  rw [Nat.add_zero] at g
  clear hc h
  obtain ⟨k0, k1, _, _⟩ := id V0
  generalize rowA rs 0 = ps at *
  go_enter Try.func35, Try.ntmps35
  go_wp2_with fail
  generalize w.alloc (.cells #[.int .i64 n, .slice (some ⟨b, off, none⟩) rs.length c] 33) = W at *
  refine (l5Self_any a' c' ps _ P ok).mono ?_
  rintro e w1 ⟨z, rfl, hz, hb⟩
  replace P := P.below hb
  replace B0 := B0.trans (hb.mono B0.size)
  clear hb
  by_cases hz0 : 0 ≤ z
  · have F : Hid (firstB ps = false) := by
      show _ = _
      have := hz.out.1
      rw [decide_eq_true hz0] at this
      unfold firstB
      rw [← this]
      rfl
    clear hz
    go_wp2
    exact bodyPost_ret (v := .tuple #[.int .i64 _, .int .i64 _, .int .i64 _]) (by simp [results, Try.results35, go_sem]; exact ⟨rfl, rfl, rfl⟩) rfl ⟨_, _, _, rfl, (by show _ = _; rw [F.out]; rfl), B0⟩
  · have F : Hid (firstB ps = decide (0 < tw ps ps.length)) := by
      show _ = _
      have := hz.out.1
      rw [decide_eq_false hz0] at this
      unfold firstB
      rw [← this]
      rfl
    clear hz
    go_wp2_with fail
    refine (l5Twice_any a' c' ps _ P hs ok).mono ?_
    rintro e w2 ⟨rfl, hb⟩
    replace B0 := B0.trans (hb.mono B0.size)
    clear hb
    generalize tw ps ps.length = t at *
    by_cases ht : t ≤ 0
    · replace F : Hid (firstB ps = false) := by
        show _ = _
        rw [F.out]
        exact decide_eq_false (by omega)
      go_wp2
      exact bodyPost_ret (v := .tuple #[.int .i64 _, .int .i64 _, .int .i64 _]) (by simp [results, Try.results35, go_sem]; exact ⟨rfl, rfl, rfl⟩) rfl ⟨_, _, _, rfl, (by show _ = _; rw [F.out]; rfl), B0⟩
    · replace F : Hid (firstB ps = true) := by
        show _ = _
        rw [F.out]
        exact decide_eq_true (by omega)
      go_wp2
      exact bodyPost_ret (v := .tuple #[.int .i64 _, .int .i64 _, .int .i64 _]) (by simp [results, Try.results35, go_sem]; exact ⟨rfl, rfl, rfl⟩) rfl ⟨_, _, _, rfl, (by show _ = _; rw [F.out]; rfl), B0⟩
end Go.Proofs.Ythafhfdhahbdoaa
