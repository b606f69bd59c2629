/- spec.l9Right. -/
import Derived.Test.YtbdpnfdpnaoicaaPtX
namespace Go.Proofs.Ytbdpnfdpnaoicaa
open Go.RowKit

set_option maxHeartbeats 1000000 in
theorem l9Right_any (a : Option Addr) (c : Nat) (ps : List (Int × Int)) (w : World) (h : SeesP w a c ps) (hl : ps.length ≤ 1048576) :
    Calls Try.prog 25 #[.slice a ps.length c, .int .i64 500] w fun e w' => e = .returned (.bool (okL ps && decide (ps.length ≤ 500))) ∧ Below w.heap.size w w' := by
  have hm := h.max
  have hf := h.fits
  unfold maxLen at hm
  go_enter Try.func25, Try.ntmps25
  go_wp2
  go_loopw [5] (fun s5 wr => ∃ j : Nat, j ≤ ps.length ∧ s5 = .int .i64 j ∧ Hid (okL (ps.take j) = true) ∧ Hid (Below w.heap.size w wr)) (fun s5 _ => ps.length - (intOf s5).toNat)
  case atStart => exact ⟨0, Nat.zero_le _, rfl, by simp [Hid, okL], Below.refl _ _⟩
  case round =>
    obtain ⟨j, hj, rfl, hk, B⟩ := hrel
    rename World => wr
    by_cases hlt : j < ps.length
    · obtain ⟨b1, o1, rfl, hc⟩ := (h.below B.out).cells (by intro e; simp [e] at hlt)
      obtain ⟨g1, g2⟩ := hc j hlt
      have ST := okL_step hlt hk.out
      clear hc
      cases ok : ptOk (ps[j]?.getD (0, 0)).1 (ps[j]?.getD (0, 0)).2
      · have E : Hid (okL ps = false) := okL_bad hlt ok
        clear ST
        generalize (ps[j]?.getD (0, 0)).1 = x at *
        generalize (ps[j]?.getD (0, 0)).2 = y at *
        go_wp2_with fail
        refine (specPtOk x y _).mono ?_
        rintro e w2 ⟨rfl, hb⟩
        rw [ok]
        have B2 := B.out.trans (hb.mono B.out.size)
        clear hb B ok
        go_wp2
        go_ret
        exact ⟨by rw [E.out]; rfl, B2⟩
      · rw [ok] at ST
        have ST2 : Hid (okL (ps.take (j + 1)) = true) := ST
        clear ST
        generalize (ps[j]?.getD (0, 0)).1 = x at *
        generalize (ps[j]?.getD (0, 0)).2 = y at *
        go_wp2_with fail
        refine (specPtOk x y _).mono ?_
        rintro e w2 ⟨rfl, hb⟩
        rw [ok]
        have B2 : Hid (Below w.heap.size w w2) := B.out.trans (hb.mono B.out.size)
        clear hb B ok
        go_wp2
        go_roundw
        case rel => exact ⟨j + 1, by omega, by go_num, ST2, B2⟩
        case measure => simp [intOf]; omega
    · obtain rfl : j = ps.length := by omega
      have OK : Hid (okL ps = true) := by have := hk.out; rw [List.take_length] at this; exact this
      clear hk
      go_wp2
      go_ret
      exact ⟨by rw [OK.out, Bool.true_and, show decide (ps.length ≤ 500) = decide ((ps.length : Int) ≤ 500) from decide_eq_decide.2 (by omega)]; rfl, B.out⟩
end Go.Proofs.Ytbdpnfdpnaoicaa
