/- slices.Clone of points. -/
import Derived.Test.YtbdpnfdpnaoicaaShR
namespace Go.Proofs.Ytbdpnfdpnaoicaa
open Go.RowKit

set_option maxHeartbeats 1000000 in
theorem cloneP (ad : Addr) (c : Nat) (ps : List (Int × Int)) (w : World) (h : SeesP w (some ad) c ps) (hl : ps.length ≤ 1048576) :
    Calls Try.prog 18 #[.slice (some ad) ps.length c] w fun e w' => ∃ v, e = .returned v ∧ RowPt w.heap.size w' v ps ∧ Below w.heap.size w w' := by
  obtain ⟨iP, hiP, hP0, hP1, hP2⟩ := info_parts infoPt
  have he := fun w n => Lib.run_eql_slice_nil (P := Try.prog) w 24 29 (some ad) n c 0 0 Try.underlying24
  have hm := h.max
  have hf := h.fits
  unfold maxLen at hm
  have RE := RowPt.empty w (base := w.heap.size) (Nat.le_refl _)
  have bn := below1 w (.cells #[] 29)
  have S := h.below bn
  have NW := S.newsA
  have HB : w.heap.size ≤ (w.alloc (.cells #[] 29)).heap.size := bn.size
  clear h
  go_enter Try.func18, Try.ntmps18
  go_wp2_with (at_builtin; refine wpList_append_own_at _ rfl (.tmp 5) (.tmp 6) 24 rfl w.heap.size 29 iP (.agg #[.int .i64 0, .int .i64 0]) 2 16 Try.underlying24 hiP hP0 hP1 hP2 rfl (by decide) (.slice (some ⟨w.heap.size, 0, none⟩) 0 0) 0 [] rfl RE ad ps.length _ (ptC ps) rfl (ptC_len _) NW (ptC_ones _) (by unfold maxLen; omega) (by omega) HB ?_; intro v7 w7 R7 G7 _ _; rw [Nat.zero_add, List.nil_append] at R7)
  go_ret
  exact ⟨_, rfl, R7, (Below.refl w.heap.size w).trans (bn.trans ((Below.refl w.heap.size _).grown G7 HB (fun k hk => by injection hk with hk; exact Nat.le_of_eq hk)))⟩
end Go.Proofs.Ytbdpnfdpnaoicaa
