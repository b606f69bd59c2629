/- The whole number below: impl.Frac's floor, impl.FloorFrac. -/
import Derived.Test.YtnefdfgonolafaaTwoF
import Derived.Test.YtnefdfgonolafaaFTake
namespace Go.Proofs.Ytnefdfgonolafaa
open Go.RowKit

theorem nrm_ne {ds : List Int} {z : Int} (hv : val ds = mg z) (hz : 0 < z) : ds ≠ [] := by
  rintro rfl
  unfold mg at hv
  simp only [val] at hv
  split at hv <;> omega
theorem fD_posF (g : Bool) (xs : List Int) (h : Bool) (ys : List Int) : 0 < fD g xs h ys := by
  unfold fD
  split
  · next e =>
    unfold fOk at e
    simp only [Bool.and_eq_true, decide_eq_true_eq] at e
    have := e.2
    unfold cmpZ at this
    split at this
    · omega
    · split at this <;> omega
  · decide

set_option maxHeartbeats 1000000 in
theorem floorC (g g' : Bool) (a b : Option Addr) (c d : Nat) (ns ds : List Int) (w : World) (h1 : Sees w a c ns) (h2 : Sees w b d ds) (e1 : Nrm ns) (e2 : Nrm ds) (hne : ds ≠ []) (l1 : ns.length ≤ 24) (l2 : ds.length ≤ 24) :
    Calls Try.prog 30 #[.agg #[.bool g, .slice a ns.length c, .bool g', .slice b ds.length d]] w fun e w' => ∃ v, e = .returned v ∧ IsNum w.heap.size w' v (sg g (val ns) / sg g' (val ds)) ∧ Below w.heap.size w w' := by
  have B0 := below2 w (.cells #[.bool g, .slice a ns.length c, .bool g', .slice b ds.length d] 38) (.cells #[.bool false, .slice none 0 0] 36)
  have h1' := h1.below B0
  have h2' := h2.below B0
  clear h1 h2
  go_enter Try.func30, Try.ntmps30
  go_wp2_with fail
  refine (dividedC g g' a b c d ns ds _ h1' h2' e1 e2 hne (by omega) (by omega)).mono ?_
  rintro e w1 ⟨vq, vr, rfl, hT, hb⟩
  obtain ⟨hI, gr, ar, nr, cr, rfl⟩ := hT.first
  have hJ := hI
  obtain ⟨g5, a5, l5, c5, rfl⟩ := hI.shape
  obtain ⟨q1, r1⟩ := at_block hb (b := w.heap.size + 1) (by simp)
  have B1 := B0.trans (hb.mono (by simp; omega))
  have hz : w.heap.size + 1 < w1.heap.size := by have := hb.size; simp at this; omega
  simp only [World.size_alloc] at hJ
  have hz0 : w.heap.size < w1.heap.size := by omega
  clear hb hT hI h1' h2'
  go_wp2
  have JP := hJ.put' (b := w.heap.size + 1) (b0 := w.heap.size) (u0 := .bool g5) (u1 := .slice a5 l5 c5) (by omega) (by omega)
  have BP := below_put' (b := w.heap.size + 1) B1 (by omega) (.bool g5) (.slice a5 l5 c5)
  exact bodyPost_ret (v := .agg #[.bool g5, .slice a5 l5 c5]) (by simp [results, Try.results30, go_sem, q1, hz, hz0]) rfl ⟨_, rfl, JP.below (below2 _ _ _), BP.trans ((below2 _ _ _).mono BP.size)⟩

end Go.Proofs.Ytnefdfgonolafaa
