/- The whole number below: impl.Frac's floor, impl.FloorFrac. -/
import Derived.Test.YtccdihglpobnmaaDoorTwoF
import Derived.Test.YtccdihglpobnmaaDoorFTake
namespace Go.Proofs.YtccdihglpobnmaaDoor
open Go.RowKit

theorem nrm_ne {ds : List Int} {z : Int} (hv : val ds = mg z) (hz : 0 < z) : ds ≠ [] := by
  rintro rfl
  unfold mg at hv
  simp only [val] at hv
  split at hv <;> omega
theorem fD_posF (g : Bool) (xs : List Int) (h : Bool) (ys : List Int) : 0 < fD g xs h ys := by
  unfold fD
  split
  · next e =>
    unfold fOk at e
    simp only [Bool.and_eq_true, decide_eq_true_eq] at e
    have := e.2
    unfold cmpZ at this
    split at this
    · omega
    · split at this <;> omega
  · decide

set_option maxHeartbeats 1000000 in
theorem floorC (g g' : Bool) (a b : Option Addr) (c d : Nat) (ns ds : List Int) (w : World) (h1 : Sees w a c ns) (h2 : Sees w b d ds) (e1 : Nrm ns) (e2 : Nrm ds) (hne : ds ≠ []) (l1 : ns.length ≤ 24) (l2 : ds.length ≤ 24) :
    Calls Tryd.prog 54 #[.agg #[.bool g, .slice a ns.length c, .bool g', .slice b ds.length d]] w fun e w' => ∃ v, e = .returned v ∧ IsNum w.heap.size w' v (sg g (val ns) / sg g' (val ds)) ∧ Below w.heap.size w w' := by
  have B0 := below2 w (.cells #[.bool g, .slice a ns.length c, .bool g', .slice b ds.length d] 42) (.cells #[.bool false, .slice none 0 0] 26)
  have h1' := h1.below B0
  have h2' := h2.below B0
  clear h1 h2
  go_enter Tryd.func54, Tryd.ntmps54
  go_wp2_with fail
  refine (dividedC g g' a b c d ns ds _ h1' h2' e1 e2 hne (by omega) (by omega)).mono ?_
  rintro e w1 ⟨vq, vr, rfl, hT, hb⟩
  obtain ⟨hI, gr, ar, nr, cr, rfl⟩ := hT.first
  have hJ := hI
  obtain ⟨g5, a5, l5, c5, rfl⟩ := hI.shape
  obtain ⟨q1, r1⟩ := at_block hb (b := w.heap.size + 1) (by simp)
  have B1 := B0.trans (hb.mono (by simp; omega))
  have hz : w.heap.size + 1 < w1.heap.size := by have := hb.size; simp at this; omega
  simp only [World.size_alloc] at hJ
  have hz0 : w.heap.size < w1.heap.size := by omega
  clear hb hT hI h1' h2'
  go_wp2
  have JP := hJ.put' (b := w.heap.size + 1) (b0 := w.heap.size) (u0 := .bool g5) (u1 := .slice a5 l5 c5) (by omega) (by omega)
  have BP := below_put' (b := w.heap.size + 1) B1 (by omega) (.bool g5) (.slice a5 l5 c5)
  exact bodyPost_ret (v := .agg #[.bool g5, .slice a5 l5 c5]) (by simp [results, Tryd.results54, go_sem, q1, hz, hz0]) rfl ⟨_, rfl, JP.below (below2 _ _ _), BP.trans ((below2 _ _ _).mono BP.size)⟩

set_option maxRecDepth 20000 in
set_option maxHeartbeats 2000000 in
theorem implFloorFrac (g h : Bool) (a b : Option Addr) (c d : Nat) (xs ys : List Int) (w : World) (hx : Sees w a c xs) (hy : Sees w b d ys) :
    Calls Tryd.prog 23 #[.agg #[.bool g, .slice a xs.length c, .bool h, .slice b ys.length d]] w fun e w' => ∃ v, e = .returned v ∧ IsNum w.heap.size w' v (fN g xs h ys / fD g xs h ys) ∧ Below w.heap.size w w' := by
  have B0 := below2 w (.cells #[.bool g, .slice a xs.length c, .bool h, .slice b ys.length d] 42) (.cells #[.bool false, .slice none 0 0] 26)
  have hp := fD_posF g xs h ys
  obtain ⟨n1, hn1⟩ : ∃ n, fN g xs h ys = n := ⟨_, rfl⟩
  obtain ⟨d1, hd1⟩ : ∃ n, fD g xs h ys = n := ⟨_, rfl⟩
  rw [hd1] at hp
  have HN : Hid (fN g xs h ys = n1 ∧ fD g xs h ys = d1 ∧ 0 < d1) := ⟨hn1, hd1, hp⟩
  rw [hn1, hd1]
  clear hn1 hd1 hp
  go_enter Tryd.func23, Tryd.ntmps23
  go_wp2_with fail
  refine (implTakenF g h a b c d xs ys _ (hx.below B0) (hy.below B0)).mono ?_
  rintro e w1 ⟨v, rfl, hI, hb1⟩
  rw [HN.out.1, HN.out.2.1] at hI
  obtain ⟨p1, q1, u1, p2, q2, u2, rfl, s1, s2, e1, e2, v1, v2, l1, l2⟩ := hI
  obtain ⟨k1, r1⟩ := at_block hb1 (b := w.heap.size + 1) (by simp)
  have hz : w.heap.size + 1 < w1.heap.size := by have := hb1.size; simp at this; omega
  have B1 := B0.trans (hb1.mono (by simp; omega))
  have E1 : Hid (sg (decide (n1 < 0)) (val u1) = n1 ∧ sg (decide (d1 < 0)) (val u2) = d1) := by
    rw [v1, v2]
    refine ⟨?_, ?_⟩
    · unfold sg mg; by_cases h : n1 < 0 <;> simp [h]
    · unfold sg mg; by_cases h : d1 < 0 <;> simp [h]
  have hne := nrm_ne v2 HN.out.2.2
  clear hb1 v1 v2 hx hy
  go_wp2_with fail
  refine (floorC (decide (n1 < 0)) (decide (d1 < 0)) p1 p2 q1 q2 u1 u2 w1 s1 s2 e1 e2 hne l1 l2).mono ?_
  rintro e w2 ⟨v, rfl, hI, hb2⟩
  rw [E1.out.1, E1.out.2] at hI
  have hJ := hI.base_le (show w.heap.size + 2 ≤ w1.heap.size by omega)
  obtain ⟨g5, a5, l5, c5, rfl⟩ := hI.shape
  have k2 := fun o => (hb2.cell (p := ⟨w.heap.size + 1, o, none⟩) hz).trans (k1 o)
  have r2 := fun o => (hb2.frozen (p := ⟨w.heap.size + 1, o, none⟩) hz).trans (r1 o)
  have B2 := B1.trans (hb2.mono B1.size)
  clear hb2 hI k1 r1 s1 s2 e1 e2 hne
  go_wp2
  exact bodyPost_ret (v := .agg #[.bool g5, .slice a5 l5 c5]) (by simp [results, Tryd.results23, go_sem, k2]) rfl ⟨_, rfl, hJ.put' (by omega) (by omega), below_put' B2 (by omega) _ _⟩
end Go.Proofs.YtccdihglpobnmaaDoor
