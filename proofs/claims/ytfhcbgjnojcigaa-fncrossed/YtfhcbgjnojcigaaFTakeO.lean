/- What a fraction that is owned is taken as: impl.Frac's taken, spec.l2Most. -/
import Derived.Test.YtfhcbgjnojcigaaFTake
import Derived.Test.YtfhcbgjnojcigaaLow
namespace Go.Proofs.Ytfhcbgjnojcigaa
open Go.RowKit

theorem IsFrac.right {base : Nat} {w : World} {g h : Bool} {a b : Option Addr} {c d : Nat} {xs ys : List Int} (hx : Own base w a c xs) (hy : Own base w b d ys) (ap : Apart a xs b ys) (e : fOk g xs h ys = true) :
    IsFrac base w (.agg #[.bool g, .slice a xs.length c, .bool h, .slice b ys.length d]) (fN g xs h ys) (fD g xs h ys) := by
  obtain ⟨o1, o2⟩ := fOk_parts e
  obtain ⟨p1, p2, p3, p4⟩ := ok_parts hx.lim o1
  obtain ⟨q1, q2, q3, q4⟩ := ok_parts hy.lim o2
  have en : fN g xs h ys = tk g xs := by unfold fN; rw [if_pos e]
  have ed : fD g xs h ys = tk h ys := by unfold fD; rw [if_pos e]
  rw [en, ed]
  exact ⟨a, c, xs, b, d, ys, by rw [p1, q1], hx, hy, p3, q3, p2, q2, ap⟩
theorem IsFrac.wrong {base : Nat} {w : World} {g h : Bool} {xs ys : List Int} {b : Option Addr} {e : Nat} {ds : List Int} (ho : Own base w b e ds) (hn : Nrm ds) (hv : val ds = 1) (ne : fOk g xs h ys = false) :
    IsFrac base w (.agg #[.bool false, .slice none 0 0, .bool false, .slice b ds.length e]) (fN g xs h ys) (fD g xs h ys) := by
  have en : fN g xs h ys = 0 := by unfold fN; rw [ne]; simp
  have ed : fD g xs h ys = 1 := by unfold fD; rw [ne]; simp
  rw [en, ed]
  exact ⟨none, 0, [], b, e, ds, rfl, Own.nil _ _, ho, trivial, hn, rfl, hv, fun _ _ _ hh => absurd rfl hh⟩

set_option maxHeartbeats 1000000 in
theorem implTakenO (base : Nat) (g h : Bool) (a b : Option Addr) (c d : Nat) (xs ys : List Int) (w : World) (hx : Own base w a c xs) (hy : Own base w b d ys) (ap : Apart a xs b ys) (hbase : base ≤ w.heap.size) :
    Calls Try.prog 22 #[.agg #[.bool g, .slice a xs.length c, .bool h, .slice b ys.length d]] w fun e w' => ∃ v, e = .returned v ∧ IsFrac base w' v (fN g xs h ys) (fD g xs h ys) ∧ Below w.heap.size w w' := by
  have hb0 := below2 w (.cells #[.bool g, .slice a xs.length c, .bool h, .slice b ys.length d] 32) (.cells #[.bool false, .slice none 0 0, .bool false, .slice none 0 0] 32)
  by_cases h1 : fOk g xs h ys = true
  · have E : Hid (fOk g xs h ys = true) := h1
    go_enter Try.func22, Try.ntmps22
    go_wp2_with fail
    refine (implFracOk g h a b c d xs ys _ (hx.toSees.below hb0) (hy.toSees.below hb0)).mono ?_
    rintro e w1 ⟨rfl, hb⟩
    rw [h1]
    obtain ⟨q0, _⟩ := at_block hb (b := w.heap.size) (by simp; omega)
    obtain ⟨q1, r1⟩ := at_block hb (b := w.heap.size + 1) (by simp)
    have B1 := hb0.trans (hb.mono (by simp; omega))
    have hz : w.heap.size + 1 < w1.heap.size := by have := hb.size; simp at this; omega
    clear hb h1
    go_wp2
    have BF := (((B1.setCell (p := ⟨w.heap.size + 1, 0, none⟩) (by dsimp only; omega) (.bool g)).setCell (p := ⟨w.heap.size + 1, 1, none⟩) (by dsimp only; omega) (.slice a xs.length c)).setCell (p := ⟨w.heap.size + 1, 2, none⟩) (by dsimp only; omega) (.bool h)).setCell (p := ⟨w.heap.size + 1, 3, none⟩) (by dsimp only; omega) (.slice b ys.length d)
    refine bodyPost_ret (v := .agg #[.bool g, .slice a xs.length c, .bool h, .slice b ys.length d]) (by simp [results, Try.results22, go_sem, q1]) rfl ?_
    exact ⟨_, rfl, IsFrac.right (hx.below BF) (hy.below BF) ap E.out, BF⟩
  · have h1' : fOk g xs h ys = false := by simpa using h1
    have E : Hid (fOk g xs h ys = false) := h1'
    clear h1
    go_enter Try.func22, Try.ntmps22
    go_wp2_with fail
    refine (implFracOk g h a b c d xs ys _ (hx.toSees.below hb0) (hy.toSees.below hb0)).mono ?_
    rintro e w1 ⟨rfl, hb⟩
    rw [h1']
    obtain ⟨q1, r1⟩ := at_block hb (b := w.heap.size + 1) (by simp)
    have B1 := hb0.trans (hb.mono (by simp; omega))
    have hz : w.heap.size + 1 < w1.heap.size := by have := hb.size; simp at this; omega
    clear hb h1' hx hy ap
    go_wp2_with fail
    refine (noughtC _).mono ?_
    rintro e w2 ⟨b2, c2, ds, rfl, ho, hn, hv, hb⟩
    have q2 := fun o => (hb.cell (p := ⟨w.heap.size + 1, o, none⟩) hz).trans (q1 o)
    have r2 := fun o => (hb.frozen (p := ⟨w.heap.size + 1, o, none⟩) hz).trans (r1 o)
    have B2 := B1.trans (hb.mono B1.size)
    have HO : Hid (Nrm ds ∧ val ds = 1) := ⟨hn, hv⟩
    clear hb q1 r1 hn hv
    go_wp2
    have BF := (((B2.setCell (p := ⟨w.heap.size + 1, 0, none⟩) (by dsimp only; omega) (.bool false)).setCell (p := ⟨w.heap.size + 1, 1, none⟩) (by dsimp only; omega) (.slice none 0 0)).setCell (p := ⟨w.heap.size + 1, 2, none⟩) (by dsimp only; omega) (.bool false)).setCell (p := ⟨w.heap.size + 1, 3, none⟩) (by dsimp only; omega) (.slice b2 ds.length c2)
    have OF := (((ho.setCell (p := ⟨w.heap.size + 1, 0, none⟩) hz (.bool false)).setCell (p := ⟨w.heap.size + 1, 1, none⟩) hz (.slice none 0 0)).setCell (p := ⟨w.heap.size + 1, 2, none⟩) hz (.bool false)).setCell (p := ⟨w.heap.size + 1, 3, none⟩) hz (.slice b2 ds.length c2)
    refine bodyPost_ret (v := .agg #[.bool false, .slice none 0 0, .bool false, .slice b2 ds.length c2]) (by simp [results, Try.results22, go_sem, q2]) rfl ?_
    exact ⟨_, rfl, IsFrac.wrong (OF.base_le (Nat.le_trans hbase B1.size)) HO.out.1 HO.out.2 E.out, BF⟩

end Go.Proofs.Ytfhcbgjnojcigaa
