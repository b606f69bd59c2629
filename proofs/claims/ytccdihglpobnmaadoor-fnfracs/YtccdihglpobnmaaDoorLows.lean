/- Lowest of both. -/
import Derived.Test.YtccdihglpobnmaaDoorFTake
import Derived.Test.YtccdihglpobnmaaDoorSLow
namespace Go.Proofs.YtccdihglpobnmaaDoor
open Go.RowKit

theorem fD_gt (g : Bool) (xs : List Int) (h : Bool) (ys : List Int) : 0 < fD g xs h ys := by
  unfold fD
  split
  · next e =>
    unfold fOk at e
    simp only [Bool.and_eq_true, decide_eq_true_eq] at e
    have := e.2
    unfold cmpZ at this
    split at this
    · omega
    · split at this <;> omega
  · decide
theorem gcd_mg (x y : Int) : Int.gcd (mg x) (mg y) = Int.gcd x y := by
  unfold mg
  split <;> split <;> simp
theorem low_parts {n d : Int} {u1 u2 : List Int} (v1 : val u1 = mg n) (v2 : val u2 = mg d) (hd : 0 < d) : sg (decide (n < 0)) (val u1) / (Int.gcd (val u1) (val u2) : Int) = n / (Int.gcd n d : Int) ∧ val u2 / (Int.gcd (val u1) (val u2) : Int) = d / (Int.gcd n d : Int) ∧ u2 ≠ [] := by
  have e2 : mg d = d := by unfold mg; rw [if_neg (by omega)]
  refine ⟨?_, ?_, ?_⟩
  · rw [v1, v2, gcd_mg]
    congr 1
    unfold sg mg
    by_cases h : n < 0 <;> simp [h]
  · rw [v1, v2, gcd_mg, e2]
  · rintro rfl
    rw [e2] at v2
    simp only [val] at v2
    omega

set_option maxRecDepth 20000 in
set_option maxHeartbeats 2000000 in
theorem implLowest (g h : Bool) (a b : Option Addr) (c d : Nat) (xs ys : List Int) (w : World) (hx : Sees w a c xs) (hy : Sees w b d ys) :
    Calls Tryd.prog 19 #[.agg #[.bool g, .slice a xs.length c, .bool h, .slice b ys.length d]] w fun e w' => ∃ v, e = .returned v ∧ IsFrac w.heap.size w' v (fN g xs h ys / Int.gcd (fN g xs h ys) (fD g xs h ys)) (fD g xs h ys / Int.gcd (fN g xs h ys) (fD g xs h ys)) ∧ Below w.heap.size w w' := by
  have B0 := below2 w (.cells #[.bool g, .slice a xs.length c, .bool h, .slice b ys.length d] 42) (.cells #[.bool false, .slice none 0 0, .bool false, .slice none 0 0] 42)
  have hp := fD_gt g xs h ys
  obtain ⟨n1, hn1⟩ : ∃ n, fN g xs h ys = n := ⟨_, rfl⟩
  obtain ⟨d1, hd1⟩ : ∃ n, fD g xs h ys = n := ⟨_, rfl⟩
  rw [hd1] at hp
  have HN : Hid (fN g xs h ys = n1 ∧ fD g xs h ys = d1) := ⟨hn1, hd1⟩
  rw [hn1, hd1]
  clear hn1 hd1
  go_enter Tryd.func19, Tryd.ntmps19
  go_wp2_with fail
  refine (implTakenF g h a b c d xs ys _ (hx.below B0) (hy.below B0)).mono ?_
  rintro e w1 ⟨v, rfl, hI, hb1⟩
  rw [HN.out.1, HN.out.2] at hI
  obtain ⟨p1, q1, u1, p2, q2, u2, rfl, s1, s2, e1, e2, v1, v2, l1, l2⟩ := hI
  obtain ⟨E1, E2, hne⟩ := low_parts v1 v2 hp
  have EE : Hid (sg (decide (n1 < 0)) (val u1) / (Int.gcd (val u1) (val u2) : Int) = n1 / (Int.gcd n1 d1 : Int) ∧ val u2 / (Int.gcd (val u1) (val u2) : Int) = d1 / (Int.gcd n1 d1 : Int)) := ⟨E1, E2⟩
  rw [show decide (d1 < 0) = false by simp; omega]
  obtain ⟨sd, hsd⟩ : ∃ x, decide (n1 < 0) = x := ⟨_, rfl⟩
  rw [hsd] at EE
  rw [hsd]
  obtain ⟨k1, r1⟩ := at_block hb1 (b := w.heap.size + 1) (by simp)
  have hz : w.heap.size + 1 < w1.heap.size := by have := hb1.size; simp at this; omega
  have B1 := B0.trans (hb1.mono (by simp; omega))
  clear hb1 v1 v2 hx hy hsd E1 E2 hp
  go_wp2_with fail
  refine (lowestC sd p1 p2 q1 q2 u1 u2 _ s1 s2 e1 e2 hne (by omega) (by omega)).mono ?_
  rintro e w2 ⟨v, rfl, hI, hb2⟩
  have hJ := (hI.eq EE.out.1 EE.out.2).base_le (show w.heap.size + 2 ≤ w1.heap.size by omega)
  obtain ⟨a5, c5, qs, a6, c6, rs, rfl, _⟩ := hI
  have k2 := fun o => (hb2.cell (p := ⟨w.heap.size + 1, o, none⟩) hz).trans (k1 o)
  have r2 := fun o => (hb2.frozen (p := ⟨w.heap.size + 1, o, none⟩) hz).trans (r1 o)
  have B2 := B1.trans (hb2.mono B1.size)
  generalize decide (sg sd (val u1) / (Int.gcd (val u1) (val u2) : Int) < 0) = f5 at *
  generalize decide (val u2 / (Int.gcd (val u1) (val u2) : Int) < 0) = f6 at *
  have JP := hJ.put (b := w.heap.size + 1) (b0 := w.heap.size) (by omega) (by omega) (.bool f5) (.slice a5 qs.length c5) (.bool f6) (.slice a6 rs.length c6)
  have BP := below_put4 (b := w.heap.size + 1) B2 (by omega) (.bool f5) (.slice a5 qs.length c5) (.bool f6) (.slice a6 rs.length c6)
  clear hb2 k1 r1 s1 s2 e1 e2 hne hJ B0 B1 B2
  go_wp2
  exact bodyPost_ret (v := .agg #[.bool f5, .slice a5 qs.length c5, .bool f6, .slice a6 rs.length c6]) (by simp [results, Tryd.results19, go_sem, k2]) rfl ⟨_, rfl, JP, BP⟩

end Go.Proofs.YtccdihglpobnmaaDoor
