/- Rings of points: their edges, twice their area; the specification's l5Edge, l5Twice, TwiceArea. -/
import Derived.Test.YtnjbedhealpgcaaGreatGapM
import Derived.BigRegion
namespace Go.Proofs.YtnjbedhealpgcaaGreat
open Go.RowKit

def ptA (ps : List (Int × Int)) (i : Nat) : Int × Int := ps[i]?.getD (0, 0)
def nx (n i : Nat) : Nat := (i + 1) % n
theorem nx_lt {n i : Nat} (h : i < n) : nx n i < n := Nat.mod_lt _ (by omega)
def term (ps : List (Int × Int)) (i : Nat) : Int := (ptA ps i).1 * (ptA ps (nx ps.length i)).2 - (ptA ps i).2 * (ptA ps (nx ps.length i)).1
def tw (ps : List (Int × Int)) : Nat → Int
 | 0 => 0
 | j + 1 => tw ps j + term ps j
theorem okL_at {ps : List (Int × Int)} (h : okL ps = true) {i : Nat} (hi : i < ps.length) : Crd (ptA ps i).1 ∧ Crd (ptA ps i).2 := by
 unfold okL at h
 rw [List.all_eq_true] at h
 have := h ps[i] (List.getElem_mem hi)
 unfold ptA
 rw [List.getElem?_eq_getElem hi]
 unfold ptOk at this
 simp only [Bool.and_eq_true, inB_true] at this
 exact this
theorem mul_crd {x y : Int} (hx : Crd x) (hy : Crd y) : -100000000000000 ≤ x * y ∧ x * y ≤ 100000000000000 := by
 obtain ⟨x0, x1⟩ := hx
 obtain ⟨y0, y1⟩ := hy
 have h : (x * y).natAbs ≤ 10000000 * 10000000 := by rw [Int.natAbs_mul]; exact Nat.mul_le_mul (by omega) (by omega)
 omega
theorem term_bound {ps : List (Int × Int)} (h : okL ps = true) {i : Nat} (hi : i < ps.length) : -200000000000000 ≤ term ps i ∧ term ps i ≤ 200000000000000 := by
 obtain ⟨a, b⟩ := okL_at h hi
 obtain ⟨c, d⟩ := okL_at h (nx_lt hi)
 have h1 := mul_crd a d
 have h2 := mul_crd b c
 unfold term
 omega
theorem tw_bound {ps : List (Int × Int)} (h : okL ps = true) : ∀ j, j ≤ ps.length → -(200000000000000 * (j : Int)) ≤ tw ps j ∧ tw ps j ≤ 200000000000000 * (j : Int)
 | 0, _ => by simp [tw]
 | j + 1, hj => by
  have h1 := tw_bound h j (by omega)
  have h2 := term_bound h (show j < ps.length by omega)
  simp only [tw]
  omega
set_option maxRecDepth 20000 in
set_option maxHeartbeats 1000000 in
theorem l5Edge_any (a : Option Addr) (c : Nat) (ps : List (Int × Int)) (i : Nat) (w : World) (h : SeesP w a c ps) (hi : i < ps.length) :
  Calls Tryz.prog 124 #[.slice a ps.length c, .int .i64 i] w fun e w' => e = .returned (.tuple #[.agg #[.int .i64 (ptA ps i).1, .int .i64 (ptA ps i).2], .agg #[.int .i64 (ptA ps (nx ps.length i)).1, .int .i64 (ptA ps (nx ps.length i)).2]]) ∧ Below w.heap.size w w' := by
 have hm := h.max
 have hf := h.fits
 unfold maxLen at hm
 have hj := nx_lt hi
 have hne : ((i : Int) + 1) % (ps.length : Int) = ((nx ps.length i : Nat) : Int) := by unfold nx; push_cast; rfl
 have hn0 : (0 : Int) < ps.length := by omega
 have bn := below2 w (.cells #[.int .i64 0, .int .i64 0] 38) (.cells #[.int .i64 0, .int .i64 0] 38)
 obtain ⟨b, off, rfl, hc⟩ := (h.below bn).cells (by intro e; simp [e] at hi)
 obtain ⟨g1, g2⟩ := hc i hi
 obtain ⟨g3, g4⟩ := hc (nx ps.length i) hj
 have R0 : Box2 w.heap.size ((w.alloc (.cells #[.int .i64 0, .int .i64 0] 38)).alloc (.cells #[.int .i64 0, .int .i64 0] 38)) w.heap.size (.int .i64 0) (.int .i64 0) := (Box2.new w (Nat.le_refl _) _ _ _).below (below1 _ _)
 have R1 : Box2 w.heap.size ((w.alloc (.cells #[.int .i64 0, .int .i64 0] 38)).alloc (.cells #[.int .i64 0, .int .i64 0] 38)) (w.heap.size + 1) (.int .i64 0) (.int .i64 0) := by have := Box2.new (w.alloc (.cells #[.int .i64 0, .int .i64 0] 38)) (lo := w.heap.size) (by simp) (.int .i64 0) (.int .i64 0) 38; simpa using this
 have hbw : b < w.heap.size := by
  obtain ⟨b', off', e', hc'⟩ := h.cells (by intro e; simp [e] at hi)
  simp only [Option.some.injEq, Addr.mk.injEq] at e'
  obtain ⟨rfl, rfl, _⟩ := e'
  exact World.block_lt_of_cell? _ _ (hc' i hi).1
 clear h hc
 unfold ptA
 generalize nx ps.length i = m at *
 generalize (ps[i]?.getD (0, 0)).1 = x at *
 generalize (ps[i]?.getD (0, 0)).2 = y at *
 generalize (ps[m]?.getD (0, 0)).1 = u at *
 generalize (ps[m]?.getD (0, 0)).2 = v at *
 go_enter Tryz.func124, Tryz.ntmps124
 go_wp2_with fail
 generalize (w.alloc (.cells #[.int .i64 0, .int .i64 0] 38)).alloc (.cells #[.int .i64 0, .int .i64 0] 38) = W at *
 obtain ⟨r0, r1, rf, _⟩ := id R0
 obtain ⟨r2, r3, rg, _⟩ := id R1
 go_region
 replace bn := below_put' (b := w.heap.size + 1) (below_put' (b := w.heap.size) bn (Nat.le_refl _) (.int .i64 x) (.int .i64 y)) (by omega) (.int .i64 u) (.int .i64 v)
 go_wp2
 exact bodyPost_ret (v := .tuple #[.agg #[.int .i64 x, .int .i64 y], .agg #[.int .i64 u, .int .i64 v]]) (by simp [results, Tryz.results124, go_sem, r0, r1, r2, r3]) rfl ⟨rfl, bn.drew⟩

set_option maxRecDepth 20000 in
set_option maxHeartbeats 1000000 in
theorem l5Twice_any (a : Option Addr) (c : Nat) (ps : List (Int × Int)) (w : World) (h : SeesP w a c ps) (hs : ps.length ≤ 60) (ok : okL ps = true) :
  Calls Tryz.prog 93 #[.slice a ps.length c] w fun e w' => e = .returned (.int .i64 (tw ps ps.length)) ∧ Below w.heap.size w w' := by
 have hm := h.max
 have hf := h.fits
 unfold maxLen at hm
 go_enter Tryz.func93, Tryz.ntmps93
 go_wp2
 go_loopw [3, 4] (fun s3 s4 wr => ∃ j : Nat, j ≤ ps.length ∧ s4 = .int .i64 j ∧ s3 = .int .i64 (tw ps j) ∧ Below w.heap.size w wr) (fun _ s4 _ => ps.length - (intOf s4).toNat)
 case atStart => exact ⟨0, Nat.zero_le _, rfl, rfl, Below.refl _ _⟩
 case round =>
  obtain ⟨j, hj, rfl, rfl, B⟩ := hrel
  rename World => wr
  by_cases hlt : j < ps.length
  ·obtain ⟨t0, t1⟩ := tw_bound ok j hj
   obtain ⟨a1, a2⟩ := okL_at ok hlt
   obtain ⟨a3, a4⟩ := okL_at ok (nx_lt hlt)
   have m1 := mul_crd a1 a4
   have m2 := mul_crd a3 a2
   have E : Hid (tw ps (j + 1) = tw ps j + (ptA ps j).1 * (ptA ps (nx ps.length j)).2 - (ptA ps (nx ps.length j)).1 * (ptA ps j).2) := by
    show _ = _
    simp only [tw, term]
    rw [Int.mul_comm (ptA ps (nx ps.length j)).1]
    omega
   go_wp2_with fail
   refine (l5Edge_any a c ps j _ (h.below B) hlt).mono ?_
   rintro e w1 ⟨rfl, hb⟩
   replace B := B.trans (hb.mono B.size)
   clear hb a1 a2 a3 a4
   generalize (ptA ps j).1 = x at *
   generalize (ptA ps j).2 = y at *
   generalize (ptA ps (nx ps.length j)).1 = u at *
   generalize (ptA ps (nx ps.length j)).2 = v at *
   have t2 : -12000000000000000 ≤ tw ps j := by omega
   have t3 : tw ps j ≤ 12000000000000000 := by omega
   clear t0 t1
   obtain ⟨m3, m4⟩ := m1
   obtain ⟨m5, m6⟩ := m2
   go_wp2
   replace B := B.trans ((below2 w1 (.cells #[.int .i64 x, .int .i64 y] 38) (.cells #[.int .i64 u, .int .i64 v] 38)).mono B.size)
   go_roundw
   case rel => exact ⟨j + 1, by omega, by go_num, by rw [E.out], B⟩
   case measure => simp [intOf]; omega
  ·obtain rfl : j = ps.length := by omega
   go_wp2
   go_ret
   exact ⟨rfl, B⟩

end Go.Proofs.YtnjbedhealpgcaaGreat
