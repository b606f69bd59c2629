import Derived.Test.YtecjeomcbcpfiaaGreatBase
import Derived.BigRegion
import Derived.Deep.RegionHeld3
/- Rings of points: their edges, twice their area; the specification's l5Edge, l5Twice, TwiceArea. -/
namespace Go.Proofs.YtecjeomcbcpfiaaGreat
open Go.RowKit

/-- A point of a row. -/
def ptA (ps : List (Int × Int)) (i : Nat) : Int × Int := ps[i]?.getD (0, 0)
/-- The place behind a place, around. -/
def nx (n i : Nat) : Nat := (i + 1) % n
theorem nx_lt {n i : Nat} (h : i < n) : nx n i < n := Nat.mod_lt _ (by omega)
/-- What an edge adds to twice the area. -/
def term (ps : List (Int × Int)) (i : Nat) : Int := (ptA ps i).1 * (ptA ps (nx ps.length i)).2 - (ptA ps i).2 * (ptA ps (nx ps.length i)).1
def tw (ps : List (Int × Int)) : Nat → Int
  | 0 => 0
  | j + 1 => tw ps j + term ps j
theorem okL_at {ps : List (Int × Int)} (h : okL ps = true) {i : Nat} (hi : i < ps.length) : Crd (ptA ps i).1 ∧ Crd (ptA ps i).2 := by
  unfold okL at h
  rw [List.all_eq_true] at h
  have := h ps[i] (List.getElem_mem hi)
  unfold ptA
  rw [List.getElem?_eq_getElem hi]
  unfold ptOk at this
  simp only [Bool.and_eq_true, inB_true] at this
  exact this
theorem mul_crd {x y : Int} (hx : Crd x) (hy : Crd y) : -100000000000000 ≤ x * y ∧ x * y ≤ 100000000000000 := by
  obtain ⟨x0, x1⟩ := hx
  obtain ⟨y0, y1⟩ := hy
  have h : (x * y).natAbs ≤ 10000000 * 10000000 := by rw [Int.natAbs_mul]; exact Nat.mul_le_mul (by omega) (by omega)
  omega
theorem term_bound {ps : List (Int × Int)} (h : okL ps = true) {i : Nat} (hi : i < ps.length) : -200000000000000 ≤ term ps i ∧ term ps i ≤ 200000000000000 := by
  obtain ⟨a, b⟩ := okL_at h hi
  obtain ⟨c, d⟩ := okL_at h (nx_lt hi)
  have h1 := mul_crd a d
  have h2 := mul_crd b c
  unfold term
  omega
theorem tw_bound {ps : List (Int × Int)} (h : okL ps = true) : ∀ j, j ≤ ps.length → -(200000000000000 * (j : Int)) ≤ tw ps j ∧ tw ps j ≤ 200000000000000 * (j : Int)
  | 0, _ => by simp [tw]
  | j + 1, hj => by
    have h1 := tw_bound h j (by omega)
    have h2 := term_bound h (show j < ps.length by omega)
    simp only [tw]
    omega
/-- Twice the area, as it is answered. -/
def twA (ps : List (Int × Int)) : Int := if ps.length ≤ 60 ∧ okL ps = true then tw ps ps.length else 0

set_option maxRecDepth 20000 in
set_option maxHeartbeats 1000000 in
theorem l5Edge_any (a : Option Addr) (c : Nat) (ps : List (Int × Int)) (i : Nat) (w : World) (h : SeesP w a c ps) (hi : i < ps.length) :
    Calls Tryz.prog 82 #[.slice a ps.length c, .int .i64 i] w fun e w' => e = .returned (.tuple #[.agg #[.int .i64 (ptA ps i).1, .int .i64 (ptA ps i).2], .agg #[.int .i64 (ptA ps (nx ps.length i)).1, .int .i64 (ptA ps (nx ps.length i)).2]]) ∧ Below w.heap.size w w' := by
  have hm := h.max
  have hf := h.fits
  unfold maxLen at hm
  have hj := nx_lt hi
  have hne : ((i : Int) + 1) % (ps.length : Int) = ((nx ps.length i : Nat) : Int) := by unfold nx; push_cast; rfl
  have hn0 : (0 : Int) < ps.length := by omega
  have bn := below2 w (.cells #[.int .i64 0, .int .i64 0] 32) (.cells #[.int .i64 0, .int .i64 0] 32)
  obtain ⟨b, off, rfl, hc⟩ := (h.below bn).cells (by intro e; simp [e] at hi)
  obtain ⟨g1, g2⟩ := hc i hi
  obtain ⟨g3, g4⟩ := hc (nx ps.length i) hj
  have R0 : Box2 w.heap.size ((w.alloc (.cells #[.int .i64 0, .int .i64 0] 32)).alloc (.cells #[.int .i64 0, .int .i64 0] 32)) w.heap.size (.int .i64 0) (.int .i64 0) := (Box2.new w (Nat.le_refl _) _ _ _).below (below1 _ _)
  have R1 : Box2 w.heap.size ((w.alloc (.cells #[.int .i64 0, .int .i64 0] 32)).alloc (.cells #[.int .i64 0, .int .i64 0] 32)) (w.heap.size + 1) (.int .i64 0) (.int .i64 0) := by have := Box2.new (w.alloc (.cells #[.int .i64 0, .int .i64 0] 32)) (lo := w.heap.size) (by simp) (.int .i64 0) (.int .i64 0) 32; simpa using this
  have hbw : b < w.heap.size := by
    obtain ⟨b', off', e', hc'⟩ := h.cells (by intro e; simp [e] at hi)
    simp only [Option.some.injEq, Addr.mk.injEq] at e'
    obtain ⟨rfl, rfl, _⟩ := e'
    exact World.block_lt_of_cell? _ _ (hc' i hi).1
  clear h hc
  unfold ptA
  generalize nx ps.length i = m at *
  generalize (ps[i]?.getD (0, 0)).1 = x at *
  generalize (ps[i]?.getD (0, 0)).2 = y at *
  generalize (ps[m]?.getD (0, 0)).1 = u at *
  generalize (ps[m]?.getD (0, 0)).2 = v at *
  go_enter Tryz.func82, Tryz.ntmps82
  go_wp2_with fail
  generalize (w.alloc (.cells #[.int .i64 0, .int .i64 0] 32)).alloc (.cells #[.int .i64 0, .int .i64 0] 32) = W at *
  obtain ⟨r0, r1, rf, _⟩ := id R0
  obtain ⟨r2, r3, rg, _⟩ := id R1
  go_region
  replace bn := below_put' (b := w.heap.size + 1) (below_put' (b := w.heap.size) bn (Nat.le_refl _) (.int .i64 x) (.int .i64 y)) (by omega) (.int .i64 u) (.int .i64 v)
  go_wp2
  exact bodyPost_ret (v := .tuple #[.agg #[.int .i64 x, .int .i64 y], .agg #[.int .i64 u, .int .i64 v]]) (by simp [results, Tryz.results82, go_sem, r0, r1, r2, r3]) rfl ⟨rfl, bn.drew⟩

set_option maxRecDepth 20000 in
set_option maxHeartbeats 1000000 in
theorem l5Twice_any (a : Option Addr) (c : Nat) (ps : List (Int × Int)) (w : World) (h : SeesP w a c ps) (hs : ps.length ≤ 60) (ok : okL ps = true) :
    Calls Tryz.prog 79 #[.slice a ps.length c] w fun e w' => e = .returned (.int .i64 (tw ps ps.length)) ∧ Below w.heap.size w w' := by
  have hm := h.max
  have hf := h.fits
  unfold maxLen at hm
  go_enter Tryz.func79, Tryz.ntmps79
  go_wp2
  go_loopw [3, 4] (fun s3 s4 wr => ∃ j : Nat, j ≤ ps.length ∧ s4 = .int .i64 j ∧ s3 = .int .i64 (tw ps j) ∧ Below w.heap.size w wr) (fun _ s4 _ => ps.length - (intOf s4).toNat)
  case atStart => exact ⟨0, Nat.zero_le _, rfl, rfl, Below.refl _ _⟩
  case round =>
    obtain ⟨j, hj, rfl, rfl, B⟩ := hrel
    rename World => wr
    by_cases hlt : j < ps.length
    · obtain ⟨t0, t1⟩ := tw_bound ok j hj
      obtain ⟨a1, a2⟩ := okL_at ok hlt
      obtain ⟨a3, a4⟩ := okL_at ok (nx_lt hlt)
      have m1 := mul_crd a1 a4
      have m2 := mul_crd a3 a2
      have E : Hid (tw ps (j + 1) = tw ps j + (ptA ps j).1 * (ptA ps (nx ps.length j)).2 - (ptA ps (nx ps.length j)).1 * (ptA ps j).2) := by
        show _ = _
        simp only [tw, term]
        rw [Int.mul_comm (ptA ps (nx ps.length j)).1]
        omega
      go_wp2_with fail
      refine (l5Edge_any a c ps j _ (h.below B) hlt).mono ?_
      rintro e w1 ⟨rfl, hb⟩
      replace B := B.trans (hb.mono B.size)
      clear hb a1 a2 a3 a4
      generalize (ptA ps j).1 = x at *
      generalize (ptA ps j).2 = y at *
      generalize (ptA ps (nx ps.length j)).1 = u at *
      generalize (ptA ps (nx ps.length j)).2 = v at *
      have t2 : -12000000000000000 ≤ tw ps j := by omega
      have t3 : tw ps j ≤ 12000000000000000 := by omega
      clear t0 t1
      obtain ⟨m3, m4⟩ := m1
      obtain ⟨m5, m6⟩ := m2
      go_wp2
      replace B := B.trans ((below2 w1 (.cells #[.int .i64 x, .int .i64 y] 32) (.cells #[.int .i64 u, .int .i64 v] 32)).mono B.size)
      go_roundw
      case rel => exact ⟨j + 1, by omega, by go_num, by rw [E.out], B⟩
      case measure => simp [intOf]; omega
    · obtain rfl : j = ps.length := by omega
      go_wp2
      go_ret
      exact ⟨rfl, B⟩

end Go.Proofs.YtecjeomcbcpfiaaGreat

/- Turns: of the program, of the specification. -/
namespace Go.Proofs.YtecjeomcbcpfiaaGreat
open Go.RowKit

set_option maxRecDepth 20000 in
set_option maxHeartbeats 2000000 in
theorem turn_any (x1 y1 x2 y2 x3 y3 : Int) (w : World) (c1 : Crd x1) (d1 : Crd y1) (c2 : Crd x2) (d2 : Crd y2) (c3 : Crd x3) (d3 : Crd y3) :
    Calls Tryz.prog 109 #[.agg #[.int .i64 x1, .int .i64 y1], .agg #[.int .i64 x2, .int .i64 y2], .agg #[.int .i64 x3, .int .i64 y3]] w fun e w' => e = .returned (.int .i64 (sgn1 (ar x1 y1 x2 y2 x3 y3))) ∧ Below w.heap.size w w' := by
  have k0 := ptbox3 w x1 y1 x2 y2 x3 y3 32
  have B0 := ptbelow3 w x1 y1 x2 y2 x3 y3 32
  have e1 := c2.dif c1
  have e2 := d2.dif d1
  have e3 := c3.dif c1
  have e4 := d3.dif d1
  have H : Hid ((x2 - x1) * (y3 - y1) - (y2 - y1) * (x3 - x1) = ar x1 y1 x2 y2 x3 y3) := (rfl : _ = ar x1 y1 x2 y2 x3 y3)
  go_enter Tryz.func109, Tryz.ntmps109
  go_wp2_with fail
  generalize (((w.alloc (.cells #[.int .i64 x1, .int .i64 y1] 32)).alloc (.cells #[.int .i64 x2, .int .i64 y2] 32)).alloc (.cells #[.int .i64 x3, .int .i64 y3] 32)) = W0 at *
  have B : Below W0.heap.size W0 W0 := Below.refl _ _
  go_region_held3 (fun w' => w'.cell? ⟨w.heap.size, 0, none⟩ = some (.int .i64 x1) ∧ w'.cell? ⟨w.heap.size, 1, none⟩ = some (.int .i64 y1) ∧ w'.cell? ⟨w.heap.size + 1, 0, none⟩ = some (.int .i64 x2) ∧ w'.cell? ⟨w.heap.size + 1, 1, none⟩ = some (.int .i64 y2) ∧ w'.cell? ⟨w.heap.size + 1 + 1, 0, none⟩ = some (.int .i64 x3) ∧ w'.cell? ⟨w.heap.size + 1 + 1, 1, none⟩ = some (.int .i64 y3))
    (first | exact k0 | exact ptkeep3 k0 B | exact ptkeep3 k0 B.drew)
    (first
    | (go_at_call 113; refine (way_any _ _ _ _ _ (by assumption) (by assumption) (by assumption) (by assumption)).mono ?_; rintro e w1 ⟨rfl, hb⟩; (first | replace B := B.trans (hb.mono B.size) | replace B := B.drew.trans (hb.mono B.drew.size)))
    | (go_at_call 97; refine (across_any _ _ _ _ _ (by assumption) (by assumption) (by assumption) (by assumption)).mono ?_; rintro e w1 ⟨rfl, hb⟩; (first | replace B := B.trans (hb.mono B.size) | replace B := B.drew.trans (hb.mono B.drew.size)); rw [H.out])
    | (go_at_call 112; refine (compare0 _ _).mono ?_; rintro e w1 ⟨rfl, rfl⟩))
  all_goals
    go_wp2
    go_ret
    exact ⟨rfl, B0.trans (B.mono B0.size)⟩

end Go.Proofs.YtecjeomcbcpfiaaGreat

/- An operation of a region that draws its order, taken first: one that is wanted, one that is not. -/
namespace Go.Proofs.YtecjeomcbcpfiaaGreat

theorem takeW {P : Program} {ops : Array Oper} {Q : Exit → Act → World → Prop} {md : Region.Mode} {S : World → Prop} {i : Nat} {oi : Oper} {v : Value} {fuel : Nat} {listed : Array Bool} {a : Act} {w : World} (hi : ops[i]? = some oi)
    (hs : Region.noSelect ops = true) (hf : Region.free md ops listed i = true) (hr : (Region.ready md ops listed).contains i = true)
    (hQ : ∀ c a w, Q (.panic c) (a.put oi.dst v) w → Q (.panic c) a w) (hw : Region.wanted oi (yielded ops a.tmps) = true)
    (hy : ∀ w, S w → (execOp a.eval oi).run P w = .ok (.value v) w) (hS : S w)
    (h : wpAnyH P md ops Q S fuel (listed.setIfInBounds i true) (a.put oi.dst v) w) : wpAnyH P md ops Q S (fuel + 1) listed a w :=
  wpAnyH_take hi hs hf hr hQ (Or.inl ⟨hw, hy⟩) hS h
theorem takeN {P : Program} {ops : Array Oper} {Q : Exit → Act → World → Prop} {md : Region.Mode} {S : World → Prop} {i : Nat} {oi : Oper} {fuel : Nat} {listed : Array Bool} {a : Act} {w : World} (hi : ops[i]? = some oi)
    (hs : Region.noSelect ops = true) (hf : Region.free md ops listed i = true) (hr : (Region.ready md ops listed).contains i = true)
    (hQ : ∀ c a w, Q (.panic c) (a.put oi.dst undef) w → Q (.panic c) a w) (hw : Region.wanted oi (yielded ops a.tmps) = false) (hS : S w)
    (h : wpAnyH P md ops Q S fuel (listed.setIfInBounds i true) (a.put oi.dst undef) w) : wpAnyH P md ops Q S (fuel + 1) listed a w :=
  wpAnyH_take hi hs hf hr hQ (Or.inr ⟨hw, rfl⟩) hS h
end Go.Proofs.YtecjeomcbcpfiaaGreat
