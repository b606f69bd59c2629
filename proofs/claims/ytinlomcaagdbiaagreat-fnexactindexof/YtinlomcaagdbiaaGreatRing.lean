import Derived.Test.YtinlomcaagdbiaaGreatPtB
import Derived.BigRegion
import Derived.Test.YtinlomcaagdbiaaGreatPtsL
import Derived.Test.YtinlomcaagdbiaaGreatProg
import Derived.Test.YtinlomcaagdbiaaGreatBase
import Derived.WalkKit
import Derived.WalkSpells
import Derived.WalkLawsBesides
import Derived.BigQuiet
import Derived.Deep.QuietTactic
import Derived.Laws.AppendOwnNone
import Derived.Laws.CopyOwn
import Derived.Maps.AppendAt
import Derived.Laws.IdiomStrings
import Derived.Deep.LoopGhost
/- Rings of points: their edges, twice their area; the specification's l5Edge, l5Twice, TwiceArea. -/
namespace Go.Proofs.YtinlomcaagdbiaaGreat
open Go.RowKit

def ptA (ps : List (Int × Int)) (i : Nat) : Int × Int := ps[i]?.getD (0, 0)
def nx (n i : Nat) : Nat := (i + 1) % n
theorem nx_lt {n i : Nat} (h : i < n) : nx n i < n := Nat.mod_lt _ (by omega)
def term (ps : List (Int × Int)) (i : Nat) : Int := (ptA ps i).1 * (ptA ps (nx ps.length i)).2 - (ptA ps i).2 * (ptA ps (nx ps.length i)).1
def tw (ps : List (Int × Int)) : Nat → Int
 | 0 => 0
 | j + 1 => tw ps j + term ps j
theorem okL_at {ps : List (Int × Int)} (h : okL ps = true) {i : Nat} (hi : i < ps.length) : Crd (ptA ps i).1 ∧ Crd (ptA ps i).2 := by
 unfold okL at h
 rw [List.all_eq_true] at h
 have := h ps[i] (List.getElem_mem hi)
 unfold ptA
 rw [List.getElem?_eq_getElem hi]
 unfold ptOk at this
 simp only [Bool.and_eq_true, inB_true] at this
 exact this
theorem mul_crd {x y : Int} (hx : Crd x) (hy : Crd y) : -100000000000000 ≤ x * y ∧ x * y ≤ 100000000000000 := by
 obtain ⟨x0, x1⟩ := hx
 obtain ⟨y0, y1⟩ := hy
 have h : (x * y).natAbs ≤ 10000000 * 10000000 := by rw [Int.natAbs_mul]; exact Nat.mul_le_mul (by omega) (by omega)
 omega
theorem term_bound {ps : List (Int × Int)} (h : okL ps = true) {i : Nat} (hi : i < ps.length) : -200000000000000 ≤ term ps i ∧ term ps i ≤ 200000000000000 := by
 obtain ⟨a, b⟩ := okL_at h hi
 obtain ⟨c, d⟩ := okL_at h (nx_lt hi)
 have h1 := mul_crd a d
 have h2 := mul_crd b c
 unfold term
 omega
theorem tw_bound {ps : List (Int × Int)} (h : okL ps = true) : ∀ j, j ≤ ps.length → -(200000000000000 * (j : Int)) ≤ tw ps j ∧ tw ps j ≤ 200000000000000 * (j : Int)
 | 0, _ => by simp [tw]
 | j + 1, hj => by
  have h1 := tw_bound h j (by omega)
  have h2 := term_bound h (show j < ps.length by omega)
  simp only [tw]
  omega
set_option maxRecDepth 20000 in
set_option maxHeartbeats 1000000 in
theorem l5Edge_any (a : Option Addr) (c : Nat) (ps : List (Int × Int)) (i : Nat) (w : World) (h : SeesP w a c ps) (hi : i < ps.length) :
  Calls Tryz.prog 112 #[.slice a ps.length c, .int .i64 i] w fun e w' => e = .returned (.tuple #[.agg #[.int .i64 (ptA ps i).1, .int .i64 (ptA ps i).2], .agg #[.int .i64 (ptA ps (nx ps.length i)).1, .int .i64 (ptA ps (nx ps.length i)).2]]) ∧ Below w.heap.size w w' := by
 have hm := h.max
 have hf := h.fits
 unfold maxLen at hm
 have hj := nx_lt hi
 have hne : ((i : Int) + 1) % (ps.length : Int) = ((nx ps.length i : Nat) : Int) := by unfold nx; push_cast; rfl
 have hn0 : (0 : Int) < ps.length := by omega
 have bn := below2 w (.cells #[.int .i64 0, .int .i64 0] 25) (.cells #[.int .i64 0, .int .i64 0] 25)
 obtain ⟨b, off, rfl, hc⟩ := (h.below bn).cells (by intro e; simp [e] at hi)
 obtain ⟨g1, g2⟩ := hc i hi
 obtain ⟨g3, g4⟩ := hc (nx ps.length i) hj
 have R0 : Box2 w.heap.size ((w.alloc (.cells #[.int .i64 0, .int .i64 0] 25)).alloc (.cells #[.int .i64 0, .int .i64 0] 25)) w.heap.size (.int .i64 0) (.int .i64 0) := (Box2.new w (Nat.le_refl _) _ _ _).below (below1 _ _)
 have R1 : Box2 w.heap.size ((w.alloc (.cells #[.int .i64 0, .int .i64 0] 25)).alloc (.cells #[.int .i64 0, .int .i64 0] 25)) (w.heap.size + 1) (.int .i64 0) (.int .i64 0) := by have := Box2.new (w.alloc (.cells #[.int .i64 0, .int .i64 0] 25)) (lo := w.heap.size) (by simp) (.int .i64 0) (.int .i64 0) 25; simpa using this
 have hbw : b < w.heap.size := by
  obtain ⟨b', off', e', hc'⟩ := h.cells (by intro e; simp [e] at hi)
  simp only [Option.some.injEq, Addr.mk.injEq] at e'
  obtain ⟨rfl, rfl, _⟩ := e'
  exact World.block_lt_of_cell? _ _ (hc' i hi).1
 clear h hc
 unfold ptA
 generalize nx ps.length i = m at *
 generalize (ps[i]?.getD (0, 0)).1 = x at *
 generalize (ps[i]?.getD (0, 0)).2 = y at *
 generalize (ps[m]?.getD (0, 0)).1 = u at *
 generalize (ps[m]?.getD (0, 0)).2 = v at *
 go_enter Tryz.func112, Tryz.ntmps112
 go_wp2_with fail
 generalize (w.alloc (.cells #[.int .i64 0, .int .i64 0] 25)).alloc (.cells #[.int .i64 0, .int .i64 0] 25) = W at *
 obtain ⟨r0, r1, rf, _⟩ := id R0
 obtain ⟨r2, r3, rg, _⟩ := id R1
 go_region
 replace bn := below_put' (b := w.heap.size + 1) (below_put' (b := w.heap.size) bn (Nat.le_refl _) (.int .i64 x) (.int .i64 y)) (by omega) (.int .i64 u) (.int .i64 v)
 go_wp2
 exact bodyPost_ret (v := .tuple #[.agg #[.int .i64 x, .int .i64 y], .agg #[.int .i64 u, .int .i64 v]]) (by simp [results, Tryz.results112, go_sem, r0, r1, r2, r3]) rfl ⟨rfl, bn.drew⟩

set_option maxRecDepth 20000 in
set_option maxHeartbeats 1000000 in
theorem l5Twice_any (a : Option Addr) (c : Nat) (ps : List (Int × Int)) (w : World) (h : SeesP w a c ps) (hs : ps.length ≤ 60) (ok : okL ps = true) :
  Calls Tryz.prog 89 #[.slice a ps.length c] w fun e w' => e = .returned (.int .i64 (tw ps ps.length)) ∧ Below w.heap.size w w' := by
 have hm := h.max
 have hf := h.fits
 unfold maxLen at hm
 go_enter Tryz.func89, Tryz.ntmps89
 go_wp2
 go_loopw [3, 4] (fun s3 s4 wr => ∃ j : Nat, j ≤ ps.length ∧ s4 = .int .i64 j ∧ s3 = .int .i64 (tw ps j) ∧ Below w.heap.size w wr) (fun _ s4 _ => ps.length - (intOf s4).toNat)
 case atStart => exact ⟨0, Nat.zero_le _, rfl, rfl, Below.refl _ _⟩
 case round =>
  obtain ⟨j, hj, rfl, rfl, B⟩ := hrel
  rename World => wr
  by_cases hlt : j < ps.length
  ·obtain ⟨t0, t1⟩ := tw_bound ok j hj
   obtain ⟨a1, a2⟩ := okL_at ok hlt
   obtain ⟨a3, a4⟩ := okL_at ok (nx_lt hlt)
   have m1 := mul_crd a1 a4
   have m2 := mul_crd a3 a2
   have E : Hid (tw ps (j + 1) = tw ps j + (ptA ps j).1 * (ptA ps (nx ps.length j)).2 - (ptA ps (nx ps.length j)).1 * (ptA ps j).2) := by
    show _ = _
    simp only [tw, term]
    rw [Int.mul_comm (ptA ps (nx ps.length j)).1]
    omega
   go_wp2_with fail
   refine (l5Edge_any a c ps j _ (h.below B) hlt).mono ?_
   rintro e w1 ⟨rfl, hb⟩
   replace B := B.trans (hb.mono B.size)
   clear hb a1 a2 a3 a4
   generalize (ptA ps j).1 = x at *
   generalize (ptA ps j).2 = y at *
   generalize (ptA ps (nx ps.length j)).1 = u at *
   generalize (ptA ps (nx ps.length j)).2 = v at *
   have t2 : -12000000000000000 ≤ tw ps j := by omega
   have t3 : tw ps j ≤ 12000000000000000 := by omega
   clear t0 t1
   obtain ⟨m3, m4⟩ := m1
   obtain ⟨m5, m6⟩ := m2
   go_wp2
   replace B := B.trans ((below2 w1 (.cells #[.int .i64 x, .int .i64 y] 25) (.cells #[.int .i64 u, .int .i64 v] 25)).mono B.size)
   go_roundw
   case rel => exact ⟨j + 1, by omega, by go_num, by rw [E.out], B⟩
   case measure => simp [intOf]; omega
  ·obtain rfl : j = ps.length := by omega
   go_wp2
   go_ret
   exact ⟨rfl, B⟩

end Go.Proofs.YtinlomcaagdbiaaGreat

/- Rings of points: the program's edgesOf, twiceArea, TwiceArea. -/
namespace Go.Proofs.YtinlomcaagdbiaaGreat
open Go.RowKit

theorem ptWrong_any (x y : Int) (w : World) :
  Calls Tryz.prog 97 #[.agg #[.int .i64 x, .int .i64 y]] w fun e w' => e = .returned (.bool (!ptOk x y)) ∧ Below w.heap.size w w' := by
 have bn := below1 w (.cells #[.int .i64 x, .int .i64 y] 25)
 obtain ⟨t, ht⟩ : ∃ t, Hid (ptOk x y = t) := ⟨_, rfl⟩
 rw [ht.out]
 cases t
 all_goals
  go_enter Tryz.func97, Tryz.ntmps97
  go_wp2_with fail
  refine (implPtOk x y _).mono ?_
  rintro e w1 ⟨rfl, hb⟩
  rw [ht.out]
  replace bn := bn.trans (hb.mono bn.size)
  go_wp2
  go_ret
  exact ⟨rfl, bn⟩

structure SeesE (w : World) (g n j : Nat) (ps : List (Int × Int)) : Prop where
 c : ∀ i, i < j → w.cell? ⟨g, i * 4, none⟩ = some (.int .i64 (ptA ps i).1) ∧ w.cell? ⟨g, i * 4 + 1, none⟩ = some (.int .i64 (ptA ps i).2) ∧ w.cell? ⟨g, i * 4 + 2, none⟩ = some (.int .i64 (ptA ps (nx ps.length i)).1) ∧ w.cell? ⟨g, i * 4 + 3, none⟩ = some (.int .i64 (ptA ps (nx ps.length i)).2)
 u : ∀ o, j * 4 ≤ o → o < n * 4 → ∃ v, w.cell? ⟨g, o, none⟩ = some v
 fr : ∀ o, w.frozen? ⟨g, o, none⟩ = false
 lt : g < w.heap.size
theorem SeesE.below {w w' : World} {g n j : Nat} {ps : List (Int × Int)} (h : SeesE w g n j ps) (hb : Below w.heap.size w w') : SeesE w' g n j ps := by
 obtain ⟨q, r⟩ := at_block hb h.lt
 exact ⟨fun i hi => ⟨(q _).trans (h.c i hi).1, (q _).trans (h.c i hi).2.1, (q _).trans (h.c i hi).2.2.1, (q _).trans (h.c i hi).2.2.2⟩, fun o h1 h2 => by obtain ⟨v, hv⟩ := h.u o h1 h2; exact ⟨v, (q _).trans hv⟩, fun o => (r o).trans (h.fr o), Nat.lt_of_lt_of_le h.lt hb.size⟩
theorem SeesE.start {w : World} {base e g n : Nat} {xs : List Value} (ps : List (Int × Int)) (h : w.ownsRow base e 4 (.slice (some ⟨g, 0, none⟩) n n) n xs) : SeesE w g n 0 ps := by
 obtain ⟨h1, h2⟩ := h
 rcases h2 with ⟨h2, _⟩ | ⟨g', cap', cur, hv, hb, hh, hc, hm, hs, ht⟩
 ·cases h2
 simp only [Value.slice.injEq, Option.some.injEq, Addr.mk.injEq, and_true] at hv
 obtain ⟨rfl, _, rfl⟩ := hv
 refine ⟨fun i hi => absurd hi (by omega), fun k _ hk => ?_, fun o => by simp [World.frozen?, hh], ?_⟩
 ·rw [cell_of_row w g k cur e (0, 0) hh]
  exact ⟨cur[k]'(by omega), Array.getElem?_eq_getElem (by omega)⟩
 ·rcases Nat.lt_or_ge g w.heap.size with k | k
  ·exact k
  ·rw [Array.getElem?_eq_none k] at hh
   cases hh
theorem SeesE.step {w : World} {g n j : Nat} {ps : List (Int × Int)} (h : SeesE w g n j ps) (hj : j < n) {x y u v : Int} (hx : (ptA ps j).1 = x) (hy : (ptA ps j).2 = y) (hu : (ptA ps (nx ps.length j)).1 = u) (hv : (ptA ps (nx ps.length j)).2 = v) :
  SeesE ((((w.setCell ⟨g, j * 4, none⟩ (.int .i64 x)).setCell ⟨g, j * 4 + 1, none⟩ (.int .i64 y)).setCell ⟨g, j * 4 + 2, none⟩ (.int .i64 u)).setCell ⟨g, j * 4 + 3, none⟩ (.int .i64 v)) g n (j + 1) ps := by
 obtain ⟨v0, h0⟩ := h.u (j * 4) (by omega) (by omega)
 obtain ⟨v1, h1⟩ := h.u (j * 4 + 1) (by omega) (by omega)
 obtain ⟨v2, h2⟩ := h.u (j * 4 + 2) (by omega) (by omega)
 obtain ⟨v3, h3⟩ := h.u (j * 4 + 3) (by omega) (by omega)
 have other : ∀ o, o ≠ j * 4 → o ≠ j * 4 + 1 → o ≠ j * 4 + 2 → o ≠ j * 4 + 3 → ((((w.setCell ⟨g, j * 4, none⟩ (.int .i64 x)).setCell ⟨g, j * 4 + 1, none⟩ (.int .i64 y)).setCell ⟨g, j * 4 + 2, none⟩ (.int .i64 u)).setCell ⟨g, j * 4 + 3, none⟩ (.int .i64 v)).cell? ⟨g, o, none⟩ = w.cell? ⟨g, o, none⟩ := fun o e1 e2 e3 e4 =>
  (cell_other (.inr (Ne.symm e4)) _).trans ((cell_other (.inr (Ne.symm e3)) _).trans ((cell_other (.inr (Ne.symm e2)) _).trans (cell_other (.inr (Ne.symm e1)) _)))
 refine ⟨fun i hi => ?_, fun o h4 h5 => ?_, fun o => (((World.frozen?_setCell ..).trans (World.frozen?_setCell ..)).trans ((World.frozen?_setCell ..).trans (World.frozen?_setCell ..))).trans (h.fr o), by simpa using h.lt⟩
 ·by_cases e : i = j
  ·subst e
   rw [hx, hy, hu, hv]
   refine ⟨?_, ?_, ?_, ?_⟩
   ·exact (cell_other (.inr (by omega)) _).trans ((cell_other (.inr (by omega)) _).trans ((cell_other (.inr (by omega)) _).trans (cell_same h0 _)))
   ·exact (cell_other (.inr (by omega)) _).trans ((cell_other (.inr (by omega)) _).trans (cell_same ((cell_other (.inr (by omega)) _).trans h1) _))
   ·exact (cell_other (.inr (by omega)) _).trans (cell_same ((cell_other (.inr (by omega)) _).trans ((cell_other (.inr (by omega)) _).trans h2)) _)
   ·exact cell_same ((cell_other (.inr (by omega)) _).trans ((cell_other (.inr (by omega)) _).trans ((cell_other (.inr (by omega)) _).trans h3))) _
  ·rw [other _ (by omega) (by omega) (by omega) (by omega), other _ (by omega) (by omega) (by omega) (by omega), other _ (by omega) (by omega) (by omega) (by omega), other _ (by omega) (by omega) (by omega) (by omega)]
   exact h.c i (by omega)
 ·rw [other _ (by omega) (by omega) (by omega) (by omega)]
  exact h.u o (by omega) h5
end Go.Proofs.YtinlomcaagdbiaaGreat

/- Rings of points: the program's edgesOf, twiceArea, TwiceArea. -/
namespace Go.Proofs.YtinlomcaagdbiaaGreat
open Go.RowKit

theorem infoE : (Tryz.prog.info? 182).map (fun i => (i.zero, i.size, i.bytes)) = some (some (.agg #[.int .i64 0, .int .i64 0, .int .i64 0, .int .i64 0]), 4, 32) := by kernel_rfl

set_option maxRecDepth 20000 in
set_option maxHeartbeats 1000000 in
theorem edgesOf_any (a : Option Addr) (c : Nat) (ps : List (Int × Int)) (w : World) (h : SeesP w a c ps) (hs : ps.length ≤ 60) :
  Calls Tryz.prog 99 #[.slice a ps.length c] w fun e w' => e = .returned (.slice (some ⟨w.heap.size, 0, none⟩) ps.length ps.length) ∧ SeesE w' w.heap.size ps.length ps.length ps ∧ Below w.heap.size w w' := by
 obtain ⟨i0, hi, hz0, hz1, hz2⟩ := info_parts infoE
 have hm := h.max
 have hf := h.fits
 unfold maxLen at hm
 go_enter Tryz.func99, Tryz.ntmps99
 go_wp2_with (at_make; refine wpList_make_full _ rfl _ _ 161 rfl w.heap.size 182 i0 (.agg #[.int .i64 0, .int .i64 0, .int .i64 0, .int .i64 0]) 4 Tryz.underlying161 hi hz0 hz1 .i64 .i64 _ _ ps.length rfl rfl rfl rfl ?b2 ?b3 (Nat.le_refl _) ?_)
 case b2 => rw [hz2]; omega
 case b3 => unfold maxLen; omega
 intro w0 hown0 hgrow0
 have R := SeesE.start ps hown0
 have hb0 : Below w.heap.size w w0 := (Below.refl _ _).grown hgrow0 (Nat.le_refl _) (fun k h => by cases h)
 clear hown0 hgrow0 hi hz0 hz1 hz2
 go_wp2
 go_loopw [11] (fun s11 wr => ∃ j : Nat, j ≤ ps.length ∧ s11 = .int .i64 j ∧ SeesE wr w.heap.size ps.length j ps ∧ Below w.heap.size w wr) (fun s11 _ => ps.length - (intOf s11).toNat)
 case atStart => exact ⟨0, Nat.zero_le _, rfl, R, hb0⟩
 case round =>
  clear R hb0
  obtain ⟨j, hj, rfl, R, B⟩ := hrel
  rename World => wr
  by_cases hlt : j < ps.length
  ·have hjn := nx_lt hlt
   have hne : ((j : Int) + 1) % (ps.length : Int) = ((nx ps.length j : Nat) : Int) := by unfold nx; push_cast; rfl
   have hn0 : (0 : Int) < ps.length := by omega
   have hbw : ∀ b off, a = some ⟨b, off, none⟩ → b < w.heap.size := by
    intro b off e
    obtain ⟨b', off', e', hc'⟩ := h.cells (by intro e; simp [e] at hlt)
    rw [e] at e'
    simp only [Option.some.injEq, Addr.mk.injEq] at e'
    obtain ⟨rfl, rfl, _⟩ := e'
    exact World.block_lt_of_cell? _ _ (hc' j hlt).1
   obtain ⟨b, off, rfl, hc⟩ := (h.below B).cells (by intro e; simp [e] at hlt)
   have hb := hbw b off rfl
   obtain ⟨g1, g2⟩ := hc j hlt
   obtain ⟨g3, g4⟩ := hc (nx ps.length j) hjn
   obtain ⟨x, hx⟩ : ∃ x, Hid ((ptA ps j).1 = x) := ⟨_, rfl⟩
   obtain ⟨y, hy⟩ : ∃ x, Hid ((ptA ps j).2 = x) := ⟨_, rfl⟩
   obtain ⟨u, hu⟩ : ∃ x, Hid ((ptA ps (nx ps.length j)).1 = x) := ⟨_, rfl⟩
   obtain ⟨v, hv⟩ : ∃ x, Hid ((ptA ps (nx ps.length j)).2 = x) := ⟨_, rfl⟩
   have q1 := hx.out
   have q2 := hy.out
   have q3 := hu.out
   have q4 := hv.out
   unfold ptA at q1 q2 q3 q4
   rw [q1] at g1
   rw [q2] at g2
   rw [q3] at g3
   rw [q4] at g4
   clear hc hbw q1 q2 q3 q4
   have bn := below1 wr (.cells #[.int .i64 x, .int .i64 y] 25)
   replace g1 := bat bn g1
   replace g2 := bat bn g2
   have g1' : wr.cell? ⟨b, off + j * 2, none⟩ = some (.int .i64 x) := by have := bn.cell (p := ⟨b, off + j * 2, none⟩) (by have := B.size; dsimp only; omega); rw [← this]; exact g1
   have g2' : wr.cell? ⟨b, off + j * 2 + 1, none⟩ = some (.int .i64 y) := by have := bn.cell (p := ⟨b, off + j * 2 + 1, none⟩) (by have := B.size; dsimp only; omega); rw [← this]; exact g2
   replace g3 := bat bn g3
   replace g4 := bat bn g4
   have V := Box2.new wr (lo := w.heap.size) B.size (.int .i64 x) (.int .i64 y) 25
   have R2 := R.below bn
   have B2 := B.trans (bn.mono B.size)
   have hg : w.heap.size ≠ wr.heap.size := by have := R.lt; omega
   clear bn R B
   go_wp2_with fail
   generalize wr.alloc (.cells #[.int .i64 x, .int .i64 y] 25) = W at *
   clear g1' g2'
   generalize wr.heap.size = q at *
   obtain ⟨k0, k1, _, _⟩ := id V
   obtain ⟨z0, s0⟩ := R2.u (j * 4) (by omega) (by omega)
   obtain ⟨z1, s1⟩ := R2.u (j * 4 + 1) (by omega) (by omega)
   obtain ⟨z2, s2⟩ := R2.u (j * 4 + 2) (by omega) (by omega)
   obtain ⟨z3, s3⟩ := R2.u (j * 4 + 3) (by omega) (by omega)
   have sf := R2.fr
   have hq0 : q ≠ w.heap.size := hg.symm
   have hbg : b ≠ w.heap.size := by omega
   have R3 := (R2.step hlt hx.out hy.out hu.out hv.out).below (Below.refl _ _).drew
   have B3 := ((((B2.setCell (p := ⟨w.heap.size, j * 4, none⟩) (Nat.le_refl _) (.int .i64 x)).setCell (p := ⟨w.heap.size, j * 4 + 1, none⟩) (Nat.le_refl _) (.int .i64 y)).setCell (p := ⟨w.heap.size, j * 4 + 2, none⟩) (Nat.le_refl _) (.int .i64 u)).setCell (p := ⟨w.heap.size, j * 4 + 3, none⟩) (Nat.le_refl _) (.int .i64 v)).drew
   go_region
   clear R2 B2 V k0 k1 s0 s1 s2 s3 sf g1 g2 g3 g4
   go_wp2
   go_roundw
   case rel => exact ⟨j + 1, by omega, by go_num, R3, B3⟩
   case measure => simp [intOf]; omega
  ·obtain rfl : j = ps.length := by omega
   go_wp2
   go_ret
   exact ⟨rfl, R, B⟩

theorem crd_dif {x : Int} (h : Crd x) : Dif x := by unfold Crd at h; unfold Dif; omega

set_option maxRecDepth 20000 in
set_option maxHeartbeats 1000000 in
theorem twiceArea_any (g : Nat) (ps : List (Int × Int)) (w : World) (h : SeesE w g ps.length ps.length ps) (hs : ps.length ≤ 60) (ok : okL ps = true) :
  Calls Tryz.prog 101 #[.slice (some ⟨g, 0, none⟩) ps.length ps.length] w fun e w' => e = .returned (.int .i64 (tw ps ps.length)) ∧ Below w.heap.size w w' := by
 go_enter Tryz.func101, Tryz.ntmps101
 go_wp2
 go_loopw [3, 8] (fun s3 s8 wr => ∃ j : Nat, j ≤ ps.length ∧ s8 = .int .i64 j ∧ s3 = .int .i64 (tw ps j) ∧ Below w.heap.size w wr) (fun _ s8 _ => ps.length - (intOf s8).toNat)
 case atStart => exact ⟨0, Nat.zero_le _, rfl, rfl, Below.refl _ _⟩
 case round =>
  obtain ⟨j, hj, rfl, rfl, B⟩ := hrel
  rename World => wr
  by_cases hlt : j < ps.length
  ·obtain ⟨t0, t1⟩ := tw_bound ok j hj
   obtain ⟨tb0, tb1⟩ := term_bound ok hlt
   obtain ⟨a1, a2⟩ := okL_at ok hlt
   obtain ⟨a3, a4⟩ := okL_at ok (nx_lt hlt)
   obtain ⟨g1, g2, g3, g4⟩ := (h.below B).c j hlt
   have E : Hid (tw ps (j + 1) = tw ps j + term ps j) := rfl
   have ET : Hid ((ptA ps j).1 * (ptA ps (nx ps.length j)).2 - (ptA ps j).2 * (ptA ps (nx ps.length j)).1 = term ps j) := rfl
   have d1 := crd_dif a1
   have d2 := crd_dif a2
   have d3 := crd_dif a3
   have d4 := crd_dif a4
   generalize (ptA ps j).1 = x at *
   generalize (ptA ps j).2 = y at *
   generalize (ptA ps (nx ps.length j)).1 = u at *
   generalize (ptA ps (nx ps.length j)).2 = v at *
   have t2 : -12000000000000000 ≤ tw ps j := by omega
   have t3 : tw ps j ≤ 12000000000000000 := by omega
   have K0 := Box4.new wr (lo := w.heap.size) B.size (.int .i64 x) (.int .i64 y) (.int .i64 u) (.int .i64 v) 182
   have bn := below1 wr (.cells #[.int .i64 x, .int .i64 y, .int .i64 u, .int .i64 v] 182)
   clear t0 t1 a1 a2 a3 a4
   go_wp2_with (go_at_call 118; refine (across_any x y u v _ d1 d2 d3 d4).mono ?_; rintro e w2 ⟨rfl, hb⟩; rw [ET.out]; replace B := (B.trans (bn.mono B.size)).trans (hb.mono (Nat.le_trans B.size bn.size)); clear hb)
   go_roundw
   case rel => exact ⟨j + 1, by omega, by go_num, by rw [E.out], B⟩
   case measure => simp [intOf]; omega
  ·obtain rfl : j = ps.length := by omega
   go_wp2
   go_ret
   exact ⟨rfl, B⟩

end Go.Proofs.YtinlomcaagdbiaaGreat

/- The laws' helpers on slices of limbs: two that read the same are told to be equal; marking a slice and asking for the marks. -/
namespace Go.Proofs.YtinlomcaagdbiaaGreat
open Go.RowKit

end Go.Proofs.YtinlomcaagdbiaaGreat

/- The laws' helpers on numbers: their copies, their sizes, whether two are equal, their marks. -/
namespace Go.Proofs.YtinlomcaagdbiaaGreat
open Go.RowKit

end Go.Proofs.YtinlomcaagdbiaaGreat

/- The specification's l1Num: noughts on top are cut off, what is left is copied. -/
namespace Go.Proofs.YtinlomcaagdbiaaGreat
open Go.RowKit

end Go.Proofs.YtinlomcaagdbiaaGreat

/- Limb by limb: the arithmetic of sums, of differences, of comparing. No program is named here. -/
namespace Go.Proofs.YtinlomcaagdbiaaGreat
open Go.RowKit

/-! ### Comparing -/
end Go.Proofs.YtinlomcaagdbiaaGreat

/- The specification's sums, differences and comparing of limbs: l1AddMag, l1SubMag, l1CmpMag. -/
namespace Go.Proofs.YtinlomcaagdbiaaGreat
open Go.RowKit

end Go.Proofs.YtinlomcaagdbiaaGreat

/- Which numbers are right: the program's NumOk and the specification's. -/
namespace Go.Proofs.YtinlomcaagdbiaaGreat
open Go.RowKit

end Go.Proofs.YtinlomcaagdbiaaGreat

/- What a number is taken as: impl.taken, spec.l1Mag. -/
namespace Go.Proofs.YtinlomcaagdbiaaGreat
open Go.RowKit

end Go.Proofs.YtinlomcaagdbiaaGreat

/- A number's digits, the lowest first; one limb after another divided by ten. No program is named here. -/
namespace Go.Proofs.YtinlomcaagdbiaaGreat
open Go.RowKit

/-! ### Divided by ten, limb by limb -/
/-! ### The digits so far -/
/-! ### Turned around in place -/
end Go.Proofs.YtinlomcaagdbiaaGreat

/- Rows of a call's own stay where nothing old is written. -/
namespace Go.Proofs.YtinlomcaagdbiaaGreat
open Go.RowKit

theorem grown_of_below {w w' : World} (h : Below w.heap.size w w') : w.grownBy w' none := ⟨h.os, h.tape, h.output, h.size, fun i hi _ => h.block i hi⟩
theorem owns_below {w w' : World} {base e size n : Nat} {v : Value} {xs : List Value} (h : w.ownsRow base e size v n xs) (hb : Below w.heap.size w w') : w'.ownsRow base e size v n xs := by
 refine h.kept (grown_of_below hb) ?_
 cases e : v.ownBlock with
 | none => exact .inl rfl
 | some k => exact .inr (by simp)

theorem wp_append_at {P : Program} {w : World} {o : Oper} {a : Act} {K : Act → World → Prop} {Q : Exit → Act → World → Prop} (s x : Operand) (t : TypeId)
  (ho : o.op = .call { callee := .builtin .append, args := #[s, x], argTypes := #[t, t] })
  (base : Nat) (e : TypeId) (i : TypeInfo) (z : Value) (size bytes : Nat) (ht : P.underlying t = some (.slice e)) (hi : P.info? e = some i) (hz : i.zero = some z)
  (hsize : i.size = size) (hby : i.bytes = bytes) (hzs : z.cells.size = size) (hsz : 0 < size)
  (v : Value) (n : Nat) (xs : List Value) (hs : a.eval s = v) (hown : w.ownsRow base e size v n xs)
  (ad : Addr) (m c : Nat) (news : List Value) (hx : a.eval x = .slice (some ad) m c) (hl : news.length = m * size) (hnews : ∀ j u, news[j]? = some u → w.cell? (ad.add j) = some u) (h1 : ∀ u ∈ news, u.oneCell' = true)
  (h63 : n + m ≤ maxLen) (hbytes : (n + m) * bytes ≤ 140737488355328) (hbase : base ≤ w.heap.size)
  (h : ∀ v' w', w'.ownsRow base e size v' (n + m) (xs ++ news) → w.grownBy w' v.ownBlock → (v'.ownBlock = v.ownBlock ∨ v'.ownBlock = some w.heap.size) → K (a.put o.dst v') w') : o.wp P a w K Q := by
 obtain ⟨v', w', hr, h2, h3, _, h5⟩ := run_append_own_at (P := P) w base t o.type e i z size bytes ht hi hz hsize hby hzs hsz v n xs hown ad m c news hl hnews h1 h63 hbytes hbase
 unfold Oper.wp execOp
 simp only [ho, resolve, invoke, builtin, Sem.run_bind, Sem.run_pure, Result.andThen_ok, List.map_toArray, List.map_cons, List.map_nil, hs, hx, hr]
 exact h v' w' h2 h3 h5
theorem row_base {w : World} {base base' : Nat} {e : TypeId} {size : Nat} {v : Value} {n : Nat} {xs : List Value} (h : w.ownsRow base e size v n xs) (hb : base' ≤ base) : w.ownsRow base' e size v n xs := by
 obtain ⟨h1, h2⟩ := h
 refine ⟨h1, ?_⟩
 rcases h2 with h2 | ⟨q, cap, cur, hv, hb', r⟩
 ·exact .inl h2
 ·exact .inr ⟨q, cap, cur, hv, Nat.le_trans hb hb', r⟩
end Go.Proofs.YtinlomcaagdbiaaGreat

/- Bytes in a row of a call's own. -/
namespace Go.Proofs.YtinlomcaagdbiaaGreat
open Go.RowKit

end Go.Proofs.YtinlomcaagdbiaaGreat

/- The specification's text of a number: spec.NumText. -/
namespace Go.Proofs.YtinlomcaagdbiaaGreat
open Go.RowKit

end Go.Proofs.YtinlomcaagdbiaaGreat
