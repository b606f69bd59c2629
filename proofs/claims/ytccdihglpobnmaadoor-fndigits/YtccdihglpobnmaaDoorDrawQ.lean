import Derived.Test.YtccdihglpobnmaaDoorDrawP
import Derived.Test.YtccdihglpobnmaaDoorSMulW
import Derived.Test.YtccdihglpobnmaaDoorDrawR
import Derived.Test.YtccdihglpobnmaaDoorOfW
import Derived.Deep.RegionHeld3
import Derived.BigRegion
import Derived.Deep.DeepCutAuto
/- DrawAdd, DrawMul. -/
namespace Go.Proofs.YtccdihglpobnmaaDoor
open Go.RowKit

theorem prod_bounds {x y : Int} (hx : -(4294967296 ^ 24) < x ∧ x < 4294967296 ^ 24) (hy : -(4294967296 ^ 24) < y ∧ y < 4294967296 ^ 24) : -(4294967296 ^ 64) < x * y ∧ x * y < 4294967296 ^ 64 := by
  have hp : (0 : Int) < 4294967296 ^ 24 := p_pos 24
  have h1 : x.natAbs ≤ (4294967296 ^ 24 : Nat) := by
    have e : ((4294967296 ^ 24 : Nat) : Int) = 4294967296 ^ 24 := by simp
    omega
  have h2 : y.natAbs ≤ (4294967296 ^ 24 : Nat) := by
    have e : ((4294967296 ^ 24 : Nat) : Int) = 4294967296 ^ 24 := by simp
    omega
  have h3 : (x * y).natAbs ≤ 4294967296 ^ 24 * 4294967296 ^ 24 := by rw [Int.natAbs_mul]; exact Nat.mul_le_mul h1 h2
  have h4 : (4294967296 ^ 24 * 4294967296 ^ 24 : Nat) < 4294967296 ^ 64 := by decide
  have e : ((4294967296 ^ 64 : Nat) : Int) = 4294967296 ^ 64 := by simp
  omega

end Go.Proofs.YtccdihglpobnmaaDoor

/- Draws for FnDigits: DrawOf, DrawGcd. -/
namespace Go.Proofs.YtccdihglpobnmaaDoor
open Go.RowKit

set_option maxRecDepth 20000 in
set_option maxHeartbeats 1000000 in
theorem drawOf_any (a : Option Addr) (n cap : Nat) (w : World) (hB : Byt w a n) (hm : n ≤ 1048576) :
    Calls Tryd.prog 7 #[.slice a n cap] w fun e w' => ∃ z : Int, e = .returned (.int .i64 z) ∧ -9223372036854775808 ≤ z ∧ z ≤ 9223372036854775807 ∧ Below w.heap.size w w' := by
  go_enter Tryd.func7, Tryd.ntmps7
  go_wp2_with fail
  refine (l1New_any a n cap w hB hm).mono ?_
  rintro e w1 ⟨rfl, hc1, b1⟩
  go_wp2_with fail
  refine (l1Odd_any w.heap.size a n cap _ hc1).mono ?_
  rintro e w3 ⟨x, x0, x1, rfl, hc3, g3⟩
  replace b1 := b1.grown g3 b1.size (fun k hk => by injection hk with hk; omega)
  go_wp2
  go_ret
  exact ⟨x, rfl, x0, x1, b1⟩

set_option maxRecDepth 20000 in
set_option maxHeartbeats 4000000 in
theorem drawGcd_any (a : Option Addr) (n cap : Nat) (w : World) (hB : Byt w a n) (hm : n ≤ 1048576) :
    Calls Tryd.prog 6 #[.slice a n cap] w fun e w' => ∃ v1 v2, e = .returned (.tuple #[v1, v2]) ∧ AnyN w.heap.size w' v1 ∧ AnyN w.heap.size w' v2 ∧ Below w.heap.size w w' := by
  have R0 : Box2 w.heap.size ((w.alloc (.cells #[.bool false, .slice none 0 0] 26)).alloc (.cells #[.bool false, .slice none 0 0] 26)) w.heap.size (.bool false) (.slice none 0 0) := (Box2.new w (Nat.le_refl _) _ _ _).below (below1 _ _)
  have R1 : Box2 w.heap.size ((w.alloc (.cells #[.bool false, .slice none 0 0] 26)).alloc (.cells #[.bool false, .slice none 0 0] 26)) (w.heap.size + 1) (.bool false) (.slice none 0 0) := by have := Box2.new (w.alloc (.cells #[.bool false, .slice none 0 0] 26)) (lo := w.heap.size) (by simp) (.bool false) (.slice none 0 0) 26; simpa using this
  have hz : ((w.alloc (.cells #[.bool false, .slice none 0 0] 26)).alloc (.cells #[.bool false, .slice none 0 0] 26)).heap.size = w.heap.size + 2 := by simp
  have B0 := below2 w (.cells #[.bool false, .slice none 0 0] 26) (.cells #[.bool false, .slice none 0 0] 26)
  have hB0 := hB.below B0
  clear hB
  go_enter Tryd.func6, Tryd.ntmps6
  go_wp2_with fail
  generalize ((w.alloc (.cells #[.bool false, .slice none 0 0] 26)).alloc (.cells #[.bool false, .slice none 0 0] 26)) = W at *
  refine (l1New_any a n cap _ hB0 hm).mono ?_
  rintro e w1 ⟨rfl, hc, hb⟩
  rw [hz] at hc
  replace B0 := B0.trans (hb.mono (by omega))
  replace R0 := R0.below hb
  replace R1 := R1.below hb
  have sz1 : w.heap.size + 2 < w1.heap.size := hc.lt
  clear hb hB0
  go_wp2_with fail
  refine (l1Pair_any _ a n cap _ hc).mono ?_
  rintro e w2 ⟨v1, v2, rfl, A1, A2, hc2, g⟩
  replace B0 := B0.grown g (by omega) (fun k hk => by injection hk with hk; omega)
  replace R0 := R0.grown g (by omega)
  replace R1 := R1.grown g (by omega)
  have sz2 : w1.heap.size ≤ w2.heap.size := g.size
  clear hc g
  obtain ⟨g1, a1, c1, xs, rfl, o1, l1⟩ := A1.is'
  obtain ⟨g2, a2, c2, ys, rfl, o2, l2⟩ := A2.is'
  clear A1 A2
  have VA := (Box2.new w2 (lo := w.heap.size + 3) (by omega) (.bool g1) (.slice a1 xs.length c1) 26).below (below1 _ (.cells #[.bool g2, .slice a2 ys.length c2] 26))
  have VB := Box2.new (w2.alloc (.cells #[.bool g1, .slice a1 xs.length c1] 26)) (lo := w.heap.size + 3) (by simp; omega) (.bool g2) (.slice a2 ys.length c2) 26
  have bn := below2 w2 (.cells #[.bool g1, .slice a1 xs.length c1] 26) (.cells #[.bool g2, .slice a2 ys.length c2] 26)
  have hs1 : (w2.alloc (.cells #[.bool g1, .slice a1 xs.length c1] 26)).heap.size = w2.heap.size + 1 := by simp
  rw [hs1] at VB
  replace B0 := B0.trans (bn.mono B0.size)
  replace R0 := R0.below bn
  replace R1 := R1.below bn
  replace hc2 := hc2.below bn
  replace o1 := o1.below bn
  replace o2 := o2.below bn
  have sz3 : w2.heap.size + 1 < ((w2.alloc (.cells #[.bool g1, .slice a1 xs.length c1] 26)).alloc (.cells #[.bool g2, .slice a2 ys.length c2] 26)).heap.size := by simp
  clear bn hs1
  have HL : Hid (xs.length ≤ 64 ∧ ys.length ≤ 64) := ⟨l1, l2⟩
  clear l1 l2
  have fin : ∀ (W3 : World), Below w.heap.size w W3 → Box2 w.heap.size W3 w.heap.size (.bool false) (.slice none 0 0) → Box2 w.heap.size W3 (w.heap.size + 1) (.bool false) (.slice none 0 0) → True := fun _ _ _ _ => trivial
  clear fin
  have hw : wrap64 ((xs.length : Int) + (ys.length : Int)) = (xs.length : Int) + (ys.length : Int) := by
    have := HL.out
    unfold wrap64
    omega
  by_cases ht : (xs.length : Int) + (ys.length : Int) < 20
  · have hd : decide ((xs.length : Int) + (ys.length : Int) < 20) = true := decide_eq_true ht
    clear ht
    obtain ⟨k0, k1, _, _⟩ := id VA
    obtain ⟨m0, m1, _, _⟩ := id VB
    go_wp2_with fail
    generalize (w2.alloc (.cells #[.bool g1, .slice a1 xs.length c1] 26)).alloc (.cells #[.bool g2, .slice a2 ys.length c2] 26) = W2 at *
    generalize w2.heap.size = qa at *
    refine (l1Once_any _ a n cap 2 _ hc2).mono ?_
    rintro e w3 ⟨o, rfl, hc3, g⟩
    replace B0 := B0.grown g B0.size (fun k hk => by injection hk with hk; omega)
    replace R0 := R0.grown g (by omega)
    replace R1 := R1.grown g (by omega)
    replace VA := VA.grown g (by omega)
    replace VB := VB.grown g (by omega)
    replace o1 := o1.grown g (by omega)
    replace o2 := o2.grown g (by omega)
    have sz4 : qa + 1 < w3.heap.size := VB.lt
    clear hc2 g k0 k1 m0 m1
    cases o
    · clear hc3
      have f1 := (((AnyN.mk ⟨g1, a1, c1, xs, rfl, o1, HL.out.1⟩).put (b := w.heap.size) (by omega) (.bool g1) (.slice a1 xs.length c1)).put (b := w.heap.size + 1) (by omega) (.bool g2) (.slice a2 ys.length c2)).base_le (show w.heap.size ≤ w1.heap.size by omega)
      have f2 := (((AnyN.mk ⟨g2, a2, c2, ys, rfl, o2, HL.out.2⟩).put (b := w.heap.size) (by omega) (.bool g1) (.slice a1 xs.length c1)).put (b := w.heap.size + 1) (by omega) (.bool g2) (.slice a2 ys.length c2)).base_le (show w.heap.size ≤ w1.heap.size by omega)
      have f3 := below_put' (b := w.heap.size + 1) (below_put' (b := w.heap.size) B0 (Nat.le_refl _) (.bool g1) (.slice a1 xs.length c1)) (by omega) (.bool g2) (.slice a2 ys.length c2)
      obtain ⟨r0, r1, rf, _⟩ := id R0
      obtain ⟨r2, r3, rg, _⟩ := id R1
      obtain ⟨k0, k1, _, _⟩ := id VA
      obtain ⟨m0, m1, _, _⟩ := id VB
      go_wp2_with fail
      go_region
      go_wp2
      exact bodyPost_ret (v := .tuple #[.agg #[.bool g1, .slice a1 xs.length c1], .agg #[.bool g2, .slice a2 ys.length c2]]) (by simp [results, Tryd.results6, go_sem, r0, r1, r2, r3]) rfl ⟨_, _, rfl, f1.below (Below.refl _ _).drew, f2.below (Below.refl _ _).drew, f3.drew⟩
    · go_wp2_with fail
      refine (l1Below_any _ a n cap 1000 _ hc3).mono ?_
      rintro e w4 ⟨y, rfl, y0, y1, hc4, g⟩
      have y2 := y1 (by omega)
      replace B0 := B0.grown g B0.size (fun k hk => by injection hk with hk; omega)
      replace R0 := R0.grown g (by omega)
      replace R1 := R1.grown g (by omega)
      replace VA := VA.grown g (by omega)
      replace VB := VB.grown g (by omega)
      replace o1 := o1.grown g (by omega)
      replace o2 := o2.grown g (by omega)
      have sz5 : qa + 1 < w4.heap.size := VB.lt
      have hwy : wrap64 (1 + y) = 1 + y := by unfold wrap64; omega
      clear hc3 hc4 g y1
      go_wp2_with fail
      refine (specOf (1 + y) _ (by omega) (by omega)).mono ?_
      rintro e w5 ⟨v5, rfl, hI5, hb⟩
      replace B0 := B0.trans (hb.mono B0.size)
      replace R0 := R0.below hb
      replace R1 := R1.below hb
      replace VA := VA.below hb
      replace VB := VB.below hb
      replace o1 := o1.below hb
      replace o2 := o2.below hb
      clear hb hwy
      obtain ⟨a5, c5, u5, rfl, o5, n5, v5⟩ := hI5
      clear n5 v5
      obtain ⟨g5, hg5⟩ : ∃ g5, Hid (decide (1 + y < 0) = g5) := ⟨_, rfl⟩
      rw [hg5.out]
      have sz6 : qa + 1 < w5.heap.size := VB.lt
      have bn := below1 w5 (.cells #[.bool g5, .slice a5 u5.length c5] 26)
      have VX := Box2.new w5 (lo := w.heap.size + 3) (by omega) (.bool g5) (.slice a5 u5.length c5) 26
      replace B0 := B0.trans (bn.mono B0.size)
      replace R0 := R0.below bn
      replace R1 := R1.below bn
      replace VA := VA.below bn
      replace VB := VB.below bn
      replace o1 := o1.below bn
      replace o2 := o2.below bn
      replace o5 := o5.below bn
      clear bn
      go_wp2_with fail
      generalize w5.alloc (.cells #[.bool g5, .slice a5 u5.length c5] 26) = W5 at *
      generalize w5.heap.size = qx at *
      have K : W5.cell? ⟨qa, 0, none⟩ = some (.bool g1) ∧ W5.cell? ⟨qa, 1, none⟩ = some (.slice a1 xs.length c1) ∧ W5.cell? ⟨qa + 1, 0, none⟩ = some (.bool g2) ∧ W5.cell? ⟨qa + 1, 1, none⟩ = some (.slice a2 ys.length c2) ∧ W5.cell? ⟨qx, 0, none⟩ = some (.bool g5) ∧ W5.cell? ⟨qx, 1, none⟩ = some (.slice a5 u5.length c5) := ⟨VA.c0, VA.c1, VB.c0, VB.c1, VX.c0, VX.c1⟩
      go_region_held3 (fun w' => w'.cell? ⟨qa, 0, none⟩ = some (.bool g1) ∧ w'.cell? ⟨qa, 1, none⟩ = some (.slice a1 xs.length c1) ∧ w'.cell? ⟨qa + 1, 0, none⟩ = some (.bool g2) ∧ w'.cell? ⟨qa + 1, 1, none⟩ = some (.slice a2 ys.length c2) ∧ w'.cell? ⟨qx, 0, none⟩ = some (.bool g5) ∧ w'.cell? ⟨qx, 1, none⟩ = some (.slice a5 u5.length c5))
        (first | exact K | exact k6 | exact k7 | exact ⟨(cell_put (by omega)).trans k7.1, (cell_put (by omega)).trans k7.2.1, (cell_put (by omega)).trans k7.2.2.1, (cell_put (by omega)).trans k7.2.2.2.1, (cell_put (by omega)).trans k7.2.2.2.2.1, (cell_put (by omega)).trans k7.2.2.2.2.2⟩ | exact ⟨(cell_put (by omega)).trans ((cell_put (by omega)).trans k7.1), (cell_put (by omega)).trans ((cell_put (by omega)).trans k7.2.1), (cell_put (by omega)).trans ((cell_put (by omega)).trans k7.2.2.1), (cell_put (by omega)).trans ((cell_put (by omega)).trans k7.2.2.2.1), (cell_put (by omega)).trans ((cell_put (by omega)).trans k7.2.2.2.2.1), (cell_put (by omega)).trans ((cell_put (by omega)).trans k7.2.2.2.2.2)⟩)
        (first
        | (go_at_call_of 31 (Value.slice a1 xs.length c1); refine (specMul g1 g5 a1 a5 c1 c5 xs u5 _ (o1.toSees.below (Below.refl _ _).drew) (o5.toSees.below (Below.refl _ _).drew)).mono ?_; rintro e w6 ⟨v6, rfl, hI6, hb⟩; have hb6 := (Below.refl W5.heap.size W5).drew.trans hb; have bd := prod_bounds (tk_bounds g1 xs o1.lim) (tk_bounds g5 u5 o5.lim); have A6 := hI6.anyN bd.1 bd.2; have k6 : w6.cell? ⟨qa, 0, none⟩ = some (.bool g1) ∧ w6.cell? ⟨qa, 1, none⟩ = some (.slice a1 xs.length c1) ∧ w6.cell? ⟨qa + 1, 0, none⟩ = some (.bool g2) ∧ w6.cell? ⟨qa + 1, 1, none⟩ = some (.slice a2 ys.length c2) ∧ w6.cell? ⟨qx, 0, none⟩ = some (.bool g5) ∧ w6.cell? ⟨qx, 1, none⟩ = some (.slice a5 u5.length c5) := ⟨bat hb6 VA.c0, bat hb6 VA.c1, bat hb6 VB.c0, bat hb6 VB.c1, bat hb6 VX.c0, bat hb6 VX.c1⟩; clear hb hI6 bd; obtain ⟨g6, a6, c6, zs, rfl, o6, l6⟩ := A6.is')
        | (go_at_call_of 31 (Value.slice a2 ys.length c2); refine (specMul g2 g5 a2 a5 c2 c5 ys u5 _ (o2.toSees.below hb6) (o5.toSees.below hb6)).mono ?_; rintro e w7 ⟨v7, rfl, hI7, hb⟩; have hb7 := hb6.trans (hb.mono hb6.size); have bd := prod_bounds (tk_bounds g2 ys o2.lim) (tk_bounds g5 u5 o5.lim); have A7 := hI7.anyN bd.1 bd.2; have k7 : w7.cell? ⟨qa, 0, none⟩ = some (.bool g1) ∧ w7.cell? ⟨qa, 1, none⟩ = some (.slice a1 xs.length c1) ∧ w7.cell? ⟨qa + 1, 0, none⟩ = some (.bool g2) ∧ w7.cell? ⟨qa + 1, 1, none⟩ = some (.slice a2 ys.length c2) ∧ w7.cell? ⟨qx, 0, none⟩ = some (.bool g5) ∧ w7.cell? ⟨qx, 1, none⟩ = some (.slice a5 u5.length c5) := ⟨bat hb7 VA.c0, bat hb7 VA.c1, bat hb7 VB.c0, bat hb7 VB.c1, bat hb7 VX.c0, bat hb7 VX.c1⟩; have A6' := A6.below hb; clear hb hI7 bd; obtain ⟨g7, a7, c7, ts, rfl, o7, l7⟩ := A7.is'; have B7 := B0.trans (hb7.mono B0.size); have R07 := R0.below hb7; have R17 := R1.below hb7; obtain ⟨r0, r1, rf, _⟩ := id R07; obtain ⟨r2, r3, rg, _⟩ := id R17))
      all_goals
        have z6 : w.heap.size + 3 ≤ W5.heap.size := by have := VX.lt; omega
        have z7 : W5.heap.size ≤ w6.heap.size := hb6.size
        have f1 := ((A6'.put (b := w.heap.size) (by simp; omega) (.bool g6) (.slice a6 zs.length c6)).put (b := w.heap.size + 1) (by simp; omega) (.bool g7) (.slice a7 ts.length c7)).base_le (show w.heap.size ≤ _ by simp; omega)
        have f2 := ((A7.put (b := w.heap.size) (by omega) (.bool g6) (.slice a6 zs.length c6)).put (b := w.heap.size + 1) (by omega) (.bool g7) (.slice a7 ts.length c7)).base_le (show w.heap.size ≤ _ by omega)
        have f3 := below_put' (b := w.heap.size + 1) (below_put' (b := w.heap.size) B7 (Nat.le_refl _) (.bool g6) (.slice a6 zs.length c6)) (by omega) (.bool g7) (.slice a7 ts.length c7)
        go_wp2
        exact bodyPost_ret (v := .tuple #[.agg #[.bool g6, .slice a6 zs.length c6], .agg #[.bool g7, .slice a7 ts.length c7]]) (by simp [results, Tryd.results6, go_sem, r0, r1, r2, r3]) rfl ⟨_, _, rfl, f1, f2, f3⟩
  · have hd : decide ((xs.length : Int) + (ys.length : Int) < 20) = false := decide_eq_false ht
    clear ht
    obtain ⟨k0, k1, _, _⟩ := id VA
    obtain ⟨m0, m1, _, _⟩ := id VB
    go_upto_region 3 with fail
    generalize (w2.alloc (.cells #[.bool g1, .slice a1 xs.length c1] 26)).alloc (.cells #[.bool g2, .slice a2 ys.length c2] 26) = W2 at *
    generalize w2.heap.size = qa at *
    clear k0 k1 m0 m1
    have f1 := (((AnyN.mk ⟨g1, a1, c1, xs, rfl, o1, HL.out.1⟩).put (b := w.heap.size) (by omega) (.bool g1) (.slice a1 xs.length c1)).put (b := w.heap.size + 1) (by omega) (.bool g2) (.slice a2 ys.length c2)).base_le (show w.heap.size ≤ w1.heap.size by omega)
    have f2 := (((AnyN.mk ⟨g2, a2, c2, ys, rfl, o2, HL.out.2⟩).put (b := w.heap.size) (by omega) (.bool g1) (.slice a1 xs.length c1)).put (b := w.heap.size + 1) (by omega) (.bool g2) (.slice a2 ys.length c2)).base_le (show w.heap.size ≤ w1.heap.size by omega)
    have f3 := below_put' (b := w.heap.size + 1) (below_put' (b := w.heap.size) B0 (Nat.le_refl _) (.bool g1) (.slice a1 xs.length c1)) (by omega) (.bool g2) (.slice a2 ys.length c2)
    obtain ⟨r0, r1, rf, _⟩ := id R0
    obtain ⟨r2, r3, rg, _⟩ := id R1
    obtain ⟨k0, k1, _, _⟩ := id VA
    obtain ⟨m0, m1, _, _⟩ := id VB
    go_wp2_with fail
    go_region
    go_wp2
    exact bodyPost_ret (v := .tuple #[.agg #[.bool g1, .slice a1 xs.length c1], .agg #[.bool g2, .slice a2 ys.length c2]]) (by simp [results, Tryd.results6, go_sem, r0, r1, r2, r3]) rfl ⟨_, _, rfl, f1.below (Below.refl _ _).drew, f2.below (Below.refl _ _).drew, f3.drew⟩
end Go.Proofs.YtccdihglpobnmaaDoor
