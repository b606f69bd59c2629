/- DrawAdd, DrawMul. -/
import Derived.Test.YtfddiojcahbkfaaDrawP
import Derived.Test.YtfddiojcahbkfaaSMulW
namespace Go.Proofs.Ytfddiojcahbkfaa
open Go.RowKit

set_option maxRecDepth 20000 in
set_option maxHeartbeats 1000000 in
theorem drawAdd_any (a : Option Addr) (n cap : Nat) (w : World) (hB : Byt w a n) (hm : n ≤ 1048576) :
    Calls Try.prog 7 #[.slice a n cap] w fun e w' => ∃ v1 v2, e = .returned (.tuple #[v1, v2]) ∧ AnyN w.heap.size w' v1 ∧ AnyN w.heap.size w' v2 ∧ Below w.heap.size w w' := by
  have R0 : Box2 w.heap.size ((w.alloc (.cells #[.bool false, .slice none 0 0] 26)).alloc (.cells #[.bool false, .slice none 0 0] 26)) w.heap.size (.bool false) (.slice none 0 0) := (Box2.new w (Nat.le_refl _) _ _ _).below (below1 _ _)
  have R1 : Box2 w.heap.size ((w.alloc (.cells #[.bool false, .slice none 0 0] 26)).alloc (.cells #[.bool false, .slice none 0 0] 26)) (w.heap.size + 1) (.bool false) (.slice none 0 0) := by have := Box2.new (w.alloc (.cells #[.bool false, .slice none 0 0] 26)) (lo := w.heap.size) (by simp) (.bool false) (.slice none 0 0) 26; simpa using this
  have hz : ((w.alloc (.cells #[.bool false, .slice none 0 0] 26)).alloc (.cells #[.bool false, .slice none 0 0] 26)).heap.size = w.heap.size + 2 := by simp
  have B0 := below2 w (.cells #[.bool false, .slice none 0 0] 26) (.cells #[.bool false, .slice none 0 0] 26)
  have hB0 := hB.below B0
  clear hB
  go_enter Try.func7, Try.ntmps7
  go_wp2_with fail
  generalize (w.alloc (.cells #[.bool false, .slice none 0 0] 26)).alloc (.cells #[.bool false, .slice none 0 0] 26) = W at *
  refine (l1New_any a n cap _ hB0 hm).mono ?_
  rintro e w1 ⟨rfl, hc, hb⟩
  rw [hz] at hc
  replace B0 := B0.trans (hb.mono (by omega))
  replace R0 := R0.below hb
  replace R1 := R1.below hb
  have sz1 : w.heap.size + 2 < w1.heap.size := hc.lt
  clear hb hB0
  go_wp2_with fail
  refine (l1Pair_any _ a n cap _ hc).mono ?_
  rintro e w2 ⟨v1, v2, rfl, A1, A2, _, g⟩
  replace B0 := B0.grown g (by omega) (fun k hk => by injection hk with hk; omega)
  replace R0 := R0.grown g (by omega)
  replace R1 := R1.grown g (by omega)
  obtain ⟨g1, a1, c1, xs, rfl, _⟩ := A1.is'
  obtain ⟨g2, a2, c2, ys, rfl, _⟩ := A2.is'
  obtain ⟨r0, r1, rf, _⟩ := id R0
  obtain ⟨r2, r3, rg, _⟩ := id R1
  clear hc g
  have f1 := ((A1.put (b := w.heap.size) (by omega) (.bool g1) (.slice a1 xs.length c1)).put (b := w.heap.size + 1) (by omega) (.bool g2) (.slice a2 ys.length c2)).base_le (show w.heap.size ≤ w1.heap.size by omega)
  have f2 := ((A2.put (b := w.heap.size) (by omega) (.bool g1) (.slice a1 xs.length c1)).put (b := w.heap.size + 1) (by omega) (.bool g2) (.slice a2 ys.length c2)).base_le (show w.heap.size ≤ w1.heap.size by omega)
  have f3 := below_put' (b := w.heap.size + 1) (below_put' (b := w.heap.size) B0 (Nat.le_refl _) (.bool g1) (.slice a1 xs.length c1)) (by omega) (.bool g2) (.slice a2 ys.length c2)
  go_wp2
  exact bodyPost_ret (v := .tuple #[.agg #[.bool g1, .slice a1 xs.length c1], .agg #[.bool g2, .slice a2 ys.length c2]]) (by simp [results, Try.results7, go_sem, r0, r1, r2, r3]) rfl ⟨_, _, rfl, f1, f2, f3⟩

set_option maxRecDepth 20000 in
set_option maxHeartbeats 1000000 in
theorem drawMul_any (a : Option Addr) (n cap : Nat) (w : World) (hB : Byt w a n) (hm : n ≤ 1048576) :
    Calls Try.prog 8 #[.slice a n cap] w fun e w' => ∃ v1 v2, e = .returned (.tuple #[v1, v2]) ∧ AnyN w.heap.size w' v1 ∧ AnyN w.heap.size w' v2 ∧ Below w.heap.size w w' := by
  have R0 : Box2 w.heap.size ((w.alloc (.cells #[.bool false, .slice none 0 0] 26)).alloc (.cells #[.bool false, .slice none 0 0] 26)) w.heap.size (.bool false) (.slice none 0 0) := (Box2.new w (Nat.le_refl _) _ _ _).below (below1 _ _)
  have R1 : Box2 w.heap.size ((w.alloc (.cells #[.bool false, .slice none 0 0] 26)).alloc (.cells #[.bool false, .slice none 0 0] 26)) (w.heap.size + 1) (.bool false) (.slice none 0 0) := by have := Box2.new (w.alloc (.cells #[.bool false, .slice none 0 0] 26)) (lo := w.heap.size) (by simp) (.bool false) (.slice none 0 0) 26; simpa using this
  have hz : ((w.alloc (.cells #[.bool false, .slice none 0 0] 26)).alloc (.cells #[.bool false, .slice none 0 0] 26)).heap.size = w.heap.size + 2 := by simp
  have B0 := below2 w (.cells #[.bool false, .slice none 0 0] 26) (.cells #[.bool false, .slice none 0 0] 26)
  have hB0 := hB.below B0
  clear hB
  go_enter Try.func8, Try.ntmps8
  go_wp2_with fail
  generalize (w.alloc (.cells #[.bool false, .slice none 0 0] 26)).alloc (.cells #[.bool false, .slice none 0 0] 26) = W at *
  refine (l1New_any a n cap _ hB0 hm).mono ?_
  rintro e w1 ⟨rfl, hc, hb⟩
  rw [hz] at hc
  replace B0 := B0.trans (hb.mono (by omega))
  replace R0 := R0.below hb
  replace R1 := R1.below hb
  have sz1 : w.heap.size + 2 < w1.heap.size := hc.lt
  clear hb hB0
  go_wp2_with fail
  refine (l1Pair_any _ a n cap _ hc).mono ?_
  rintro e w2 ⟨v1, v2, rfl, A1, A2, _, g⟩
  replace B0 := B0.grown g (by omega) (fun k hk => by injection hk with hk; omega)
  replace R0 := R0.grown g (by omega)
  replace R1 := R1.grown g (by omega)
  obtain ⟨g1, a1, c1, xs, rfl, _⟩ := A1.is'
  obtain ⟨g2, a2, c2, ys, rfl, _⟩ := A2.is'
  obtain ⟨r0, r1, rf, _⟩ := id R0
  obtain ⟨r2, r3, rg, _⟩ := id R1
  clear hc g
  have f1 := ((A1.put (b := w.heap.size) (by omega) (.bool g1) (.slice a1 xs.length c1)).put (b := w.heap.size + 1) (by omega) (.bool g2) (.slice a2 ys.length c2)).base_le (show w.heap.size ≤ w1.heap.size by omega)
  have f2 := ((A2.put (b := w.heap.size) (by omega) (.bool g1) (.slice a1 xs.length c1)).put (b := w.heap.size + 1) (by omega) (.bool g2) (.slice a2 ys.length c2)).base_le (show w.heap.size ≤ w1.heap.size by omega)
  have f3 := below_put' (b := w.heap.size + 1) (below_put' (b := w.heap.size) B0 (Nat.le_refl _) (.bool g1) (.slice a1 xs.length c1)) (by omega) (.bool g2) (.slice a2 ys.length c2)
  go_wp2
  exact bodyPost_ret (v := .tuple #[.agg #[.bool g1, .slice a1 xs.length c1], .agg #[.bool g2, .slice a2 ys.length c2]]) (by simp [results, Try.results8, go_sem, r0, r1, r2, r3]) rfl ⟨_, _, rfl, f1, f2, f3⟩

theorem prod_bounds {x y : Int} (hx : -(4294967296 ^ 24) < x ∧ x < 4294967296 ^ 24) (hy : -(4294967296 ^ 24) < y ∧ y < 4294967296 ^ 24) : -(4294967296 ^ 64) < x * y ∧ x * y < 4294967296 ^ 64 := by
  have hp : (0 : Int) < 4294967296 ^ 24 := p_pos 24
  have h1 : x.natAbs ≤ (4294967296 ^ 24 : Nat) := by
    have e : ((4294967296 ^ 24 : Nat) : Int) = 4294967296 ^ 24 := by simp
    omega
  have h2 : y.natAbs ≤ (4294967296 ^ 24 : Nat) := by
    have e : ((4294967296 ^ 24 : Nat) : Int) = 4294967296 ^ 24 := by simp
    omega
  have h3 : (x * y).natAbs ≤ 4294967296 ^ 24 * 4294967296 ^ 24 := by rw [Int.natAbs_mul]; exact Nat.mul_le_mul h1 h2
  have h4 : (4294967296 ^ 24 * 4294967296 ^ 24 : Nat) < 4294967296 ^ 64 := by decide
  have e : ((4294967296 ^ 64 : Nat) : Int) = 4294967296 ^ 64 := by simp
  omega

set_option maxRecDepth 20000 in
set_option maxHeartbeats 1000000 in
theorem drawDivMod_any (a : Option Addr) (n cap : Nat) (w : World) (hB : Byt w a n) (hm : n ≤ 1048576) :
    Calls Try.prog 18 #[.slice a n cap] w fun e w' => ∃ v1 v2, e = .returned (.tuple #[v1, v2]) ∧ AnyN w.heap.size w' v1 ∧ AnyN w.heap.size w' v2 ∧ Below w.heap.size w w' := by
  have R0 : Box2 w.heap.size ((w.alloc (.cells #[.bool false, .slice none 0 0] 26)).alloc (.cells #[.bool false, .slice none 0 0] 26)) w.heap.size (.bool false) (.slice none 0 0) := (Box2.new w (Nat.le_refl _) _ _ _).below (below1 _ _)
  have R1 : Box2 w.heap.size ((w.alloc (.cells #[.bool false, .slice none 0 0] 26)).alloc (.cells #[.bool false, .slice none 0 0] 26)) (w.heap.size + 1) (.bool false) (.slice none 0 0) := by have := Box2.new (w.alloc (.cells #[.bool false, .slice none 0 0] 26)) (lo := w.heap.size) (by simp) (.bool false) (.slice none 0 0) 26; simpa using this
  have hz : ((w.alloc (.cells #[.bool false, .slice none 0 0] 26)).alloc (.cells #[.bool false, .slice none 0 0] 26)).heap.size = w.heap.size + 2 := by simp
  have B0 := below2 w (.cells #[.bool false, .slice none 0 0] 26) (.cells #[.bool false, .slice none 0 0] 26)
  have hB0 := hB.below B0
  clear hB
  go_enter Try.func18, Try.ntmps18
  go_wp2_with fail
  generalize ((w.alloc (.cells #[.bool false, .slice none 0 0] 26)).alloc (.cells #[.bool false, .slice none 0 0] 26)) = W at *
  refine (l1New_any a n cap _ hB0 hm).mono ?_
  rintro e w1 ⟨rfl, hc, hb⟩
  rw [hz] at hc
  replace B0 := B0.trans (hb.mono (by omega))
  replace R0 := R0.below hb
  replace R1 := R1.below hb
  have sz1 : w.heap.size + 2 < w1.heap.size := hc.lt
  clear hb hB0
  go_wp2_with fail
  refine (l1Pair_any _ a n cap _ hc).mono ?_
  rintro e w2 ⟨v1, v2, rfl, A1, A2, hc2, g⟩
  replace B0 := B0.grown g (by omega) (fun k hk => by injection hk with hk; omega)
  replace R0 := R0.grown g (by omega)
  replace R1 := R1.grown g (by omega)
  have sz2 : w1.heap.size ≤ w2.heap.size := g.size
  clear hc g
  obtain ⟨g1, a1, c1, xs, rfl, o1, l1⟩ := A1.is'
  obtain ⟨g2, a2, c2, ys, rfl, o2, l2⟩ := A2.is'
  clear A1 A2
  have VA := (Box2.new w2 (lo := w.heap.size + 3) (by omega) (.bool g1) (.slice a1 xs.length c1) 26).below (below1 _ (.cells #[.bool g2, .slice a2 ys.length c2] 26))
  have VB := Box2.new (w2.alloc (.cells #[.bool g1, .slice a1 xs.length c1] 26)) (lo := w.heap.size + 3) (by simp; omega) (.bool g2) (.slice a2 ys.length c2) 26
  have bn := below2 w2 (.cells #[.bool g1, .slice a1 xs.length c1] 26) (.cells #[.bool g2, .slice a2 ys.length c2] 26)
  have hs1 : (w2.alloc (.cells #[.bool g1, .slice a1 xs.length c1] 26)).heap.size = w2.heap.size + 1 := by simp
  rw [hs1] at VB
  have apA : Hid (∀ b off, a2 = some ⟨b, off, none⟩ → ys ≠ [] → b < w2.heap.size) := fun b off ha hn => o2.lt ha hn
  replace B0 := B0.trans (bn.mono B0.size)
  replace R0 := R0.below bn
  replace R1 := R1.below bn
  replace hc2 := hc2.below bn
  replace o1 := o1.below bn
  replace o2 := o2.below bn
  have sz3 : w2.heap.size + 1 < ((w2.alloc (.cells #[.bool g1, .slice a1 xs.length c1] 26)).alloc (.cells #[.bool g2, .slice a2 ys.length c2] 26)).heap.size := by simp
  clear bn hs1
  go_wp2_with fail
  generalize (w2.alloc (.cells #[.bool g1, .slice a1 xs.length c1] 26)).alloc (.cells #[.bool g2, .slice a2 ys.length c2] 26) = W2 at *
  generalize w2.heap.size = qa at *
  refine (l1Once_any _ a n cap 4 _ hc2).mono ?_
  rintro e w3 ⟨o, rfl, hc3, g⟩
  replace B0 := B0.grown g B0.size (fun k hk => by injection hk with hk; omega)
  replace R0 := R0.grown g (by omega)
  replace R1 := R1.grown g (by omega)
  replace VA := VA.grown g (by omega)
  replace VB := VB.grown g (by omega)
  replace o1 := o1.grown g (by omega)
  replace o2 := o2.grown g (by omega)
  have sz4 : qa + 1 < w3.heap.size := VB.lt
  clear hc2 hc3 g
  cases o
  · obtain ⟨r0, r1, rf, _⟩ := id R0
    obtain ⟨r2, r3, rg, _⟩ := id R1
    obtain ⟨k0, k1, _, _⟩ := id VA
    obtain ⟨m0, m1, _, _⟩ := id VB
    have f1 := (((AnyN.mk ⟨g1, a1, c1, xs, rfl, o1, l1⟩).put (b := w.heap.size) (by omega) (.bool g1) (.slice a1 xs.length c1)).put (b := w.heap.size + 1) (by omega) (.bool g2) (.slice a2 ys.length c2)).base_le (show w.heap.size ≤ w1.heap.size by omega)
    have f2 := (((AnyN.mk ⟨g2, a2, c2, ys, rfl, o2, l2⟩).put (b := w.heap.size) (by omega) (.bool g1) (.slice a1 xs.length c1)).put (b := w.heap.size + 1) (by omega) (.bool g2) (.slice a2 ys.length c2)).base_le (show w.heap.size ≤ w1.heap.size by omega)
    have f3 := below_put' (b := w.heap.size + 1) (below_put' (b := w.heap.size) B0 (Nat.le_refl _) (.bool g1) (.slice a1 xs.length c1)) (by omega) (.bool g2) (.slice a2 ys.length c2)
    go_wp2_with fail
    go_region
    go_wp2
    exact bodyPost_ret (v := .tuple #[.agg #[.bool g1, .slice a1 xs.length c1], .agg #[.bool g2, .slice a2 ys.length c2]]) (by simp [results, Try.results18, go_sem, r0, r1, r2, r3]) rfl ⟨_, _, rfl, f1.below (Below.refl _ _).drew, f2.below (Below.refl _ _).drew, f3.drew⟩
  · obtain ⟨k0, k1, kf, _⟩ := id VA
    obtain ⟨m0, m1, _, _⟩ := id VB
    go_wp2_with fail
    refine (specMul g1 g2 a1 a2 c1 c2 xs ys _ o1.toSees o2.toSees).mono ?_
    rintro e w4 ⟨v4, rfl, hI, hb⟩
    have bd := prod_bounds (tk_bounds g1 xs o1.lim) (tk_bounds g2 ys o2.lim)
    have A4 := hI.anyN bd.1 bd.2
    replace B0 := B0.trans (hb.mono B0.size)
    replace R0 := R0.below hb
    replace R1 := R1.below hb
    replace VA := VA.below hb
    replace VB := VB.below hb
    replace o2 := o2.below hb
    clear hb hI bd o1 k0 k1 kf m0 m1
    obtain ⟨g4, a4, c4, zs, rfl, o4, l4⟩ := A4.is'
    obtain ⟨k0, k1, kf, _⟩ := id VA
    go_wp2_with fail
    replace R0 := R0.old (p := qa) (by omega) (.bool g4) (.slice a4 zs.length c4)
    replace R1 := R1.old (p := qa) (by omega) (.bool g4) (.slice a4 zs.length c4)
    replace VB := VB.old (p := qa) (by omega) (.bool g4) (.slice a4 zs.length c4)
    replace VA := VA.put (.bool g4) (.slice a4 zs.length c4)
    replace B0 := below_put' (b := qa) B0 (by omega) (.bool g4) (.slice a4 zs.length c4)
    replace A4 := (A4.put (b := qa) (by omega) (.bool g4) (.slice a4 zs.length c4)).base_le (show w1.heap.size ≤ w3.heap.size by omega)
    replace o2 : Own w1.heap.size ((w4.setCell ⟨qa, 0, none⟩ (.bool g4)).setCell ⟨qa, 1, none⟩ (.slice a4 zs.length c4)) a2 c2 ys := o2.kept (grownBy_setCell (grownBy_setCell (grownBy_refl _ (some qa)) (p := ⟨qa, 0, none⟩) rfl _) (p := ⟨qa, 1, none⟩) rfl _) (fun b off ha hn e => by have := apA.out b off ha hn; injection e with e; omega)
    clear k0 k1 kf o4
    generalize (w4.setCell ⟨qa, 0, none⟩ (.bool g4)).setCell ⟨qa, 1, none⟩ (.slice a4 zs.length c4) = W4 at *
    obtain ⟨r0, r1, rf, _⟩ := id R0
    obtain ⟨r2, r3, rg, _⟩ := id R1
    obtain ⟨k0, k1, _, _⟩ := id VA
    obtain ⟨m0, m1, _, _⟩ := id VB
    have f1 := ((A4.put (b := w.heap.size) (by omega) (.bool g4) (.slice a4 zs.length c4)).put (b := w.heap.size + 1) (by omega) (.bool g2) (.slice a2 ys.length c2)).base_le (show w.heap.size ≤ w1.heap.size by omega)
    have f2 := (((AnyN.mk ⟨g2, a2, c2, ys, rfl, o2, l2⟩).put (b := w.heap.size) (by omega) (.bool g4) (.slice a4 zs.length c4)).put (b := w.heap.size + 1) (by omega) (.bool g2) (.slice a2 ys.length c2)).base_le (show w.heap.size ≤ w1.heap.size by omega)
    have f3 := below_put' (b := w.heap.size + 1) (below_put' (b := w.heap.size) B0 (Nat.le_refl _) (.bool g4) (.slice a4 zs.length c4)) (by omega) (.bool g2) (.slice a2 ys.length c2)
    go_wp2_with fail
    go_region
    go_wp2
    exact bodyPost_ret (v := .tuple #[.agg #[.bool g4, .slice a4 zs.length c4], .agg #[.bool g2, .slice a2 ys.length c2]]) (by simp [results, Try.results18, go_sem, r0, r1, r2, r3]) rfl ⟨_, _, rfl, f1.below (Below.refl _ _).drew, f2.below (Below.refl _ _).drew, f3.drew⟩
end Go.Proofs.Ytfddiojcahbkfaa
