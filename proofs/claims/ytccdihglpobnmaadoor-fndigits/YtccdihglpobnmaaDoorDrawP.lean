/- Two numbers that are drawn: l1Pair, DrawAdd, DrawMul. -/
import Derived.Test.YtccdihglpobnmaaDoorDrawN
import Derived.Test.YtccdihglpobnmaaDoorSNeg
import Derived.Test.YtccdihglpobnmaaDoorOfW
import Derived.Test.YtccdihglpobnmaaDoorBounds
namespace Go.Proofs.YtccdihglpobnmaaDoor
open Go.RowKit

/-- A number at a value, of a call's own, perhaps not a right one. -/
structure AnyN (base : Nat) (w : World) (v : Value) : Prop where
  is' : ∃ g a c xs, v = .agg #[.bool g, .slice a xs.length c] ∧ Own base w a c xs ∧ xs.length ≤ 64
theorem AnyN.below {base : Nat} {w w' : World} {v : Value} (h : AnyN base w v) (hb : Below w.heap.size w w') : AnyN base w' v := by
  obtain ⟨g, a, c, xs, e, o, l⟩ := h.is'
  exact ⟨g, a, c, xs, e, o.below hb, l⟩
theorem AnyN.grown {base p : Nat} {w w' : World} {v : Value} (h : AnyN base w v) (hg : w.grownBy w' (some p)) (hp : p < base) : AnyN base w' v := by
  obtain ⟨g, a, c, xs, e, o, l⟩ := h.is'
  exact ⟨g, a, c, xs, e, o.grown hg hp, l⟩
theorem AnyN.base_le {base base' : Nat} {w : World} {v : Value} (h : AnyN base w v) (hb : base' ≤ base) : AnyN base' w v := by
  obtain ⟨g, a, c, xs, e, o, l⟩ := h.is'
  exact ⟨g, a, c, xs, e, o.base_le hb, l⟩
theorem AnyN.put {base b : Nat} {w : World} {v : Value} (h : AnyN base w v) (hb : b < base) (u0 u1 : Value) : AnyN base ((w.setCell ⟨b, 0, none⟩ u0).setCell ⟨b, 1, none⟩ u1) v := by
  obtain ⟨g, a, c, xs, e, o, l⟩ := h.is'
  exact ⟨g, a, c, xs, e, (o.setCell (p := ⟨b, 0, none⟩) hb u0).setCell (p := ⟨b, 1, none⟩) hb u1, l⟩
theorem pow24 : (4294967296 : Int) ^ 24 + 4294967296 ^ 24 < 4294967296 ^ 25 := by decide
theorem IsNum.anyN {base : Nat} {w : World} {v : Value} {z : Int} (h : IsNum base w v z) (h1 : -(4294967296 ^ 64) < z) (h2 : z < 4294967296 ^ 64) : AnyN base w v := by
  obtain ⟨a, c, us, e, o, n, hv⟩ := h
  refine ⟨_, a, c, us, e, o, len_le o.lim n ?_⟩
  rw [hv]
  unfold mg
  split <;> omega
theorem sum_bounds {x y : Int} (hx : -(4294967296 ^ 24) < x ∧ x < 4294967296 ^ 24) (hy : -(4294967296 ^ 24) < y ∧ y < 4294967296 ^ 24) : -(4294967296 ^ 64) < x + y ∧ x + y < 4294967296 ^ 64 := by
  have : (4294967296 : Int) ^ 24 + 4294967296 ^ 24 < 4294967296 ^ 64 := by decide
  omega

/-- What the draw of two keeps: the cursor, the results' variables, the two numbers' variables. -/
structure PrAt (w wr : World) (p : Nat) (a : Option Addr) (n cap : Nat) : Prop where
  cur : Cur wr p a n cap
  gr : w.grownBy wr (some p)
  r0 : Box2 w.heap.size wr w.heap.size (.bool false) (.slice none 0 0)
  r1 : Box2 w.heap.size wr (w.heap.size + 1) (.bool false) (.slice none 0 0)
theorem PrAt.step {w wr w' : World} {p n cap : Nat} {a : Option Addr} (h : PrAt w wr p a n cap) (hp : p < w.heap.size) (hc : Cur w' p a n cap) (g : wr.grownBy w' (some p)) : PrAt w w' p a n cap :=
  ⟨hc, grownBy_trans h.gr g, h.r0.grown g (by omega), h.r1.grown g (by omega)⟩
theorem PrAt.below {w wr w' : World} {p n cap : Nat} {a : Option Addr} (h : PrAt w wr p a n cap) (b : Below wr.heap.size wr w') : PrAt w w' p a n cap :=
  ⟨h.cur.below b, grown_below h.gr b, h.r0.below b, h.r1.below b⟩

theorem PrAt.fin {w wr : World} {p n cap : Nat} {a : Option Addr} (h : PrAt w wr p a n cap) (hp : p < w.heap.size) (ha : ∀ q, w.heap.size ≤ q → ∀ b off, a = some ⟨b, off, none⟩ → 0 < n → b ≠ q) {v1 v2 : Value} (o1 : AnyN (w.heap.size + 2) wr v1) (o2 : AnyN (w.heap.size + 2) wr v2) (u0 u1 u2 u3 : Value) :
    AnyN w.heap.size ((((wr.setCell ⟨w.heap.size, 0, none⟩ u0).setCell ⟨w.heap.size, 1, none⟩ u1).setCell ⟨w.heap.size + 1, 0, none⟩ u2).setCell ⟨w.heap.size + 1, 1, none⟩ u3) v1 ∧ AnyN w.heap.size ((((wr.setCell ⟨w.heap.size, 0, none⟩ u0).setCell ⟨w.heap.size, 1, none⟩ u1).setCell ⟨w.heap.size + 1, 0, none⟩ u2).setCell ⟨w.heap.size + 1, 1, none⟩ u3) v2 ∧
    Cur ((((wr.setCell ⟨w.heap.size, 0, none⟩ u0).setCell ⟨w.heap.size, 1, none⟩ u1).setCell ⟨w.heap.size + 1, 0, none⟩ u2).setCell ⟨w.heap.size + 1, 1, none⟩ u3) p a n cap ∧ w.grownBy ((((wr.setCell ⟨w.heap.size, 0, none⟩ u0).setCell ⟨w.heap.size, 1, none⟩ u1).setCell ⟨w.heap.size + 1, 0, none⟩ u2).setCell ⟨w.heap.size + 1, 1, none⟩ u3) (some p) :=
  ⟨((o1.put (by omega) u0 u1).put (by omega) u2 u3).base_le (by omega), ((o2.put (by omega) u0 u1).put (by omega) u2 u3).base_le (by omega),
   (((h.cur.put (by omega) (ha _ (Nat.le_refl _)) 0 u0).put (by omega) (ha _ (Nat.le_refl _)) 1 u1).put (by omega) (ha _ (by omega)) 0 u2).put (by omega) (ha _ (by omega)) 1 u3,
   grown_new (grown_new (grown_new (grown_new h.gr (Nat.le_refl _) 0 u0) (Nat.le_refl _) 1 u1) (by omega) 0 u2) (by omega) 1 u3⟩

set_option maxRecDepth 20000 in
set_option maxHeartbeats 8000000 in
theorem l1Pair_any (p : Nat) (a : Option Addr) (n cap : Nat) (w : World) (h : Cur w p a n cap) :
    Calls Tryd.prog 28 #[.pointer (some ⟨p, 0, none⟩)] w fun e w' => ∃ v1 v2, e = .returned (.tuple #[v1, v2]) ∧ AnyN w.heap.size w' v1 ∧ AnyN w.heap.size w' v2 ∧ Cur w' p a n cap ∧ w.grownBy w' (some p) := by
  have hp : p < w.heap.size := h.lt
  have HA : Hid (∀ q, w.heap.size ≤ q → ∀ b off, a = some ⟨b, off, none⟩ → 0 < n → b ≠ q) := h.farFrom
  have P0 : PrAt w ((w.alloc (.cells #[.bool false, .slice none 0 0] 26)).alloc (.cells #[.bool false, .slice none 0 0] 26)) p a n cap := ⟨h.below (below2 _ _ _), grown_alloc (grown_alloc (grownBy_refl _ _) _) _, (Box2.new w (Nat.le_refl _) _ _ _).below (below1 _ _), by have := Box2.new (w.alloc (.cells #[.bool false, .slice none 0 0] 26)) (lo := w.heap.size) (by simp) (.bool false) (.slice none 0 0) 26; simpa using this⟩
  have hz : ((w.alloc (.cells #[.bool false, .slice none 0 0] 26)).alloc (.cells #[.bool false, .slice none 0 0] 26)).heap.size = w.heap.size + 2 := by simp
  clear h
  go_enter Tryd.func28, Tryd.ntmps28
  go_wp2_with fail
  generalize (w.alloc (.cells #[.bool false, .slice none 0 0] 26)).alloc (.cells #[.bool false, .slice none 0 0] 26) = W at *
  refine (l1Draw_any p a n cap _ P0.cur).mono ?_
  rintro e w1 ⟨v1, rfl, ⟨g1, a1, c1, xs, rfl, o1, l1⟩, hc, g⟩
  have P1 := P0.step hp hc g
  have sz1 : w.heap.size + 2 ≤ w1.heap.size := by have := g.size; omega
  replace o1 := o1.base_le (show w.heap.size + 2 ≤ W.heap.size by omega)
  clear P0 hc g
  have VA := Box2.new w1 (lo := w.heap.size + 2) sz1 (.bool g1) (.slice a1 xs.length c1) 26
  have P2 := P1.below (below1 w1 (.cells #[.bool g1, .slice a1 xs.length c1] 26))
  replace o1 := o1.below (below1 w1 (.cells #[.bool g1, .slice a1 xs.length c1] 26))
  clear P1
  go_wp2_with fail
  have hz1 : w1.heap.size < (w1.alloc (.cells #[.bool g1, .slice a1 xs.length c1] 26)).heap.size := by simp
  generalize w1.alloc (.cells #[.bool g1, .slice a1 xs.length c1] 26) = W1 at *
  generalize w1.heap.size = qa at *
  refine (l1Draw_any p a n cap _ P2.cur).mono ?_
  rintro e w2 ⟨v2, rfl, ⟨g2, a2, c2, ys, rfl, o2, l2⟩, hc, g⟩
  have P3 := P2.step hp hc g
  have sz2 : qa < w2.heap.size := by have := g.size; omega
  replace o1 := o1.grown g (by omega)
  replace VA := VA.grown g (by omega)
  replace o2 := o2.base_le (show w.heap.size + 2 ≤ W1.heap.size by omega)
  clear P2 hc g hz1
  have VB := Box2.new w2 (lo := w.heap.size + 2) (show w.heap.size + 2 ≤ w2.heap.size by omega) (.bool g2) (.slice a2 ys.length c2) 26
  have bn := below1 w2 (.cells #[.bool g2, .slice a2 ys.length c2] 26)
  have P4 := P3.below bn
  have hAP : ∀ b off, a1 = some ⟨b, off, none⟩ → xs ≠ [] → b < w2.heap.size := fun b off ha hn => o1.lt ha hn
  replace o1 := o1.below bn
  replace o2 := o2.below bn
  replace VA := VA.below bn
  have hab : qa ≠ w2.heap.size := by omega
  have AP : Hid (∀ b off, a1 = some ⟨b, off, none⟩ → xs ≠ [] → b < w2.heap.size) := hAP
  clear P3 bn sz2 hAP
  go_wp2_with fail
  generalize w2.alloc (.cells #[.bool g2, .slice a2 ys.length c2] 26) = W2 at *
  have sqb : w.heap.size + 2 ≤ w2.heap.size := VB.lo
  generalize w2.heap.size = qb at *
  refine (l1Once_any p a n cap 6 _ P4.cur).mono ?_
  rintro e w3 ⟨o, rfl, hc, g⟩
  have P5 := P4.step hp hc g
  replace o1 := o1.grown g (by omega)
  replace o2 := o2.grown g (by omega)
  replace VA := VA.grown g (by omega)
  replace VB := VB.grown g (by omega)
  clear P4 hc g
  cases o
  · obtain ⟨r0, r1, rf, _⟩ := id P5.r0
    obtain ⟨r2, r3, rg, _⟩ := id P5.r1
    obtain ⟨k0, k1, _, _⟩ := id VA
    obtain ⟨m0, m1, _, _⟩ := id VB
    go_wp2_with fail
    go_region
    obtain ⟨f1, f2, f3, f4⟩ := (P5.below (Below.refl _ _).drew).fin hp HA.out (AnyN.below ⟨g1, a1, c1, xs, rfl, o1, l1⟩ (Below.refl _ _).drew) (AnyN.below ⟨g2, a2, c2, ys, rfl, o2, l2⟩ (Below.refl _ _).drew) (.bool g1) (.slice a1 xs.length c1) (.bool g2) (.slice a2 ys.length c2)
    all_goals
      go_wp2
      exact bodyPost_ret (v := .tuple #[.agg #[.bool g1, .slice a1 xs.length c1], .agg #[.bool g2, .slice a2 ys.length c2]]) (by simp [results, Tryd.results28, go_sem, r0, r1, r2, r3]) rfl ⟨_, _, rfl, f1, f2, f3, f4⟩
  · obtain ⟨k0, k1, _, _⟩ := id VA
    have K : w3.cell? ⟨qa, 0, none⟩ = some (.bool g1) ∧ w3.cell? ⟨qa, 1, none⟩ = some (.slice a1 xs.length c1) := ⟨k0, k1⟩
    clear k0 k1
    go_wp2_with fail
    go_region_held3 (fun w' => w'.cell? ⟨qa, 0, none⟩ = some (.bool g1) ∧ w'.cell? ⟨qa, 1, none⟩ = some (.slice a1 xs.length c1))
      (first | exact K | exact k4 | exact k5 | exact k6 | exact ⟨(cell_put (by omega)).trans k6.1, (cell_put (by omega)).trans k6.2⟩)
      (first
      | (go_at_call 30; refine (l1Below_any p a n cap 3 _ (P5.below (Below.refl _ _).drew).cur).mono ?_; rintro e w4 ⟨y, rfl, y0, y1, hc, g⟩; have y2 := y1 (by omega); have P6 := (P5.below (Below.refl _ _).drew).step hp hc g; have VA6 := (VA.below (Below.refl _ _).drew).grown g (by omega); have VB6 := (VB.below (Below.refl _ _).drew).grown g (by omega); have o6 := (o1.below (Below.refl _ _).drew).grown g (by omega); have k4 : w4.cell? ⟨qa, 0, none⟩ = some (.bool g1) ∧ w4.cell? ⟨qa, 1, none⟩ = some (.slice a1 xs.length c1) := ⟨VA6.c0, VA6.c1⟩; clear hc g y1)
      | (go_at_call 12; rw [show IntKind.i64.wrap (y - 1) = y - 1 by rw [IntKind.wrap_i64]; omega]; refine (specOf (y - 1) _ (by omega) (by omega)).mono ?_; rintro e w5 ⟨v5, rfl, hI5, hb⟩; have P7 := P6.below hb; have VA7 := VA6.below hb; have VB7 := VB6.below hb; have o7 := o6.below hb; have k5 : w5.cell? ⟨qa, 0, none⟩ = some (.bool g1) ∧ w5.cell? ⟨qa, 1, none⟩ = some (.slice a1 xs.length c1) := ⟨VA7.c0, VA7.c1⟩; clear hb; obtain ⟨a5, c5, u5, rfl, o5, n5, v5⟩ := hI5; clear n5 v5)
      | (go_at_call 59; refine (specAdd g1 _ a1 a5 c1 c5 xs u5 _ o7.toSees o5.toSees).mono ?_; rintro e w6 ⟨v6, rfl, hI6, hb⟩; have bd := sum_bounds (tk_bounds g1 xs o7.lim) (tk_bounds (decide (y - 1 < 0)) u5 o5.lim); have A6 := hI6.anyN bd.1 bd.2; have sz7 : qb < w5.heap.size := VB7.lt; have P8 := P7.below hb; have VA8 := VA7.below hb; have VB8 := VB7.below hb; have o8 := o7.below hb; have k6 : w6.cell? ⟨qa, 0, none⟩ = some (.bool g1) ∧ w6.cell? ⟨qa, 1, none⟩ = some (.slice a1 xs.length c1) := ⟨VA8.c0, VA8.c1⟩; clear hb hI6 bd; obtain ⟨m0, m1, mf, _⟩ := id VB8; obtain ⟨g6, a6, c6, zs, rfl, o9, l9⟩ := A6.is'))
    all_goals
      have G9 : w6.grownBy ((w6.setCell ⟨qb, 0, none⟩ (.bool g6)).setCell ⟨qb, 1, none⟩ (.slice a6 zs.length c6)) (some qb) := grownBy_setCell (grownBy_setCell (grownBy_refl _ _) (p := ⟨qb, 0, none⟩) rfl _) (p := ⟨qb, 1, none⟩) rfl _
      have P9 : PrAt w ((w6.setCell ⟨qb, 0, none⟩ (.bool g6)).setCell ⟨qb, 1, none⟩ (.slice a6 zs.length c6)) p a n cap := ⟨(P8.cur.put (by omega) (HA.out qb (by omega)) 0 _).put (by omega) (HA.out qb (by omega)) 1 _, grown_new (grown_new P8.gr (by omega) 0 _) (by omega) 1 _, P8.r0.old (by omega) _ _, P8.r1.old (by omega) _ _⟩
      have A9 := AnyN.put (b := qb) A6 (by omega) (.bool g6) (.slice a6 zs.length c6)
      have o10 : Own (w.heap.size + 2) ((w6.setCell ⟨qb, 0, none⟩ (.bool g6)).setCell ⟨qb, 1, none⟩ (.slice a6 zs.length c6)) a1 c1 xs := o8.kept G9 (fun b off ha hn e => by have := AP.out b off ha hn; injection e with e; omega)
      have VA9 := VA8.old hab (.bool g6) (.slice a6 zs.length c6)
      have VB9 := VB8.put (.bool g6) (.slice a6 zs.length c6)
      replace A9 := A9.base_le (show w.heap.size + 2 ≤ w5.heap.size by omega)
      clear G9 P8 A6 o8 VA8 VB8 K k4 k5 k6 m0 m1 mf o9
      generalize (w6.setCell ⟨qb, 0, none⟩ (.bool g6)).setCell ⟨qb, 1, none⟩ (.slice a6 zs.length c6) = W9 at *
      obtain ⟨r0, r1, rf, _⟩ := id P9.r0
      obtain ⟨r2, r3, rg, _⟩ := id P9.r1
      obtain ⟨k0, k1, _, _⟩ := id VA9
      obtain ⟨m0, m1, _, _⟩ := id VB9
      go_wp2_with fail
      go_region
      obtain ⟨f1, f2, f3, f4⟩ := (P9.below (Below.refl _ _).drew).fin hp HA.out (AnyN.below ⟨g1, a1, c1, xs, rfl, o10, l1⟩ (Below.refl _ _).drew) (A9.below (Below.refl _ _).drew) (.bool g1) (.slice a1 xs.length c1) (.bool g6) (.slice a6 zs.length c6)
      go_wp2
      exact bodyPost_ret (v := .tuple #[.agg #[.bool g1, .slice a1 xs.length c1], .agg #[.bool g6, .slice a6 zs.length c6]]) (by simp [results, Tryd.results28, go_sem, r0, r1, r2, r3]) rfl ⟨_, _, rfl, f1, f2, f3, f4⟩

end Go.Proofs.YtccdihglpobnmaaDoor
