/- Fractions that are drawn: l2Draw, DrawAddFrac. -/
import Derived.Test.YtccdihglpobnmaaDoorDrawN
import Derived.Test.YtccdihglpobnmaaDoorSFOf
import Derived.Test.YtccdihglpobnmaaDoorCur
import Derived.Test.YtccdihglpobnmaaDoorSNum
import Derived.Deep.RegionHeld3
import Derived.BigRegion
import Derived.Deep.DeepCutAuto
namespace Go.Proofs.YtccdihglpobnmaaDoor
open Go.RowKit

/-- A fraction at a value, of a call's own, perhaps not a right one. -/
structure AnyF (base : Nat) (w : World) (v : Value) : Prop where
  is' : ∃ g a c xs h b d ys, v = .agg #[.bool g, .slice a xs.length c, .bool h, .slice b ys.length d] ∧ Own base w a c xs ∧ Own base w b d ys
theorem AnyF.below {base : Nat} {w w' : World} {v : Value} (h : AnyF base w v) (hb : Below w.heap.size w w') : AnyF base w' v := by
  obtain ⟨g, a, c, xs, g', b, d, ys, e, o1, o2⟩ := h.is'
  exact ⟨g, a, c, xs, g', b, d, ys, e, o1.below hb, o2.below hb⟩
theorem AnyF.grown {base p : Nat} {w w' : World} {v : Value} (h : AnyF base w v) (hg : w.grownBy w' (some p)) (hp : p < base) : AnyF base w' v := by
  obtain ⟨g, a, c, xs, g', b, d, ys, e, o1, o2⟩ := h.is'
  exact ⟨g, a, c, xs, g', b, d, ys, e, o1.grown hg hp, o2.grown hg hp⟩
theorem own_put4 {b b0 : Nat} {w : World} {a : Option Addr} {c : Nat} {xs : List Int} (h : Own b0 w a c xs) (hb : b < b0) (u0 u1 u2 u3 : Value) : Own b0 ((((w.setCell ⟨b, 0, none⟩ u0).setCell ⟨b, 1, none⟩ u1).setCell ⟨b, 2, none⟩ u2).setCell ⟨b, 3, none⟩ u3) a c xs :=
  (((h.setCell (p := ⟨b, 0, none⟩) hb u0).setCell (p := ⟨b, 1, none⟩) hb u1).setCell (p := ⟨b, 2, none⟩) hb u2).setCell (p := ⟨b, 3, none⟩) hb u3
theorem AnyF.put {base b : Nat} {w : World} {v : Value} (h : AnyF base w v) (hb : b < base) (u0 u1 u2 u3 : Value) : AnyF base ((((w.setCell ⟨b, 0, none⟩ u0).setCell ⟨b, 1, none⟩ u1).setCell ⟨b, 2, none⟩ u2).setCell ⟨b, 3, none⟩ u3) v := by
  obtain ⟨g, a, c, xs, g', b', d, ys, e, o1, o2⟩ := h.is'
  exact ⟨g, a, c, xs, g', b', d, ys, e, own_put4 o1 hb u0 u1 u2 u3, own_put4 o2 hb u0 u1 u2 u3⟩
theorem AnyF.base_le {base base' : Nat} {w : World} {v : Value} (h : AnyF base w v) (hb : base' ≤ base) : AnyF base' w v := by
  obtain ⟨g, a, c, xs, g', b, d, ys, e, o1, o2⟩ := h.is'
  exact ⟨g, a, c, xs, g', b, d, ys, e, o1.base_le hb, o2.base_le hb⟩
theorem Box4.grownF {lo p q : Nat} {w w' : World} {x0 x1 x2 x3 : Value} (h : Box4 lo w q x0 x1 x2 x3) (g : w.grownBy w' (some p)) (ne : q ≠ p) : Box4 lo w' q x0 x1 x2 x3 := by
  obtain ⟨hc, hf⟩ := grown_at g h.lt (by simpa using ne)
  exact ⟨(hc 0).trans h.c0, (hc 1).trans h.c1, (hc 2).trans h.c2, (hc 3).trans h.c3, fun o => (hf o).trans (h.fr o), h.lo⟩

set_option maxHeartbeats 4000000 in
theorem Box4.put2F {lo p : Nat} {w : World} {x0 x1 x2 x3 : Value} (h : Box4 lo w p x0 x1 x2 x3) (u : Value) : Box4 lo (w.setCell ⟨p, 2, none⟩ u) p x0 x1 u x3 :=
  ⟨(World.cell?_setCell_other _ _ _ _ (by simp)).trans h.c0, (World.cell?_setCell_other _ _ _ _ (by simp)).trans h.c1, World.cell?_setCell_same _ _ _ h.c2, (World.cell?_setCell_other _ _ _ _ (by simp)).trans h.c3, fun o => (World.frozen?_setCell _ _ _ _).trans (h.fr o), h.lo⟩
theorem Box4.put3F {lo p : Nat} {w : World} {x0 x1 x2 x3 : Value} (h : Box4 lo w p x0 x1 x2 x3) (u : Value) : Box4 lo (w.setCell ⟨p, 3, none⟩ u) p x0 x1 x2 u :=
  ⟨(World.cell?_setCell_other _ _ _ _ (by simp)).trans h.c0, (World.cell?_setCell_other _ _ _ _ (by simp)).trans h.c1, (World.cell?_setCell_other _ _ _ _ (by simp)).trans h.c2, World.cell?_setCell_same _ _ _ h.c3, fun o => (World.frozen?_setCell _ _ _ _).trans (h.fr o), h.lo⟩
theorem Box4.farF {lo p q : Nat} {w : World} {x0 x1 x2 x3 : Value} (h : Box4 lo w q x0 x1 x2 x3) (ne : q ≠ p) (i : Nat) (u : Value) : Box4 lo (w.setCell ⟨p, i, none⟩ u) q x0 x1 x2 x3 :=
  ⟨(cell_other (.inl ne.symm) u).trans h.c0, (cell_other (.inl ne.symm) u).trans h.c1, (cell_other (.inl ne.symm) u).trans h.c2, (cell_other (.inl ne.symm) u).trans h.c3, fun o => (World.frozen?_setCell _ _ _ _).trans (h.fr o), h.lo⟩
/-- What the draw of a fraction keeps: the cursor and the result's variable. -/
structure DfAt (w wr : World) (p : Nat) (a : Option Addr) (n cap : Nat) : Prop where
  cur : Cur wr p a n cap
  gr : w.grownBy wr (some p)
  r0 : Box4 w.heap.size wr w.heap.size (.bool false) (.slice none 0 0) (.bool false) (.slice none 0 0)
theorem DfAt.step {w wr w' : World} {p n cap : Nat} {a : Option Addr} (h : DfAt w wr p a n cap) (hp : p < w.heap.size) (hc : Cur w' p a n cap) (g : wr.grownBy w' (some p)) : DfAt w w' p a n cap :=
  ⟨hc, grownBy_trans h.gr g, h.r0.grownF g (by omega)⟩
theorem DfAt.below {w wr w' : World} {p n cap : Nat} {a : Option Addr} (h : DfAt w wr p a n cap) (b : Below wr.heap.size wr w') : DfAt w w' p a n cap :=
  ⟨h.cur.below b, grown_below h.gr b, h.r0.below b⟩
theorem DfAt.put {w wr : World} {p n cap : Nat} {a : Option Addr} (h : DfAt w wr p a n cap) (hp : p < w.heap.size) (ha : ∀ q, w.heap.size ≤ q → ∀ b off, a = some ⟨b, off, none⟩ → 0 < n → b ≠ q) {q : Nat} (hq : w.heap.size < q) (i : Nat) (u : Value) : DfAt w (wr.setCell ⟨q, i, none⟩ u) p a n cap :=
  ⟨h.cur.put (by omega) (ha q (by omega)) i u, grown_new h.gr (by omega) i u, h.r0.farF (by omega) i u⟩
theorem DfAt.fin {w wr : World} {p n cap : Nat} {a : Option Addr} (h : DfAt w wr p a n cap) (hp : p < w.heap.size) (ha : ∀ q, w.heap.size ≤ q → ∀ b off, a = some ⟨b, off, none⟩ → 0 < n → b ≠ q) {g1 g2 : Bool} {a1 a2 : Option Addr} {c1 c2 : Nat} {xs ys : List Int} (o1 : Own (w.heap.size + 1) wr a1 c1 xs) (o2 : Own (w.heap.size + 1) wr a2 c2 ys) (u0 u1 u2 u3 : Value) :
    AnyF w.heap.size ((((wr.setCell ⟨w.heap.size, 0, none⟩ u0).setCell ⟨w.heap.size, 1, none⟩ u1).setCell ⟨w.heap.size, 2, none⟩ u2).setCell ⟨w.heap.size, 3, none⟩ u3) (.agg #[.bool g1, .slice a1 xs.length c1, .bool g2, .slice a2 ys.length c2]) ∧
    Cur ((((wr.setCell ⟨w.heap.size, 0, none⟩ u0).setCell ⟨w.heap.size, 1, none⟩ u1).setCell ⟨w.heap.size, 2, none⟩ u2).setCell ⟨w.heap.size, 3, none⟩ u3) p a n cap ∧ w.grownBy ((((wr.setCell ⟨w.heap.size, 0, none⟩ u0).setCell ⟨w.heap.size, 1, none⟩ u1).setCell ⟨w.heap.size, 2, none⟩ u2).setCell ⟨w.heap.size, 3, none⟩ u3) (some p) :=
  ⟨(AnyF.put ⟨g1, a1, c1, xs, g2, a2, c2, ys, rfl, o1, o2⟩ (by omega) u0 u1 u2 u3).base_le (by omega),
   (((h.cur.put (by omega) (ha _ (Nat.le_refl _)) 0 u0).put (by omega) (ha _ (Nat.le_refl _)) 1 u1).put (by omega) (ha _ (Nat.le_refl _)) 2 u2).put (by omega) (ha _ (Nat.le_refl _)) 3 u3,
   grown_new (grown_new (grown_new (grown_new h.gr (Nat.le_refl _) 0 u0) (Nat.le_refl _) 1 u1) (Nat.le_refl _) 2 u2) (Nat.le_refl _) 3 u3⟩

set_option maxRecDepth 20000 in
set_option maxHeartbeats 8000000 in
theorem l2Draw_any (p : Nat) (a : Option Addr) (n cap : Nat) (w : World) (h : Cur w p a n cap) :
    Calls Tryd.prog 47 #[.pointer (some ⟨p, 0, none⟩)] w fun e w' => ∃ v, e = .returned v ∧ AnyF w.heap.size w' v ∧ Cur w' p a n cap ∧ w.grownBy w' (some p) := by
  have hp : p < w.heap.size := h.lt
  have HA : Hid (∀ q, w.heap.size ≤ q → ∀ b off, a = some ⟨b, off, none⟩ → 0 < n → b ≠ q) := h.farFrom
  have P : DfAt w (w.alloc (.cells #[.bool false, .slice none 0 0, .bool false, .slice none 0 0] 42)) p a n cap := ⟨h.below (below1 _ _), grown_alloc (grownBy_refl _ _) _, Box4.new w (Nat.le_refl _) _ _ _ _ _⟩
  have hz : (w.alloc (.cells #[.bool false, .slice none 0 0, .bool false, .slice none 0 0] 42)).heap.size = w.heap.size + 1 := by simp
  clear h
  go_enter Tryd.func47, Tryd.ntmps47
  go_wp2_with fail
  generalize w.alloc (.cells #[.bool false, .slice none 0 0, .bool false, .slice none 0 0] 42) = W at *
  refine (l1Once_any p a n cap 3 _ P.cur).mono ?_
  rintro e w1 ⟨o, rfl, hc, g⟩
  have sz1 : w.heap.size + 1 ≤ w1.heap.size := by have := g.size; omega
  replace P := P.step hp hc g
  clear hc g hz
  cases o
  · go_wp2_with fail
    refine (l1Draw_any p a n cap _ P.cur).mono ?_
    rintro e w2 ⟨v1, rfl, ⟨g1, a1, c1, xs, rfl, o1, _⟩, hc, g⟩
    replace o1 := o1.base_le sz1
    have sz2 : w.heap.size + 1 ≤ w2.heap.size := by have := g.size; omega
    replace P := P.step hp hc g
    clear hc g
    go_wp2_with fail
    refine (l1Draw_any p a n cap _ P.cur).mono ?_
    rintro e w3 ⟨v2, rfl, ⟨g2, a2, c2, ys, rfl, o2, _⟩, hc, g⟩
    replace o2 := o2.base_le sz2
    replace o1 := o1.grown g (by omega)
    have sz3 : w.heap.size + 1 ≤ w3.heap.size := by have := g.size; omega
    replace P := P.step hp hc g
    clear hc g sz1 sz2
    have AP1 : Hid (∀ b off, a1 = some ⟨b, off, none⟩ → xs ≠ [] → b < w3.heap.size) := fun b off ha hn => o1.lt ha hn
    have AP2 : Hid (∀ b off, a2 = some ⟨b, off, none⟩ → ys ≠ [] → b < w3.heap.size) := fun b off ha hn => o2.lt ha hn
    have bn := below1 w3 (.cells #[.bool g1, .slice a1 xs.length c1, .bool g2, .slice a2 ys.length c2] 42)
    have VA := Box4.new w3 (lo := w.heap.size + 1) sz3 (.bool g1) (.slice a1 xs.length c1) (.bool g2) (.slice a2 ys.length c2) 42
    replace P := P.below bn
    replace o1 := o1.below bn
    replace o2 := o2.below bn
    clear bn
    go_wp2_with fail
    generalize w3.alloc (.cells #[.bool g1, .slice a1 xs.length c1, .bool g2, .slice a2 ys.length c2] 42) = W3 at *
    generalize w3.heap.size = q5 at *
    refine (l1Once_any p a n cap 8 _ P.cur).mono ?_
    rintro e w4 ⟨o, rfl, hc, g⟩
    replace o1 := o1.grown g (by omega)
    replace o2 := o2.grown g (by omega)
    replace VA := VA.grownF g (by omega)
    replace P := P.step hp hc g
    clear hc g
    by_cases hy : ys.length = 0
    · have hy' : ((ys.length : Int) == 0) = true := by rw [hy]; rfl
      have HY : Hid (ys.length = 0) := hy
      clear hy
      cases o
      · skip
        have p1 : Own (w.heap.size + 1) (w4.setCell ⟨q5, 2, none⟩ (.bool false)) a1 c1 xs := o1.kept (grownBy_setCell (grownBy_refl _ (some q5)) (p := ⟨q5, 2, none⟩) rfl _) (fun b off ha hn e => by have := AP1.out b off ha hn; injection e with e; omega)
        have p2 : Own (w.heap.size + 1) (w4.setCell ⟨q5, 2, none⟩ (.bool false)) a2 c2 ys := o2.kept (grownBy_setCell (grownBy_refl _ (some q5)) (p := ⟨q5, 2, none⟩) rfl _) (fun b off ha hn e => by have := AP2.out b off ha hn; injection e with e; omega)
        obtain ⟨k0, k1, k2, k3, kf, _⟩ := id VA
        have VA2 := VA.put2F (.bool false)
        have P2 := P.put hp HA.out (q := q5) (by omega) 2 (.bool false)
        obtain ⟨j0, j1, j2, j3, jf, _⟩ := id VA2
        go_wp2_with fail
        clear k0 k1 k2 k3 kf j0 j1 j2 j3 jf
        replace P := P2
        replace VA := VA2
        replace o1 := p1
        replace o2 := p2
        clear P2 VA2 p1 p2
        generalize w4.setCell ⟨q5, 2, none⟩ (.bool false) = W5 at *
        refine (l1Once_any p a n cap 8 _ P.cur).mono ?_
        rintro e w5 ⟨o, rfl, hc, g⟩
        replace o1 := o1.grown g (by omega)
        replace o2 := o2.grown g (by omega)
        replace VA := VA.grownF g (by omega)
        replace P := P.step hp hc g
        clear hc g
        cases o
        · obtain ⟨k0, k1, k2, k3, kf, _⟩ := id VA
          go_wp2_with fail
          clear k0 k1 k2 k3 kf
          refine (l1Below_any p a n cap 50 _ P.cur).mono ?_
          rintro e w6 ⟨y, rfl, y0, y1, hc, g⟩
          have y2 := y1 (by omega)
          replace o1 := o1.grown g (by omega)
          replace o2 := o2.grown g (by omega)
          replace VA := VA.grownF g (by omega)
          replace P := P.step hp hc g
          clear hc g y1
          have hwy : wrap64 (1 + y) = 1 + y := by unfold wrap64; omega
          go_wp2_with fail
          refine (specOf (1 + y) _ (by omega) (by omega)).mono ?_
          rintro e w7 ⟨v5, rfl, hI5, hb⟩
          obtain ⟨a5, c5, u5, rfl, o5, n5, v5⟩ := hI5
          clear n5 v5 hwy o2
          have hlt : q5 < w6.heap.size := VA.lt
          replace o1 := o1.below hb
          replace VA := VA.below hb
          replace P := P.below hb
          clear hb
          obtain ⟨g5, hg5⟩ : ∃ g5, Hid (decide (1 + y < 0) = g5) := ⟨_, rfl⟩
          rw [hg5.out]
          have G9 : w7.grownBy ((w7.setCell ⟨q5, 2, none⟩ (.bool g5)).setCell ⟨q5, 3, none⟩ (.slice a5 u5.length c5)) (some q5) := grownBy_setCell (grownBy_setCell (grownBy_refl _ _) (p := ⟨q5, 2, none⟩) rfl _) (p := ⟨q5, 3, none⟩) rfl _
          have p1 : Own (w.heap.size + 1) ((w7.setCell ⟨q5, 2, none⟩ (.bool g5)).setCell ⟨q5, 3, none⟩ (.slice a5 u5.length c5)) a1 c1 xs := o1.kept G9 (fun b off ha hn e => by have := AP1.out b off ha hn; injection e with e; omega)
          have p2 : Own (w.heap.size + 1) ((w7.setCell ⟨q5, 2, none⟩ (.bool g5)).setCell ⟨q5, 3, none⟩ (.slice a5 u5.length c5)) a5 c5 u5 := ((o5.setCell (p := ⟨q5, 2, none⟩) hlt _).setCell (p := ⟨q5, 3, none⟩) hlt _).base_le (by omega)
          have VA2 := (VA.put2F (.bool g5)).put3F (.slice a5 u5.length c5)
          have P2 := (P.put hp HA.out (q := q5) (by omega) 2 (.bool g5)).put hp HA.out (q := q5) (by omega) 3 (.slice a5 u5.length c5)
          obtain ⟨k0, k1, k2, k3, kf, _⟩ := id VA
          go_upto_region 9 with fail
          clear k0 k1 k2 k3 kf
          replace P := P2
          replace VA := VA2
          replace o1 := p1
          have o2 := p2
          clear P2 VA2 p1 p2 G9 o5
          generalize (w7.setCell ⟨q5, 2, none⟩ (.bool g5)).setCell ⟨q5, 3, none⟩ (.slice a5 u5.length c5) = W7 at *
          obtain ⟨f1, f2, f3⟩ := P.fin hp HA.out (g1 := g1) (g2 := g5) o1 o2 (.bool g1) (.slice a1 xs.length c1) (.bool g5) (.slice a5 u5.length c5)
          obtain ⟨r0, r1, r2, r3, rf, _⟩ := id P.r0
          obtain ⟨k0, k1, k2, k3, _, _⟩ := id VA
          go_wp2
          exact bodyPost_ret (v := .agg #[.bool g1, .slice a1 xs.length c1, .bool g5, .slice a5 u5.length c5]) (by simp [results, Tryd.results47, go_sem, r0, r1, r2, r3]) rfl ⟨_, rfl, f1, f2, f3⟩
        · obtain ⟨f1, f2, f3⟩ := P.fin hp HA.out (g1 := g1) (g2 := false) o1 o2 (.bool g1) (.slice a1 xs.length c1) (.bool false) (.slice a2 ys.length c2)
          obtain ⟨r0, r1, r2, r3, rf, _⟩ := id P.r0
          obtain ⟨k0, k1, k2, k3, _, _⟩ := id VA
          go_wp2
          exact bodyPost_ret (v := .agg #[.bool g1, .slice a1 xs.length c1, .bool false, .slice a2 ys.length c2]) (by simp [results, Tryd.results47, go_sem, r0, r1, r2, r3]) rfl ⟨_, rfl, f1, f2, f3⟩
      · skip
        obtain ⟨k0, k1, k2, k3, kf, _⟩ := id VA
        go_wp2_with fail
        clear k0 k1 k2 k3 kf
        refine (l1Once_any p a n cap 8 _ P.cur).mono ?_
        rintro e w5 ⟨o, rfl, hc, g⟩
        replace o1 := o1.grown g (by omega)
        replace o2 := o2.grown g (by omega)
        replace VA := VA.grownF g (by omega)
        replace P := P.step hp hc g
        clear hc g
        cases o
        · obtain ⟨k0, k1, k2, k3, kf, _⟩ := id VA
          go_wp2_with fail
          clear k0 k1 k2 k3 kf
          refine (l1Below_any p a n cap 50 _ P.cur).mono ?_
          rintro e w6 ⟨y, rfl, y0, y1, hc, g⟩
          have y2 := y1 (by omega)
          replace o1 := o1.grown g (by omega)
          replace o2 := o2.grown g (by omega)
          replace VA := VA.grownF g (by omega)
          replace P := P.step hp hc g
          clear hc g y1
          have hwy : wrap64 (1 + y) = 1 + y := by unfold wrap64; omega
          go_wp2_with fail
          refine (specOf (1 + y) _ (by omega) (by omega)).mono ?_
          rintro e w7 ⟨v5, rfl, hI5, hb⟩
          obtain ⟨a5, c5, u5, rfl, o5, n5, v5⟩ := hI5
          clear n5 v5 hwy o2
          have hlt : q5 < w6.heap.size := VA.lt
          replace o1 := o1.below hb
          replace VA := VA.below hb
          replace P := P.below hb
          clear hb
          obtain ⟨g5, hg5⟩ : ∃ g5, Hid (decide (1 + y < 0) = g5) := ⟨_, rfl⟩
          rw [hg5.out]
          have G9 : w7.grownBy ((w7.setCell ⟨q5, 2, none⟩ (.bool g5)).setCell ⟨q5, 3, none⟩ (.slice a5 u5.length c5)) (some q5) := grownBy_setCell (grownBy_setCell (grownBy_refl _ _) (p := ⟨q5, 2, none⟩) rfl _) (p := ⟨q5, 3, none⟩) rfl _
          have p1 : Own (w.heap.size + 1) ((w7.setCell ⟨q5, 2, none⟩ (.bool g5)).setCell ⟨q5, 3, none⟩ (.slice a5 u5.length c5)) a1 c1 xs := o1.kept G9 (fun b off ha hn e => by have := AP1.out b off ha hn; injection e with e; omega)
          have p2 : Own (w.heap.size + 1) ((w7.setCell ⟨q5, 2, none⟩ (.bool g5)).setCell ⟨q5, 3, none⟩ (.slice a5 u5.length c5)) a5 c5 u5 := ((o5.setCell (p := ⟨q5, 2, none⟩) hlt _).setCell (p := ⟨q5, 3, none⟩) hlt _).base_le (by omega)
          have VA2 := (VA.put2F (.bool g5)).put3F (.slice a5 u5.length c5)
          have P2 := (P.put hp HA.out (q := q5) (by omega) 2 (.bool g5)).put hp HA.out (q := q5) (by omega) 3 (.slice a5 u5.length c5)
          obtain ⟨k0, k1, k2, k3, kf, _⟩ := id VA
          go_upto_region 9 with fail
          clear k0 k1 k2 k3 kf
          replace P := P2
          replace VA := VA2
          replace o1 := p1
          have o2 := p2
          clear P2 VA2 p1 p2 G9 o5
          generalize (w7.setCell ⟨q5, 2, none⟩ (.bool g5)).setCell ⟨q5, 3, none⟩ (.slice a5 u5.length c5) = W7 at *
          obtain ⟨f1, f2, f3⟩ := P.fin hp HA.out (g1 := g1) (g2 := g5) o1 o2 (.bool g1) (.slice a1 xs.length c1) (.bool g5) (.slice a5 u5.length c5)
          obtain ⟨r0, r1, r2, r3, rf, _⟩ := id P.r0
          obtain ⟨k0, k1, k2, k3, _, _⟩ := id VA
          go_wp2
          exact bodyPost_ret (v := .agg #[.bool g1, .slice a1 xs.length c1, .bool g5, .slice a5 u5.length c5]) (by simp [results, Tryd.results47, go_sem, r0, r1, r2, r3]) rfl ⟨_, rfl, f1, f2, f3⟩
        · obtain ⟨f1, f2, f3⟩ := P.fin hp HA.out (g1 := g1) (g2 := g2) o1 o2 (.bool g1) (.slice a1 xs.length c1) (.bool g2) (.slice a2 ys.length c2)
          obtain ⟨r0, r1, r2, r3, rf, _⟩ := id P.r0
          obtain ⟨k0, k1, k2, k3, _, _⟩ := id VA
          go_wp2
          exact bodyPost_ret (v := .agg #[.bool g1, .slice a1 xs.length c1, .bool g2, .slice a2 ys.length c2]) (by simp [results, Tryd.results47, go_sem, r0, r1, r2, r3]) rfl ⟨_, rfl, f1, f2, f3⟩
    · have hy' : ((ys.length : Int) == 0) = false := by rw [beq_eq_false_iff_ne]; omega
      have HY : Hid (ys.length ≠ 0) := hy
      clear hy
      cases o
      · skip
        have p1 : Own (w.heap.size + 1) (w4.setCell ⟨q5, 2, none⟩ (.bool false)) a1 c1 xs := o1.kept (grownBy_setCell (grownBy_refl _ (some q5)) (p := ⟨q5, 2, none⟩) rfl _) (fun b off ha hn e => by have := AP1.out b off ha hn; injection e with e; omega)
        have p2 : Own (w.heap.size + 1) (w4.setCell ⟨q5, 2, none⟩ (.bool false)) a2 c2 ys := o2.kept (grownBy_setCell (grownBy_refl _ (some q5)) (p := ⟨q5, 2, none⟩) rfl _) (fun b off ha hn e => by have := AP2.out b off ha hn; injection e with e; omega)
        obtain ⟨k0, k1, k2, k3, kf, _⟩ := id VA
        have VA2 := VA.put2F (.bool false)
        have P2 := P.put hp HA.out (q := q5) (by omega) 2 (.bool false)
        obtain ⟨j0, j1, j2, j3, jf, _⟩ := id VA2
        go_upto_region 7 with fail
        clear k0 k1 k2 k3 kf j0 j1 j2 j3 jf
        replace P := P2
        replace VA := VA2
        replace o1 := p1
        replace o2 := p2
        clear P2 VA2 p1 p2
        generalize w4.setCell ⟨q5, 2, none⟩ (.bool false) = W5 at *
        obtain ⟨f1, f2, f3⟩ := P.fin hp HA.out (g1 := g1) (g2 := false) o1 o2 (.bool g1) (.slice a1 xs.length c1) (.bool false) (.slice a2 ys.length c2)
        obtain ⟨r0, r1, r2, r3, rf, _⟩ := id P.r0
        obtain ⟨k0, k1, k2, k3, _, _⟩ := id VA
        go_wp2
        exact bodyPost_ret (v := .agg #[.bool g1, .slice a1 xs.length c1, .bool false, .slice a2 ys.length c2]) (by simp [results, Tryd.results47, go_sem, r0, r1, r2, r3]) rfl ⟨_, rfl, f1, f2, f3⟩
      · skip
        obtain ⟨k0, k1, k2, k3, kf, _⟩ := id VA
        go_upto_region 7 with fail
        clear k0 k1 k2 k3 kf
        obtain ⟨f1, f2, f3⟩ := P.fin hp HA.out (g1 := g1) (g2 := g2) o1 o2 (.bool g1) (.slice a1 xs.length c1) (.bool g2) (.slice a2 ys.length c2)
        obtain ⟨r0, r1, r2, r3, rf, _⟩ := id P.r0
        obtain ⟨k0, k1, k2, k3, _, _⟩ := id VA
        go_wp2
        exact bodyPost_ret (v := .agg #[.bool g1, .slice a1 xs.length c1, .bool g2, .slice a2 ys.length c2]) (by simp [results, Tryd.results47, go_sem, r0, r1, r2, r3]) rfl ⟨_, rfl, f1, f2, f3⟩
  · go_wp2_with fail
    refine (l1Below_any p a n cap 200 _ P.cur).mono ?_
    rintro e w2 ⟨x, rfl, x0, x1, hc, g⟩
    have x2 := x1 (by omega)
    have sz2 : w.heap.size + 1 ≤ w2.heap.size := by have := g.size; omega
    replace P := P.step hp hc g
    clear hc g x1
    have hwx : wrap64 (x - 100) = x - 100 := by unfold wrap64; omega
    go_wp2_with fail
    refine (l1Below_any p a n cap 12 _ P.cur).mono ?_
    rintro e w3 ⟨y, rfl, y0, y1, hc, g⟩
    have y2 := y1 (by omega)
    have sz3 : w.heap.size + 1 ≤ w3.heap.size := by have := g.size; omega
    replace P := P.step hp hc g
    clear hc g y1 sz1 sz2
    have hwy : wrap64 (1 + y) = 1 + y := by unfold wrap64; omega
    go_wp2_with fail
    refine (specFracOf (x - 100) (1 + y) _ (by omega) (by omega) (by omega) (by omega)).mono ?_
    rintro e w4 ⟨v, rfl, ⟨a1, c1, xs, a2, c2, ys, rfl, o1, o2, _, _, _, _, _⟩, hb⟩
    have sz4 : w.heap.size + 1 ≤ w4.heap.size := by have := hb.size; omega
    replace P := P.below hb
    replace o1 := o1.base_le sz3
    replace o2 := o2.base_le sz3
    clear hb hwx hwy
    obtain ⟨g1, hg1⟩ : ∃ g5, Hid (decide (zN (x - 100) (1 + y) < 0) = g5) := ⟨_, rfl⟩
    obtain ⟨g2, hg2⟩ : ∃ g5, Hid (decide (zD (x - 100) (1 + y) < 0) = g5) := ⟨_, rfl⟩
    obtain ⟨g3, hg3⟩ : ∃ g5, Hid (decide (1 + y ≠ 0) = g5) := ⟨_, rfl⟩
    rw [hg1.out, hg2.out, hg3.out]
    have bn := below1 w4 (.cells #[.bool g1, .slice a1 xs.length c1, .bool g2, .slice a2 ys.length c2] 42)
    have VA := Box4.new w4 (lo := w.heap.size + 1) sz4 (.bool g1) (.slice a1 xs.length c1) (.bool g2) (.slice a2 ys.length c2) 42
    replace P := P.below bn
    replace o1 := o1.below bn
    replace o2 := o2.below bn
    clear bn
    go_upto_region 3 with fail
    generalize w4.alloc (.cells #[.bool g1, .slice a1 xs.length c1, .bool g2, .slice a2 ys.length c2] 42) = W4 at *
    generalize w4.heap.size = q5 at *
    obtain ⟨f1, f2, f3⟩ := P.fin hp HA.out (g1 := g1) (g2 := g2) o1 o2 (.bool g1) (.slice a1 xs.length c1) (.bool g2) (.slice a2 ys.length c2)
    obtain ⟨r0, r1, r2, r3, rf, _⟩ := id P.r0
    obtain ⟨k0, k1, k2, k3, _, _⟩ := id VA
    go_wp2
    exact bodyPost_ret (v := .agg #[.bool g1, .slice a1 xs.length c1, .bool g2, .slice a2 ys.length c2]) (by simp [results, Tryd.results47, go_sem, r0, r1, r2, r3]) rfl ⟨_, rfl, f1, f2, f3⟩


theorem cput4 {w : World} {b b' i : Nat} {u0 u1 u2 u3 : Value} (h : b' ≠ b) : ((((w.setCell ⟨b, 0, none⟩ u0).setCell ⟨b, 1, none⟩ u1).setCell ⟨b, 2, none⟩ u2).setCell ⟨b, 3, none⟩ u3).cell? ⟨b', i, none⟩ = w.cell? ⟨b', i, none⟩ :=
  (cell_other (.inl h.symm) u3).trans ((cell_other (.inl h.symm) u2).trans ((cell_other (.inl h.symm) u1).trans (cell_other (.inl h.symm) u0)))
set_option maxRecDepth 20000 in
set_option maxHeartbeats 4000000 in
theorem drawAddFrac_any (a : Option Addr) (n cap : Nat) (w : World) (hB : Byt w a n) (hm : n ≤ 1048576) :
    Calls Tryd.prog 18 #[.slice a n cap] w fun e w' => ∃ v1 v2, e = .returned (.tuple #[v1, v2]) ∧ AnyF w.heap.size w' v1 ∧ AnyF w.heap.size w' v2 ∧ Below w.heap.size w w' := by
  have R0 : Box4 w.heap.size ((w.alloc (.cells #[.bool false, .slice none 0 0, .bool false, .slice none 0 0] 42)).alloc (.cells #[.bool false, .slice none 0 0, .bool false, .slice none 0 0] 42)) w.heap.size (.bool false) (.slice none 0 0) (.bool false) (.slice none 0 0) := (Box4.new w (Nat.le_refl _) _ _ _ _ _).below (below1 _ _)
  have R1 : Box4 w.heap.size ((w.alloc (.cells #[.bool false, .slice none 0 0, .bool false, .slice none 0 0] 42)).alloc (.cells #[.bool false, .slice none 0 0, .bool false, .slice none 0 0] 42)) (w.heap.size + 1) (.bool false) (.slice none 0 0) (.bool false) (.slice none 0 0) := by have := Box4.new (w.alloc (.cells #[.bool false, .slice none 0 0, .bool false, .slice none 0 0] 42)) (lo := w.heap.size) (by simp) (.bool false) (.slice none 0 0) (.bool false) (.slice none 0 0) 42; simpa using this
  have hz : ((w.alloc (.cells #[.bool false, .slice none 0 0, .bool false, .slice none 0 0] 42)).alloc (.cells #[.bool false, .slice none 0 0, .bool false, .slice none 0 0] 42)).heap.size = w.heap.size + 2 := by simp
  have B0 := below2 w (.cells #[.bool false, .slice none 0 0, .bool false, .slice none 0 0] 42) (.cells #[.bool false, .slice none 0 0, .bool false, .slice none 0 0] 42)
  have hB0 := hB.below B0
  clear hB
  go_enter Tryd.func18, Tryd.ntmps18
  go_wp2_with fail
  generalize ((w.alloc (.cells #[.bool false, .slice none 0 0, .bool false, .slice none 0 0] 42)).alloc (.cells #[.bool false, .slice none 0 0, .bool false, .slice none 0 0] 42)) = W at *
  refine (l1New_any a n cap _ hB0 hm).mono ?_
  rintro e w1 ⟨rfl, hc, hb⟩
  rw [hz] at hc
  replace B0 := B0.trans (hb.mono (by omega))
  replace R0 := R0.below hb
  replace R1 := R1.below hb
  have sz1 : w.heap.size + 2 < w1.heap.size := hc.lt
  clear hb hB0
  go_wp2_with fail
  refine (l2Draw_any _ a n cap _ hc).mono ?_
  rintro e w2 ⟨v1, rfl, A1, hc2, g⟩
  replace B0 := B0.grown g (by omega) (fun k hk => by injection hk with hk; omega)
  replace R0 := R0.grownF g (by omega)
  replace R1 := R1.grownF g (by omega)
  have sz2 : w1.heap.size ≤ w2.heap.size := g.size
  clear hc g
  obtain ⟨g1, a1, c1, xs, g2, a2, c2, ys, rfl, o1, o2⟩ := A1.is'
  clear A1
  have VA := Box4.new w2 (lo := w.heap.size + 3) (by omega) (.bool g1) (.slice a1 xs.length c1) (.bool g2) (.slice a2 ys.length c2) 42
  have bn := below1 w2 (.cells #[.bool g1, .slice a1 xs.length c1, .bool g2, .slice a2 ys.length c2] 42)
  replace B0 := B0.trans (bn.mono B0.size)
  replace R0 := R0.below bn
  replace R1 := R1.below bn
  replace hc2 := hc2.below bn
  replace o1 := o1.below bn
  replace o2 := o2.below bn
  clear bn
  go_wp2_with fail
  generalize w2.alloc (.cells #[.bool g1, .slice a1 xs.length c1, .bool g2, .slice a2 ys.length c2] 42) = W2 at *
  generalize w2.heap.size = qa at *
  have hqW : w.heap.size + 3 ≤ W2.heap.size := by have := VA.lt; omega
  have K : W2.cell? ⟨qa, 0, none⟩ = some (.bool g1) ∧ W2.cell? ⟨qa, 1, none⟩ = some (.slice a1 xs.length c1) ∧ W2.cell? ⟨qa, 2, none⟩ = some (.bool g2) ∧ W2.cell? ⟨qa, 3, none⟩ = some (.slice a2 ys.length c2) := ⟨VA.c0, VA.c1, VA.c2, VA.c3⟩
  have Kd : W2.drew.cell? ⟨qa, 0, none⟩ = some (.bool g1) ∧ W2.drew.cell? ⟨qa, 1, none⟩ = some (.slice a1 xs.length c1) ∧ W2.drew.cell? ⟨qa, 2, none⟩ = some (.bool g2) ∧ W2.drew.cell? ⟨qa, 3, none⟩ = some (.slice a2 ys.length c2) := K
  go_region_held3 (fun w' => w'.cell? ⟨qa, 0, none⟩ = some (.bool g1) ∧ w'.cell? ⟨qa, 1, none⟩ = some (.slice a1 xs.length c1) ∧ w'.cell? ⟨qa, 2, none⟩ = some (.bool g2) ∧ w'.cell? ⟨qa, 3, none⟩ = some (.slice a2 ys.length c2))
    (first | with_reducible exact Kd | with_reducible exact k7 | with_reducible exact ⟨(cput4 (by omega)).trans k7.1, (cput4 (by omega)).trans k7.2.1, (cput4 (by omega)).trans k7.2.2.1, (cput4 (by omega)).trans k7.2.2.2⟩ | with_reducible exact ⟨(cput4 (by omega)).trans ((cput4 (by omega)).trans k7.1), (cput4 (by omega)).trans ((cput4 (by omega)).trans k7.2.1), (cput4 (by omega)).trans ((cput4 (by omega)).trans k7.2.2.1), (cput4 (by omega)).trans ((cput4 (by omega)).trans k7.2.2.2)⟩)
    (first
    | (go_at_call 47; refine (l2Draw_any _ a n cap _ (hc2.below (Below.refl _ _).drew)).mono ?_; rintro e w7 ⟨v7, rfl, A7, hc7, g⟩; have B7 := B0.drew.grown g B0.size (fun k hk => by injection hk with hk; omega); have R07 := (R0.below (Below.refl _ _).drew).grownF g (by omega); have R17 := (R1.below (Below.refl _ _).drew).grownF g (by omega); have VA7 := (VA.below (Below.refl _ _).drew).grownF g (by omega); have p1 := (o1.below (Below.refl _ _).drew).grown g (by omega); have p2 := (o2.below (Below.refl _ _).drew).grown g (by omega); have k7 : w7.cell? ⟨qa, 0, none⟩ = some (.bool g1) ∧ w7.cell? ⟨qa, 1, none⟩ = some (.slice a1 xs.length c1) ∧ w7.cell? ⟨qa, 2, none⟩ = some (.bool g2) ∧ w7.cell? ⟨qa, 3, none⟩ = some (.slice a2 ys.length c2) := ⟨VA7.c0, VA7.c1, VA7.c2, VA7.c3⟩; clear g hc7; obtain ⟨g3, a3, c3, zs, g4, a4, c4, ts, rfl, o3, o4⟩ := A7.is'; obtain ⟨r0, r1, r2, r3, rf, _⟩ := id R07; obtain ⟨s0, s1, s2, s3, sf, _⟩ := id R17))
  all_goals
    have f1 := ((AnyF.put (b := w.heap.size + 1) (AnyF.put (b := w.heap.size) (AnyF.mk ⟨g1, a1, c1, xs, g2, a2, c2, ys, rfl, p1, p2⟩) (by omega) (.bool g1) (.slice a1 xs.length c1) (.bool g2) (.slice a2 ys.length c2)) (by omega) (.bool g3) (.slice a3 zs.length c3) (.bool g4) (.slice a4 ts.length c4))).base_le (show w.heap.size ≤ w1.heap.size by omega)
    have f2 := ((AnyF.put (b := w.heap.size + 1) (AnyF.put (b := w.heap.size) A7 (by simp; omega) (.bool g1) (.slice a1 xs.length c1) (.bool g2) (.slice a2 ys.length c2)) (by simp; omega) (.bool g3) (.slice a3 zs.length c3) (.bool g4) (.slice a4 ts.length c4))).base_le (show w.heap.size ≤ _ by simp; omega)
    have f3 := Box4.chain (Box4.chain B7 R07 (.bool g1) (.slice a1 xs.length c1) (.bool g2) (.slice a2 ys.length c2)) (R17.old (by omega) (.bool g1) (.slice a1 xs.length c1) (.bool g2) (.slice a2 ys.length c2)) (.bool g3) (.slice a3 zs.length c3) (.bool g4) (.slice a4 ts.length c4)
    go_wp2
    exact bodyPost_ret (v := .tuple #[.agg #[.bool g1, .slice a1 xs.length c1, .bool g2, .slice a2 ys.length c2], .agg #[.bool g3, .slice a3 zs.length c3, .bool g4, .slice a4 ts.length c4]]) (by simp [results, Tryd.results18, go_sem, r0, r1, r2, r3, s0, s1, s2, s3]) rfl ⟨_, _, rfl, f1, f2, f3⟩
end Go.Proofs.YtccdihglpobnmaaDoor
