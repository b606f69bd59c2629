/- A box of a code: spec.l4Draw; two boxes, a box and a point. -/
import Derived.Test.YtbnoddemohhpgaaCurF
import Derived.Test.YtbnoddemohhpgaaBoxS
namespace Go.Proofs.Ytbnoddemohhpgaa
open Go.RowKit

theorem seesPd (w : World) (a b c d : Int) (t : TypeId) : SeesP (w.alloc (.cells #[.int .i64 a, .int .i64 b, .int .i64 c, .int .i64 d] t)) (some ⟨w.heap.size, 0, none⟩) 2 [(a, b), (c, d)] := by
  refine ⟨by simp, by simp [maxLen], fun _ => ⟨_, _, rfl, fun i hi => ?_⟩⟩
  have : i = 0 ∨ i = 1 := by simp at hi; omega
  rcases this with rfl | rfl
  all_goals exact ⟨cell_new _ _ _ _ rfl, cell_new _ _ _ _ rfl⟩
theorem Cur.put4 {w : World} {p n cap q : Nat} {a : Option Addr} (h : Cur w p a n cap) (hq : q ≠ p) (hb : ∀ b off, a = some ⟨b, off, none⟩ → 0 < n → b ≠ q) (u0 u1 u2 u3 : Value) : Cur ((((w.setCell ⟨q, 0, none⟩ u0).setCell ⟨q, 1, none⟩ u1).setCell ⟨q, 2, none⟩ u2).setCell ⟨q, 3, none⟩ u3) p a n cap :=
  (((h.put hq hb 0 u0).put hq hb 1 u1).put hq hb 2 u2).put hq hb 3 u3
theorem grown_put4 {w w1 : World} {row : Option Nat} (h : w.grownBy w1 row) {q : Nat} (hq : w.heap.size ≤ q) (u0 u1 u2 u3 : Value) : w.grownBy ((((w1.setCell ⟨q, 0, none⟩ u0).setCell ⟨q, 1, none⟩ u1).setCell ⟨q, 2, none⟩ u2).setCell ⟨q, 3, none⟩ u3) row :=
  grown_new (grown_new (grown_new (grown_new h hq 0 u0) hq 1 u1) hq 2 u2) hq 3 u3
theorem Cur.far {w w' : World} {p n cap : Nat} {a : Option Addr} (h : Cur w p a n cap) (hb : Below w.heap.size w w') : Cur w' p a n cap := h.below hb

set_option maxHeartbeats 2000000 in
theorem l4Draw_any (p : Nat) (a : Option Addr) (n cap : Nat) (w : World) (h : Cur w p a n cap) :
    Calls Try.prog 11 #[.pointer (some ⟨p, 0, none⟩)] w fun e w' => ∃ x1 y1 x2 y2 : Int, e = .returned (.agg #[.int .i64 x1, .int .i64 y1, .int .i64 x2, .int .i64 y2]) ∧ Cur w' p a n cap ∧ w.grownBy w' (some p) := by
  have hp : p < w.heap.size := h.lt
  have R := Box4.new w (Nat.le_refl _) (.int .i64 0) (.int .i64 0) (.int .i64 0) (.int .i64 0) 33
  have bn := below1 w (.cells #[.int .i64 0, .int .i64 0, .int .i64 0, .int .i64 0] 33)
  have G : w.grownBy (w.alloc (.cells #[.int .i64 0, .int .i64 0, .int .i64 0, .int .i64 0] 33)) (some p) := World.grownBy_alloc _ _ _
  have HA : Hid (∀ b off, a = some ⟨b, off, none⟩ → 0 < n → b ≠ w.heap.size) := h.byt.apart
  replace h := h.below bn
  clear bn
  have hne : w.heap.size ≠ p := by omega
  go_enter Try.func11, Try.ntmps11
  go_wp2_with fail
  generalize w.alloc (.cells #[.int .i64 0, .int .i64 0, .int .i64 0, .int .i64 0] 33) = W0 at *
  refine (l3Draw_any p a n cap _ h).mono ?_
  rintro e w1 ⟨x1, y1, rfl, h1, g⟩
  replace G := grownBy_trans G g
  replace R := R.grown g hne
  clear g h
  go_wp2_with fail
  refine (specTakenPt _ _ _).mono ?_
  rintro e w2 ⟨rfl, hb⟩
  replace G := grownBy_trans G (grow_b hb)
  replace R := R.below hb
  replace h1 := h1.below hb
  clear hb
  go_wp2_with fail
  refine (l3Draw_any p a n cap _ h1).mono ?_
  rintro e w3 ⟨x2, y2, rfl, h2, g⟩
  replace G := grownBy_trans G g
  replace R := R.grown g hne
  clear g h1
  go_wp2_with fail
  refine (specTakenPt _ _ _).mono ?_
  rintro e w4 ⟨rfl, hb⟩
  replace G := grownBy_trans G (grow_b hb)
  replace R := R.below hb
  replace h2 := h2.below hb
  clear hb
  go_wp2_with fail
  have SP := seesPd w4 (tX x1 y1) (tY x1 y1) (tX x2 y2) (tY x2 y2) 31
  have bn := below1 w4 (.cells #[.int .i64 (tX x1 y1), .int .i64 (tY x1 y1), .int .i64 (tX x2 y2), .int .i64 (tY x2 y2)] 31)
  replace G := grownBy_trans G (grow_b bn)
  replace R := R.below bn
  replace h2 := h2.below bn
  clear bn
  refine (specBoxOf _ _ _ _ SP).mono ?_
  rintro e w5 ⟨rfl, hb⟩
  replace G := grownBy_trans G (grow_b hb)
  replace R := R.below hb
  replace h2 := h2.below hb
  clear hb SP
  generalize bA [(tX x1 y1, tY x1 y1), (tX x2 y2, tY x2 y2)] = u1
  generalize bB [(tX x1 y1, tY x1 y1), (tX x2 y2, tY x2 y2)] = u2
  generalize bC [(tX x1 y1, tY x1 y1), (tX x2 y2, tY x2 y2)] = u3
  generalize bD [(tX x1 y1, tY x1 y1), (tX x2 y2, tY x2 y2)] = u4
  generalize bOk [(tX x1 y1, tY x1 y1), (tX x2 y2, tY x2 y2)] = ok
  have P := Box4.new w5 (lo := w.heap.size) (Nat.le_of_lt R.lt) (.int .i64 u1) (.int .i64 u2) (.int .i64 u3) (.int .i64 u4) 33
  have bn := below1 w5 (.cells #[.int .i64 u1, .int .i64 u2, .int .i64 u3, .int .i64 u4] 33)
  have hq : p < w5.heap.size := h2.lt
  have hr : w.heap.size < w5.heap.size := R.lt
  replace G := grownBy_trans G (grow_b bn)
  replace R := R.below bn
  replace h2 := h2.below bn
  clear bn
  cases ok
  · go_wp2_with fail
    generalize w5.alloc (.cells #[.int .i64 u1, .int .i64 u2, .int .i64 u3, .int .i64 u4] 33) = W5 at *
    refine (l3Draw_any p a n cap _ h2).mono ?_
    rintro e w6 ⟨x3, y3, rfl, h3, g⟩
    replace G := grownBy_trans G g
    replace R := R.grown g hne
    clear g h2
    go_wp2_with fail
    refine (l3Draw_any p a n cap _ h3).mono ?_
    rintro e w7 ⟨x4, y4, rfl, h4, g⟩
    replace G := grownBy_trans G g
    replace R := R.grown g hne
    clear g h3
    obtain ⟨d0, d1, d2, d3, df, _⟩ := id R
    go_wp2
    exact bodyPost_ret (v := .agg #[.int .i64 x3, .int .i64 y3, .int .i64 x4, .int .i64 y4]) (by simp [results, Try.results11, go_sem, d0, d1, d2, d3]) rfl ⟨_, _, _, _, rfl, h4.put4 hne HA.out _ _ _ _, grown_put4 G (Nat.le_refl _) _ _ _ _⟩
  · go_wp2_with fail
    generalize hQ : w5.heap.size = q at *
    generalize w5.alloc (.cells #[.int .i64 u1, .int .i64 u2, .int .i64 u3, .int .i64 u4] 33) = W5 at *
    clear hQ
    refine (l1Once_any p a n cap 10 _ h2).mono ?_
    rintro e w8 ⟨b, rfl, h8, g⟩
    replace G := grownBy_trans G g
    replace R := R.grown g hne
    replace P := P.grown g (by omega)
    clear g h2
    obtain ⟨d0, d1, d2, d3, df, _⟩ := id R
    obtain ⟨c0, c1, c2, c3, _, _⟩ := id P
    cases b
    · go_wp2
      exact bodyPost_ret (v := .agg #[.int .i64 u1, .int .i64 u2, .int .i64 u3, .int .i64 u4]) (by simp [results, Try.results11, go_sem, d0, d1, d2, d3]) rfl ⟨_, _, _, _, rfl, h8.put4 hne HA.out _ _ _ _, grown_put4 G (Nat.le_refl _) _ _ _ _⟩
    · go_wp2_with fail
      clear d0 d1 d2 d3 df c0 c1 c2 c3
      refine (l3Draw_any p a n cap _ h8).mono ?_
      rintro e w6 ⟨x3, y3, rfl, h3, g⟩
      replace G := grownBy_trans G g
      replace R := R.grown g hne
      clear g h8
      go_wp2_with fail
      refine (l3Draw_any p a n cap _ h3).mono ?_
      rintro e w7 ⟨x4, y4, rfl, h4, g⟩
      replace G := grownBy_trans G g
      replace R := R.grown g hne
      clear g h3
      obtain ⟨d0, d1, d2, d3, df, _⟩ := id R
      go_wp2
      exact bodyPost_ret (v := .agg #[.int .i64 x3, .int .i64 y3, .int .i64 x4, .int .i64 y4]) (by simp [results, Try.results11, go_sem, d0, d1, d2, d3]) rfl ⟨_, _, _, _, rfl, h4.put4 hne HA.out _ _ _ _, grown_put4 G (Nat.le_refl _) _ _ _ _⟩
end Go.Proofs.Ytbnoddemohhpgaa
