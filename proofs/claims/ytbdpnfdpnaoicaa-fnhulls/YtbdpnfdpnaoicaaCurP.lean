/- A point that is drawn. -/
import Derived.Test.YtbdpnfdpnaoicaaCurN
namespace Go.Proofs.Ytbdpnfdpnaoicaa
open Go.RowKit

theorem Box2.put0 {lo p : Nat} {w : World} {x0 x1 : Value} (h : Box2 lo w p x0 x1) (u : Value) : Box2 lo (w.setCell ⟨p, 0, none⟩ u) p u x1 :=
  ⟨cell_same h.c0 u, (cell_other (.inr (by decide)) u).trans h.c1, fun o => (World.frozen?_setCell ..).trans (h.fr o), h.lo⟩
theorem Box2.put1 {lo p : Nat} {w : World} {x0 x1 : Value} (h : Box2 lo w p x0 x1) (u : Value) : Box2 lo (w.setCell ⟨p, 1, none⟩ u) p x0 u :=
  ⟨(cell_other (.inr (by decide)) u).trans h.c0, cell_same h.c1 u, fun o => (World.frozen?_setCell ..).trans (h.fr o), h.lo⟩
theorem Box2.far {lo p q : Nat} {w : World} {x0 x1 : Value} (h : Box2 lo w q x0 x1) (ne : q ≠ p) (o : Nat) (u : Value) : Box2 lo (w.setCell ⟨p, o, none⟩ u) q x0 x1 :=
  ⟨(cell_other (.inl (Ne.symm ne)) u).trans h.c0, (cell_other (.inl (Ne.symm ne)) u).trans h.c1, fun i => (World.frozen?_setCell ..).trans (h.fr i), h.lo⟩

set_option maxRecDepth 20000 in
set_option maxHeartbeats 8000000 in
theorem l3Draw_any (p : Nat) (a : Option Addr) (n cap : Nat) (w : World) (h : Cur w p a n cap) :
    Calls Try.prog 33 #[.pointer (some ⟨p, 0, none⟩)] w fun e w' => ∃ x y : Int, e = .returned (.agg #[.int .i64 x, .int .i64 y]) ∧ Cur w' p a n cap ∧ w.grownBy w' (some p) := by
  have hp : p < w.heap.size := h.lt
  have HA : Hid (∀ q, w.heap.size ≤ q → ∀ b off, a = some ⟨b, off, none⟩ → 0 < n → b ≠ q) := by
    intro q hq b off ea hn
    obtain ⟨b', off', ea', y, _, _, hc⟩ := h.byt 0 hn
    have hl : b' < w.heap.size := World.block_lt_of_cell? _ _ hc
    rw [ea] at ea'
    simp only [Option.some.injEq, Addr.mk.injEq] at ea'
    omega
  have kR := Box2.new w (Nat.le_refl _) (.int .i64 0) (.int .i64 0) 29
  have hc := h.below (below1 w (.cells #[.int .i64 0, .int .i64 0] 29))
  have G := grown_alloc (grownBy_refl w (some p)) (.cells #[.int .i64 0, .int .i64 0] 29)
  have nR : w.heap.size ≠ p := by omega
  clear h
  go_enter Try.func33, Try.ntmps33
  go_wp2_with fail
  generalize w.alloc (.cells #[.int .i64 0, .int .i64 0] 29) = W0 at *
  refine (l1Below_any p a n cap 9 _ hc).mono ?_
  rintro e w1 ⟨x, rfl, x0, x1, hc1, g⟩
  have x2 := x1 (by omega)
  replace kR := kR.grown g nR
  replace G := grownBy_trans G g
  clear hc g x1
  go_wp2_with fail
  refine (l1Below_any p a n cap 9 _ hc1).mono ?_
  rintro e w2 ⟨y, rfl, y0, y1, hc2, g⟩
  have y2 := y1 (by omega)
  replace kR := kR.grown g nR
  replace G := grownBy_trans G g
  clear hc1 g y1
  have lR := kR.lt
  go_wp2_with fail
  have kB := Box2.new w2 (lo := w.heap.size) G.size (.int .i64 (x - 4)) (.int .i64 (y - 4)) 29
  have hb := below1 w2 (.cells #[.int .i64 (x - 4), .int .i64 (y - 4)] 29)
  have nB : w2.heap.size ≠ p := by have := G.size; omega
  have nBR : w2.heap.size ≠ w.heap.size := by omega
  have loB := G.size
  replace kR := kR.below hb
  replace hc2 := hc2.below hb
  replace G := grown_alloc G (.cells #[.int .i64 (x - 4), .int .i64 (y - 4)] 29)
  clear hb
  generalize w2.alloc (.cells #[.int .i64 (x - 4), .int .i64 (y - 4)] 29) = W2 at *
  generalize x - 4 = X at *
  generalize y - 4 = Y at *
  clear x0 x2 y0 y2 lR
  refine (l1Once_any p a n cap 8 _ hc2).mono ?_
  rintro e u1 ⟨f1, rfl, hc1a, g⟩
  replace kR := kR.grown g nR
  replace kB := kB.grown g nB
  replace G := grownBy_trans G g
  clear g hc2
  cases f1
  · skip
    go_wp2_with fail
    refine (l1Once_any p a n cap 8 _ hc1a).mono ?_
    rintro e u2 ⟨f2, rfl, hc2a, g⟩
    replace kR := kR.grown g nR
    replace kB := kB.grown g nB
    replace G := grownBy_trans G g
    clear g hc1a
    cases f2
    · skip
      skip
      have s0 := kB.c0
      have s1 := kB.c1
      have r0 := kR.c0
      have r1 := kR.c1
      have rf := kR.fr
      go_wp2
      exact bodyPost_ret (v := .agg #[.int .i64 X, .int .i64 Y]) (by simp [results, Try.results33, go_sem, r0, r1]) rfl ⟨X, Y, rfl, (hc2a.put nR (HA.out _ (Nat.le_refl _)) 0 _).put nR (HA.out _ (Nat.le_refl _)) 1 _, grown_new (grown_new G (Nat.le_refl _) 0 _) (Nat.le_refl _) 1 _⟩
    · skip
      have lR := kR.lt
      have lB := kB.lt
      have lp := hc2a.lt
      go_wp2_with fail
      have hb := below1 u2 (.cells #[.int .i64 (-10000000), .int .i64 (10000000), .int .i64 (9999998), .int .i64 (7654321), .int .i64 (-10000001), .int .i64 (9223372036854775807)] 3)
      have nL : u2.heap.size ≠ p := by omega
      have hl : ∀ j, j < 6 → ∃ z : Int, (u2.alloc (.cells #[.int .i64 (-10000000), .int .i64 (10000000), .int .i64 (9999998), .int .i64 (7654321), .int .i64 (-10000001), .int .i64 (9223372036854775807)] 3)).cell? ⟨u2.heap.size, 0 + j, none⟩ = some (.int .i64 z) := by
        intro j hj
        have : j = 0 ∨ j = 1 ∨ j = 2 ∨ j = 3 ∨ j = 4 ∨ j = 5 := by omega
        rcases this with rfl | rfl | rfl | rfl | rfl | rfl
        · exact ⟨_, cell_new _ _ _ 0 rfl⟩
        · exact ⟨_, cell_new _ _ _ 1 rfl⟩
        · exact ⟨_, cell_new _ _ _ 2 rfl⟩
        · exact ⟨_, cell_new _ _ _ 3 rfl⟩
        · exact ⟨_, cell_new _ _ _ 4 rfl⟩
        · exact ⟨_, cell_new _ _ _ 5 rfl⟩
      replace kR := kR.below hb
      replace kB := kB.below hb
      replace hc2a := hc2a.below hb
      replace G := grown_alloc G (.cells #[.int .i64 (-10000000), .int .i64 (10000000), .int .i64 (9999998), .int .i64 (7654321), .int .i64 (-10000001), .int .i64 (9223372036854775807)] 3)
      refine (l1Int_any p a n cap u2.heap.size 0 6 6 _ hc2a (by decide) (by decide) hl nL).mono ?_
      rintro e v2 ⟨j, hj, z2, _, rfl, hc2b, g⟩
      replace kR := kR.grown g nR
      replace kB := kB.grown g nB
      replace G := grownBy_trans G g
      clear g hl hb hc2a nL hj
      have s0 := kB.c0
      have s1 := kB.c1
      have sf := kB.fr
      have kB' := kB.put1 (.int .i64 z2)
      have kR' := kR.far (Ne.symm nBR) 1 (.int .i64 z2)
      have hd := hc2b.put nB (HA.out _ loB) 1 (.int .i64 z2)
      have G' := grown_new G loB 1 (.int .i64 z2)
      clear G hc2b
      have r0 := kR.c0
      have r1 := kR.c1
      have rf := kR.fr
      have nRB := Ne.symm nBR
      go_wp2
      exact bodyPost_ret (v := .agg #[.int .i64 X, .int .i64 z2]) (by simp [results, Try.results33, go_sem, kR'.c0, kR'.c1]) rfl ⟨X, z2, rfl, (hd.put nR (HA.out _ (Nat.le_refl _)) 0 _).put nR (HA.out _ (Nat.le_refl _)) 1 _, grown_new (grown_new G' (Nat.le_refl _) 0 _) (Nat.le_refl _) 1 _⟩
  · skip
    have lR := kR.lt
    have lB := kB.lt
    have lp := hc1a.lt
    go_wp2_with fail
    have hb := below1 u1 (.cells #[.int .i64 (-10000000), .int .i64 (10000000), .int .i64 (9999999), .int .i64 (1234567), .int .i64 (10000001), .int .i64 (-9223372036854775808)] 3)
    have nL : u1.heap.size ≠ p := by omega
    have hl : ∀ j, j < 6 → ∃ z : Int, (u1.alloc (.cells #[.int .i64 (-10000000), .int .i64 (10000000), .int .i64 (9999999), .int .i64 (1234567), .int .i64 (10000001), .int .i64 (-9223372036854775808)] 3)).cell? ⟨u1.heap.size, 0 + j, none⟩ = some (.int .i64 z) := by
      intro j hj
      have : j = 0 ∨ j = 1 ∨ j = 2 ∨ j = 3 ∨ j = 4 ∨ j = 5 := by omega
      rcases this with rfl | rfl | rfl | rfl | rfl | rfl
      · exact ⟨_, cell_new _ _ _ 0 rfl⟩
      · exact ⟨_, cell_new _ _ _ 1 rfl⟩
      · exact ⟨_, cell_new _ _ _ 2 rfl⟩
      · exact ⟨_, cell_new _ _ _ 3 rfl⟩
      · exact ⟨_, cell_new _ _ _ 4 rfl⟩
      · exact ⟨_, cell_new _ _ _ 5 rfl⟩
    replace kR := kR.below hb
    replace kB := kB.below hb
    replace hc1a := hc1a.below hb
    replace G := grown_alloc G (.cells #[.int .i64 (-10000000), .int .i64 (10000000), .int .i64 (9999999), .int .i64 (1234567), .int .i64 (10000001), .int .i64 (-9223372036854775808)] 3)
    refine (l1Int_any p a n cap u1.heap.size 0 6 6 _ hc1a (by decide) (by decide) hl nL).mono ?_
    rintro e v1 ⟨j, hj, z1, _, rfl, hc1b, g⟩
    replace kR := kR.grown g nR
    replace kB := kB.grown g nB
    replace G := grownBy_trans G g
    clear g hl hb hc1a nL hj
    have s0 := kB.c0
    have s1 := kB.c1
    have sf := kB.fr
    have kB' := kB.put0 (.int .i64 z1)
    have kR' := kR.far (Ne.symm nBR) 0 (.int .i64 z1)
    have hd := hc1b.put nB (HA.out _ loB) 0 (.int .i64 z1)
    have G' := grown_new G loB 0 (.int .i64 z1)
    clear G hc1b
    clear kB kR
    have kB := kB'
    have kR := kR'
    have G := G'
    clear kB' kR' G'
    go_wp2_with fail
    clear s0 s1 sf
    generalize v1.setCell ⟨w2.heap.size, 0, none⟩ (.int .i64 z1) = t1 at *
    refine (l1Once_any p a n cap 8 _ hd).mono ?_
    rintro e u3 ⟨f3, rfl, hc3a, g⟩
    replace kR := kR.grown g nR
    replace kB := kB.grown g nB
    replace G := grownBy_trans G g
    clear g hd
    cases f3
    · skip
      skip
      have s0 := kB.c0
      have s1 := kB.c1
      have r0 := kR.c0
      have r1 := kR.c1
      have rf := kR.fr
      go_wp2
      exact bodyPost_ret (v := .agg #[.int .i64 z1, .int .i64 Y]) (by simp [results, Try.results33, go_sem, r0, r1]) rfl ⟨z1, Y, rfl, (hc3a.put nR (HA.out _ (Nat.le_refl _)) 0 _).put nR (HA.out _ (Nat.le_refl _)) 1 _, grown_new (grown_new G (Nat.le_refl _) 0 _) (Nat.le_refl _) 1 _⟩
    · skip
      have lR := kR.lt
      have lB := kB.lt
      have lp := hc3a.lt
      go_wp2_with fail
      have hb := below1 u3 (.cells #[.int .i64 (-10000000), .int .i64 (10000000), .int .i64 (9999998), .int .i64 (7654321), .int .i64 (-10000001), .int .i64 (9223372036854775807)] 3)
      have nL : u3.heap.size ≠ p := by omega
      have hl : ∀ j, j < 6 → ∃ z : Int, (u3.alloc (.cells #[.int .i64 (-10000000), .int .i64 (10000000), .int .i64 (9999998), .int .i64 (7654321), .int .i64 (-10000001), .int .i64 (9223372036854775807)] 3)).cell? ⟨u3.heap.size, 0 + j, none⟩ = some (.int .i64 z) := by
        intro j hj
        have : j = 0 ∨ j = 1 ∨ j = 2 ∨ j = 3 ∨ j = 4 ∨ j = 5 := by omega
        rcases this with rfl | rfl | rfl | rfl | rfl | rfl
        · exact ⟨_, cell_new _ _ _ 0 rfl⟩
        · exact ⟨_, cell_new _ _ _ 1 rfl⟩
        · exact ⟨_, cell_new _ _ _ 2 rfl⟩
        · exact ⟨_, cell_new _ _ _ 3 rfl⟩
        · exact ⟨_, cell_new _ _ _ 4 rfl⟩
        · exact ⟨_, cell_new _ _ _ 5 rfl⟩
      replace kR := kR.below hb
      replace kB := kB.below hb
      replace hc3a := hc3a.below hb
      replace G := grown_alloc G (.cells #[.int .i64 (-10000000), .int .i64 (10000000), .int .i64 (9999998), .int .i64 (7654321), .int .i64 (-10000001), .int .i64 (9223372036854775807)] 3)
      refine (l1Int_any p a n cap u3.heap.size 0 6 6 _ hc3a (by decide) (by decide) hl nL).mono ?_
      rintro e v3 ⟨j, hj, z3, _, rfl, hc3b, g⟩
      replace kR := kR.grown g nR
      replace kB := kB.grown g nB
      replace G := grownBy_trans G g
      clear g hl hb hc3a nL hj
      have s0 := kB.c0
      have s1 := kB.c1
      have sf := kB.fr
      have kB' := kB.put1 (.int .i64 z3)
      have kR' := kR.far (Ne.symm nBR) 1 (.int .i64 z3)
      have hd := hc3b.put nB (HA.out _ loB) 1 (.int .i64 z3)
      have G' := grown_new G loB 1 (.int .i64 z3)
      clear G hc3b
      have r0 := kR.c0
      have r1 := kR.c1
      have rf := kR.fr
      have nRB := Ne.symm nBR
      go_wp2
      exact bodyPost_ret (v := .agg #[.int .i64 z1, .int .i64 z3]) (by simp [results, Try.results33, go_sem, kR'.c0, kR'.c1]) rfl ⟨z1, z3, rfl, (hd.put nR (HA.out _ (Nat.le_refl _)) 0 _).put nR (HA.out _ (Nat.le_refl _)) 1 _, grown_new (grown_new G' (Nat.le_refl _) 0 _) (Nat.le_refl _) 1 _⟩
end Go.Proofs.Ytbdpnfdpnaoicaa
