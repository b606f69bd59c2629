/- slices.MinFunc of fractions: the least one, the first of those alike. -/
import Derived.Test.YtnjbedhealpgcaaGreatFrL
import Derived.Test.YtnjbedhealpgcaaGreatHeldQ
import Derived.Deep.RegionHeld3
import Derived.Deep.DeepCutAuto
namespace Go.Proofs.YtnjbedhealpgcaaGreat
open Go.RowKit

theorem dsF_step {zs : List (Int × Int)} {j : Nat} (hj : 0 < j) : dsF zs j = if (zN zs j).1 * (dsF zs (j - 1)).2 < (dsF zs (j - 1)).1 * (zN zs j).2 then zN zs j else dsF zs (j - 1) := by
 obtain ⟨k, rfl⟩ : ∃ k, j = k + 1 := ⟨j - 1, by omega⟩
 rfl

set_option maxRecDepth 20000 in
set_option maxHeartbeats 4000000 in
theorem minFunc_any {lo : Nat} (a : Option Addr) (c : Nat) (vs : List Value) (zs : List (Int × Int)) (w : World) (h : FrL lo w (.slice a zs.length c) vs zs) (h0 : 0 < zs.length) (hl : zs.length ≤ 1000000) (hb : ∀ i, i < zs.length → FrB (zN zs i)) :
  Calls Tryz.prog 27 #[.slice a zs.length c, .func (Fn.func 28) #[] #[]] w fun e w' => ∃ v, e = .returned v ∧ IsFrac lo w' v (dsF zs (zs.length - 1)).1 (dsF zs (zs.length - 1)).2 ∧ Below w.heap.size w w' := by
 have HB : Hid (∀ i, i < zs.length → FrB (zN zs i)) := hb
 have HF : Hid (FrL lo w (.slice a zs.length c) vs zs) := h
 obtain ⟨b, a1, c1, qs, a2, c2, rs, rfl, g1, g2, g3, g4, FO, hbw⟩ := h.at h0
 have FZ : Hid (FrO lo w (dsF zs (1 - 1)) a1 c1 qs a2 c2 rs) := FO
 have ez : zN zs 0 = dsF zs (1 - 1) := rfl
 rw [ez] at g1 g3
 generalize hx : dsF zs (1 - 1) = x at *
 have B0 := below1 w (.cells #[.bool false, .slice none 0 0, .bool false, .slice none 0 0] 32)
 have X4 := Box4.new w (lo := w.heap.size) (Nat.le_refl _) (.bool false) (.slice none 0 0) (.bool false) (.slice none 0 0) 32
 have hl0 : ¬ (zs.length : Int) < 1 := by omega
 simp only [Nat.zero_mul, Nat.zero_add] at g1 g2 g3 g4
 have r1 := bat B0 g1
 have r2 := bat B0 g2
 have r3 := bat B0 g3
 have r4 := bat B0 g4
 have Y4 := X4.below (below1 _ (.cells #[.bool (decide (x.1 < 0)), .slice a1 qs.length c1, .bool (decide (x.2 < 0)), .slice a2 rs.length c2] 32))
 have Y5 := Box4.new (w.alloc (.cells #[.bool false, .slice none 0 0, .bool false, .slice none 0 0] 32)) (lo := w.heap.size) (by simp) (.bool (decide (x.1 < 0))) (.slice a1 qs.length c1) (.bool (decide (x.2 < 0))) (.slice a2 rs.length c2) 32
 rw [World.size_alloc] at Y5
 have B2 := B0.trans ((below1 _ (.cells #[.bool (decide (x.1 < 0)), .slice a1 qs.length c1, .bool (decide (x.2 < 0)), .slice a2 rs.length c2] 32)).mono B0.size)
 clear h hb FO ez g1 g2 g3 g4 B0
 go_enter Tryz.func27, Tryz.ntmps27
 go_wp2_with fail
 generalize (w.alloc (.cells #[.bool false, .slice none 0 0, .bool false, .slice none 0 0] 32)).alloc (.cells #[.bool (decide (x.1 < 0)), .slice a1 qs.length c1, .bool (decide (x.2 < 0)), .slice a2 rs.length c2] 32) = W5 at *
 clear X4 r1 r2 r3 r4
 go_loopw [6] (fun s wr => ∃ (j : Nat) (a1 : Option Addr) (c1 : Nat) (qs : List Int) (a2 : Option Addr) (c2 : Nat) (rs : List Int) (x : Int × Int), s = .int .i64 j ∧ 1 ≤ j ∧ j ≤ zs.length ∧ Hid (dsF zs (j - 1) = x) ∧ Hid (FrO lo w x a1 c1 qs a2 c2 rs) ∧ Hid (Box4 w.heap.size wr w.heap.size (.bool false) (.slice none 0 0) (.bool false) (.slice none 0 0)) ∧ Hid (Box4 w.heap.size wr (w.heap.size + 1) (.bool (decide (x.1 < 0))) (.slice a1 qs.length c1) (.bool (decide (x.2 < 0))) (.slice a2 rs.length c2)) ∧ Hid (Below w.heap.size w wr)) (fun s _ => zs.length - (intOf s).toNat)
 case atStart => exact ⟨1, a1, c1, qs, a2, c2, rs, x, rfl, Nat.le_refl _, h0, hx, FZ, Y4, Y5, B2⟩
 case round =>
  clear Y4 Y5 B2 FZ hx
  obtain ⟨j, a1, c1, qs, a2, c2, rs, x, rfl, j1, hj, hx, FZ, Y4, Y5, B⟩ := hrel
  rename World => wr
  by_cases hlt : j < zs.length
  ·obtain ⟨b', a3, c3, us, a4, c4, ts, eb, g1, g2, g3, g4, FN, _⟩ := HF.out.at hlt
   injection eb with eb
   injection eb with eb _
   subst eb
   have bz := HB.out j hlt
   have bx : FrB x := by
    obtain ⟨i, hi, e⟩ := dsF_mem (zs := zs) (j - 1)
    rw [← hx.out, e]
    exact HB.out i (by omega)
   have NX : Hid (dsF zs (j + 1 - 1) = if (zN zs j).1 * x.2 < x.1 * (zN zs j).2 then zN zs j else x) := by
    show _ = _
    rw [show j + 1 - 1 = j by omega, dsF_step (by omega), hx.out]
   have FY : Hid (FrO lo w (zN zs j) a3 c3 us a4 c4 ts) := FN
   clear hx FN
   generalize zN zs j = y at *
   have r1 := bat B.out g1
   have r2 := bat B.out g2
   have r3 := bat B.out g3
   have r4 := bat B.out g4
   obtain ⟨m0, m1, m2, m3, mf, _⟩ := id Y5.out
   simp only [Nat.zero_add] at r1 r2 r3 r4
   have k0 : wr.cell? ⟨b, j * 4, none⟩ = some (.bool (decide (y.1 < 0))) ∧ wr.cell? ⟨b, j * 4 + 1, none⟩ = some (.slice a3 us.length c3) ∧ wr.cell? ⟨b, j * 4 + 2, none⟩ = some (.bool (decide (y.2 < 0))) ∧ wr.cell? ⟨b, j * 4 + 3, none⟩ = some (.slice a4 ts.length c4) ∧ wr.cell? ⟨w.heap.size + 1, 0, none⟩ = some (.bool (decide (x.1 < 0))) ∧ wr.cell? ⟨w.heap.size + 1, 1, none⟩ = some (.slice a1 qs.length c1) ∧ wr.cell? ⟨w.heap.size + 1, 2, none⟩ = some (.bool (decide (x.2 < 0))) ∧ wr.cell? ⟨w.heap.size + 1, 3, none⟩ = some (.slice a2 rs.length c2) := ⟨r1, r2, r3, r4, m0, m1, m2, m3⟩
   clear g1 g2 g3 g4 r1 r2 r3 r4 m0 m1 m2 m3 mf
   have B1 : Below wr.heap.size wr wr := Below.refl _ _
   go_wp2_with fail
   go_region_held3 (fun w' => w'.cell? ⟨b, j * 4, none⟩ = some (.bool (decide (y.1 < 0))) ∧ w'.cell? ⟨b, j * 4 + 1, none⟩ = some (.slice a3 us.length c3) ∧ w'.cell? ⟨b, j * 4 + 2, none⟩ = some (.bool (decide (y.2 < 0))) ∧ w'.cell? ⟨b, j * 4 + 3, none⟩ = some (.slice a4 ts.length c4) ∧ w'.cell? ⟨w.heap.size + 1, 0, none⟩ = some (.bool (decide (x.1 < 0))) ∧ w'.cell? ⟨w.heap.size + 1, 1, none⟩ = some (.slice a1 qs.length c1) ∧ w'.cell? ⟨w.heap.size + 1, 2, none⟩ = some (.bool (decide (x.2 < 0))) ∧ w'.cell? ⟨w.heap.size + 1, 3, none⟩ = some (.slice a2 rs.length c2))
    (first | exact k0 | exact ⟨bat B1 k0.1, bat B1 k0.2.1, bat B1 k0.2.2.1, bat B1 k0.2.2.2.1, bat B1 k0.2.2.2.2.1, bat B1 k0.2.2.2.2.2.1, bat B1 k0.2.2.2.2.2.2.1, bat B1 k0.2.2.2.2.2.2.2⟩)
    (first | (go_at_call 28; refine (frCmp (FY.out.below (B.out.trans (B1.drew.mono B.out.size))) (FZ.out.below (B.out.trans (B1.drew.mono B.out.size))) bz bx).mono ?_; rintro e w7 ⟨rfl, hb⟩; replace B1 := B1.drew.trans (hb.mono B1.drew.size)))
   have BX := B.out.trans (B1.mono B.out.size)
   have Z4 := Y4.out.below B1
   have Z5 := Y5.out.below B1
   have q1 := bat B1 k0.1
   have q2 := bat B1 k0.2.1
   have q3 := bat B1 k0.2.2.1
   have q4 := bat B1 k0.2.2.2.1
   clear B1 k0 Y4 Y5 B
   by_cases hc : y.1 * x.2 < x.1 * y.2
   ·have sg : cmpZ (y.1 * x.2) (x.1 * y.2) < 0 := (cmpZ_lt _ _).2 hc
    rw [if_pos hc] at NX
    generalize cmpZ (y.1 * x.2) (x.1 * y.2) = cz at *
    obtain ⟨m0, m1, m2, m3, mf, _⟩ := id Z5
    have U5 := Z5.put (.bool (decide (y.1 < 0))) (.slice a3 us.length c3) (.bool (decide (y.2 < 0))) (.slice a4 ts.length c4)
    have U4 := Z4.old (p := w.heap.size + 1) (by omega) (.bool (decide (y.1 < 0))) (.slice a3 us.length c3) (.bool (decide (y.2 < 0))) (.slice a4 ts.length c4)
    have UB := (((BX.setCell (p := ⟨w.heap.size + 1, 0, none⟩) (Nat.le_succ _) (.bool (decide (y.1 < 0)))).setCell (p := ⟨w.heap.size + 1, 1, none⟩) (Nat.le_succ _) (.slice a3 us.length c3)).setCell (p := ⟨w.heap.size + 1, 2, none⟩) (Nat.le_succ _) (.bool (decide (y.2 < 0)))).setCell (p := ⟨w.heap.size + 1, 3, none⟩) (Nat.le_succ _) (.slice a4 ts.length c4)
    clear Z4 Z5 BX hc
    go_wp2
    go_roundw
    case rel => exact ⟨j + 1, a3, c3, us, a4, c4, ts, y, by go_num, by omega, by omega, NX, FY, U4, U5, UB⟩
    case measure => simp [intOf]; omega
   ·have sg : ¬ cmpZ (y.1 * x.2) (x.1 * y.2) < 0 := fun q => hc ((cmpZ_lt _ _).1 q)
    rw [if_neg hc] at NX
    generalize cmpZ (y.1 * x.2) (x.1 * y.2) = cz at *
    clear q1 q2 q3 q4 hc
    go_wp2
    go_roundw
    case rel => exact ⟨j + 1, a1, c1, qs, a2, c2, rs, x, by go_num, by omega, by omega, NX, FZ, Z4, Z5, BX⟩
    case measure => simp [intOf]; omega
  ·obtain rfl : j = zs.length := by omega
   obtain ⟨m0, m1, m2, m3, mf, _⟩ := id Y5.out
   obtain ⟨l0, l1, l2, l3, lf, _⟩ := id Y4.out
   have U4 := Y4.out.put (.bool (decide (x.1 < 0))) (.slice a1 qs.length c1) (.bool (decide (x.2 < 0))) (.slice a2 rs.length c2)
   have UB := (((B.out.setCell (p := ⟨w.heap.size, 0, none⟩) (Nat.le_refl _) (.bool (decide (x.1 < 0)))).setCell (p := ⟨w.heap.size, 1, none⟩) (Nat.le_refl _) (.slice a1 qs.length c1)).setCell (p := ⟨w.heap.size, 2, none⟩) (Nat.le_refl _) (.bool (decide (x.2 < 0)))).setCell (p := ⟨w.heap.size, 3, none⟩) (Nat.le_refl _) (.slice a2 rs.length c2)
   have n0 := U4.c0
   have n1 := U4.c1
   have n2 := U4.c2
   have n3 := U4.c3
   clear U4 Y4 Y5 B
   go_wp2
   refine bodyPost_ret (v := .agg #[.bool (decide (x.1 < 0)), .slice a1 qs.length c1, .bool (decide (x.2 < 0)), .slice a2 rs.length c2]) (by simp [results, Tryz.results27, go_sem, n0, n1, n2, n3]) rfl ⟨_, rfl, ?_, UB⟩
   rw [hx.out]
   exact (FZ.out.below UB).is
end Go.Proofs.YtnjbedhealpgcaaGreat
