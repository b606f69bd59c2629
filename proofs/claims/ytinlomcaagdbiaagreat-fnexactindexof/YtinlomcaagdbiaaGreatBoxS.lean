/- The least box of a list of points: of the specification. -/
import Derived.Test.YtinlomcaagdbiaaGreatPtB
import Derived.Test.YtinlomcaagdbiaaGreatPtsA
import Derived.Test.YtinlomcaagdbiaaGreatParM
import Derived.Deep.DeepCutAuto
import Derived.Deep.RegionHeld3
namespace Go.Proofs.YtinlomcaagdbiaaGreat
open Go.RowKit

theorem put_oldk {w : World} {b b' o i k : Nat} (h : b' ≠ b) (u0 u1 : Value) : ((w.setCell ⟨b, i, none⟩ u0).setCell ⟨b, k, none⟩ u1).cell? ⟨b', o, none⟩ = w.cell? ⟨b', o, none⟩ :=
 (cell_other (.inl (Ne.symm h)) u1).trans (cell_other (.inl (Ne.symm h)) u0)
theorem SeesP.put {w : World} {b0 o0 p cap : Nat} {ps : List (Int × Int)} (h : SeesP w (some ⟨b0, o0, none⟩) cap ps) (ne : b0 ≠ p) (i k : Nat) (u0 u1 : Value) : SeesP ((w.setCell ⟨p, i, none⟩ u0).setCell ⟨p, k, none⟩ u1).drew (some ⟨b0, o0, none⟩) cap ps :=
 h.grown (grownBy_draw (grownBy_setCell (grownBy_setCell (grownBy_refl w (some p)) (p := ⟨p, i, none⟩) rfl u0) (p := ⟨p, k, none⟩) rfl u1)) ne

set_option maxHeartbeats 4000000 in
theorem specBoxOf (a : Option Addr) (cap : Nat) (ps : List (Int × Int)) (w : World) (h : SeesP w a cap ps) :
  Calls Tryz.prog 36 #[.slice a ps.length cap] w fun e w' => e = .returned (.tuple #[.agg #[.int .i64 (bA ps), .int .i64 (bB ps), .int .i64 (bC ps), .int .i64 (bD ps)], .bool (bOk ps)]) ∧ Below w.heap.size w w' := by
 have hm := h.max
 have hf := h.fits
 unfold maxLen at hm
 by_cases hn : ps.length = 0
 ·obtain rfl : ps = [] := List.eq_nil_of_length_eq_zero hn
  clear h hf hn
  go_enter Tryz.func36, Tryz.ntmps36
  go_wp2
  exact bodyPost_ret (v := .tuple #[.agg #[.int .i64 0, .int .i64 0, .int .i64 0, .int .i64 0], .bool false]) (by simp [results, Tryz.results36, go_sem]) rfl ⟨rfl, below1 _ _⟩
 ·obtain ⟨b0, o0, rfl, hc⟩ := h.cells (by intro e; simp [e] at hn)
  obtain ⟨g1, g2⟩ := hc 0 (by omega)
  have hlt : b0 < w.heap.size := World.block_lt_of_cell? _ _ g1
  have hpos : 0 < ps.length := by omega
  obtain ⟨x0, hx⟩ : ∃ x, Hid ((hd ps).1 = x) := ⟨_, rfl⟩
  obtain ⟨y0, hy⟩ : ∃ y, Hid ((hd ps).2 = y) := ⟨_, rfl⟩
  have E1 : (ps[0]?.getD (0, 0)).1 = x0 := hx.out
  have E2 : (ps[0]?.getD (0, 0)).2 = y0 := hy.out
  rw [E1] at g1
  rw [E2] at g2
  simp only [Nat.zero_mul, Nat.add_zero] at g1 g2
  have B := below1 w (.cells #[.int .i64 0, .int .i64 0, .int .i64 0, .int .i64 0] 27)
  have P0 := Box4.new w (Nat.le_refl _) (.int .i64 0) (.int .i64 0) (.int .i64 0) (.int .i64 0) 27
  replace h := h.below B
  have hn0 : ((ps.length : Int) == 0) = false := by simpa using hn
  clear hc E1 E2 hn
  go_enter Tryz.func36, Tryz.ntmps36
  go_wp2_with fail
  replace g1 := bat B g1
  replace g2 := bat B g2
  generalize w.alloc (.cells #[.int .i64 0, .int .i64 0, .int .i64 0, .int .i64 0] 27) = W0 at *
  have hlt0 : b0 < W0.heap.size := World.block_lt_of_cell? _ _ g1
  have hne0 : b0 ≠ W0.heap.size := by omega
  go_region
  replace B := (B.alloc B.size (.cells #[.int .i64 x0, .int .i64 y0, .int .i64 x0, .int .i64 y0] 27)).drew
  have P1 := (Box4.new W0 (lo := w.heap.size) (Nat.le_of_lt P0.lt) (.int .i64 x0) (.int .i64 y0) (.int .i64 x0) (.int .i64 y0) 27).drew
  have bn := (below1 W0 (.cells #[.int .i64 x0, .int .i64 y0, .int .i64 x0, .int .i64 y0] 27)).drew
  have hq : w.heap.size < W0.heap.size := P0.lt
  replace h := h.below bn
  replace P0 := P0.below bn
  clear bn g1 g2 hne0
  generalize (W0.alloc (.cells #[.int .i64 x0, .int .i64 y0, .int .i64 x0, .int .i64 y0] 27)).drew = W1 at *
  generalize W0.heap.size = q at *
  go_wp2_with fail
  go_loopw [5] (fun i wr => ∃ j : Nat, j ≤ ps.length ∧ i = .int .i64 j ∧ Box4 w.heap.size wr q (.int .i64 (bxA (ps.take j) x0)) (.int .i64 (bxB (ps.take j) y0)) (.int .i64 (bxC (ps.take j) x0)) (.int .i64 (bxD (ps.take j) y0)) ∧ Box4 w.heap.size wr w.heap.size (.int .i64 0) (.int .i64 0) (.int .i64 0) (.int .i64 0) ∧ SeesP wr (some ⟨b0, o0, none⟩) cap ps ∧ Hid (okL (ps.take j) = true) ∧ Below w.heap.size w wr) (fun i _ => ps.length - (intOf i).toNat)
  case atStart => exact ⟨0, Nat.zero_le _, rfl, P1, P0, h, (rfl : okL (ps.take 0) = true), B⟩
  case round =>
   clear P1 P0 h B
   obtain ⟨j, hj, rfl, P1, P0, h, hk, B⟩ := hrel
   by_cases hlt' : j < ps.length
   ·skip
    obtain ⟨b1, o1, e, hc⟩ := h.cells (by intro e; simp [e] at hpos)
    simp only [Option.some.injEq, Addr.mk.injEq] at e
    obtain ⟨rfl, rfl, _⟩ := e
    obtain ⟨g1, g2⟩ := hc j hlt'
    obtain ⟨x, ux⟩ : ∃ x, Hid ((ps[j]?.getD (0, 0)).1 = x) := ⟨_, rfl⟩
    obtain ⟨y, uy⟩ : ∃ y, Hid ((ps[j]?.getD (0, 0)).2 = y) := ⟨_, rfl⟩
    rw [ux.out] at g1
    rw [uy.out] at g2
    clear hc
    go_wp2_with fail
    refine (specPtOk _ _ _).mono ?_
    rintro e w3 ⟨rfl, hb⟩
    replace h := h.below hb
    replace P0 := P0.below hb
    replace P1 := P1.below hb
    replace B := B.trans (hb.mono B.size)
    replace g1 := bat hb g1
    replace g2 := bat hb g2
    clear hb
    cases hk2 : ptOk x y
    ·skip
     have hbad := okL_bad hlt' (by rw [ux.out, uy.out]; exact hk2)
     have hb0 : bOk ps = false := by unfold bOk; rw [hbad]; simp
     obtain ⟨e1, e2, e3, e4⟩ := b_bad hb0
     obtain ⟨d0, d1, d2, d3, df, _⟩ := id P0
     go_wp2
     rw [e1, e2, e3, e4, hb0]
     exact bodyPost_ret (v := .tuple #[.agg #[.int .i64 0, .int .i64 0, .int .i64 0, .int .i64 0], .bool false]) (by simp [results, Tryz.results36, go_sem, d0, d1, d2, d3]) rfl ⟨rfl, (((B.setCell (by simp) _).setCell (by simp) _).setCell (by simp) _).setCell (by simp) _⟩
    ·obtain ⟨c0, c1, c2, c3, cf, _⟩ := id P1
     obtain ⟨u0, uu0⟩ : ∃ x, Hid (bxA (ps.take j) x0 = x) := ⟨_, rfl⟩
     obtain ⟨u1, uu1⟩ : ∃ x, Hid (bxB (ps.take j) y0 = x) := ⟨_, rfl⟩
     obtain ⟨u2, uu2⟩ : ∃ x, Hid (bxC (ps.take j) x0 = x) := ⟨_, rfl⟩
     obtain ⟨u3, uu3⟩ : ∃ x, Hid (bxD (ps.take j) y0 = x) := ⟨_, rfl⟩
     rw [uu0.out] at c0 P1
     rw [uu1.out] at c1 P1
     rw [uu2.out] at c2 P1
     rw [uu3.out] at c3 P1
     go_wp2_with fail
     have hne : b0 ≠ q := by omega
     go_cut [] (fun wx => wx = ((w3.setCell ⟨q, 0, none⟩ (.int .i64 (min u0 x))).setCell ⟨q, 1, none⟩ (.int .i64 (min u1 y))).drew)
     case first =>
      refine wp_region_held_drew (S := fun w' => w'.cell? ⟨b0, o0 + j * 2, none⟩ = some (.int .i64 x) ∧ w'.cell? ⟨b0, o0 + j * 2 + 1, none⟩ = some (.int .i64 y)) (by kernel_rfl) ⟨g1, g2⟩ (fun hHeld => ?_)
      have k1 : w3.drew.cell? ⟨b0, o0 + j * 2, none⟩ = some (.int .i64 x) := g1
      have k2 : w3.drew.cell? ⟨b0, o0 + j * 2 + 1, none⟩ = some (.int .i64 y) := g2
      have m1 : ((w3.setCell ⟨q, 0, none⟩ (.int .i64 (min u0 x))).setCell ⟨q, 1, none⟩ (.int .i64 (min u1 y))).drew.cell? ⟨b0, o0 + j * 2, none⟩ = some (.int .i64 x) := (put_oldk hne (.int .i64 (min u0 x)) (.int .i64 (min u1 y))).trans g1
      have m2 : ((w3.setCell ⟨q, 0, none⟩ (.int .i64 (min u0 x))).setCell ⟨q, 1, none⟩ (.int .i64 (min u1 y))).drew.cell? ⟨b0, o0 + j * 2 + 1, none⟩ = some (.int .i64 y) := (put_oldk hne (.int .i64 (min u0 x)) (.int .i64 (min u1 y))).trans g2
      refine takeA (i := 0) (h := ?_)
      refine takeA (i := 1) (h := ?_)
      refine takeA (i := 3) (h := ?_)
      refine takeA (i := 4) (h := ?_)
      refine takeA (i := 5) (h := ?_)
      refine takeA (i := 6) (h := ?_)
      refine takeA (i := 7) (hy := by intro wq hSw; obtain ⟨q1, q2⟩ := hSw; go_simp <;> with_reducible rfl) (h := ?_)
      refine takeA (i := 9) (h := ?_)
      refine takeA (i := 10) (h := ?_)
      refine takeA (i := 12) (h := ?_)
      refine takeA (i := 13) (h := ?_)
      refine takeA (i := 14) (h := ?_)
      refine takeA (i := 15) (h := ?_)
      refine takeA (i := 16) (hy := by intro wq hSw; obtain ⟨q1, q2⟩ := hSw; go_simp <;> with_reducible rfl) (h := ?_)
      refine wpAnyH_ready (rs := [2, 11]) (by kernel_rfl) (by simp) (AllReadyH.cons (gt rfl) (fun K hK => ?_) (AllReadyH.cons (gt rfl) (fun K hK => ?_) AllReadyH.nil))
      ·skip
       go_simp
       refine hK.out _ _ ⟨k1, k2⟩ (fun hHeld => ?_)
       clear hK K
       try simp only [Act.put, sA, sB, sC]
       refine wpAnyH_ready (rs := [8, 11]) (by kernel_rfl) (by simp) (AllReadyH.cons (gt rfl) (fun K hK => ?_) (AllReadyH.cons (gt rfl) (fun K hK => ?_) AllReadyH.nil))
       ·skip
        go_simp
        refine (l4Min_any _ _ _).mono ?_
        rintro e w5 ⟨rfl, rfl⟩
        refine hK.out _ _ ⟨k1, k2⟩ (fun hHeld => ?_)
        clear hK K
        try simp only [Act.put, sA, sB, sC]
        refine rdA (i := 11) (h := fun K hK => ?_)
        go_simp
        refine hK.out _ _ ⟨k1, k2⟩ (fun hHeld => ?_)
        clear hK K
        try simp only [Act.put, sA, sB, sC]
        refine rdA (i := 17) (h := fun K hK => ?_)
        go_simp
        refine (l4Min_any _ _ _).mono ?_
        rintro e w5 ⟨rfl, rfl⟩
        refine hK.out _ _ ⟨k1, k2⟩ (fun hHeld => ?_)
        clear hK K
        try simp only [Act.put, sA, sB, sC]
        refine takeA (i := 18) (h := ?_)
        refine takeA (i := 19) (h := ?_)
        refine rdA (i := 20) (h := fun K hK => ?_)
        go_simp
        refine hK.out _ _ ⟨m1, m2⟩ (fun hHeld => ?_)
        clear hK K
        try simp only [Act.put, sA, sB, sC]
        refine wpAnyH_done (by kernel_rfl) ?_ _
        go_wp2
        go_meet
        case rel => exact rfl
       ·skip
        go_simp
        refine hK.out _ _ ⟨k1, k2⟩ (fun hHeld => ?_)
        clear hK K
        try simp only [Act.put, sA, sB, sC]
        refine rdA (i := 8) (h := fun K hK => ?_)
        go_simp
        refine (l4Min_any _ _ _).mono ?_
        rintro e w5 ⟨rfl, rfl⟩
        refine hK.out _ _ ⟨k1, k2⟩ (fun hHeld => ?_)
        clear hK K
        try simp only [Act.put, sA, sB, sC]
        refine rdA (i := 17) (h := fun K hK => ?_)
        go_simp
        refine (l4Min_any _ _ _).mono ?_
        rintro e w5 ⟨rfl, rfl⟩
        refine hK.out _ _ ⟨k1, k2⟩ (fun hHeld => ?_)
        clear hK K
        try simp only [Act.put, sA, sB, sC]
        refine takeA (i := 18) (h := ?_)
        refine takeA (i := 19) (h := ?_)
        refine rdA (i := 20) (h := fun K hK => ?_)
        go_simp
        refine hK.out _ _ ⟨m1, m2⟩ (fun hHeld => ?_)
        clear hK K
        try simp only [Act.put, sA, sB, sC]
        refine wpAnyH_done (by kernel_rfl) ?_ _
        go_wp2
        go_meet
        case rel => exact rfl
      ·skip
       go_simp
       refine hK.out _ _ ⟨k1, k2⟩ (fun hHeld => ?_)
       clear hK K
       try simp only [Act.put, sA, sB, sC]
       refine rdA (i := 2) (h := fun K hK => ?_)
       go_simp
       refine hK.out _ _ ⟨k1, k2⟩ (fun hHeld => ?_)
       clear hK K
       try simp only [Act.put, sA, sB, sC]
       refine rdA (i := 8) (h := fun K hK => ?_)
       go_simp
       refine (l4Min_any _ _ _).mono ?_
       rintro e w5 ⟨rfl, rfl⟩
       refine hK.out _ _ ⟨k1, k2⟩ (fun hHeld => ?_)
       clear hK K
       try simp only [Act.put, sA, sB, sC]
       refine rdA (i := 17) (h := fun K hK => ?_)
       go_simp
       refine (l4Min_any _ _ _).mono ?_
       rintro e w5 ⟨rfl, rfl⟩
       refine hK.out _ _ ⟨k1, k2⟩ (fun hHeld => ?_)
       clear hK K
       try simp only [Act.put, sA, sB, sC]
       refine takeA (i := 18) (h := ?_)
       refine takeA (i := 19) (h := ?_)
       refine rdA (i := 20) (h := fun K hK => ?_)
       go_simp
       refine hK.out _ _ ⟨m1, m2⟩ (fun hHeld => ?_)
       clear hK K
       try simp only [Act.put, sA, sB, sC]
       refine wpAnyH_done (by kernel_rfl) ?_ _
       go_wp2
       go_meet
       case rel => exact rfl
     case rest =>
      rename World => w5
      subst hcut
      replace P1 := (P1.putLo (.int .i64 (min u0 x)) (.int .i64 (min u1 y))).drew
      replace B := ((B.setCell (p := ⟨q, 0, none⟩) (by dsimp only; omega) (.int .i64 (min u0 x))).setCell (p := ⟨q, 1, none⟩) (by dsimp only; omega) (.int .i64 (min u1 y))).drew
      replace P0 := ((P0.oldAny (p := q) (by omega) 0 (.int .i64 (min u0 x))).oldAny (p := q) (by omega) 1 (.int .i64 (min u1 y))).drew
      replace h := h.put hne 0 1 (.int .i64 (min u0 x)) (.int .i64 (min u1 y))
      have g1 : ((w3.setCell ⟨q, 0, none⟩ (.int .i64 (min u0 x))).setCell ⟨q, 1, none⟩ (.int .i64 (min u1 y))).drew.cell? ⟨b0, o0 + j * 2, none⟩ = some (.int .i64 x) := (put_oldk hne _ _).trans g1
      have g2 : ((w3.setCell ⟨q, 0, none⟩ (.int .i64 (min u0 x))).setCell ⟨q, 1, none⟩ (.int .i64 (min u1 y))).drew.cell? ⟨b0, o0 + j * 2 + 1, none⟩ = some (.int .i64 y) := (put_oldk hne _ _).trans g2
      clear c0 c1 c2 c3 cf
      generalize ((w3.setCell ⟨q, 0, none⟩ (.int .i64 (min u0 x))).setCell ⟨q, 1, none⟩ (.int .i64 (min u1 y))).drew = w6 at *
      obtain ⟨c0, c1, c2, c3, cf, _⟩ := id P1
      go_wp2_with fail
      refine wp_region_held_drew (S := fun w' => w'.cell? ⟨b0, o0 + j * 2, none⟩ = some (.int .i64 x) ∧ w'.cell? ⟨b0, o0 + j * 2 + 1, none⟩ = some (.int .i64 y)) (by kernel_rfl) ⟨g1, g2⟩ (fun hHeld => ?_)
      have k1 : w6.drew.cell? ⟨b0, o0 + j * 2, none⟩ = some (.int .i64 x) := g1
      have k2 : w6.drew.cell? ⟨b0, o0 + j * 2 + 1, none⟩ = some (.int .i64 y) := g2
      have m1 : ((w6.setCell ⟨q, 2, none⟩ (.int .i64 (max u2 x))).setCell ⟨q, 3, none⟩ (.int .i64 (max u3 y))).drew.cell? ⟨b0, o0 + j * 2, none⟩ = some (.int .i64 x) := (put_oldk hne (.int .i64 (max u2 x)) (.int .i64 (max u3 y))).trans g1
      have m2 : ((w6.setCell ⟨q, 2, none⟩ (.int .i64 (max u2 x))).setCell ⟨q, 3, none⟩ (.int .i64 (max u3 y))).drew.cell? ⟨b0, o0 + j * 2 + 1, none⟩ = some (.int .i64 y) := (put_oldk hne (.int .i64 (max u2 x)) (.int .i64 (max u3 y))).trans g2
      refine takeA (i := 0) (h := ?_)
      refine takeA (i := 1) (h := ?_)
      refine takeA (i := 3) (h := ?_)
      refine takeA (i := 4) (h := ?_)
      refine takeA (i := 5) (h := ?_)
      refine takeA (i := 6) (h := ?_)
      refine takeA (i := 7) (hy := by intro wq hSw; obtain ⟨q1, q2⟩ := hSw; go_simp <;> with_reducible rfl) (h := ?_)
      refine takeA (i := 9) (h := ?_)
      refine takeA (i := 10) (h := ?_)
      refine takeA (i := 12) (h := ?_)
      refine takeA (i := 13) (h := ?_)
      refine takeA (i := 14) (h := ?_)
      refine takeA (i := 15) (h := ?_)
      refine takeA (i := 16) (hy := by intro wq hSw; obtain ⟨q1, q2⟩ := hSw; go_simp <;> with_reducible rfl) (h := ?_)
      refine wpAnyH_ready (rs := [2, 11]) (by kernel_rfl) (by simp) (AllReadyH.cons (gt rfl) (fun K hK => ?_) (AllReadyH.cons (gt rfl) (fun K hK => ?_) AllReadyH.nil))
      ·skip
       go_simp
       refine hK.out _ _ ⟨k1, k2⟩ (fun hHeld => ?_)
       clear hK K
       try simp only [Act.put, sA, sB, sC]
       refine wpAnyH_ready (rs := [8, 11]) (by kernel_rfl) (by simp) (AllReadyH.cons (gt rfl) (fun K hK => ?_) (AllReadyH.cons (gt rfl) (fun K hK => ?_) AllReadyH.nil))
       ·skip
        go_simp
        refine (l4Max_any _ _ _).mono ?_
        rintro e w5 ⟨rfl, rfl⟩
        refine hK.out _ _ ⟨k1, k2⟩ (fun hHeld => ?_)
        clear hK K
        try simp only [Act.put, sA, sB, sC]
        refine rdA (i := 11) (h := fun K hK => ?_)
        go_simp
        refine hK.out _ _ ⟨k1, k2⟩ (fun hHeld => ?_)
        clear hK K
        try simp only [Act.put, sA, sB, sC]
        refine rdA (i := 17) (h := fun K hK => ?_)
        go_simp
        refine (l4Max_any _ _ _).mono ?_
        rintro e w5 ⟨rfl, rfl⟩
        refine hK.out _ _ ⟨k1, k2⟩ (fun hHeld => ?_)
        clear hK K
        try simp only [Act.put, sA, sB, sC]
        refine takeA (i := 18) (h := ?_)
        refine takeA (i := 19) (h := ?_)
        refine rdA (i := 20) (h := fun K hK => ?_)
        go_simp
        refine hK.out _ _ ⟨m1, m2⟩ (fun hHeld => ?_)
        clear hK K
        try simp only [Act.put, sA, sB, sC]
        refine wpAnyH_done (by kernel_rfl) ?_ _
        replace P1 := (P1.putHi (.int .i64 (max u2 x)) (.int .i64 (max u3 y))).drew
        replace B := ((B.setCell (p := ⟨q, 2, none⟩) (by dsimp only; omega) (.int .i64 (max u2 x))).setCell (p := ⟨q, 3, none⟩) (by dsimp only; omega) (.int .i64 (max u3 y))).drew
        replace P0 := ((P0.oldAny (p := q) (by omega) 2 (.int .i64 (max u2 x))).oldAny (p := q) (by omega) 3 (.int .i64 (max u3 y))).drew
        replace h := h.put hne 2 3 (.int .i64 (max u2 x)) (.int .i64 (max u3 y))
        clear c0 c1 c2 c3 cf g1 g2
        generalize ((w6.setCell ⟨q, 2, none⟩ (.int .i64 (max u2 x))).setCell ⟨q, 3, none⟩ (.int .i64 (max u3 y))).drew = w8 at *
        obtain ⟨f1, _, f3, _⟩ := f_step hlt' x0
        obtain ⟨_, f2, _, f4⟩ := f_step hlt' y0
        have F : Hid (bxA (ps.take (j + 1)) x0 = min u0 x ∧ bxB (ps.take (j + 1)) y0 = min u1 y ∧ bxC (ps.take (j + 1)) x0 = max u2 x ∧ bxD (ps.take (j + 1)) y0 = max u3 y) := by
         rw [ux.out] at f1 f3
         rw [uy.out] at f2 f4
         rw [uu0.out] at f1
         rw [uu1.out] at f2
         rw [uu2.out] at f3
         rw [uu3.out] at f4
         exact ⟨f1, f2, f3, f4⟩
        have OK : Hid (okL (ps.take (j + 1)) = true) := by
         show _ = true
         rw [okL_step hlt' hk.out, ux.out, uy.out, hk2]
        clear f1 f2 f3 f4
        go_wp2_with fail
        go_roundw
        case rel =>
         obtain ⟨f1, f2, f3, f4⟩ := F.out
         exact ⟨j + 1, by omega, by go_num, P1.as f1.symm f2.symm f3.symm f4.symm, P0, h, OK, B⟩
        case measure => simp [intOf]; omega
       ·skip
        go_simp
        refine hK.out _ _ ⟨k1, k2⟩ (fun hHeld => ?_)
        clear hK K
        try simp only [Act.put, sA, sB, sC]
        refine rdA (i := 8) (h := fun K hK => ?_)
        go_simp
        refine (l4Max_any _ _ _).mono ?_
        rintro e w5 ⟨rfl, rfl⟩
        refine hK.out _ _ ⟨k1, k2⟩ (fun hHeld => ?_)
        clear hK K
        try simp only [Act.put, sA, sB, sC]
        refine rdA (i := 17) (h := fun K hK => ?_)
        go_simp
        refine (l4Max_any _ _ _).mono ?_
        rintro e w5 ⟨rfl, rfl⟩
        refine hK.out _ _ ⟨k1, k2⟩ (fun hHeld => ?_)
        clear hK K
        try simp only [Act.put, sA, sB, sC]
        refine takeA (i := 18) (h := ?_)
        refine takeA (i := 19) (h := ?_)
        refine rdA (i := 20) (h := fun K hK => ?_)
        go_simp
        refine hK.out _ _ ⟨m1, m2⟩ (fun hHeld => ?_)
        clear hK K
        try simp only [Act.put, sA, sB, sC]
        refine wpAnyH_done (by kernel_rfl) ?_ _
        replace P1 := (P1.putHi (.int .i64 (max u2 x)) (.int .i64 (max u3 y))).drew
        replace B := ((B.setCell (p := ⟨q, 2, none⟩) (by dsimp only; omega) (.int .i64 (max u2 x))).setCell (p := ⟨q, 3, none⟩) (by dsimp only; omega) (.int .i64 (max u3 y))).drew
        replace P0 := ((P0.oldAny (p := q) (by omega) 2 (.int .i64 (max u2 x))).oldAny (p := q) (by omega) 3 (.int .i64 (max u3 y))).drew
        replace h := h.put hne 2 3 (.int .i64 (max u2 x)) (.int .i64 (max u3 y))
        clear c0 c1 c2 c3 cf g1 g2
        generalize ((w6.setCell ⟨q, 2, none⟩ (.int .i64 (max u2 x))).setCell ⟨q, 3, none⟩ (.int .i64 (max u3 y))).drew = w8 at *
        obtain ⟨f1, _, f3, _⟩ := f_step hlt' x0
        obtain ⟨_, f2, _, f4⟩ := f_step hlt' y0
        have F : Hid (bxA (ps.take (j + 1)) x0 = min u0 x ∧ bxB (ps.take (j + 1)) y0 = min u1 y ∧ bxC (ps.take (j + 1)) x0 = max u2 x ∧ bxD (ps.take (j + 1)) y0 = max u3 y) := by
         rw [ux.out] at f1 f3
         rw [uy.out] at f2 f4
         rw [uu0.out] at f1
         rw [uu1.out] at f2
         rw [uu2.out] at f3
         rw [uu3.out] at f4
         exact ⟨f1, f2, f3, f4⟩
        have OK : Hid (okL (ps.take (j + 1)) = true) := by
         show _ = true
         rw [okL_step hlt' hk.out, ux.out, uy.out, hk2]
        clear f1 f2 f3 f4
        go_wp2_with fail
        go_roundw
        case rel =>
         obtain ⟨f1, f2, f3, f4⟩ := F.out
         exact ⟨j + 1, by omega, by go_num, P1.as f1.symm f2.symm f3.symm f4.symm, P0, h, OK, B⟩
        case measure => simp [intOf]; omega
      ·skip
       go_simp
       refine hK.out _ _ ⟨k1, k2⟩ (fun hHeld => ?_)
       clear hK K
       try simp only [Act.put, sA, sB, sC]
       refine rdA (i := 2) (h := fun K hK => ?_)
       go_simp
       refine hK.out _ _ ⟨k1, k2⟩ (fun hHeld => ?_)
       clear hK K
       try simp only [Act.put, sA, sB, sC]
       refine rdA (i := 8) (h := fun K hK => ?_)
       go_simp
       refine (l4Max_any _ _ _).mono ?_
       rintro e w5 ⟨rfl, rfl⟩
       refine hK.out _ _ ⟨k1, k2⟩ (fun hHeld => ?_)
       clear hK K
       try simp only [Act.put, sA, sB, sC]
       refine rdA (i := 17) (h := fun K hK => ?_)
       go_simp
       refine (l4Max_any _ _ _).mono ?_
       rintro e w5 ⟨rfl, rfl⟩
       refine hK.out _ _ ⟨k1, k2⟩ (fun hHeld => ?_)
       clear hK K
       try simp only [Act.put, sA, sB, sC]
       refine takeA (i := 18) (h := ?_)
       refine takeA (i := 19) (h := ?_)
       refine rdA (i := 20) (h := fun K hK => ?_)
       go_simp
       refine hK.out _ _ ⟨m1, m2⟩ (fun hHeld => ?_)
       clear hK K
       try simp only [Act.put, sA, sB, sC]
       refine wpAnyH_done (by kernel_rfl) ?_ _
       replace P1 := (P1.putHi (.int .i64 (max u2 x)) (.int .i64 (max u3 y))).drew
       replace B := ((B.setCell (p := ⟨q, 2, none⟩) (by dsimp only; omega) (.int .i64 (max u2 x))).setCell (p := ⟨q, 3, none⟩) (by dsimp only; omega) (.int .i64 (max u3 y))).drew
       replace P0 := ((P0.oldAny (p := q) (by omega) 2 (.int .i64 (max u2 x))).oldAny (p := q) (by omega) 3 (.int .i64 (max u3 y))).drew
       replace h := h.put hne 2 3 (.int .i64 (max u2 x)) (.int .i64 (max u3 y))
       clear c0 c1 c2 c3 cf g1 g2
       generalize ((w6.setCell ⟨q, 2, none⟩ (.int .i64 (max u2 x))).setCell ⟨q, 3, none⟩ (.int .i64 (max u3 y))).drew = w8 at *
       obtain ⟨f1, _, f3, _⟩ := f_step hlt' x0
       obtain ⟨_, f2, _, f4⟩ := f_step hlt' y0
       have F : Hid (bxA (ps.take (j + 1)) x0 = min u0 x ∧ bxB (ps.take (j + 1)) y0 = min u1 y ∧ bxC (ps.take (j + 1)) x0 = max u2 x ∧ bxD (ps.take (j + 1)) y0 = max u3 y) := by
        rw [ux.out] at f1 f3
        rw [uy.out] at f2 f4
        rw [uu0.out] at f1
        rw [uu1.out] at f2
        rw [uu2.out] at f3
        rw [uu3.out] at f4
        exact ⟨f1, f2, f3, f4⟩
       have OK : Hid (okL (ps.take (j + 1)) = true) := by
        show _ = true
        rw [okL_step hlt' hk.out, ux.out, uy.out, hk2]
       clear f1 f2 f3 f4
       go_wp2_with fail
       go_roundw
       case rel =>
        obtain ⟨f1, f2, f3, f4⟩ := F.out
        exact ⟨j + 1, by omega, by go_num, P1.as f1.symm f2.symm f3.symm f4.symm, P0, h, OK, B⟩
       case measure => simp [intOf]; omega
   ·skip
    have hje : j = ps.length := by omega
    subst hje
    rw [List.take_length] at P1 hk
    have hgood : bOk ps = true := by unfold bOk; rw [hk.out]; cases ps with | nil => simp at hpos | cons => rfl
    obtain ⟨e1, e2, e3, e4⟩ := b_good hgood
    rw [hx.out] at e1 e3
    rw [hy.out] at e2 e4
    obtain ⟨d0, d1, d2, d3, df, _⟩ := id P0
    obtain ⟨c0, c1, c2, c3, cf, _⟩ := id P1
    go_wp2
    rw [e1, e2, e3, e4, hgood]
    exact bodyPost_ret (v := .tuple #[.agg #[.int .i64 (bxA ps x0), .int .i64 (bxB ps y0), .int .i64 (bxC ps x0), .int .i64 (bxD ps y0)], .bool true]) (by simp [results, Tryz.results36, go_sem, d0, d1, d2, d3]) rfl ⟨rfl, (((B.setCell (by simp) _).setCell (by simp) _).setCell (by simp) _).setCell (by simp) _⟩

end Go.Proofs.YtinlomcaagdbiaaGreat
