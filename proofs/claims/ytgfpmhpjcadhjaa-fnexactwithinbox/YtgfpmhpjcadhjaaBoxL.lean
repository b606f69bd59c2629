/- The least box of a list of points: of the program. -/
import Derived.Test.YtgfpmhpjcadhjaaPtG
import Derived.Test.YtgfpmhpjcadhjaaBoxK
namespace Go.Proofs.Ytgfpmhpjcadhjaa
open Go.RowKit

theorem SeesP.grown {w w' : World} {b0 o0 p cap : Nat} {ps : List (Int × Int)} (h : SeesP w (some ⟨b0, o0, none⟩) cap ps) (hg : w.grownBy w' (some p)) (ne : b0 ≠ p) : SeesP w' (some ⟨b0, o0, none⟩) cap ps :=
  ⟨h.fits, h.max, fun hn => by
    obtain ⟨b, off, ha, hc⟩ := h.cells hn
    simp only [Option.some.injEq, Addr.mk.injEq] at ha
    obtain ⟨rfl, rfl, _⟩ := ha
    refine ⟨b0, o0, rfl, fun i hi => ?_⟩
    have hl : b0 < w.heap.size := World.block_lt_of_cell? _ _ (hc i hi).1
    obtain ⟨q, _⟩ := grown_at hg hl (by simpa using ne)
    exact ⟨(q _).trans (hc i hi).1, (q _).trans (hc i hi).2⟩⟩

set_option maxHeartbeats 4000000 in
theorem implBoxOf (a : Option Addr) (cap : Nat) (ps : List (Int × Int)) (w : World) (h : SeesP w a cap ps) :
    Calls Try.prog 33 #[.slice a ps.length cap] w fun e w' => e = .returned (.tuple #[.agg #[.int .i64 (bA ps), .int .i64 (bB ps), .int .i64 (bC ps), .int .i64 (bD ps)], .bool (bOk ps)]) ∧ Below w.heap.size w w' := by
  have hm := h.max
  have hf := h.fits
  unfold maxLen at hm
  by_cases hn : ps.length = 0
  · obtain rfl : ps = [] := List.eq_nil_of_length_eq_zero hn
    clear h hf hn
    go_enter Try.func33, Try.ntmps33
    go_wp2
    exact bodyPost_ret (v := .tuple #[.agg #[.int .i64 0, .int .i64 0, .int .i64 0, .int .i64 0], .bool false]) (by simp [results, Try.results33, go_sem]) rfl ⟨rfl, below1 _ _⟩
  · obtain ⟨b0, o0, rfl, hc⟩ := h.cells (by intro e; simp [e] at hn)
    obtain ⟨g1, g2⟩ := hc 0 (by omega)
    have hlt : b0 < w.heap.size := World.block_lt_of_cell? _ _ g1
    have hpos : 0 < ps.length := by omega
    obtain ⟨x0, hx⟩ : ∃ x, Hid ((hd ps).1 = x) := ⟨_, rfl⟩
    obtain ⟨y0, hy⟩ : ∃ y, Hid ((hd ps).2 = y) := ⟨_, rfl⟩
    have E1 : (ps[0]?.getD (0, 0)).1 = x0 := hx.out
    have E2 : (ps[0]?.getD (0, 0)).2 = y0 := hy.out
    rw [E1] at g1
    rw [E2] at g2
    simp only [Nat.zero_mul, Nat.add_zero] at g1 g2
    have B := below1 w (.cells #[.int .i64 0, .int .i64 0, .int .i64 0, .int .i64 0] 29)
    have P0 := Box4.new w (Nat.le_refl _) (.int .i64 0) (.int .i64 0) (.int .i64 0) (.int .i64 0) 29
    replace h := h.below B
    have hn0 : ((ps.length : Int) == 0) = false := by simpa using hn
    clear hc E1 E2 hn
    go_enter Try.func33, Try.ntmps33
    go_wp2_with fail
    refine (boxAt_any _ _ _).mono ?_
    rintro e w1 ⟨rfl, hb⟩
    replace B := B.trans (hb.mono B.size)
    replace h := h.below hb
    replace P0 := P0.below hb
    clear hb g1 g2
    have P1 := Box4.new w1 (lo := w.heap.size) B.size (.int .i64 x0) (.int .i64 y0) (.int .i64 x0) (.int .i64 y0) 29
    have bn := below1 w1 (.cells #[.int .i64 x0, .int .i64 y0, .int .i64 x0, .int .i64 y0] 29)
    have hq : w.heap.size < w1.heap.size := P0.lt
    replace h := h.below bn
    replace P0 := P0.below bn
    replace B := B.trans (bn.mono B.size)
    clear bn
    go_wp2_with fail
    generalize hQ : w1.heap.size = q at *
    generalize w1.alloc (.cells #[.int .i64 x0, .int .i64 y0, .int .i64 x0, .int .i64 y0] 29) = W1 at *
    clear hQ
    go_loopw [6, 17] (fun v i wr => ∃ j : Nat, j ≤ ps.length ∧ i = .int .i64 j ∧ Box4 w.heap.size wr q (.int .i64 (bxA (ps.take j) x0)) (.int .i64 (bxB (ps.take j) y0)) (.int .i64 (bxC (ps.take j) x0)) (.int .i64 (bxD (ps.take j) y0)) ∧ Box4 w.heap.size wr w.heap.size (.int .i64 0) (.int .i64 0) (.int .i64 0) (.int .i64 0) ∧ SeesP wr (some ⟨b0, o0, none⟩) cap ps ∧ Hid (okL (ps.take j) = true) ∧ Below w.heap.size w wr) (fun _ i _ => ps.length - (intOf i).toNat)
    case atStart => exact ⟨0, Nat.zero_le _, rfl, P1, P0, h, (rfl : okL (ps.take 0) = true), B⟩
    case round =>
      clear P1 P0 h B
      obtain ⟨j, hj, rfl, P1, P0, h, hk, B⟩ := hrel
      by_cases hlt' : j < ps.length
      · skip
        obtain ⟨b1, o1, e, hc⟩ := h.cells (by intro e; simp [e] at hpos)
        simp only [Option.some.injEq, Addr.mk.injEq] at e
        obtain ⟨rfl, rfl, _⟩ := e
        obtain ⟨g1, g2⟩ := hc j hlt'
        obtain ⟨x, ux⟩ : ∃ x, Hid ((ps[j]?.getD (0, 0)).1 = x) := ⟨_, rfl⟩
        obtain ⟨y, uy⟩ : ∃ y, Hid ((ps[j]?.getD (0, 0)).2 = y) := ⟨_, rfl⟩
        rw [ux.out] at g1
        rw [uy.out] at g2
        clear hc
        rename_i wr _ _
        have Q1 := P1
        have K := Box2.new wr (lo := w.heap.size) B.size (.int .i64 x) (.int .i64 y) 27
        have bn := below1 wr (.cells #[.int .i64 x, .int .i64 y] 27)
        replace h := h.below bn
        replace P0 := P0.below bn
        replace P1 := P1.below bn
        replace B := B.trans (bn.mono B.size)
        clear bn
        have hlt2 : wr.heap.size < (wr.alloc (.cells #[.int .i64 x, .int .i64 y] 27)).heap.size := by simp
        have hqr : wr.heap.size ≠ q := by
          have := Q1.lt
          omega
        go_wp2_with fail
        generalize wr.alloc (.cells #[.int .i64 x, .int .i64 y] 27) = W2 at *
        refine (implPtOk _ _ _).mono ?_
        rintro e w3 ⟨rfl, hb⟩
        replace h := h.below hb
        replace P0 := P0.below hb
        replace P1 := P1.below hb
        replace K := K.below hb
        replace B := B.trans (hb.mono B.size)
        clear hb g1 g2
        cases hk2 : ptOk x y
        · skip
          have hbad := okL_bad hlt' (by rw [ux.out, uy.out]; exact hk2)
          have hb0 : bOk ps = false := by unfold bOk; rw [hbad]; simp
          obtain ⟨e1, e2, e3, e4⟩ := b_bad hb0
          obtain ⟨d0, d1, d2, d3, df, _⟩ := id P0
          go_wp2
          rw [e1, e2, e3, e4, hb0]
          exact bodyPost_ret (v := .tuple #[.agg #[.int .i64 0, .int .i64 0, .int .i64 0, .int .i64 0], .bool false]) (by simp [results, Try.results33, go_sem, d0, d1, d2, d3]) rfl ⟨rfl, (((B.setCell (by simp) _).setCell (by simp) _).setCell (by simp) _).setCell (by simp) _⟩
        · obtain ⟨k1, k2, _, _⟩ := id K
          go_wp2_with fail
          refine (reach_any _ _ _ _ _ _ _ _ _ P1).mono ?_
          rintro e w4 ⟨rfl, P4, gg⟩
          replace B := B.grown gg B.size (fun k hk => by injection hk with hk; subst hk; omega)
          replace P0 := P0.grown gg (by omega)
          replace h := h.grown gg (by omega)
          clear gg P1 K k1 k2
          obtain ⟨f1, _, f3, _⟩ := f_step hlt' x0
          obtain ⟨_, f2, _, f4⟩ := f_step hlt' y0
          have F : Hid (bxA (ps.take (j + 1)) x0 = min (bxA (ps.take j) x0) x ∧ bxB (ps.take (j + 1)) y0 = min (bxB (ps.take j) y0) y ∧ bxC (ps.take (j + 1)) x0 = max (bxC (ps.take j) x0) x ∧ bxD (ps.take (j + 1)) y0 = max (bxD (ps.take j) y0) y) := by
            rw [ux.out] at f1 f3
            rw [uy.out] at f2 f4
            exact ⟨f1, f2, f3, f4⟩
          have OK : Hid (okL (ps.take (j + 1)) = true) := by
            show _ = true
            rw [okL_step hlt' hk.out, ux.out, uy.out, hk2]
          clear f1 f2 f3 f4
          go_wp2_with fail
          go_roundw
          case rel =>
            obtain ⟨f1, f2, f3, f4⟩ := F.out
            exact ⟨j + 1, by omega, by go_num, P4.as f1.symm f2.symm f3.symm f4.symm, P0, h, OK, B⟩
          case measure => simp [intOf]; omega
      · skip
        have hje : j = ps.length := by omega
        subst hje
        rw [List.take_length] at P1 hk
        have hgood : bOk ps = true := by unfold bOk; rw [hk.out]; cases ps with | nil => simp at hpos | cons => rfl
        obtain ⟨e1, e2, e3, e4⟩ := b_good hgood
        rw [hx.out] at e1 e3
        rw [hy.out] at e2 e4
        obtain ⟨d0, d1, d2, d3, df, _⟩ := id P0
        obtain ⟨c0, c1, c2, c3, cf, _⟩ := id P1
        go_wp2
        rw [e1, e2, e3, e4, hgood]
        exact bodyPost_ret (v := .tuple #[.agg #[.int .i64 (bxA ps x0), .int .i64 (bxB ps y0), .int .i64 (bxC ps x0), .int .i64 (bxD ps y0)], .bool true]) (by simp [results, Try.results33, go_sem, d0, d1, d2, d3]) rfl ⟨rfl, (((B.setCell (by simp) _).setCell (by simp) _).setCell (by simp) _).setCell (by simp) _⟩

end Go.Proofs.Ytgfpmhpjcadhjaa
