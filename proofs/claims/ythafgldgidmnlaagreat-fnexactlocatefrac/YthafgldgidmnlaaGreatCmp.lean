import Derived.Test.YthafgldgidmnlaaGreatEq
import Derived.Deep.RegionHeld3
/- The program's comparing of limbs: impl.cmpMag. -/
namespace Go.Proofs.YthafgldgidmnlaaGreat
open Go.RowKit

set_option maxHeartbeats 1000000 in
theorem cmpMagC (a b : Option Addr) (c d : Nat) (xs ys : List Int) (w : World) (h : Sees w a c xs) (k : Sees w b d ys) (nx : Nrm xs) (ny : Nrm ys) :
    Calls Tryz.prog 63 #[.slice a xs.length c, .slice b ys.length d] w fun e w' => e = .returned (.int .i64 (cmpZ (val xs) (val ys))) ∧ ∃ n, w' = w.drewN n := by
  have hm := h.max
  have hf := h.fits
  have hm2 := k.max
  have hf2 := k.fits
  unfold maxLen at hm hm2
  by_cases hl : xs.length = ys.length
  · have HL : Hid (xs.length = ys.length) := hl
    have HX : Hid (Lim xs ∧ Nrm xs) := ⟨h.lim, nx⟩
    have HY : Hid (Lim ys ∧ Nrm ys) := ⟨k.lim, ny⟩
    rw [← hl]
    rw [← hl] at hf2
    clear hl nx ny
    go_enter Tryz.func63, Tryz.ntmps63
    go_wp2
    go_loopw [5] (fun i wr => ∃ (j n : Nat), j ≤ xs.length ∧ i = .int .i64 ((j : Int) - 1) ∧ wr = w.drewN n ∧ Hid (xs.drop j = ys.drop j)) (fun i _ => (intOf i + 1).toNat)
    case atStart => exact ⟨xs.length, 0, Nat.le_refl _, rfl, rfl, by show _ = _; rw [List.drop_eq_nil_of_le (Nat.le_refl _), List.drop_eq_nil_of_le (by rw [HL.out]; exact Nat.le_refl _)]⟩
    case round =>
      obtain ⟨j, n, hj, rfl, rfl, he⟩ := hrel
      by_cases h0 : j = 0
      · subst h0
        have E : Hid (cmpZ (val xs) (val ys) = 0) := by
          have := he.out
          simp only [List.drop_zero] at this
          show _ = _
          rw [this]; simp [cmpZ]
        clear he
        go_wp2
        go_ret
        exact ⟨by rw [E.out]; rfl, n, rfl⟩
      · have hne : xs ≠ [] := by intro e; simp [e] at hj; omega
        have hne' : ys ≠ [] := by intro e; have := HL.out; rw [e] at this; simp at this; exact hne this
        obtain ⟨b1, o1, rfl, hc1⟩ := h.cells hne
        obtain ⟨b2, o2, rfl, hc2⟩ := k.cells hne'
        have g1 := hc1 (j - 1) (by omega)
        have g2 := hc2 (j - 1) (by have := HL.out; omega)
        have hp : 0 < j := by omega
        have hsub : j - 1 + 1 = j := by omega
        rcases Int.lt_trichotomy (xs[j - 1]?.getD 0) (ys[j - 1]?.getD 0) with hlt | heq | hgt
        · have E : Hid (cmpZ (val xs) (val ys) = -1) := by
            have := cmp_at (j := j - 1) HX.out.1 HY.out.1 HL.out (by omega) (by rw [hsub]; exact he.out) hlt
            show _ = _
            unfold cmpZ; rw [if_pos this]
          have hne3 : (xs[j - 1]?.getD 0 != ys[j - 1]?.getD 0) = true := by simp; omega
          clear hc1 hc2 h k he hsub
          generalize xs[j - 1]?.getD 0 = x at *
          generalize ys[j - 1]?.getD 0 = y at *
          go_wp2
          go_quiet (fail)
          go_wp2
          go_quiet (fail)
          go_wp2
          go_ret
          exact ⟨by rw [E.out]; rfl, _, by rw [World.drewN_drewN, World.drewN_drewN]⟩
        · have E : Hid (xs.drop (j - 1) = ys.drop (j - 1)) := drop_step HL.out (by rw [hsub]; exact he.out) heq
          rw [heq] at g1
          clear hc1 hc2 h k he hsub heq
          generalize ys[j - 1]?.getD 0 = y at *
          go_wp2
          go_quiet (fail)
          go_wp2
          go_roundw
          case rel => exact ⟨j - 1, _, by omega, by go_num, rfl, E⟩
          case measure => simp [intOf]; omega
        · have E : Hid (cmpZ (val xs) (val ys) = 1) := by
            have := cmp_at (j := j - 1) HY.out.1 HX.out.1 HL.out.symm (by have := HL.out; omega) (by rw [hsub]; exact he.out.symm) hgt
            show _ = _
            unfold cmpZ; rw [if_neg (by omega), if_neg (by omega)]
          have hne3 : (xs[j - 1]?.getD 0 != ys[j - 1]?.getD 0) = true := by simp; omega
          have hge : ¬ xs[j - 1]?.getD 0 < ys[j - 1]?.getD 0 := by omega
          have hdd : decide (xs[j - 1]?.getD 0 < ys[j - 1]?.getD 0) = false := by simp; omega
          clear hc1 hc2 h k he hsub
          generalize xs[j - 1]?.getD 0 = x at *
          generalize ys[j - 1]?.getD 0 = y at *
          go_wp2
          go_quiet (fail)
          go_wp2
          go_quiet (fail)
          go_wp2
          go_ret
          exact ⟨by rw [E.out]; rfl, _, by rw [World.drewN_drewN, World.drewN_drewN]⟩
  · have hne : ((xs.length : Int) != (ys.length : Int)) = true := by simp; omega
    by_cases hlt : xs.length < ys.length
    · have E : Hid (cmpZ (val xs) (val ys) = -1) := by
        have := cmp_len h.lim k.lim ny hlt
        show _ = _
        unfold cmpZ; rw [if_pos this]
      clear h k nx ny hl
      go_enter Tryz.func63, Tryz.ntmps63
      go_wp2
      go_ret
      exact ⟨by rw [E.out]; rfl, 0, rfl⟩
    · have E : Hid (cmpZ (val xs) (val ys) = 1) := by
        have := cmp_len k.lim h.lim nx (by omega)
        show _ = _
        unfold cmpZ; rw [if_neg (by omega), if_neg (by omega)]
      clear h k nx ny hl
      go_enter Tryz.func63, Tryz.ntmps63
      go_wp2
      go_ret
      exact ⟨by rw [E.out]; rfl, 0, rfl⟩
end Go.Proofs.YthafgldgidmnlaaGreat

/- The program's comparing of numbers: impl.compared, impl.Cmp, impl.Sign; the specification's Sign. -/
namespace Go.Proofs.YthafgldgidmnlaaGreat
open Go.RowKit

theorem cmpZ_neg (x y : Int) : cmpZ (-x) (-y) = cmpZ y x := by
  unfold cmpZ
  by_cases h1 : y < x
  · rw [if_pos (by omega), if_pos h1]
  · rw [if_neg (by omega), if_neg h1]
    by_cases h2 : y = x
    · rw [if_pos (by omega), if_pos h2]
    · rw [if_neg (by omega), if_neg h2]

set_option maxHeartbeats 1000000 in
theorem comparedC (g g' : Bool) (a b : Option Addr) (c d : Nat) (xs ys : List Int) (w : World) (h : Sees w a c xs) (k : Sees w b d ys) (nx : Nrm xs) (ny : Nrm ys) (hg : xs = [] → g = false) (kg : ys = [] → g' = false) :
    Calls Tryz.prog 50 #[.agg #[.bool g, .slice a xs.length c], .agg #[.bool g', .slice b ys.length d]] w fun e w' => e = .returned (.int .i64 (cmpZ (sg g (val xs)) (sg g' (val ys)))) ∧ Below w.heap.size w w' := by
  have px : g = true → 0 < val xs := fun e => val_pos h.lim nx (fun e2 => by rw [hg e2] at e; cases e)
  have py : g' = true → 0 < val ys := fun e => val_pos k.lim ny (fun e2 => by rw [kg e2] at e; cases e)
  have x0 := val_nonneg h.lim
  have y0 := val_nonneg k.lim
  clear hg kg
  rcases g with _ | _ <;> rcases g' with _ | _
  · have E : Hid (cmpZ (sg false (val xs)) (sg false (val ys)) = cmpZ (val xs) (val ys)) := by show _ = _; simp [sg]
    clear px py x0 y0
    go_enter Tryz.func50, Tryz.ntmps50
    go_wp2_with fail
    refine (cmpMagC a b c d xs ys _ (h.below (below2 _ _ _)) (k.below (below2 _ _ _)) nx ny).mono ?_
    rintro e w2 ⟨rfl, n, rfl⟩
    go_wp2
    go_ret
    exact ⟨by rw [E.out]; rfl, below_drewN (below2 _ _ _) n⟩
  · have E : Hid (cmpZ (sg false (val xs)) (sg true (val ys)) = 1) := by
      have := py rfl
      show _ = _
      simp only [sg]; simp; unfold cmpZ; rw [if_neg (by omega), if_neg (by omega)]
    clear px py x0 y0 h k
    go_enter Tryz.func50, Tryz.ntmps50
    go_wp2
    go_ret
    exact ⟨by rw [E.out]; rfl, below2 _ _ _⟩
  · have E : Hid (cmpZ (sg true (val xs)) (sg false (val ys)) = -1) := by
      have := px rfl
      show _ = _
      simp only [sg]; simp; unfold cmpZ; rw [if_pos (by omega)]
    clear px py x0 y0 h k
    go_enter Tryz.func50, Tryz.ntmps50
    go_wp2
    go_ret
    exact ⟨by rw [E.out]; rfl, below2 _ _ _⟩
  · have E : Hid (cmpZ (sg true (val xs)) (sg true (val ys)) = cmpZ (val ys) (val xs)) := by show _ = _; simp only [sg]; simp; exact cmpZ_neg _ _
    clear px py x0 y0
    go_enter Tryz.func50, Tryz.ntmps50
    go_wp2_with fail
    refine (cmpMagC b a d c ys xs _ (k.below (below2 _ _ _)) (h.below (below2 _ _ _)) ny nx).mono ?_
    rintro e w2 ⟨rfl, n, rfl⟩
    go_wp2
    go_ret
    exact ⟨by rw [E.out]; rfl, below_drewN (below2 _ _ _) n⟩

set_option maxHeartbeats 1000000 in
theorem implSign (g : Bool) (a : Option Addr) (c : Nat) (xs : List Int) (w : World) (h : Sees w a c xs) :
    Calls Tryz.prog 34 #[.agg #[.bool g, .slice a xs.length c]] w fun e w' => e = .returned (.int .i64 (cmpZ (tk g xs) 0)) ∧ Below w.heap.size w w' := by
  obtain ⟨tl, tn, t24, t0⟩ := tk_facts g xs h.lim
  have HT : Hid (Nrm (tkL g xs) ∧ (tkL g xs = [] → tkG g xs = false)) := ⟨tn, t0⟩
  clear tl tn t24 t0
  go_enter Tryz.func34, Tryz.ntmps34
  go_wp2_with fail
  refine (takenC g a c xs _ (h.below (below1 _ _))).mono ?_
  rintro e w1 ⟨a1, c1, rfl, hs1, hb⟩
  have B1 := (below1 w _).trans (hb.mono (by simp))
  clear hb h
  go_wp2_with fail
  refine (comparedC (tkG g xs) false a1 none c1 0 (tkL g xs) [] _ hs1 (Own.nil 0 _).toSees HT.out.1 trivial HT.out.2 (fun _ => rfl)).mono ?_
  rintro e w2 ⟨rfl, hb⟩
  have B2 := B1.trans (hb.mono B1.size)
  clear hb B1
  go_wp2
  go_ret
  exact ⟨rfl, B2⟩

theorem tk_zero {g : Bool} {xs : List Int} (h : tkL g xs = []) : tk g xs = 0 := by
  unfold tk; rw [h]; unfold sg; split <;> simp [val]
theorem tk_sign {g : Bool} {xs : List Int} (hl : Lim xs) (h : ¬ tkL g xs = []) : tkG g xs = g ∧ 0 < val (tkL g xs) := by
  obtain ⟨tl, tn, _, _⟩ := tk_facts g xs hl
  refine ⟨?_, val_pos tl tn h⟩
  unfold tkL at h
  unfold tkG
  by_cases hk : okB g xs = true
  · rw [hk]; simp
  · rw [if_neg hk] at h; exact absurd rfl h

set_option maxHeartbeats 1000000 in
theorem specSign (g : Bool) (a : Option Addr) (c : Nat) (xs : List Int) (w : World) (h : Sees w a c xs) :
    Calls Tryz.prog 29 #[.agg #[.bool g, .slice a xs.length c]] w fun e w' => e = .returned (.int .i64 (cmpZ (tk g xs) 0)) ∧ Below w.heap.size w w' := by
  obtain ⟨_, _, t24, _⟩ := tk_facts g xs h.lim
  by_cases h0 : tkL g xs = []
  · have E : Hid (cmpZ (tk g xs) 0 = 0) := by show _ = _; rw [tk_zero h0]; simp [cmpZ]
    have HL : Hid ((tkL g xs).length = 0) := by show _ = _; rw [h0]; rfl
    clear h0
    go_enter Tryz.func29, Tryz.ntmps29
    go_wp2_with fail
    refine (l1MagC g a c xs _ (h.below (below1 _ _))).mono ?_
    rintro e w1 ⟨a1, c1, rfl, hs1, hb⟩
    rw [HL.out]
    have B1 := (below1 w _).trans (hb.mono (by simp))
    clear hb h hs1
    go_wp2
    go_ret
    exact ⟨by rw [E.out]; rfl, B1⟩
  · obtain ⟨e1, e2⟩ := tk_sign h.lim h0
    have hp : 0 < (tkL g xs).length := List.length_pos_iff.2 h0
    have hne : (((tkL g xs).length : Int) == 0) = false := by simp; exact h0
    rcases g with _ | _
    · have E : Hid (cmpZ (tk false xs) 0 = 1) := by
        show _ = _
        unfold tk; rw [e1]; simp only [sg]; simp; unfold cmpZ; rw [if_neg (by omega), if_neg (by omega)]
      clear h0 e1 e2
      go_enter Tryz.func29, Tryz.ntmps29
      go_wp2_with fail
      refine (l1MagC false a c xs _ (h.below (below1 _ _))).mono ?_
      rintro e w1 ⟨a1, c1, rfl, hs1, hb⟩
      obtain ⟨q1, q2⟩ := at_block hb (b := w.heap.size) (by simp)
      have B1 := (below1 w _).trans (hb.mono (by simp))
      clear hb h hs1
      generalize (tkL false xs).length = n at *
      go_wp2
      go_ret
      exact ⟨by rw [E.out]; rfl, B1⟩
    · have E : Hid (cmpZ (tk true xs) 0 = -1) := by
        show _ = _
        unfold tk; rw [e1]; simp only [sg]; simp; unfold cmpZ; rw [if_pos (by omega)]
      clear h0 e1 e2
      go_enter Tryz.func29, Tryz.ntmps29
      go_wp2_with fail
      refine (l1MagC true a c xs _ (h.below (below1 _ _))).mono ?_
      rintro e w1 ⟨a1, c1, rfl, hs1, hb⟩
      obtain ⟨q1, q2⟩ := at_block hb (b := w.heap.size) (by simp)
      have B1 := (below1 w _).trans (hb.mono (by simp))
      clear hb h hs1
      generalize (tkL true xs).length = n at *
      go_wp2
      go_ret
      exact ⟨by rw [E.out]; rfl, B1⟩
end Go.Proofs.YthafgldgidmnlaaGreat

/- Which fractions are right: the program's FracOk and the specification's. -/
namespace Go.Proofs.YthafgldgidmnlaaGreat
open Go.RowKit

/-- Right, by both parts. -/
def fOk (g : Bool) (xs : List Int) (h : Bool) (ys : List Int) : Bool := okB g xs && okB h ys && decide (0 < cmpZ (tk h ys) 0)

set_option maxHeartbeats 1000000 in
theorem implFracOk (g h : Bool) (a b : Option Addr) (c d : Nat) (xs ys : List Int) (w : World) (hx : Sees w a c xs) (hy : Sees w b d ys) :
    Calls Tryz.prog 19 #[.agg #[.bool g, .slice a xs.length c, .bool h, .slice b ys.length d]] w fun e w' => e = .returned (.bool (fOk g xs h ys)) ∧ Below w.heap.size w w' := by
  have hb0 := below1 w (.cells #[.bool g, .slice a xs.length c, .bool h, .slice b ys.length d] 39)
  by_cases h1 : okB g xs = true
  · by_cases h2 : okB h ys = true
    · have E : Hid (fOk g xs h ys = decide (0 < cmpZ (tk h ys) 0)) := by show _ = _; unfold fOk; rw [h1, h2]; rfl
      obtain ⟨z, hz⟩ : ∃ z, cmpZ (tk h ys) 0 = z := ⟨_, rfl⟩
      go_enter Tryz.func19, Tryz.ntmps19
      go_wp2_with fail
      refine (implOk g a c xs _ (hx.below hb0)).mono ?_
      rintro e w1 ⟨rfl, hb⟩
      rw [h1]
      obtain ⟨q, _⟩ := at_block hb (b := w.heap.size) (by simp)
      have B1 := hb0.trans (hb.mono (by simp))
      have hz1 : w.heap.size < w1.heap.size := by have := hb.size; simp at this; omega
      clear hb
      go_wp2_with fail
      refine (implOk h b d ys _ (hy.below B1)).mono ?_
      rintro e w2 ⟨rfl, hb⟩
      rw [h2]
      have q2 : ∀ o, w2.cell? ⟨w.heap.size, o, none⟩ = w1.cell? ⟨w.heap.size, o, none⟩ := fun o => hb.cell (p := ⟨w.heap.size, o, none⟩) hz1
      have B2 := B1.trans (hb.mono B1.size)
      clear hb
      go_wp2_with fail
      refine (implSign h b d ys _ (hy.below B2)).mono ?_
      rintro e w3 ⟨rfl, hb⟩
      rw [hz]
      have B3 := B2.trans (hb.mono B2.size)
      clear hb
      go_wp2
      go_ret
      exact ⟨by rw [E.out, hz]; rfl, B3⟩
    · have h2' : okB h ys = false := by simpa using h2
      have E : Hid (fOk g xs h ys = false) := by show _ = _; unfold fOk; rw [h2']; simp
      go_enter Tryz.func19, Tryz.ntmps19
      go_wp2_with fail
      refine (implOk g a c xs _ (hx.below hb0)).mono ?_
      rintro e w1 ⟨rfl, hb⟩
      rw [h1]
      obtain ⟨q, _⟩ := at_block hb (b := w.heap.size) (by simp)
      have B1 := hb0.trans (hb.mono (by simp))
      have hz1 : w.heap.size < w1.heap.size := by have := hb.size; simp at this; omega
      clear hb
      go_wp2_with fail
      refine (implOk h b d ys _ (hy.below B1)).mono ?_
      rintro e w2 ⟨rfl, hb⟩
      rw [h2']
      have B2 := B1.trans (hb.mono B1.size)
      clear hb
      go_wp2
      go_ret
      exact ⟨by rw [E.out]; rfl, B2⟩
  · have h1' : okB g xs = false := by simpa using h1
    have E : Hid (fOk g xs h ys = false) := by show _ = _; unfold fOk; rw [h1']; rfl
    go_enter Tryz.func19, Tryz.ntmps19
    go_wp2_with fail
    refine (implOk g a c xs _ (hx.below hb0)).mono ?_
    rintro e w1 ⟨rfl, hb⟩
    rw [h1']
    have B1 := hb0.trans (hb.mono (by simp))
    clear hb
    go_wp2
    go_ret
    exact ⟨by rw [E.out]; rfl, B1⟩

set_option maxHeartbeats 1000000 in
theorem specFracOk (g h : Bool) (a b : Option Addr) (c d : Nat) (xs ys : List Int) (w : World) (hx : Sees w a c xs) (hy : Sees w b d ys) :
    Calls Tryz.prog 15 #[.agg #[.bool g, .slice a xs.length c, .bool h, .slice b ys.length d]] w fun e w' => e = .returned (.bool (fOk g xs h ys)) ∧ Below w.heap.size w w' := by
  have hb0 := below1 w (.cells #[.bool g, .slice a xs.length c, .bool h, .slice b ys.length d] 39)
  by_cases h1 : okB g xs = true
  · by_cases h2 : okB h ys = true
    · have E : Hid (fOk g xs h ys = decide (0 < cmpZ (tk h ys) 0)) := by show _ = _; unfold fOk; rw [h1, h2]; rfl
      obtain ⟨z, hz⟩ : ∃ z, cmpZ (tk h ys) 0 = z := ⟨_, rfl⟩
      go_enter Tryz.func15, Tryz.ntmps15
      go_wp2_with fail
      refine (specOk g a c xs _ (hx.below hb0)).mono ?_
      rintro e w1 ⟨rfl, hb⟩
      rw [h1]
      obtain ⟨q, _⟩ := at_block hb (b := w.heap.size) (by simp)
      have B1 := hb0.trans (hb.mono (by simp))
      have hz1 : w.heap.size < w1.heap.size := by have := hb.size; simp at this; omega
      clear hb
      go_wp2_with fail
      refine (specOk h b d ys _ (hy.below B1)).mono ?_
      rintro e w2 ⟨rfl, hb⟩
      rw [h2]
      have q2 : ∀ o, w2.cell? ⟨w.heap.size, o, none⟩ = w1.cell? ⟨w.heap.size, o, none⟩ := fun o => hb.cell (p := ⟨w.heap.size, o, none⟩) hz1
      have B2 := B1.trans (hb.mono B1.size)
      clear hb
      go_wp2_with fail
      refine (specSign h b d ys _ (hy.below B2)).mono ?_
      rintro e w3 ⟨rfl, hb⟩
      rw [hz]
      have B3 := B2.trans (hb.mono B2.size)
      clear hb
      go_wp2
      go_ret
      exact ⟨by rw [E.out, hz]; rfl, B3⟩
    · have h2' : okB h ys = false := by simpa using h2
      have E : Hid (fOk g xs h ys = false) := by show _ = _; unfold fOk; rw [h2']; simp
      go_enter Tryz.func15, Tryz.ntmps15
      go_wp2_with fail
      refine (specOk g a c xs _ (hx.below hb0)).mono ?_
      rintro e w1 ⟨rfl, hb⟩
      rw [h1]
      obtain ⟨q, _⟩ := at_block hb (b := w.heap.size) (by simp)
      have B1 := hb0.trans (hb.mono (by simp))
      have hz1 : w.heap.size < w1.heap.size := by have := hb.size; simp at this; omega
      clear hb
      go_wp2_with fail
      refine (specOk h b d ys _ (hy.below B1)).mono ?_
      rintro e w2 ⟨rfl, hb⟩
      rw [h2']
      have B2 := B1.trans (hb.mono B1.size)
      clear hb
      go_wp2
      go_ret
      exact ⟨by rw [E.out]; rfl, B2⟩
  · have h1' : okB g xs = false := by simpa using h1
    have E : Hid (fOk g xs h ys = false) := by show _ = _; unfold fOk; rw [h1']; rfl
    go_enter Tryz.func15, Tryz.ntmps15
    go_wp2_with fail
    refine (specOk g a c xs _ (hx.below hb0)).mono ?_
    rintro e w1 ⟨rfl, hb⟩
    rw [h1']
    have B1 := hb0.trans (hb.mono (by simp))
    clear hb
    go_wp2
    go_ret
    exact ⟨by rw [E.out]; rfl, B1⟩
end Go.Proofs.YthafgldgidmnlaaGreat

/- Noughts on top are cut off: impl.trimmed, impl.signed. -/
namespace Go.Proofs.YthafgldgidmnlaaGreat
open Go.RowKit

set_option maxHeartbeats 400000 in
theorem trimmedC (base : Nat) (a : Option Addr) (c : Nat) (xs : List Int) (w : World) (h : Own base w a c xs) :
    Calls Tryz.prog 135 #[.slice a xs.length c] w fun e w' => w' = w ∧ ∃ a' j, e = .returned (.slice a' j j) ∧ j ≤ xs.length ∧ ((j = 0 ∧ a' = none) ∨ a' = a) ∧ Nrm (xs.take j) ∧ val (xs.take j) = val xs := by
  have hm := h.max
  have hf := h.fits
  unfold maxLen at hm
  go_enter Tryz.func135, Tryz.ntmps135
  go_wp2
  go_loop [3] (fun n => ∃ j : Nat, j ≤ xs.length ∧ n = .int .i64 j ∧ Hid (∀ i, j ≤ i → xs[i]?.getD 0 = 0)) (fun n => (intOf n).toNat)
  case atStart => exact ⟨xs.length, Nat.le_refl _, rfl, fun i hi => by rw [List.getElem?_eq_none hi]; rfl⟩
  case round =>
    obtain ⟨j, hj, rfl, hz⟩ := hrel
    by_cases h0 : j = 0
    · have H : Hid (val (xs.take j) = val xs) := (cut_facts hj hz.out (.inl h0)).2.1
      subst h0
      clear hz
      go_wp2
      go_ret
      exact ⟨rfl, none, 0, rfl, Nat.zero_le _, .inl ⟨rfl, rfl⟩, trivial, H.out⟩
    · have hne : xs ≠ [] := by intro e; simp [e] at hj; omega
      obtain ⟨b, off, rfl, hc⟩ := h.cells hne
      have g1 := hc (j - 1) (by omega)
      have hp : (0 : Int) < j := by omega
      clear hc
      by_cases hx : xs[j - 1]?.getD 0 = 0
      · rw [hx] at g1
        have hz' : Hid (∀ i, j - 1 ≤ i → xs[i]?.getD 0 = 0) := zeros_step hz.out hx
        clear hz hx h
        go_wp2
        go_round
        case rel => exact ⟨j - 1, by omega, by go_num, hz'⟩
        case measure => simp [intOf]; omega
      · have H := cut_facts hj hz.out (.inr hx)
        have hj0 : ((j : Int) == 0) = false := by simpa using h0
        have hx' : (xs[j - 1]?.getD 0 == 0) = false := by simpa using hx
        generalize xs[j - 1]?.getD 0 = x at g1 hx'
        have HH : Hid (Nrm (xs.take j) ∧ val (xs.take j) = val xs ∧ (xs.take j).length = j) := H
        clear hz hx h H
        go_wp2
        go_ret
        exact ⟨rfl, _, j, rfl, hj, .inr rfl, HH.out.1, HH.out.2.1⟩

set_option maxHeartbeats 400000 in
theorem signedC (base : Nat) (neg : Bool) (a : Option Addr) (c : Nat) (xs : List Int) (w : World) (h : Own base w a c xs) :
    Calls Tryz.prog 131 #[.bool neg, .slice a xs.length c] w fun e w' => ∃ v, e = .returned v ∧ IsNum base w' v (sg neg (val xs)) ∧ Below w.heap.size w w' := by
  go_enter Tryz.func131, Tryz.ntmps131
  go_wp2_with fail
  refine (trimmedC base a c xs _ (h.below (below1 _ _))).mono ?_
  rintro e w' ⟨rfl, a', j, rfl, hj, ha, hn, hv⟩
  have hl : (xs.take j).length = j := by simp; omega
  have hm := h.max
  have hf := h.fits
  unfold maxLen at hm
  have key : ∀ o, IsNum base (w.alloc o) (.agg #[.bool (neg && decide (0 < j)), .slice a' j j]) (sg neg (val xs)) := fun o => by
    have := IsNum.mk (neg := neg) (h.below (below1 w o) |>.cut hj ha) hn
    rw [hv, hl] at this
    exact this
  clear h hn hv hl ha
  have K : Hid (∀ o, IsNum base (w.alloc o) (.agg #[.bool (neg && decide (0 < j)), .slice a' j j]) (sg neg (val xs))) := key
  clear key
  cases neg
  · go_wp2
    exact bodyPost_ret (v := .agg #[.bool (false && decide (0 < j)), .slice a' j j]) (by simp [results, Tryz.results131, go_sem]) rfl ⟨_, rfl, K.out _, below1 _ _⟩
  · by_cases h0 : 0 < j
    · have hp : (0 : Int) < j := by omega
      go_wp2
      exact bodyPost_ret (v := .agg #[.bool (true && decide (0 < j)), .slice a' j j]) (by simp [results, Tryz.results131, go_sem, h0]) rfl ⟨_, rfl, K.out _, below1 _ _⟩
    · obtain rfl : j = 0 := by omega
      go_wp2
      exact bodyPost_ret (v := .agg #[.bool (true && decide (0 < 0)), .slice a' 0 0]) (by simp [results, Tryz.results131, go_sem]) rfl ⟨_, rfl, K.out _, below1 _ _⟩

end Go.Proofs.YthafgldgidmnlaaGreat

/- Numbers of an int: impl.Of, spec.Of. -/
namespace Go.Proofs.YthafgldgidmnlaaGreat
open Go.RowKit

theorem val2 (x y : Int) : val [x, y] = x + 4294967296 * y := by simp [val]

theorem signed2 (base : Nat) (neg : Bool) (a : Option Addr) (x y : Int) (w : World) (h : Own base w a 2 [x, y]) :
    Calls Tryz.prog 131 #[.bool neg, .slice a 2 2] w fun e w' => ∃ v, e = .returned v ∧ IsNum base w' v (sg neg (x + 4294967296 * y)) ∧ Below w.heap.size w w' := by
  have := signedC base neg a 2 [x, y] w h
  rw [val2] at this
  exact this
theorem l1Num2 (neg : Bool) (a : Option Addr) (x y : Int) (w : World) (h : Sees w a 2 [x, y]) :
    Calls Tryz.prog 74 #[.bool neg, .slice a 2 2] w fun e w' => ∃ v, e = .returned v ∧ IsNum w.heap.size w' v (sg neg (x + 4294967296 * y)) ∧ Below w.heap.size w w' := by
  have := l1NumC neg a 2 [x, y] w h (by simp)
  rw [val2] at this
  exact this

theorem wrap_neg {n : Int} (h1 : -9223372036854775808 ≤ n) (h0 : n < 0) : IntKind.u64.wrap (-IntKind.u64.wrap n) = -n := by
  simp only [IntKind.wrap, IntKind.bits, IntKind.signed]
  simp
  omega

theorem sg_two {n : Int} (_h : ¬ n < 0) : sg false (n % 4294967296 + 4294967296 * (n / 4294967296)) = n := by simp only [sg]; simp; omega
theorem sg_two' {n : Int} (_h : n < 0) : sg true (-n % 4294967296 + 4294967296 * (-n / 4294967296)) = n := by simp only [sg]; simp; omega

set_option maxHeartbeats 1000000 in
theorem implOf (n : Int) (w : World) (h1 : -9223372036854775808 ≤ n) (h2 : n ≤ 9223372036854775807) :
    Calls Tryz.prog 129 #[.int .i64 n] w fun e w' => ∃ v, e = .returned v ∧ IsNum w.heap.size w' v n ∧ Below w.heap.size w w' := by
  by_cases h0 : n < 0
  · have hw := wrap_neg h1 h0
    have E : Hid (_ = n) := sg_two' h0
    have ho := fun o => Own.lit2 (w.alloc o) 81 (-n % 4294967296) (-n / 4294967296) (by omega) (by omega)
    simp only [World.size_alloc] at ho
    have HO : Hid (∀ o, Own (w.heap.size + 1) ((w.alloc o).alloc (.cells #[.int .u32 (-n % 4294967296), .int .u32 (-n / 4294967296)] 81)) (some ⟨w.heap.size + 1, 0, none⟩) 2 [-n % 4294967296, -n / 4294967296]) := ho
    clear ho
    go_enter Tryz.func129, Tryz.ntmps129
    go_wp2_with fail
    refine (signed2 (w.heap.size + 1) true _ _ _ _ (HO.out _)).mono ?_
    rintro e w' ⟨v, rfl, hI, hb⟩
    replace hI := hI.eq E.out
    obtain ⟨g, a', l, c', rfl⟩ := hI.shape
    obtain ⟨q1, q2⟩ := at_block hb (b := w.heap.size) (by simp; omega)
    have hz : w.heap.size < w'.heap.size := by have := hb.size; simp at this; omega
    have hB := (below2 _ _ _).trans (hb.mono (by simp; omega))
    clear hb HO
    go_wp2
    exact bodyPost_ret (v := .agg #[.bool g, .slice a' l c']) (by simp [results, Tryz.results129, go_sem, q1]) rfl ⟨_, rfl, hI.put (Nat.lt_succ_self _), below_put hB _ _⟩
  · have E : Hid (_ = n) := sg_two h0
    have ho := fun o => Own.lit2 (w.alloc o) 81 (n % 4294967296) (n / 4294967296) (by omega) (by omega)
    simp only [World.size_alloc] at ho
    have HO : Hid (∀ o, Own (w.heap.size + 1) ((w.alloc o).alloc (.cells #[.int .u32 (n % 4294967296), .int .u32 (n / 4294967296)] 81)) (some ⟨w.heap.size + 1, 0, none⟩) 2 [n % 4294967296, n / 4294967296]) := ho
    clear ho
    go_enter Tryz.func129, Tryz.ntmps129
    go_wp2_with fail
    refine (signed2 (w.heap.size + 1) false _ _ _ _ (HO.out _)).mono ?_
    rintro e w' ⟨v, rfl, hI, hb⟩
    replace hI := hI.eq E.out
    obtain ⟨g, a', l, c', rfl⟩ := hI.shape
    obtain ⟨q1, q2⟩ := at_block hb (b := w.heap.size) (by simp; omega)
    have hz : w.heap.size < w'.heap.size := by have := hb.size; simp at this; omega
    have hB := (below2 _ _ _).trans (hb.mono (by simp; omega))
    clear hb HO
    go_wp2
    exact bodyPost_ret (v := .agg #[.bool g, .slice a' l c']) (by simp [results, Tryz.results129, go_sem, q1]) rfl ⟨_, rfl, hI.put (Nat.lt_succ_self _), below_put hB _ _⟩

set_option maxHeartbeats 1000000 in
theorem specOf (n : Int) (w : World) (h1 : -9223372036854775808 ≤ n) (h2 : n ≤ 9223372036854775807) :
    Calls Tryz.prog 60 #[.int .i64 n] w fun e w' => ∃ v, e = .returned v ∧ IsNum w.heap.size w' v n ∧ Below w.heap.size w w' := by
  by_cases h0 : n < 0
  · have E : Hid (_ = n) := sg_two' h0
    have ho := fun o => Own.lit2 (w.alloc o) 81 (-n % 4294967296) (-n / 4294967296) (by omega) (by omega)
    simp only [World.size_alloc] at ho
    have HO : Hid (∀ o, Own (w.heap.size + 1) ((w.alloc o).alloc (.cells #[.int .u32 (-n % 4294967296), .int .u32 (-n / 4294967296)] 81)) (some ⟨w.heap.size + 1, 0, none⟩) 2 [-n % 4294967296, -n / 4294967296]) := ho
    clear ho
    go_enter Tryz.func60, Tryz.ntmps60
    go_wp2_with fail
    rw [show -(n + 1) + 1 = -n by omega]
    refine (l1Num2 true _ _ _ _ (HO.out _).toSees).mono ?_
    rintro e w' ⟨v, rfl, hI, hb⟩
    replace hI := hI.eq E.out
    obtain ⟨g, a', l, c', rfl⟩ := hI.shape
    obtain ⟨q1, q2⟩ := at_block hb (b := w.heap.size) (by simp; omega)
    have hz : w.heap.size < w'.heap.size := by have := hb.size; simp at this; omega
    have hB := (below2 _ _ _).trans (hb.mono (by simp; omega))
    simp only [World.size_alloc] at hI
    clear hb HO
    go_wp2
    exact bodyPost_ret (v := .agg #[.bool g, .slice a' l c']) (by simp [results, Tryz.results60, go_sem, q1]) rfl ⟨_, rfl, hI.put (by omega), below_put hB _ _⟩
  · have E : Hid (_ = n) := sg_two h0
    have ho := fun o => Own.lit2 (w.alloc o) 81 (n % 4294967296) (n / 4294967296) (by omega) (by omega)
    simp only [World.size_alloc] at ho
    have HO : Hid (∀ o, Own (w.heap.size + 1) ((w.alloc o).alloc (.cells #[.int .u32 (n % 4294967296), .int .u32 (n / 4294967296)] 81)) (some ⟨w.heap.size + 1, 0, none⟩) 2 [n % 4294967296, n / 4294967296]) := ho
    clear ho
    go_enter Tryz.func60, Tryz.ntmps60
    go_wp2_with fail
    refine (l1Num2 false _ _ _ _ (HO.out _).toSees).mono ?_
    rintro e w' ⟨v, rfl, hI, hb⟩
    replace hI := hI.eq E.out
    obtain ⟨g, a', l, c', rfl⟩ := hI.shape
    obtain ⟨q1, q2⟩ := at_block hb (b := w.heap.size) (by simp; omega)
    have hz : w.heap.size < w'.heap.size := by have := hb.size; simp at this; omega
    have hB := (below2 _ _ _).trans (hb.mono (by simp; omega))
    simp only [World.size_alloc] at hI
    clear hb HO
    go_wp2
    exact bodyPost_ret (v := .agg #[.bool g, .slice a' l c']) (by simp [results, Tryz.results60, go_sem, q1]) rfl ⟨_, rfl, hI.put (by omega), below_put hB _ _⟩

end Go.Proofs.YthafgldgidmnlaaGreat

/- How great answers can be. -/
namespace Go.Proofs.YthafgldgidmnlaaGreat
open Go.RowKit

theorem var_new (w : World) (g : Bool) (a : Option Addr) (n c : Nat) (T : TypeId) :
    (w.alloc (.cells #[.bool g, .slice a n c] T)).cell? ⟨w.heap.size, 0, none⟩ = some (.bool g) ∧ (w.alloc (.cells #[.bool g, .slice a n c] T)).cell? ⟨w.heap.size, 1, none⟩ = some (.slice a n c) :=
  ⟨cell_new w #[.bool g, .slice a n c] T 0 rfl, cell_new w #[.bool g, .slice a n c] T 1 rfl⟩

theorem tkL_lt (g : Bool) (xs : List Int) (hl : Lim xs) : val (tkL g xs) < 4294967296 ^ 24 ∧ 0 ≤ val (tkL g xs) := by
  obtain ⟨tl, _, t24, _⟩ := tk_facts g xs hl
  have h1 := val_lt tl
  have h2 := p_mono (tkL g xs).length (24 - (tkL g xs).length)
  rw [show (tkL g xs).length + (24 - (tkL g xs).length) = 24 by omega] at h2
  exact ⟨by omega, val_nonneg tl⟩
theorem tk_bounds (g : Bool) (xs : List Int) (hl : Lim xs) : - 4294967296 ^ 24 < tk g xs ∧ tk g xs < 4294967296 ^ 24 := by
  obtain ⟨h1, h2⟩ := tkL_lt g xs hl
  unfold tk sg
  have h3 := p_pos 24
  generalize (4294967296 : Int) ^ 24 = P at *
  split <;> omega
theorem neg_bound (g : Bool) (xs : List Int) (hl : Lim xs) : mg (-tk g xs) < 4294967296 ^ 24 := by
  obtain ⟨h1, h2⟩ := tk_bounds g xs hl
  unfold mg
  generalize (4294967296 : Int) ^ 24 = P at *
  split <;> omega
theorem add_bound (g g' : Bool) (xs ys : List Int) (hl : Lim xs) (kl : Lim ys) : mg (tk g xs + tk g' ys) < 4294967296 ^ 25 := by
  obtain ⟨h1, h2⟩ := tk_bounds g xs hl
  obtain ⟨h3, h4⟩ := tk_bounds g' ys kl
  unfold mg
  rw [show (4294967296 : Int) ^ 25 = 4294967296 ^ 24 * 4294967296 from Int.pow_succ _ _]
  have h5 := p_pos 24
  generalize (4294967296 : Int) ^ 24 = P at *
  split <;> omega
theorem sub_bound (g g' : Bool) (xs ys : List Int) (hl : Lim xs) (kl : Lim ys) : mg (tk g xs - tk g' ys) < 4294967296 ^ 25 := by
  obtain ⟨h1, h2⟩ := tk_bounds g xs hl
  obtain ⟨h3, h4⟩ := tk_bounds g' ys kl
  unfold mg
  rw [show (4294967296 : Int) ^ 25 = 4294967296 ^ 24 * 4294967296 from Int.pow_succ _ _]
  have h5 := p_pos 24
  generalize (4294967296 : Int) ^ 24 = P at *
  split <;> omega

theorem mul_bound (g g' : Bool) (xs ys : List Int) (hl : Lim xs) (kl : Lim ys) : mg (tk g xs * tk g' ys) < 4294967296 ^ 48 := by
  obtain ⟨h1, h2⟩ := tkL_lt g xs hl
  obtain ⟨h3, h4⟩ := tkL_lt g' ys kl
  have e : mg (tk g xs * tk g' ys) = val (tkL g xs) * val (tkL g' ys) := by
    have h0 := Int.mul_nonneg h2 h4
    unfold tk sg mg
    generalize hp : val (tkL g xs) * val (tkL g' ys) = p at *
    cases tkG g xs <;> cases tkG g' ys <;> simp [hp, Int.mul_neg, Int.neg_mul] <;> omega
  rw [e, show (4294967296 : Int) ^ 48 = 4294967296 ^ 24 * 4294967296 ^ 24 from Int.pow_add _ 24 24]
  have h5 := p_pos 24
  generalize (4294967296 : Int) ^ 24 = P at *
  exact Int.lt_of_le_of_lt (Int.mul_le_mul_of_nonneg_left (Int.le_of_lt h3) h2) (Int.mul_lt_mul_of_pos_right h1 h5)

/-- What is put into a variable is there. -/
theorem put_cells {w : World} {p : Nat} {u0 u1 : Value} (h0 : (w.cell? ⟨p, 0, none⟩).isSome = true) (h1 : (w.cell? ⟨p, 1, none⟩).isSome = true) :
    ((w.setCell ⟨p, 0, none⟩ u0).setCell ⟨p, 1, none⟩ u1).cell? ⟨p, 0, none⟩ = some u0 ∧ ((w.setCell ⟨p, 0, none⟩ u0).setCell ⟨p, 1, none⟩ u1).cell? ⟨p, 1, none⟩ = some u1 := by
  have e : (⟨p, 0, none⟩ : Addr) ≠ ⟨p, 1, none⟩ := by simp
  have e' : (⟨p, 1, none⟩ : Addr) ≠ ⟨p, 0, none⟩ := by simp
  obtain ⟨x0, hx0⟩ := Option.isSome_iff_exists.1 h0
  obtain ⟨x1, hx1⟩ := Option.isSome_iff_exists.1 h1
  refine ⟨?_, ?_⟩
  · rw [World.cell?_setCell_other _ _ _ _ e', World.cell?_setCell_same _ _ _ hx0]
  · exact World.cell?_setCell_same _ _ _ ((World.cell?_setCell_other _ _ _ _ e).trans hx1)
theorem at_blk {B : Nat} {W w1 : World} (hb : Below B W w1) {b : Nat} (h : b < B) : (∀ o, w1.cell? ⟨b, o, none⟩ = W.cell? ⟨b, o, none⟩) ∧ (∀ o, w1.frozen? ⟨b, o, none⟩ = W.frozen? ⟨b, o, none⟩) :=
  ⟨fun o => hb.cell (p := ⟨b, o, none⟩) h, fun o => hb.frozen (p := ⟨b, o, none⟩) h⟩
end Go.Proofs.YthafgldgidmnlaaGreat

/- What a fraction is taken as: impl.nought, impl.Frac's taken, spec.l2Right. -/
namespace Go.Proofs.YthafgldgidmnlaaGreat
open Go.RowKit

/-- The value is a fraction whose parts are n and d. -/
def SeesFr (w : World) (v : Value) (n d : Int) : Prop :=
  ∃ a c ns b e ds, v = .agg #[.bool (decide (n < 0)), .slice a ns.length c, .bool (decide (d < 0)), .slice b ds.length e] ∧ Sees w a c ns ∧ Sees w b e ds ∧ Nrm ns ∧ Nrm ds ∧ val ns = mg n ∧ val ds = mg d ∧ ns.length ≤ 24 ∧ ds.length ≤ 24
theorem SeesFr.below {w w' : World} {v : Value} {n d : Int} (h : SeesFr w v n d) (hb : Below w.heap.size w w') : SeesFr w' v n d := by
  obtain ⟨a, c, ns, b, e, ds, e1, s1, s2, r⟩ := h
  exact ⟨a, c, ns, b, e, ds, e1, s1.below hb, s2.below hb, r⟩

/-- The parts that are taken. -/
def fN (g : Bool) (xs : List Int) (h : Bool) (ys : List Int) : Int := if fOk g xs h ys = true then tk g xs else 0
def fD (g : Bool) (xs : List Int) (h : Bool) (ys : List Int) : Int := if fOk g xs h ys = true then tk h ys else 1

theorem ok_parts {g : Bool} {xs : List Int} (hl : Lim xs) (h : okB g xs = true) : decide (tk g xs < 0) = g ∧ val xs = mg (tk g xs) ∧ Nrm xs ∧ xs.length ≤ 24 := by
  obtain ⟨tl, tn, t24, t0⟩ := tk_facts g xs hl
  have e1 : tkL g xs = xs := by unfold tkL; rw [if_pos h]
  have e2 : tkG g xs = g := by unfold tkG; rw [h]; simp
  rw [e1] at tn t24 t0
  rw [e2] at t0
  have ht : tk g xs = sg g (val xs) := by unfold tk; rw [e1, e2]
  rw [ht]
  refine ⟨?_, (mg_sg (val_nonneg hl)).symm, tn, t24⟩
  rw [sg_flag hl tn]
  by_cases h0 : xs = []
  · rw [t0 h0]; rfl
  · rw [decide_eq_true (List.length_pos_iff.2 h0), Bool.and_true]
theorem fOk_parts {g h : Bool} {xs ys : List Int} (e : fOk g xs h ys = true) : okB g xs = true ∧ okB h ys = true := by
  unfold fOk at e
  simp only [Bool.and_eq_true] at e
  exact e.1
theorem SeesFr.right {w : World} {g h : Bool} {a b : Option Addr} {c d : Nat} {xs ys : List Int} (hx : Sees w a c xs) (hy : Sees w b d ys) (e : fOk g xs h ys = true) :
    SeesFr w (.agg #[.bool g, .slice a xs.length c, .bool h, .slice b ys.length d]) (fN g xs h ys) (fD g xs h ys) := by
  obtain ⟨o1, o2⟩ := fOk_parts e
  obtain ⟨p1, p2, p3, p4⟩ := ok_parts hx.lim o1
  obtain ⟨q1, q2, q3, q4⟩ := ok_parts hy.lim o2
  have en : fN g xs h ys = tk g xs := by unfold fN; rw [if_pos e]
  have ed : fD g xs h ys = tk h ys := by unfold fD; rw [if_pos e]
  rw [en, ed]
  exact ⟨a, c, xs, b, d, ys, by rw [p1, q1], hx, hy, p3, q3, p2, q2, p4, q4⟩
theorem SeesFr.wrong {w : World} {g h : Bool} {xs ys : List Int} {b : Option Addr} {e : Nat} {ds : List Int} (ho : Sees w b e ds) (hn : Nrm ds) (hv : val ds = 1) (ne : fOk g xs h ys = false) :
    SeesFr w (.agg #[.bool false, .slice none 0 0, .bool false, .slice b ds.length e]) (fN g xs h ys) (fD g xs h ys) := by
  have en : fN g xs h ys = 0 := by unfold fN; rw [ne]; simp
  have ed : fD g xs h ys = 1 := by unfold fD; rw [ne]; simp
  rw [en, ed]
  refine ⟨none, 0, [], b, e, ds, rfl, (Own.nil 0 _).toSees, ho, trivial, hn, rfl, hv, by simp, ?_⟩
  exact Nat.le_trans (len_le ho.lim hn (k := 1) (by rw [hv]; decide)) (by decide)

set_option maxHeartbeats 1000000 in
theorem l2RightC (g h : Bool) (a b : Option Addr) (c d : Nat) (xs ys : List Int) (w : World) (hx : Sees w a c xs) (hy : Sees w b d ys) :
    Calls Tryz.prog 62 #[.agg #[.bool g, .slice a xs.length c, .bool h, .slice b ys.length d]] w fun e w' => ∃ v, e = .returned v ∧ SeesFr w' v (fN g xs h ys) (fD g xs h ys) ∧ Below w.heap.size w w' := by
  have hb0 := below2 w (.cells #[.bool g, .slice a xs.length c, .bool h, .slice b ys.length d] 39) (.cells #[.bool false, .slice none 0 0, .bool false, .slice none 0 0] 39)
  by_cases h1 : fOk g xs h ys = true
  · have E : Hid (fOk g xs h ys = true) := h1
    go_enter Tryz.func62, Tryz.ntmps62
    go_wp2_with fail
    refine (specFracOk g h a b c d xs ys _ (hx.below hb0) (hy.below hb0)).mono ?_
    rintro e w1 ⟨rfl, hb⟩
    rw [h1]
    obtain ⟨q0, _⟩ := at_block hb (b := w.heap.size) (by simp; omega)
    obtain ⟨q1, r1⟩ := at_block hb (b := w.heap.size + 1) (by simp)
    have B1 := hb0.trans (hb.mono (by simp; omega))
    have hz : w.heap.size + 1 < w1.heap.size := by have := hb.size; simp at this; omega
    clear hb h1
    go_wp2
    have BF := (((B1.setCell (p := ⟨w.heap.size + 1, 0, none⟩) (by dsimp only; omega) (.bool g)).setCell (p := ⟨w.heap.size + 1, 1, none⟩) (by dsimp only; omega) (.slice a xs.length c)).setCell (p := ⟨w.heap.size + 1, 2, none⟩) (by dsimp only; omega) (.bool h)).setCell (p := ⟨w.heap.size + 1, 3, none⟩) (by dsimp only; omega) (.slice b ys.length d)
    refine bodyPost_ret (v := .agg #[.bool g, .slice a xs.length c, .bool h, .slice b ys.length d]) (by simp [results, Tryz.results62, go_sem, q1]) rfl ?_
    exact ⟨_, rfl, SeesFr.right (hx.below BF) (hy.below BF) E.out, BF⟩
  · have h1' : fOk g xs h ys = false := by simpa using h1
    have E : Hid (fOk g xs h ys = false) := h1'
    clear h1
    go_enter Tryz.func62, Tryz.ntmps62
    go_wp2_with fail
    refine (specFracOk g h a b c d xs ys _ (hx.below hb0) (hy.below hb0)).mono ?_
    rintro e w1 ⟨rfl, hb⟩
    rw [h1']
    obtain ⟨q1, r1⟩ := at_block hb (b := w.heap.size + 1) (by simp)
    have B1 := hb0.trans (hb.mono (by simp; omega))
    have hz : w.heap.size + 1 < w1.heap.size := by have := hb.size; simp at this; omega
    clear hb h1' hx hy
    go_wp2_with fail
    refine (specOf 1 _ (by decide) (by decide)).mono ?_
    rintro e w2 ⟨v, rfl, hI, hb⟩
    obtain ⟨b2, c2, ds, rfl, ho, hn, hv⟩ := hI
    have q2 := fun o => (hb.cell (p := ⟨w.heap.size + 1, o, none⟩) hz).trans (q1 o)
    have r2 := fun o => (hb.frozen (p := ⟨w.heap.size + 1, o, none⟩) hz).trans (r1 o)
    have B2 := B1.trans (hb.mono B1.size)
    have HO : Hid (Nrm ds ∧ val ds = 1) := ⟨hn, hv⟩
    clear hb q1 r1 hn hv
    go_wp2
    have BF := (((B2.setCell (p := ⟨w.heap.size + 1, 0, none⟩) (by dsimp only; omega) (.bool false)).setCell (p := ⟨w.heap.size + 1, 1, none⟩) (by dsimp only; omega) (.slice none 0 0)).setCell (p := ⟨w.heap.size + 1, 2, none⟩) (by dsimp only; omega) (.bool false)).setCell (p := ⟨w.heap.size + 1, 3, none⟩) (by dsimp only; omega) (.slice b2 ds.length c2)
    have OF := (((ho.setCell (p := ⟨w.heap.size + 1, 0, none⟩) hz (.bool false)).setCell (p := ⟨w.heap.size + 1, 1, none⟩) hz (.slice none 0 0)).setCell (p := ⟨w.heap.size + 1, 2, none⟩) hz (.bool false)).setCell (p := ⟨w.heap.size + 1, 3, none⟩) hz (.slice b2 ds.length c2)
    refine bodyPost_ret (v := .agg #[.bool false, .slice none 0 0, .bool false, .slice b2 ds.length c2]) (by simp [results, Tryz.results62, go_sem, q2]) rfl ?_
    exact ⟨_, rfl, SeesFr.wrong OF.toSees HO.out.1 HO.out.2 E.out, BF⟩
end Go.Proofs.YthafgldgidmnlaaGreat
