import Derived.Test.YtcnmglghmianoaaBase
import Derived.Test.YtcnmglghmianoaaEq
import Derived.Deep.RegionHeld3
/- The program's comparing of limbs: impl.cmpMag. -/
namespace Go.Proofs.Ytcnmglghmianoaa
open Go.RowKit

set_option maxHeartbeats 1000000 in
theorem cmpMagC (a b : Option Addr) (c d : Nat) (xs ys : List Int) (w : World) (h : Sees w a c xs) (k : Sees w b d ys) (nx : Nrm xs) (ny : Nrm ys) :
    Calls Try.prog 56 #[.slice a xs.length c, .slice b ys.length d] w fun e w' => e = .returned (.int .i64 (cmpZ (val xs) (val ys))) ∧ ∃ n, w' = w.drewN n := by
  have hm := h.max
  have hf := h.fits
  have hm2 := k.max
  have hf2 := k.fits
  unfold maxLen at hm hm2
  by_cases hl : xs.length = ys.length
  · have HL : Hid (xs.length = ys.length) := hl
    have HX : Hid (Lim xs ∧ Nrm xs) := ⟨h.lim, nx⟩
    have HY : Hid (Lim ys ∧ Nrm ys) := ⟨k.lim, ny⟩
    rw [← hl]
    rw [← hl] at hf2
    clear hl nx ny
    go_enter Try.func56, Try.ntmps56
    go_wp2
    go_loopw [5] (fun i wr => ∃ (j n : Nat), j ≤ xs.length ∧ i = .int .i64 ((j : Int) - 1) ∧ wr = w.drewN n ∧ Hid (xs.drop j = ys.drop j)) (fun i _ => (intOf i + 1).toNat)
    case atStart => exact ⟨xs.length, 0, Nat.le_refl _, rfl, rfl, by show _ = _; rw [List.drop_eq_nil_of_le (Nat.le_refl _), List.drop_eq_nil_of_le (by rw [HL.out]; exact Nat.le_refl _)]⟩
    case round =>
      obtain ⟨j, n, hj, rfl, rfl, he⟩ := hrel
      by_cases h0 : j = 0
      · subst h0
        have E : Hid (cmpZ (val xs) (val ys) = 0) := by
          have := he.out
          simp only [List.drop_zero] at this
          show _ = _
          rw [this]; simp [cmpZ]
        clear he
        go_wp2
        go_ret
        exact ⟨by rw [E.out]; rfl, n, rfl⟩
      · have hne : xs ≠ [] := by intro e; simp [e] at hj; omega
        have hne' : ys ≠ [] := by intro e; have := HL.out; rw [e] at this; simp at this; exact hne this
        obtain ⟨b1, o1, rfl, hc1⟩ := h.cells hne
        obtain ⟨b2, o2, rfl, hc2⟩ := k.cells hne'
        have g1 := hc1 (j - 1) (by omega)
        have g2 := hc2 (j - 1) (by have := HL.out; omega)
        have hp : 0 < j := by omega
        have hsub : j - 1 + 1 = j := by omega
        rcases Int.lt_trichotomy (xs[j - 1]?.getD 0) (ys[j - 1]?.getD 0) with hlt | heq | hgt
        · have E : Hid (cmpZ (val xs) (val ys) = -1) := by
            have := cmp_at (j := j - 1) HX.out.1 HY.out.1 HL.out (by omega) (by rw [hsub]; exact he.out) hlt
            show _ = _
            unfold cmpZ; rw [if_pos this]
          have hne3 : (xs[j - 1]?.getD 0 != ys[j - 1]?.getD 0) = true := by simp; omega
          clear hc1 hc2 h k he hsub
          generalize xs[j - 1]?.getD 0 = x at *
          generalize ys[j - 1]?.getD 0 = y at *
          go_wp2
          go_quiet (fail)
          go_wp2
          go_quiet (fail)
          go_wp2
          go_ret
          exact ⟨by rw [E.out]; rfl, _, by rw [World.drewN_drewN, World.drewN_drewN]⟩
        · have E : Hid (xs.drop (j - 1) = ys.drop (j - 1)) := drop_step HL.out (by rw [hsub]; exact he.out) heq
          rw [heq] at g1
          clear hc1 hc2 h k he hsub heq
          generalize ys[j - 1]?.getD 0 = y at *
          go_wp2
          go_quiet (fail)
          go_wp2
          go_roundw
          case rel => exact ⟨j - 1, _, by omega, by go_num, rfl, E⟩
          case measure => simp [intOf]; omega
        · have E : Hid (cmpZ (val xs) (val ys) = 1) := by
            have := cmp_at (j := j - 1) HY.out.1 HX.out.1 HL.out.symm (by have := HL.out; omega) (by rw [hsub]; exact he.out.symm) hgt
            show _ = _
            unfold cmpZ; rw [if_neg (by omega), if_neg (by omega)]
          have hne3 : (xs[j - 1]?.getD 0 != ys[j - 1]?.getD 0) = true := by simp; omega
          have hge : ¬ xs[j - 1]?.getD 0 < ys[j - 1]?.getD 0 := by omega
          have hdd : decide (xs[j - 1]?.getD 0 < ys[j - 1]?.getD 0) = false := by simp; omega
          clear hc1 hc2 h k he hsub
          generalize xs[j - 1]?.getD 0 = x at *
          generalize ys[j - 1]?.getD 0 = y at *
          go_wp2
          go_quiet (fail)
          go_wp2
          go_quiet (fail)
          go_wp2
          go_ret
          exact ⟨by rw [E.out]; rfl, _, by rw [World.drewN_drewN, World.drewN_drewN]⟩
  · have hne : ((xs.length : Int) != (ys.length : Int)) = true := by simp; omega
    by_cases hlt : xs.length < ys.length
    · have E : Hid (cmpZ (val xs) (val ys) = -1) := by
        have := cmp_len h.lim k.lim ny hlt
        show _ = _
        unfold cmpZ; rw [if_pos this]
      clear h k nx ny hl
      go_enter Try.func56, Try.ntmps56
      go_wp2
      go_ret
      exact ⟨by rw [E.out]; rfl, 0, rfl⟩
    · have E : Hid (cmpZ (val xs) (val ys) = 1) := by
        have := cmp_len k.lim h.lim nx (by omega)
        show _ = _
        unfold cmpZ; rw [if_neg (by omega), if_neg (by omega)]
      clear h k nx ny hl
      go_enter Try.func56, Try.ntmps56
      go_wp2
      go_ret
      exact ⟨by rw [E.out]; rfl, 0, rfl⟩
end Go.Proofs.Ytcnmglghmianoaa

/- The program's comparing of numbers: impl.compared, impl.Cmp, impl.Sign; the specification's Sign. -/
namespace Go.Proofs.Ytcnmglghmianoaa
open Go.RowKit

theorem cmpZ_neg (x y : Int) : cmpZ (-x) (-y) = cmpZ y x := by
  unfold cmpZ
  by_cases h1 : y < x
  · rw [if_pos (by omega), if_pos h1]
  · rw [if_neg (by omega), if_neg h1]
    by_cases h2 : y = x
    · rw [if_pos (by omega), if_pos h2]
    · rw [if_neg (by omega), if_neg h2]

set_option maxHeartbeats 1000000 in
theorem comparedC (g g' : Bool) (a b : Option Addr) (c d : Nat) (xs ys : List Int) (w : World) (h : Sees w a c xs) (k : Sees w b d ys) (nx : Nrm xs) (ny : Nrm ys) (hg : xs = [] → g = false) (kg : ys = [] → g' = false) :
    Calls Try.prog 40 #[.agg #[.bool g, .slice a xs.length c], .agg #[.bool g', .slice b ys.length d]] w fun e w' => e = .returned (.int .i64 (cmpZ (sg g (val xs)) (sg g' (val ys)))) ∧ Below w.heap.size w w' := by
  have px : g = true → 0 < val xs := fun e => val_pos h.lim nx (fun e2 => by rw [hg e2] at e; cases e)
  have py : g' = true → 0 < val ys := fun e => val_pos k.lim ny (fun e2 => by rw [kg e2] at e; cases e)
  have x0 := val_nonneg h.lim
  have y0 := val_nonneg k.lim
  clear hg kg
  rcases g with _ | _ <;> rcases g' with _ | _
  · have E : Hid (cmpZ (sg false (val xs)) (sg false (val ys)) = cmpZ (val xs) (val ys)) := by show _ = _; simp [sg]
    clear px py x0 y0
    go_enter Try.func40, Try.ntmps40
    go_wp2_with fail
    refine (cmpMagC a b c d xs ys _ (h.below (below2 _ _ _)) (k.below (below2 _ _ _)) nx ny).mono ?_
    rintro e w2 ⟨rfl, n, rfl⟩
    go_wp2
    go_ret
    exact ⟨by rw [E.out]; rfl, below_drewN (below2 _ _ _) n⟩
  · have E : Hid (cmpZ (sg false (val xs)) (sg true (val ys)) = 1) := by
      have := py rfl
      show _ = _
      simp only [sg]; simp; unfold cmpZ; rw [if_neg (by omega), if_neg (by omega)]
    clear px py x0 y0 h k
    go_enter Try.func40, Try.ntmps40
    go_wp2
    go_ret
    exact ⟨by rw [E.out]; rfl, below2 _ _ _⟩
  · have E : Hid (cmpZ (sg true (val xs)) (sg false (val ys)) = -1) := by
      have := px rfl
      show _ = _
      simp only [sg]; simp; unfold cmpZ; rw [if_pos (by omega)]
    clear px py x0 y0 h k
    go_enter Try.func40, Try.ntmps40
    go_wp2
    go_ret
    exact ⟨by rw [E.out]; rfl, below2 _ _ _⟩
  · have E : Hid (cmpZ (sg true (val xs)) (sg true (val ys)) = cmpZ (val ys) (val xs)) := by show _ = _; simp only [sg]; simp; exact cmpZ_neg _ _
    clear px py x0 y0
    go_enter Try.func40, Try.ntmps40
    go_wp2_with fail
    refine (cmpMagC b a d c ys xs _ (k.below (below2 _ _ _)) (h.below (below2 _ _ _)) ny nx).mono ?_
    rintro e w2 ⟨rfl, n, rfl⟩
    go_wp2
    go_ret
    exact ⟨by rw [E.out]; rfl, below_drewN (below2 _ _ _) n⟩

set_option maxHeartbeats 1000000 in
theorem implSign (g : Bool) (a : Option Addr) (c : Nat) (xs : List Int) (w : World) (h : Sees w a c xs) :
    Calls Try.prog 65 #[.agg #[.bool g, .slice a xs.length c]] w fun e w' => e = .returned (.int .i64 (cmpZ (tk g xs) 0)) ∧ Below w.heap.size w w' := by
  obtain ⟨tl, tn, t24, t0⟩ := tk_facts g xs h.lim
  have HT : Hid (Nrm (tkL g xs) ∧ (tkL g xs = [] → tkG g xs = false)) := ⟨tn, t0⟩
  clear tl tn t24 t0
  go_enter Try.func65, Try.ntmps65
  go_wp2_with fail
  refine (takenC g a c xs _ (h.below (below1 _ _))).mono ?_
  rintro e w1 ⟨a1, c1, rfl, hs1, hb⟩
  have B1 := (below1 w _).trans (hb.mono (by simp))
  clear hb h
  go_wp2_with fail
  refine (comparedC (tkG g xs) false a1 none c1 0 (tkL g xs) [] _ hs1 (Own.nil 0 _).toSees HT.out.1 trivial HT.out.2 (fun _ => rfl)).mono ?_
  rintro e w2 ⟨rfl, hb⟩
  have B2 := B1.trans (hb.mono B1.size)
  clear hb B1
  go_wp2
  go_ret
  exact ⟨rfl, B2⟩

theorem tk_zero {g : Bool} {xs : List Int} (h : tkL g xs = []) : tk g xs = 0 := by
  unfold tk; rw [h]; unfold sg; split <;> simp [val]
theorem tk_sign {g : Bool} {xs : List Int} (hl : Lim xs) (h : ¬ tkL g xs = []) : tkG g xs = g ∧ 0 < val (tkL g xs) := by
  obtain ⟨tl, tn, _, _⟩ := tk_facts g xs hl
  refine ⟨?_, val_pos tl tn h⟩
  unfold tkL at h
  unfold tkG
  by_cases hk : okB g xs = true
  · rw [hk]; simp
  · rw [if_neg hk] at h; exact absurd rfl h

set_option maxHeartbeats 1000000 in
theorem specSign (g : Bool) (a : Option Addr) (c : Nat) (xs : List Int) (w : World) (h : Sees w a c xs) :
    Calls Try.prog 86 #[.agg #[.bool g, .slice a xs.length c]] w fun e w' => e = .returned (.int .i64 (cmpZ (tk g xs) 0)) ∧ Below w.heap.size w w' := by
  obtain ⟨_, _, t24, _⟩ := tk_facts g xs h.lim
  by_cases h0 : tkL g xs = []
  · have E : Hid (cmpZ (tk g xs) 0 = 0) := by show _ = _; rw [tk_zero h0]; simp [cmpZ]
    have HL : Hid ((tkL g xs).length = 0) := by show _ = _; rw [h0]; rfl
    clear h0
    go_enter Try.func86, Try.ntmps86
    go_wp2_with fail
    refine (l1MagC g a c xs _ (h.below (below1 _ _))).mono ?_
    rintro e w1 ⟨a1, c1, rfl, hs1, hb⟩
    rw [HL.out]
    have B1 := (below1 w _).trans (hb.mono (by simp))
    clear hb h hs1
    go_wp2
    go_ret
    exact ⟨by rw [E.out]; rfl, B1⟩
  · obtain ⟨e1, e2⟩ := tk_sign h.lim h0
    have hp : 0 < (tkL g xs).length := List.length_pos_iff.2 h0
    have hne : (((tkL g xs).length : Int) == 0) = false := by simp; exact h0
    rcases g with _ | _
    · have E : Hid (cmpZ (tk false xs) 0 = 1) := by
        show _ = _
        unfold tk; rw [e1]; simp only [sg]; simp; unfold cmpZ; rw [if_neg (by omega), if_neg (by omega)]
      clear h0 e1 e2
      go_enter Try.func86, Try.ntmps86
      go_wp2_with fail
      refine (l1MagC false a c xs _ (h.below (below1 _ _))).mono ?_
      rintro e w1 ⟨a1, c1, rfl, hs1, hb⟩
      obtain ⟨q1, q2⟩ := at_block hb (b := w.heap.size) (by simp)
      have B1 := (below1 w _).trans (hb.mono (by simp))
      clear hb h hs1
      generalize (tkL false xs).length = n at *
      go_wp2
      go_ret
      exact ⟨by rw [E.out]; rfl, B1⟩
    · have E : Hid (cmpZ (tk true xs) 0 = -1) := by
        show _ = _
        unfold tk; rw [e1]; simp only [sg]; simp; unfold cmpZ; rw [if_pos (by omega)]
      clear h0 e1 e2
      go_enter Try.func86, Try.ntmps86
      go_wp2_with fail
      refine (l1MagC true a c xs _ (h.below (below1 _ _))).mono ?_
      rintro e w1 ⟨a1, c1, rfl, hs1, hb⟩
      obtain ⟨q1, q2⟩ := at_block hb (b := w.heap.size) (by simp)
      have B1 := (below1 w _).trans (hb.mono (by simp))
      clear hb h hs1
      generalize (tkL true xs).length = n at *
      go_wp2
      go_ret
      exact ⟨by rw [E.out]; rfl, B1⟩
end Go.Proofs.Ytcnmglghmianoaa

/- Which fractions are right: the program's FracOk and the specification's. -/
namespace Go.Proofs.Ytcnmglghmianoaa
open Go.RowKit

/-- Right, by both parts. -/
def fOk (g : Bool) (xs : List Int) (h : Bool) (ys : List Int) : Bool := okB g xs && okB h ys && decide (0 < cmpZ (tk h ys) 0)

set_option maxHeartbeats 1000000 in
theorem implFracOk (g h : Bool) (a b : Option Addr) (c d : Nat) (xs ys : List Int) (w : World) (hx : Sees w a c xs) (hy : Sees w b d ys) :
    Calls Try.prog 45 #[.agg #[.bool g, .slice a xs.length c, .bool h, .slice b ys.length d]] w fun e w' => e = .returned (.bool (fOk g xs h ys)) ∧ Below w.heap.size w w' := by
  have hb0 := below1 w (.cells #[.bool g, .slice a xs.length c, .bool h, .slice b ys.length d] 37)
  by_cases h1 : okB g xs = true
  · by_cases h2 : okB h ys = true
    · have E : Hid (fOk g xs h ys = decide (0 < cmpZ (tk h ys) 0)) := by show _ = _; unfold fOk; rw [h1, h2]; rfl
      obtain ⟨z, hz⟩ : ∃ z, cmpZ (tk h ys) 0 = z := ⟨_, rfl⟩
      go_enter Try.func45, Try.ntmps45
      go_wp2_with fail
      refine (implOk g a c xs _ (hx.below hb0)).mono ?_
      rintro e w1 ⟨rfl, hb⟩
      rw [h1]
      obtain ⟨q, _⟩ := at_block hb (b := w.heap.size) (by simp)
      have B1 := hb0.trans (hb.mono (by simp))
      have hz1 : w.heap.size < w1.heap.size := by have := hb.size; simp at this; omega
      clear hb
      go_wp2_with fail
      refine (implOk h b d ys _ (hy.below B1)).mono ?_
      rintro e w2 ⟨rfl, hb⟩
      rw [h2]
      have q2 : ∀ o, w2.cell? ⟨w.heap.size, o, none⟩ = w1.cell? ⟨w.heap.size, o, none⟩ := fun o => hb.cell (p := ⟨w.heap.size, o, none⟩) hz1
      have B2 := B1.trans (hb.mono B1.size)
      clear hb
      go_wp2_with fail
      refine (implSign h b d ys _ (hy.below B2)).mono ?_
      rintro e w3 ⟨rfl, hb⟩
      rw [hz]
      have B3 := B2.trans (hb.mono B2.size)
      clear hb
      go_wp2
      go_ret
      exact ⟨by rw [E.out, hz]; rfl, B3⟩
    · have h2' : okB h ys = false := by simpa using h2
      have E : Hid (fOk g xs h ys = false) := by show _ = _; unfold fOk; rw [h2']; simp
      go_enter Try.func45, Try.ntmps45
      go_wp2_with fail
      refine (implOk g a c xs _ (hx.below hb0)).mono ?_
      rintro e w1 ⟨rfl, hb⟩
      rw [h1]
      obtain ⟨q, _⟩ := at_block hb (b := w.heap.size) (by simp)
      have B1 := hb0.trans (hb.mono (by simp))
      have hz1 : w.heap.size < w1.heap.size := by have := hb.size; simp at this; omega
      clear hb
      go_wp2_with fail
      refine (implOk h b d ys _ (hy.below B1)).mono ?_
      rintro e w2 ⟨rfl, hb⟩
      rw [h2']
      have B2 := B1.trans (hb.mono B1.size)
      clear hb
      go_wp2
      go_ret
      exact ⟨by rw [E.out]; rfl, B2⟩
  · have h1' : okB g xs = false := by simpa using h1
    have E : Hid (fOk g xs h ys = false) := by show _ = _; unfold fOk; rw [h1']; rfl
    go_enter Try.func45, Try.ntmps45
    go_wp2_with fail
    refine (implOk g a c xs _ (hx.below hb0)).mono ?_
    rintro e w1 ⟨rfl, hb⟩
    rw [h1']
    have B1 := hb0.trans (hb.mono (by simp))
    clear hb
    go_wp2
    go_ret
    exact ⟨by rw [E.out]; rfl, B1⟩

set_option maxHeartbeats 1000000 in
theorem specFracOk (g h : Bool) (a b : Option Addr) (c d : Nat) (xs ys : List Int) (w : World) (hx : Sees w a c xs) (hy : Sees w b d ys) :
    Calls Try.prog 73 #[.agg #[.bool g, .slice a xs.length c, .bool h, .slice b ys.length d]] w fun e w' => e = .returned (.bool (fOk g xs h ys)) ∧ Below w.heap.size w w' := by
  have hb0 := below1 w (.cells #[.bool g, .slice a xs.length c, .bool h, .slice b ys.length d] 37)
  by_cases h1 : okB g xs = true
  · by_cases h2 : okB h ys = true
    · have E : Hid (fOk g xs h ys = decide (0 < cmpZ (tk h ys) 0)) := by show _ = _; unfold fOk; rw [h1, h2]; rfl
      obtain ⟨z, hz⟩ : ∃ z, cmpZ (tk h ys) 0 = z := ⟨_, rfl⟩
      go_enter Try.func73, Try.ntmps73
      go_wp2_with fail
      refine (specOk g a c xs _ (hx.below hb0)).mono ?_
      rintro e w1 ⟨rfl, hb⟩
      rw [h1]
      obtain ⟨q, _⟩ := at_block hb (b := w.heap.size) (by simp)
      have B1 := hb0.trans (hb.mono (by simp))
      have hz1 : w.heap.size < w1.heap.size := by have := hb.size; simp at this; omega
      clear hb
      go_wp2_with fail
      refine (specOk h b d ys _ (hy.below B1)).mono ?_
      rintro e w2 ⟨rfl, hb⟩
      rw [h2]
      have q2 : ∀ o, w2.cell? ⟨w.heap.size, o, none⟩ = w1.cell? ⟨w.heap.size, o, none⟩ := fun o => hb.cell (p := ⟨w.heap.size, o, none⟩) hz1
      have B2 := B1.trans (hb.mono B1.size)
      clear hb
      go_wp2_with fail
      refine (specSign h b d ys _ (hy.below B2)).mono ?_
      rintro e w3 ⟨rfl, hb⟩
      rw [hz]
      have B3 := B2.trans (hb.mono B2.size)
      clear hb
      go_wp2
      go_ret
      exact ⟨by rw [E.out, hz]; rfl, B3⟩
    · have h2' : okB h ys = false := by simpa using h2
      have E : Hid (fOk g xs h ys = false) := by show _ = _; unfold fOk; rw [h2']; simp
      go_enter Try.func73, Try.ntmps73
      go_wp2_with fail
      refine (specOk g a c xs _ (hx.below hb0)).mono ?_
      rintro e w1 ⟨rfl, hb⟩
      rw [h1]
      obtain ⟨q, _⟩ := at_block hb (b := w.heap.size) (by simp)
      have B1 := hb0.trans (hb.mono (by simp))
      have hz1 : w.heap.size < w1.heap.size := by have := hb.size; simp at this; omega
      clear hb
      go_wp2_with fail
      refine (specOk h b d ys _ (hy.below B1)).mono ?_
      rintro e w2 ⟨rfl, hb⟩
      rw [h2']
      have B2 := B1.trans (hb.mono B1.size)
      clear hb
      go_wp2
      go_ret
      exact ⟨by rw [E.out]; rfl, B2⟩
  · have h1' : okB g xs = false := by simpa using h1
    have E : Hid (fOk g xs h ys = false) := by show _ = _; unfold fOk; rw [h1']; rfl
    go_enter Try.func73, Try.ntmps73
    go_wp2_with fail
    refine (specOk g a c xs _ (hx.below hb0)).mono ?_
    rintro e w1 ⟨rfl, hb⟩
    rw [h1']
    have B1 := hb0.trans (hb.mono (by simp))
    clear hb
    go_wp2
    go_ret
    exact ⟨by rw [E.out]; rfl, B1⟩
end Go.Proofs.Ytcnmglghmianoaa
