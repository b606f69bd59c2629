/- The program's comparing of numbers: impl.compared, impl.Cmp, impl.Sign; the specification's Sign. -/
import Derived.Test.YtnefdfgonolafaaCmp
import Derived.Test.YtnefdfgonolafaaTaken
import Derived.Deep.RegionHeld3
namespace Go.Proofs.Ytnefdfgonolafaa
open Go.RowKit

theorem cmpZ_neg (x y : Int) : cmpZ (-x) (-y) = cmpZ y x := by
  unfold cmpZ
  by_cases h1 : y < x
  · rw [if_pos (by omega), if_pos h1]
  · rw [if_neg (by omega), if_neg h1]
    by_cases h2 : y = x
    · rw [if_pos (by omega), if_pos h2]
    · rw [if_neg (by omega), if_neg h2]

set_option maxHeartbeats 1000000 in
theorem comparedC (g g' : Bool) (a b : Option Addr) (c d : Nat) (xs ys : List Int) (w : World) (h : Sees w a c xs) (k : Sees w b d ys) (nx : Nrm xs) (ny : Nrm ys) (hg : xs = [] → g = false) (kg : ys = [] → g' = false) :
    Calls Try.prog 46 #[.agg #[.bool g, .slice a xs.length c], .agg #[.bool g', .slice b ys.length d]] w fun e w' => e = .returned (.int .i64 (cmpZ (sg g (val xs)) (sg g' (val ys)))) ∧ Below w.heap.size w w' := by
  have px : g = true → 0 < val xs := fun e => val_pos h.lim nx (fun e2 => by rw [hg e2] at e; cases e)
  have py : g' = true → 0 < val ys := fun e => val_pos k.lim ny (fun e2 => by rw [kg e2] at e; cases e)
  have x0 := val_nonneg h.lim
  have y0 := val_nonneg k.lim
  clear hg kg
  rcases g with _ | _ <;> rcases g' with _ | _
  · have E : Hid (cmpZ (sg false (val xs)) (sg false (val ys)) = cmpZ (val xs) (val ys)) := by show _ = _; simp [sg]
    clear px py x0 y0
    go_enter Try.func46, Try.ntmps46
    go_wp2_with fail
    refine (cmpMagC a b c d xs ys _ (h.below (below2 _ _ _)) (k.below (below2 _ _ _)) nx ny).mono ?_
    rintro e w2 ⟨rfl, n, rfl⟩
    go_wp2
    go_ret
    exact ⟨by rw [E.out]; rfl, below_drewN (below2 _ _ _) n⟩
  · have E : Hid (cmpZ (sg false (val xs)) (sg true (val ys)) = 1) := by
      have := py rfl
      show _ = _
      simp only [sg]; simp; unfold cmpZ; rw [if_neg (by omega), if_neg (by omega)]
    clear px py x0 y0 h k
    go_enter Try.func46, Try.ntmps46
    go_wp2
    go_ret
    exact ⟨by rw [E.out]; rfl, below2 _ _ _⟩
  · have E : Hid (cmpZ (sg true (val xs)) (sg false (val ys)) = -1) := by
      have := px rfl
      show _ = _
      simp only [sg]; simp; unfold cmpZ; rw [if_pos (by omega)]
    clear px py x0 y0 h k
    go_enter Try.func46, Try.ntmps46
    go_wp2
    go_ret
    exact ⟨by rw [E.out]; rfl, below2 _ _ _⟩
  · have E : Hid (cmpZ (sg true (val xs)) (sg true (val ys)) = cmpZ (val ys) (val xs)) := by show _ = _; simp only [sg]; simp; exact cmpZ_neg _ _
    clear px py x0 y0
    go_enter Try.func46, Try.ntmps46
    go_wp2_with fail
    refine (cmpMagC b a d c ys xs _ (k.below (below2 _ _ _)) (h.below (below2 _ _ _)) ny nx).mono ?_
    rintro e w2 ⟨rfl, n, rfl⟩
    go_wp2
    go_ret
    exact ⟨by rw [E.out]; rfl, below_drewN (below2 _ _ _) n⟩

set_option maxHeartbeats 1000000 in
theorem implSign (g : Bool) (a : Option Addr) (c : Nat) (xs : List Int) (w : World) (h : Sees w a c xs) :
    Calls Try.prog 28 #[.agg #[.bool g, .slice a xs.length c]] w fun e w' => e = .returned (.int .i64 (cmpZ (tk g xs) 0)) ∧ Below w.heap.size w w' := by
  obtain ⟨tl, tn, t24, t0⟩ := tk_facts g xs h.lim
  have HT : Hid (Nrm (tkL g xs) ∧ (tkL g xs = [] → tkG g xs = false)) := ⟨tn, t0⟩
  clear tl tn t24 t0
  go_enter Try.func28, Try.ntmps28
  go_wp2_with fail
  refine (takenC g a c xs _ (h.below (below1 _ _))).mono ?_
  rintro e w1 ⟨a1, c1, rfl, hs1, hb⟩
  have B1 := (below1 w _).trans (hb.mono (by simp))
  clear hb h
  go_wp2_with fail
  refine (comparedC (tkG g xs) false a1 none c1 0 (tkL g xs) [] _ hs1 (Own.nil 0 _).toSees HT.out.1 trivial HT.out.2 (fun _ => rfl)).mono ?_
  rintro e w2 ⟨rfl, hb⟩
  have B2 := B1.trans (hb.mono B1.size)
  clear hb B1
  go_wp2
  go_ret
  exact ⟨rfl, B2⟩

theorem tk_zero {g : Bool} {xs : List Int} (h : tkL g xs = []) : tk g xs = 0 := by
  unfold tk; rw [h]; unfold sg; split <;> simp [val]
theorem tk_sign {g : Bool} {xs : List Int} (hl : Lim xs) (h : ¬ tkL g xs = []) : tkG g xs = g ∧ 0 < val (tkL g xs) := by
  obtain ⟨tl, tn, _, _⟩ := tk_facts g xs hl
  refine ⟨?_, val_pos tl tn h⟩
  unfold tkL at h
  unfold tkG
  by_cases hk : okB g xs = true
  · rw [hk]; simp
  · rw [if_neg hk] at h; exact absurd rfl h

set_option maxHeartbeats 1000000 in
theorem specSign (g : Bool) (a : Option Addr) (c : Nat) (xs : List Int) (w : World) (h : Sees w a c xs) :
    Calls Try.prog 38 #[.agg #[.bool g, .slice a xs.length c]] w fun e w' => e = .returned (.int .i64 (cmpZ (tk g xs) 0)) ∧ Below w.heap.size w w' := by
  obtain ⟨_, _, t24, _⟩ := tk_facts g xs h.lim
  by_cases h0 : tkL g xs = []
  · have E : Hid (cmpZ (tk g xs) 0 = 0) := by show _ = _; rw [tk_zero h0]; simp [cmpZ]
    have HL : Hid ((tkL g xs).length = 0) := by show _ = _; rw [h0]; rfl
    clear h0
    go_enter Try.func38, Try.ntmps38
    go_wp2_with fail
    refine (l1MagC g a c xs _ (h.below (below1 _ _))).mono ?_
    rintro e w1 ⟨a1, c1, rfl, hs1, hb⟩
    rw [HL.out]
    have B1 := (below1 w _).trans (hb.mono (by simp))
    clear hb h hs1
    go_wp2
    go_ret
    exact ⟨by rw [E.out]; rfl, B1⟩
  · obtain ⟨e1, e2⟩ := tk_sign h.lim h0
    have hp : 0 < (tkL g xs).length := List.length_pos_iff.2 h0
    have hne : (((tkL g xs).length : Int) == 0) = false := by simp; exact h0
    rcases g with _ | _
    · have E : Hid (cmpZ (tk false xs) 0 = 1) := by
        show _ = _
        unfold tk; rw [e1]; simp only [sg]; simp; unfold cmpZ; rw [if_neg (by omega), if_neg (by omega)]
      clear h0 e1 e2
      go_enter Try.func38, Try.ntmps38
      go_wp2_with fail
      refine (l1MagC false a c xs _ (h.below (below1 _ _))).mono ?_
      rintro e w1 ⟨a1, c1, rfl, hs1, hb⟩
      obtain ⟨q1, q2⟩ := at_block hb (b := w.heap.size) (by simp)
      have B1 := (below1 w _).trans (hb.mono (by simp))
      clear hb h hs1
      generalize (tkL false xs).length = n at *
      go_wp2
      go_ret
      exact ⟨by rw [E.out]; rfl, B1⟩
    · have E : Hid (cmpZ (tk true xs) 0 = -1) := by
        show _ = _
        unfold tk; rw [e1]; simp only [sg]; simp; unfold cmpZ; rw [if_pos (by omega)]
      clear h0 e1 e2
      go_enter Try.func38, Try.ntmps38
      go_wp2_with fail
      refine (l1MagC true a c xs _ (h.below (below1 _ _))).mono ?_
      rintro e w1 ⟨a1, c1, rfl, hs1, hb⟩
      obtain ⟨q1, q2⟩ := at_block hb (b := w.heap.size) (by simp)
      have B1 := (below1 w _).trans (hb.mono (by simp))
      clear hb h hs1
      generalize (tkL true xs).length = n at *
      go_wp2
      go_ret
      exact ⟨by rw [E.out]; rfl, B1⟩
end Go.Proofs.Ytnefdfgonolafaa
