/- Which fractions are right: the program's FracOk and the specification's. -/
import Derived.Test.YtnefdfgonolafaaCmpW
namespace Go.Proofs.Ytnefdfgonolafaa
open Go.RowKit

/-- Right, by both parts. -/
def fOk (g : Bool) (xs : List Int) (h : Bool) (ys : List Int) : Bool := okB g xs && okB h ys && decide (0 < cmpZ (tk h ys) 0)

set_option maxHeartbeats 1000000 in
theorem implFracOk (g h : Bool) (a b : Option Addr) (c d : Nat) (xs ys : List Int) (w : World) (hx : Sees w a c xs) (hy : Sees w b d ys) :
    Calls Try.prog 15 #[.agg #[.bool g, .slice a xs.length c, .bool h, .slice b ys.length d]] w fun e w' => e = .returned (.bool (fOk g xs h ys)) ∧ Below w.heap.size w w' := by
  have hb0 := below1 w (.cells #[.bool g, .slice a xs.length c, .bool h, .slice b ys.length d] 38)
  by_cases h1 : okB g xs = true
  · by_cases h2 : okB h ys = true
    · have E : Hid (fOk g xs h ys = decide (0 < cmpZ (tk h ys) 0)) := by show _ = _; unfold fOk; rw [h1, h2]; rfl
      obtain ⟨z, hz⟩ : ∃ z, cmpZ (tk h ys) 0 = z := ⟨_, rfl⟩
      go_enter Try.func15, Try.ntmps15
      go_wp2_with fail
      refine (implOk g a c xs _ (hx.below hb0)).mono ?_
      rintro e w1 ⟨rfl, hb⟩
      rw [h1]
      obtain ⟨q, _⟩ := at_block hb (b := w.heap.size) (by simp)
      have B1 := hb0.trans (hb.mono (by simp))
      have hz1 : w.heap.size < w1.heap.size := by have := hb.size; simp at this; omega
      clear hb
      go_wp2_with fail
      refine (implOk h b d ys _ (hy.below B1)).mono ?_
      rintro e w2 ⟨rfl, hb⟩
      rw [h2]
      have q2 : ∀ o, w2.cell? ⟨w.heap.size, o, none⟩ = w1.cell? ⟨w.heap.size, o, none⟩ := fun o => hb.cell (p := ⟨w.heap.size, o, none⟩) hz1
      have B2 := B1.trans (hb.mono B1.size)
      clear hb
      go_wp2_with fail
      refine (implSign h b d ys _ (hy.below B2)).mono ?_
      rintro e w3 ⟨rfl, hb⟩
      rw [hz]
      have B3 := B2.trans (hb.mono B2.size)
      clear hb
      go_wp2
      go_ret
      exact ⟨by rw [E.out, hz]; rfl, B3⟩
    · have h2' : okB h ys = false := by simpa using h2
      have E : Hid (fOk g xs h ys = false) := by show _ = _; unfold fOk; rw [h2']; simp
      go_enter Try.func15, Try.ntmps15
      go_wp2_with fail
      refine (implOk g a c xs _ (hx.below hb0)).mono ?_
      rintro e w1 ⟨rfl, hb⟩
      rw [h1]
      obtain ⟨q, _⟩ := at_block hb (b := w.heap.size) (by simp)
      have B1 := hb0.trans (hb.mono (by simp))
      have hz1 : w.heap.size < w1.heap.size := by have := hb.size; simp at this; omega
      clear hb
      go_wp2_with fail
      refine (implOk h b d ys _ (hy.below B1)).mono ?_
      rintro e w2 ⟨rfl, hb⟩
      rw [h2']
      have B2 := B1.trans (hb.mono B1.size)
      clear hb
      go_wp2
      go_ret
      exact ⟨by rw [E.out]; rfl, B2⟩
  · have h1' : okB g xs = false := by simpa using h1
    have E : Hid (fOk g xs h ys = false) := by show _ = _; unfold fOk; rw [h1']; rfl
    go_enter Try.func15, Try.ntmps15
    go_wp2_with fail
    refine (implOk g a c xs _ (hx.below hb0)).mono ?_
    rintro e w1 ⟨rfl, hb⟩
    rw [h1']
    have B1 := hb0.trans (hb.mono (by simp))
    clear hb
    go_wp2
    go_ret
    exact ⟨by rw [E.out]; rfl, B1⟩

set_option maxHeartbeats 1000000 in
theorem specFracOk (g h : Bool) (a b : Option Addr) (c d : Nat) (xs ys : List Int) (w : World) (hx : Sees w a c xs) (hy : Sees w b d ys) :
    Calls Try.prog 22 #[.agg #[.bool g, .slice a xs.length c, .bool h, .slice b ys.length d]] w fun e w' => e = .returned (.bool (fOk g xs h ys)) ∧ Below w.heap.size w w' := by
  have hb0 := below1 w (.cells #[.bool g, .slice a xs.length c, .bool h, .slice b ys.length d] 38)
  by_cases h1 : okB g xs = true
  · by_cases h2 : okB h ys = true
    · have E : Hid (fOk g xs h ys = decide (0 < cmpZ (tk h ys) 0)) := by show _ = _; unfold fOk; rw [h1, h2]; rfl
      obtain ⟨z, hz⟩ : ∃ z, cmpZ (tk h ys) 0 = z := ⟨_, rfl⟩
      go_enter Try.func22, Try.ntmps22
      go_wp2_with fail
      refine (specOk g a c xs _ (hx.below hb0)).mono ?_
      rintro e w1 ⟨rfl, hb⟩
      rw [h1]
      obtain ⟨q, _⟩ := at_block hb (b := w.heap.size) (by simp)
      have B1 := hb0.trans (hb.mono (by simp))
      have hz1 : w.heap.size < w1.heap.size := by have := hb.size; simp at this; omega
      clear hb
      go_wp2_with fail
      refine (specOk h b d ys _ (hy.below B1)).mono ?_
      rintro e w2 ⟨rfl, hb⟩
      rw [h2]
      have q2 : ∀ o, w2.cell? ⟨w.heap.size, o, none⟩ = w1.cell? ⟨w.heap.size, o, none⟩ := fun o => hb.cell (p := ⟨w.heap.size, o, none⟩) hz1
      have B2 := B1.trans (hb.mono B1.size)
      clear hb
      go_wp2_with fail
      refine (specSign h b d ys _ (hy.below B2)).mono ?_
      rintro e w3 ⟨rfl, hb⟩
      rw [hz]
      have B3 := B2.trans (hb.mono B2.size)
      clear hb
      go_wp2
      go_ret
      exact ⟨by rw [E.out, hz]; rfl, B3⟩
    · have h2' : okB h ys = false := by simpa using h2
      have E : Hid (fOk g xs h ys = false) := by show _ = _; unfold fOk; rw [h2']; simp
      go_enter Try.func22, Try.ntmps22
      go_wp2_with fail
      refine (specOk g a c xs _ (hx.below hb0)).mono ?_
      rintro e w1 ⟨rfl, hb⟩
      rw [h1]
      obtain ⟨q, _⟩ := at_block hb (b := w.heap.size) (by simp)
      have B1 := hb0.trans (hb.mono (by simp))
      have hz1 : w.heap.size < w1.heap.size := by have := hb.size; simp at this; omega
      clear hb
      go_wp2_with fail
      refine (specOk h b d ys _ (hy.below B1)).mono ?_
      rintro e w2 ⟨rfl, hb⟩
      rw [h2']
      have B2 := B1.trans (hb.mono B1.size)
      clear hb
      go_wp2
      go_ret
      exact ⟨by rw [E.out]; rfl, B2⟩
  · have h1' : okB g xs = false := by simpa using h1
    have E : Hid (fOk g xs h ys = false) := by show _ = _; unfold fOk; rw [h1']; rfl
    go_enter Try.func22, Try.ntmps22
    go_wp2_with fail
    refine (specOk g a c xs _ (hx.below hb0)).mono ?_
    rintro e w1 ⟨rfl, hb⟩
    rw [h1']
    have B1 := hb0.trans (hb.mono (by simp))
    clear hb
    go_wp2
    go_ret
    exact ⟨by rw [E.out]; rfl, B1⟩
end Go.Proofs.Ytnefdfgonolafaa
