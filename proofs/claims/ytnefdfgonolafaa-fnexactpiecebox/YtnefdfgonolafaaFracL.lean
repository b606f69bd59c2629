/- The laws' helpers on fractions: their sizes, their copies, whether two are equal. -/
import Derived.Test.YtnefdfgonolafaaNums
namespace Go.Proofs.Ytnefdfgonolafaa
open Go.RowKit

theorem fvar_new (w : World) (g g' : Bool) (a a' : Option Addr) (n n' c c' : Nat) (T : TypeId) :
    (w.alloc (.cells #[.bool g, .slice a n c, .bool g', .slice a' n' c'] T)).cell? ⟨w.heap.size, 0, none⟩ = some (.bool g) ∧ (w.alloc (.cells #[.bool g, .slice a n c, .bool g', .slice a' n' c'] T)).cell? ⟨w.heap.size, 1, none⟩ = some (.slice a n c) ∧
    (w.alloc (.cells #[.bool g, .slice a n c, .bool g', .slice a' n' c'] T)).cell? ⟨w.heap.size, 2, none⟩ = some (.bool g') ∧ (w.alloc (.cells #[.bool g, .slice a n c, .bool g', .slice a' n' c'] T)).cell? ⟨w.heap.size, 3, none⟩ = some (.slice a' n' c') :=
  ⟨cell_new w _ T 0 rfl, cell_new w _ T 1 rfl, cell_new w _ T 2 rfl, cell_new w _ T 3 rfl⟩

set_option maxHeartbeats 400000 in
theorem szF (g h : Bool) (a b : Option Addr) (c d n m : Nat) (left : Int) (w : World) (hl : 0 ≤ left ∧ left ≤ 1048576) (hn : n ≤ 9223372036854775807) (hm : m ≤ 9223372036854775807) :
    Calls Try.prog 10 #[.agg #[.bool g, .slice a n c, .bool h, .slice b m d], .int .i64 left] w fun e w' => e = .returned (.int .i64 (if left - n - m < 0 then -1 else left - n - m)) ∧ Below w.heap.size w w' := by
  by_cases h1 : left - n < 0
  · rw [if_pos (by omega)]
    go_enter Try.func10, Try.ntmps10
    go_wp2_with fail
    refine (szN g a c n left _ hl hn).mono ?_
    rintro e w1 ⟨rfl, hb⟩
    rw [if_pos h1]
    go_wp2
    go_ret
    exact ⟨rfl, (below1 _ _).trans (hb.mono (by simp))⟩
  · by_cases h2 : left - n - m < 0
    · rw [if_pos h2]
      go_enter Try.func10, Try.ntmps10
      go_wp2_with fail
      refine (szN g a c n left _ hl hn).mono ?_
      rintro e w1 ⟨rfl, hb⟩
      rw [if_neg (by omega)]
      obtain ⟨q, _⟩ := at_block hb (b := w.heap.size) (by simp)
      have B := (below1 w (.cells #[.bool g, .slice a n c, .bool h, .slice b m d] 26)).trans (hb.mono (by simp))
      clear hb
      go_wp2_with fail
      refine (szN h b d m (left - n) _ (by omega) hm).mono ?_
      rintro e w2 ⟨rfl, hb⟩
      have B2 := B.trans (hb.mono B.size)
      rw [if_pos (by omega)]
      go_wp2
      go_ret
      exact ⟨rfl, B2⟩
    · rw [if_neg h2]
      go_enter Try.func10, Try.ntmps10
      go_wp2_with fail
      refine (szN g a c n left _ hl hn).mono ?_
      rintro e w1 ⟨rfl, hb⟩
      rw [if_neg (by omega)]
      obtain ⟨q, _⟩ := at_block hb (b := w.heap.size) (by simp)
      have B := (below1 w (.cells #[.bool g, .slice a n c, .bool h, .slice b m d] 26)).trans (hb.mono (by simp))
      clear hb
      go_wp2_with fail
      refine (szN h b d m (left - n) _ (by omega) hm).mono ?_
      rintro e w2 ⟨rfl, hb⟩
      have B2 := B.trans (hb.mono B.size)
      rw [if_neg (by omega)]
      go_wp2
      go_ret
      exact ⟨rfl, B2⟩

set_option maxHeartbeats 400000 in
theorem eqF (g h : Bool) (a a' b b' : Option Addr) (c c' d d' : Nat) (xs ys : List Int) (w : World) (h1 : Sees w a c xs) (h2 : Sees w a' c' xs) (k1 : Sees w b d ys) (k2 : Sees w b' d' ys) :
    Calls Try.prog 20 #[.agg #[.bool g, .slice a xs.length c, .bool h, .slice b ys.length d], .agg #[.bool g, .slice a' xs.length c', .bool h, .slice b' ys.length d']] w fun e w' => e = .returned (.bool true) ∧ Below w.heap.size w w' := by
  go_enter Try.func20, Try.ntmps20
  go_wp2_with fail
  refine (eqN g a a' c c' xs _ (h1.below (below2 _ _ _)) (h2.below (below2 _ _ _))).mono ?_
  rintro e w1 ⟨rfl, hb⟩
  obtain ⟨q1, _⟩ := at_block hb (b := w.heap.size) (by simp; omega)
  obtain ⟨q2, _⟩ := at_block hb (b := w.heap.size + 1) (by simp)
  have B := (below2 w (.cells #[.bool g, .slice a xs.length c, .bool h, .slice b ys.length d] 38) (.cells #[.bool g, .slice a' xs.length c', .bool h, .slice b' ys.length d'] 38)).trans (hb.mono (by simp; omega))
  clear hb
  go_wp2_with fail
  refine (eqN h b b' d d' ys _ (k1.below B) (k2.below B)).mono ?_
  rintro e w2 ⟨rfl, hb⟩
  have B2 := B.trans (hb.mono B.size)
  go_wp2
  go_ret
  exact ⟨rfl, B2⟩

set_option maxHeartbeats 1000000 in
theorem toF (g h : Bool) (a b : Option Addr) (c d : Nat) (xs ys : List Int) (w : World) (hx : Came w a c xs) (hy : Came w b d ys) (sx : xs.length ≤ 1048576) (sy : ys.length ≤ 1048576) :
    Calls Try.prog 14 #[.agg #[.bool g, .slice a xs.length c, .bool h, .slice b ys.length d]] w fun e w' => ∃ a1 c1 a2 c2, e = .returned (.agg #[.bool g, .slice a1 xs.length c1, .bool h, .slice a2 ys.length c2]) ∧ Own w.heap.size w' a1 c1 xs ∧ Own w.heap.size w' a2 c2 ys ∧ (∀ q off, a1 = some ⟨q, off, none⟩ → xs ≠ [] → rowOf a2 ys ≠ some q) ∧ Below w.heap.size w w' := by
  go_enter Try.func14, Try.ntmps14
  go_wp2_with fail
  refine (toN g a c xs _ (hx.below (below3 _ _ _ _)) sx).mono ?_
  rintro e w1 ⟨a1, c1, rfl, o1, hb⟩
  have hb0 := below3 w (.cells #[.bool g, .slice a xs.length c, .bool h, .slice b ys.length d] 26) (.cells #[.bool false, .slice none 0 0, .bool false, .slice none 0 0] 38) (.cells #[.bool false, .slice none 0 0, .bool false, .slice none 0 0] 38)
  obtain ⟨q0, _⟩ := at_block hb (b := w.heap.size) (by simp; omega)
  obtain ⟨q1, r1⟩ := at_block hb (b := w.heap.size + 1) (by simp)
  obtain ⟨q2, r2⟩ := at_block hb (b := w.heap.size + 2) (by simp)
  have hz1 : w.heap.size + 2 < w1.heap.size := by have := hb.size; simp at this; omega
  have B1 := hb0.trans (hb.mono (by simp; omega))
  have hy1 := hy.below B1
  have LB : Hid (∀ q off, b = some ⟨q, off, none⟩ → ys ≠ [] → w.heap.size + 2 ≠ q) := fun q off e1 e2 => by have := hy.lt e1 e2; omega
  simp only [World.size_alloc] at o1
  clear hb hb0 hx hy
  go_wp2_with fail
  have B2 := (B1.setCell (p := ⟨w.heap.size + 2, 0, none⟩) (by dsimp only; omega) (.bool g)).setCell (p := ⟨w.heap.size + 2, 1, none⟩) (by dsimp only; omega) (.slice a1 xs.length c1)
  have o2 := (o1.setCell (p := ⟨w.heap.size + 2, 0, none⟩) (by dsimp only; omega) (.bool g)).setCell (p := ⟨w.heap.size + 2, 1, none⟩) (by dsimp only; omega) (.slice a1 xs.length c1)
  have hy2 := (hy1.kept (grownBy_setCell (grownBy_refl w1 (some (w.heap.size + 2))) rfl (.bool g) (p := ⟨w.heap.size + 2, 0, none⟩)) (fun q off e1 e2 e3 => LB.out q off e1 e2 (Option.some.inj e3))).kept (grownBy_setCell (grownBy_refl _ (some (w.heap.size + 2))) rfl (.slice a1 xs.length c1) (p := ⟨w.heap.size + 2, 1, none⟩)) (fun q off e1 e2 e3 => LB.out q off e1 e2 (Option.some.inj e3))
  have u0 : ((w1.setCell ⟨w.heap.size + 2, 0, none⟩ (.bool g)).setCell ⟨w.heap.size + 2, 1, none⟩ (.slice a1 xs.length c1)).cell? ⟨w.heap.size + 2, 0, none⟩ = some (.bool g) := by simp [go_sem, q2]
  have u1 : ((w1.setCell ⟨w.heap.size + 2, 0, none⟩ (.bool g)).setCell ⟨w.heap.size + 2, 1, none⟩ (.slice a1 xs.length c1)).cell? ⟨w.heap.size + 2, 1, none⟩ = some (.slice a1 xs.length c1) := by simp [go_sem, q2]
  have u2 : ((w1.setCell ⟨w.heap.size + 2, 0, none⟩ (.bool g)).setCell ⟨w.heap.size + 2, 1, none⟩ (.slice a1 xs.length c1)).cell? ⟨w.heap.size + 2, 2, none⟩ = some (.bool false) := by simp [go_sem, q2]
  have u3 : ((w1.setCell ⟨w.heap.size + 2, 0, none⟩ (.bool g)).setCell ⟨w.heap.size + 2, 1, none⟩ (.slice a1 xs.length c1)).cell? ⟨w.heap.size + 2, 3, none⟩ = some (.slice none 0 0) := by simp [go_sem, q2]
  have v0 : ((w1.setCell ⟨w.heap.size + 2, 0, none⟩ (.bool g)).setCell ⟨w.heap.size + 2, 1, none⟩ (.slice a1 xs.length c1)).cell? ⟨w.heap.size + 1, 0, none⟩ = some (.bool false) := by simp [go_sem, q1]
  have v1 : ((w1.setCell ⟨w.heap.size + 2, 0, none⟩ (.bool g)).setCell ⟨w.heap.size + 2, 1, none⟩ (.slice a1 xs.length c1)).cell? ⟨w.heap.size + 1, 1, none⟩ = some (.slice none 0 0) := by simp [go_sem, q1]
  have v2 : ((w1.setCell ⟨w.heap.size + 2, 0, none⟩ (.bool g)).setCell ⟨w.heap.size + 2, 1, none⟩ (.slice a1 xs.length c1)).cell? ⟨w.heap.size + 1, 2, none⟩ = some (.bool false) := by simp [go_sem, q1]
  have v3 : ((w1.setCell ⟨w.heap.size + 2, 0, none⟩ (.bool g)).setCell ⟨w.heap.size + 2, 1, none⟩ (.slice a1 xs.length c1)).cell? ⟨w.heap.size + 1, 3, none⟩ = some (.slice none 0 0) := by simp [go_sem, q1]
  have fu : ∀ o, ((w1.setCell ⟨w.heap.size + 2, 0, none⟩ (.bool g)).setCell ⟨w.heap.size + 2, 1, none⟩ (.slice a1 xs.length c1)).frozen? ⟨w.heap.size + 2, o, none⟩ = false := fun o => by simp [go_sem, r2]
  have fv : ∀ o, ((w1.setCell ⟨w.heap.size + 2, 0, none⟩ (.bool g)).setCell ⟨w.heap.size + 2, 1, none⟩ (.slice a1 xs.length c1)).frozen? ⟨w.heap.size + 1, o, none⟩ = false := fun o => by simp [go_sem, r1]
  have sz2 : w1.heap.size = ((w1.setCell ⟨w.heap.size + 2, 0, none⟩ (.bool g)).setCell ⟨w.heap.size + 2, 1, none⟩ (.slice a1 xs.length c1)).heap.size := by simp
  rw [sz2] at hz1
  clear q0 q1 q2 r1 r2 sz2 B1 o1 hy1
  generalize (w1.setCell ⟨w.heap.size + 2, 0, none⟩ (.bool g)).setCell ⟨w.heap.size + 2, 1, none⟩ (.slice a1 xs.length c1) = W2 at *
  refine (toN h b d ys _ hy2 sy).mono ?_
  rintro e w3 ⟨a2, c2, rfl, o3, hb⟩
  have B3 := B2.trans (hb.mono B2.size)
  have o2' := o2.below hb
  have AP : Hid (∀ q off, a1 = some ⟨q, off, none⟩ → xs ≠ [] → rowOf a2 ys ≠ some q) := fun q off e1 e2 e3 => row_ne_low o3 (o2.lt e1 e2) e3.symm
  replace u0 := bat hb u0
  replace u1 := bat hb u1
  replace u2 := bat hb u2
  replace u3 := bat hb u3
  replace v0 := bat hb v0
  replace v1 := bat hb v1
  replace v2 := bat hb v2
  replace v3 := bat hb v3
  have fu' : ∀ o, w3.frozen? ⟨w.heap.size + 2, o, none⟩ = false := fun o => (hb.frozen (p := ⟨w.heap.size + 2, o, none⟩) (by dsimp only; omega)).trans (fu o)
  have fv' : ∀ o, w3.frozen? ⟨w.heap.size + 1, o, none⟩ = false := fun o => (hb.frozen (p := ⟨w.heap.size + 1, o, none⟩) (by dsimp only; omega)).trans (fv o)
  have hz3 : w.heap.size + 2 < w3.heap.size := by have := hb.size; omega
  have o3' := o3.base_le (show w.heap.size + 3 ≤ W2.heap.size by omega)
  clear hb fu fv hy2 B2 o2 o3
  go_wp2
  refine bodyPost_ret (v := .agg #[.bool g, .slice a1 xs.length c1, .bool h, .slice a2 ys.length c2]) (by simp [results, Try.results14, go_sem, v0, v1, v2, v3]) rfl ?_
  refine ⟨a1, c1, a2, c2, rfl, ?_, ?_, AP.out, ?_⟩
  · exact ((((((o2'.setCell (by dsimp only; omega) _).setCell (by dsimp only; omega) _).setCell (by dsimp only; omega) _).setCell (by dsimp only; omega) _).setCell (by dsimp only; omega) _).setCell (by dsimp only; omega) _).base_le (by omega)
  · exact ((((((o3'.setCell (by dsimp only; omega) _).setCell (by dsimp only; omega) _).setCell (by dsimp only; omega) _).setCell (by dsimp only; omega) _).setCell (by dsimp only; omega) _).setCell (by dsimp only; omega) _).base_le (by omega)
  · exact (((((B3.setCell (by dsimp only; omega) _).setCell (by dsimp only; omega) _).setCell (by dsimp only; omega) _).setCell (by dsimp only; omega) _).setCell (by dsimp only; omega) _).setCell (by dsimp only; omega) _
end Go.Proofs.Ytnefdfgonolafaa
