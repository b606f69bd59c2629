/- A whole number as a fraction. -/
import Derived.Test.YtcnmglghmianoaaPtW
import Derived.Test.YtcnmglghmianoaaLow
import Derived.Test.YtcnmglghmianoaaOfW
namespace Go.Proofs.Ytcnmglghmianoaa
open Go.RowKit

theorem IsFrac.two {base : Nat} {w w1 : World} {a b : Option Addr} {c d : Nat} {xs ys : List Int} {n m : Int} (o1 : Own base w a c xs) (n1 : Nrm xs) (v1 : val xs = mg n) (hb : Below w.heap.size w w1) (o2 : Own w.heap.size w1 b d ys) (n2 : Nrm ys) (v2 : val ys = mg m) (hl : base ≤ w.heap.size) :
    IsFrac base w1 (.agg #[.bool (decide (n < 0)), .slice a xs.length c, .bool (decide (m < 0)), .slice b ys.length d]) n m :=
  ⟨a, c, xs, b, d, ys, rfl, o1.below hb, o2.base_le hl, n1, n2, v1, v2, apart_later o1.toCame o2⟩

set_option maxHeartbeats 1000000 in
theorem implWhole (n : Int) (w : World) (h1 : -9223372036854775808 ≤ n) (h2 : n ≤ 9223372036854775807) :
    Calls Try.prog 20 #[.int .i64 n] w fun e w' => ∃ v, e = .returned v ∧ IsFrac w.heap.size w' v n 1 ∧ Below w.heap.size w w' := by
  have B0 := below1 w (.cells #[.bool false, .slice none 0 0, .bool false, .slice none 0 0] 37)
  have HN : Hid (-9223372036854775808 ≤ n ∧ n ≤ 9223372036854775807) := ⟨h1, h2⟩
  clear h1 h2
  obtain ⟨f, hf⟩ : ∃ f, Hid (decide (n < 0) = f) := ⟨_, rfl⟩
  go_enter Try.func20, Try.ntmps20
  go_wp2_with fail
  refine (implOf n _ HN.out.1 HN.out.2).mono ?_
  rintro e w1 ⟨v, rfl, hI, hb1⟩
  obtain ⟨a1, c1, xs, rfl, o1, n1, v1⟩ := hI
  rw [hf.out]
  go_wp2_with fail
  refine (implOf 1 _ (by decide) (by decide)).mono ?_
  rintro e w2 ⟨v, rfl, hI, hb2⟩
  obtain ⟨a2, c2, ys, rfl, o2, n2, v2⟩ := hI
  obtain ⟨q1, r1⟩ := at_block hb1 (b := w.heap.size) (by simp)
  have z1 : w.heap.size < w1.heap.size := by have := hb1.size; simp at this; omega
  have q2 := fun o => (hb2.cell (p := ⟨w.heap.size, o, none⟩) z1).trans (q1 o)
  have r2 := fun o => (hb2.frozen (p := ⟨w.heap.size, o, none⟩) z1).trans (r1 o)
  have z2 := Nat.lt_of_lt_of_le z1 hb2.size
  have B1 := (B0.trans (hb1.mono (by simp)))
  have B2 := B1.trans (hb2.mono B1.size)
  have hJ := (IsFrac.two o1 n1 v1 hb2 o2 n2 v2 hb1.size).base_le (show w.heap.size + 1 ≤ _ by simp)
  rw [hf.out] at hJ
  have JP := hJ.put (b := w.heap.size) (b0 := w.heap.size) (by omega) (by omega) (.bool f) (.slice a1 xs.length c1) (.bool false) (.slice a2 ys.length c2)
  have BP := below_put4 (b := w.heap.size) B2 (by omega) (.bool f) (.slice a1 xs.length c1) (.bool false) (.slice a2 ys.length c2)
  clear hb1 hb2 o1 o2 q1 r1 B0 B1 B2 hJ
  go_wp2
  exact bodyPost_ret (v := .agg #[.bool f, .slice a1 xs.length c1, .bool false, .slice a2 ys.length c2]) (by simp [results, Try.results20, go_sem, q2]) rfl ⟨_, rfl, JP, BP⟩

set_option maxHeartbeats 1000000 in
theorem specWhole (n : Int) (w : World) (h1 : -9223372036854775808 ≤ n) (h2 : n ≤ 9223372036854775807) :
    Calls Try.prog 42 #[.int .i64 n] w fun e w' => ∃ v, e = .returned v ∧ IsFrac w.heap.size w' v n 1 ∧ Below w.heap.size w w' := by
  have B0 := below1 w (.cells #[.bool false, .slice none 0 0, .bool false, .slice none 0 0] 37)
  have HN : Hid (-9223372036854775808 ≤ n ∧ n ≤ 9223372036854775807) := ⟨h1, h2⟩
  clear h1 h2
  obtain ⟨f, hf⟩ : ∃ f, Hid (decide (n < 0) = f) := ⟨_, rfl⟩
  go_enter Try.func42, Try.ntmps42
  go_wp2_with fail
  refine (specOf n _ HN.out.1 HN.out.2).mono ?_
  rintro e w1 ⟨v, rfl, hI, hb1⟩
  obtain ⟨a1, c1, xs, rfl, o1, n1, v1⟩ := hI
  rw [hf.out]
  go_wp2_with fail
  refine (specOf 1 _ (by decide) (by decide)).mono ?_
  rintro e w2 ⟨v, rfl, hI, hb2⟩
  obtain ⟨a2, c2, ys, rfl, o2, n2, v2⟩ := hI
  obtain ⟨q1, r1⟩ := at_block hb1 (b := w.heap.size) (by simp)
  have z1 : w.heap.size < w1.heap.size := by have := hb1.size; simp at this; omega
  have q2 := fun o => (hb2.cell (p := ⟨w.heap.size, o, none⟩) z1).trans (q1 o)
  have r2 := fun o => (hb2.frozen (p := ⟨w.heap.size, o, none⟩) z1).trans (r1 o)
  have z2 := Nat.lt_of_lt_of_le z1 hb2.size
  have B1 := (B0.trans (hb1.mono (by simp)))
  have B2 := B1.trans (hb2.mono B1.size)
  have hJ := (IsFrac.two o1 n1 v1 hb2 o2 n2 v2 hb1.size).base_le (show w.heap.size + 1 ≤ _ by simp)
  rw [hf.out] at hJ
  have JP := hJ.put (b := w.heap.size) (b0 := w.heap.size) (by omega) (by omega) (.bool f) (.slice a1 xs.length c1) (.bool false) (.slice a2 ys.length c2)
  have BP := below_put4 (b := w.heap.size) B2 (by omega) (.bool f) (.slice a1 xs.length c1) (.bool false) (.slice a2 ys.length c2)
  clear hb1 hb2 o1 o2 q1 r1 B0 B1 B2 hJ
  go_wp2
  exact bodyPost_ret (v := .agg #[.bool f, .slice a1 xs.length c1, .bool false, .slice a2 ys.length c2]) (by simp [results, Try.results42, go_sem, q2]) rfl ⟨_, rfl, JP, BP⟩
end Go.Proofs.Ytcnmglghmianoaa
