/- The law on StoreNew: at every argument the program's disk of a new store is the specification's; its answer owns its memory. -/
import Derived.Test.YtagkcaiodciomaaStN
namespace Go.Proofs.Ytagkcaiodciomaa
open Go.RowKit

set_option maxRecDepth 20000 in
set_option maxHeartbeats 2000000 in
theorem lawStoreNew (s : Int) (w : World) :
    Calls Try.prog 3 #[.int .i64 s] w fun e w' => e = .returned (.bool true) ∧ Below w.heap.size w w' := by
  have L0 : Hid ((stN s).length ≤ 25600) := stN_len s
  go_enter Try.func3, Try.ntmps3
  go_wp2_with fail
  refine (specStoreNew s _).mono ?_
  rintro e w1 ⟨⟨a0, c0, b0, d0, rfl, D0⟩, B⟩
  obtain ⟨bs, hbs⟩ : ∃ bs, Hid (stN s = bs) := ⟨_, rfl⟩
  obtain ⟨r, hr⟩ : ∃ r, Hid (decide (4 ≤ s ∧ s ≤ 199) = r) := ⟨_, rfl⟩
  rw [hbs.out] at L0 D0 ⊢
  rw [hr.out]
  have hrn : (r != r) = false := by simp
  have hI2 : Hid (∀ w, Calls Try.prog 5 #[.int .i64 s] w fun e w' => (∃ a c b d, e = .returned (.tuple #[.agg #[.slice a bs.length c, .slice b 0 d], .bool r]) ∧ DkR w.heap.size w' (.slice a bs.length c) (.slice b 0 d) [] bs []) ∧ Below w.heap.size w w') := fun w => by
    have := implStoreNew s w
    unfold StPost at this
    rw [hbs.out, hr.out] at this
    exact this
  clear hr hbs
  have X3 := Box2.new w1 (lo := 0) (by omega) (.slice a0 bs.length c0) (.slice b0 0 d0) 25
  have hb1 := below1 w1 (.cells #[.slice a0 bs.length c0, .slice b0 0 d0] 25)
  have T0 := D0.tops (b := w1.heap.size + 1) (by omega)
  have z3 : (w1.alloc (.cells #[.slice a0 bs.length c0, .slice b0 0 d0] 25)).heap.size = w1.heap.size + 1 := by simp
  replace D0 := D0.below hb1
  replace B := B.trans (hb1.mono B.size)
  have sz : w.heap.size ≤ w1.heap.size + 1 := by rw [← z3]; exact B.size
  clear hb1
  go_wp2_with fail
  refine (hI2.out _).mono ?_
  rintro e w2 ⟨⟨a1, c1, b1, d1, rfl, D1⟩, hb⟩
  rw [z3] at D1
  replace D0 := D0.below hb
  replace X3 := X3.below hb
  have s2 : w1.heap.size + 1 ≤ w2.heap.size := by rw [← z3]; exact hb.size
  replace B := B.trans (hb.mono B.size)
  clear hb z3
  have X4 := Box2.new w2 (lo := 0) (by omega) (.slice a1 bs.length c1) (.slice b1 0 d1) 25
  have hb2 := below1 w2 (.cells #[.slice a1 bs.length c1, .slice b1 0 d1] 25)
  have N1 := D1.nots (p := w2.heap.size) (.inl (Nat.le_refl _))
  replace D0 := D0.below hb2
  replace D1 := D1.below hb2
  replace X3 := X3.below hb2
  replace B := B.trans (hb2.mono B.size)
  clear hb2
  generalize hw1 : w1.heap.size = p3 at *
  generalize hw2 : w2.heap.size = p4 at *
  obtain ⟨x0, x1, xf, _⟩ := id X3
  obtain ⟨y0, y1, yf, _⟩ := id X4
  go_wp2_with fail
  refine (eqDisk_any (lo := p3 + 1) (lo' := w.heap.size) a1 b1 a0 b0 c1 d1 c0 d0 [] [] bs [] _ D1 D0).mono ?_
  rintro e w3 ⟨rfl, hb⟩
  have s3 : p4 + 1 ≤ w3.heap.size := by have := hb.size; rw [← hw2]; simpa using this
  replace D0 := D0.below hb
  replace D1 := D1.below hb
  replace X3 := X3.below hb
  replace X4 := X4.below hb
  replace B := B.trans (hb.mono B.size)
  clear hb x0 x1 xf y0 y1 yf
  obtain ⟨x0, x1, xf, _⟩ := id X3
  obtain ⟨y0, y1, yf, _⟩ := id X4
  go_wp2_with fail
  refine (markDisk_any a1 b1 c1 d1 [] bs [] _ D1 (by have := L0.out; omega) (by simp [uptoQ])).mono ?_
  rintro e w4 ⟨rfl, D4, K4, hbb⟩
  have hb := hbb (p3 + 1) (Nat.le_refl _) (by omega)
  replace D0 := D0.under hb T0
  replace X3 := X3.underB hb (by omega)
  replace X4 := X4.butQ K4 N1.out
  replace B := B.trans (hb.mono sz)
  have D5 : Hid (DkR (p3 + 1) w4 (.slice a1 bs.length c1) (.slice b1 0 d1) [] (mkY 1 bs.length) (mkQs (1 + (bs.length : Int)) [] ([] : List Wr).length)) := D4
  obtain ⟨k9, hk9⟩ : ∃ k, Hid (1 + (bs.length : Int) + (uptoQ ([] : List Wr) ([] : List Wr).length : Nat) = k) := ⟨_, rfl⟩
  have kp : 0 ≤ k9 := by rw [← hk9.out]; omega
  have hk9n : (k9 != k9) = false := by simp
  rw [hk9.out]
  clear hb hbb K4 D4 D1 x0 x1 xf y0 y1 yf
  obtain ⟨x0, x1, xf, _⟩ := id X3
  obtain ⟨y0, y1, yf, _⟩ := id X4
  go_wp2_with fail
  refine (heldDisk_any a1 b1 c1 d1 [] bs [] _ D5.out (by have := L0.out; omega) (by simp [uptoQ])).mono ?_
  rintro e w5 ⟨rfl, hb⟩
  rw [hk9.out]
  replace D0 := D0.below hb
  replace X3 := X3.below hb
  replace X4 := X4.below hb
  have D6 : Hid (DkR (p3 + 1) w5 (.slice a1 bs.length c1) (.slice b1 0 d1) [] (mkY 1 bs.length) (mkQs (1 + (bs.length : Int)) [] ([] : List Wr).length)) := D5.out.below hb
  replace B := B.trans (hb.mono B.size)
  clear hb D5 x0 x1 xf y0 y1 yf
  go_wp2_with fail
  refine (hI2.out _).mono ?_
  rintro e w6 ⟨⟨a2, c2, b2, d2, rfl, D2⟩, hb⟩
  replace D0 := D0.below hb
  replace X3 := X3.below hb
  replace X4 := X4.below hb
  have D7 : Hid (DkR (p3 + 1) w6 (.slice a1 bs.length c1) (.slice b1 0 d1) [] (mkY 1 bs.length) (mkQs (1 + (bs.length : Int)) [] ([] : List Wr).length)) := D6.out.below hb
  replace B := B.trans (hb.mono B.size)
  clear hb D6
  have hb6 := below1 w6 (.cells #[.slice a2 bs.length c2, .slice b2 0 d2] 25)
  replace D0 := D0.below hb6
  replace D2 := D2.below hb6
  replace X3 := X3.below hb6
  replace X4 := X4.below hb6
  have D8 : Hid (DkR (p3 + 1) (w6.alloc (.cells #[.slice a2 bs.length c2, .slice b2 0 d2] 25)) (.slice a1 bs.length c1) (.slice b1 0 d1) [] (mkY 1 bs.length) (mkQs (1 + (bs.length : Int)) [] ([] : List Wr).length)) := D7.out.below hb6
  replace B := B.trans (hb6.mono B.size)
  clear hb6 D7
  obtain ⟨x0, x1, xf, _⟩ := id X3
  go_wp2_with fail
  refine (eqDisk_any (lo := w5.heap.size) (lo' := w.heap.size) a2 b2 a0 b0 c2 d2 c0 d0 [] [] bs [] _ D2 D0).mono ?_
  rintro e w7 ⟨rfl, hb⟩
  replace X4 := X4.below hb
  have D9 : Hid (DkR (p3 + 1) w7 (.slice a1 bs.length c1) (.slice b1 0 d1) [] (mkY 1 bs.length) (mkQs (1 + (bs.length : Int)) [] ([] : List Wr).length)) := D8.out.below hb
  replace B := B.trans (hb.mono B.size)
  clear hb D8 x0 x1 xf
  obtain ⟨y0, y1, yf, _⟩ := id X4
  go_wp2_with fail
  refine (heldDisk_any a1 b1 c1 d1 [] bs [] _ D9.out (by have := L0.out; omega) (by simp [uptoQ])).mono ?_
  rintro e w8 ⟨rfl, hb⟩
  rw [hk9.out]
  replace B := B.trans (hb.mono B.size)
  clear hb y0 y1 yf D9
  go_wp2
  go_ret
  exact ⟨rfl, B⟩
end Go.Proofs.Ytagkcaiodciomaa
