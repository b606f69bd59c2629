/- The law on Cmp: at every argument the program's Cmp is the specification's, and it writes into no argument. -/
import Derived.Test.YtniphhgjfdjjgaiCmpI
import Derived.Test.YtniphhgjfdjjgaiSCmpW
import Derived.Test.YtniphhgjfdjjgaiBounds
import Derived.Deep.RegionHeld3
import Derived.Deep.DeepCutAuto
namespace Go.Proofs.Ytniphhgjfdjjgai
open Go.RowKit

set_option maxRecDepth 20000 in
set_option maxHeartbeats 8000000 in
theorem lawCmp (g g' : Bool) (a a' : Option Addr) (c c' : Nat) (xs ys : List Int) (w : World) (h : Came w a c xs) (k : Came w a' c' ys) :
    Calls Try.prog 5 #[.agg #[.bool g, .slice a xs.length c], .agg #[.bool g', .slice a' ys.length c']] w fun e w' => e = .returned (.bool true) ∧ Below w.heap.size w w' := by
  have hm : xs.length ≤ 9223372036854775807 := by have := h.max; have := h.fits; unfold maxLen at *; omega
  have km : ys.length ≤ 9223372036854775807 := by have := k.max; have := k.fits; unfold maxLen at *; omega
  obtain ⟨rz, HR⟩ : ∃ rz, Hid (cmpZ (tk g xs) (tk g' ys) = rz) := ⟨_, rfl⟩
  by_cases hs : xs.length ≤ 1048576
  · by_cases hs2 : xs.length + ys.length ≤ 1048576
    · have ks : ys.length ≤ 1048576 := by omega
      go_enter Try.func5, Try.ntmps5
      go_wp2_with fail
      refine (szN g a c xs.length 1048576 _ (by omega) hm).mono ?_
      rintro e w1 ⟨rfl, hb⟩
      rw [if_neg (by omega)]
      obtain ⟨kA0, kA1⟩ := var_new w g a xs.length c 24
      obtain ⟨kB0, kB1⟩ := var_new (w.alloc (.cells #[.bool g, .slice a xs.length c] 24)) g' a' ys.length c' 24
      have hbb := below1 (w.alloc (.cells #[.bool g, .slice a xs.length c] 24)) (.cells #[.bool g', .slice a' ys.length c'] 24)
      replace kA0 := bat hbb kA0
      replace kA1 := bat hbb kA1
      have B := below2 w (.cells #[.bool g, .slice a xs.length c] 24) (.cells #[.bool g', .slice a' ys.length c'] 24)
      have hA := h.below B
      have hB := k.below B
      rw [World.size_alloc] at kB0 kB1
      clear h k hbb
      replace kA0 := bat hb kA0
      replace kA1 := bat hb kA1
      replace kB0 := bat hb kB0
      replace kB1 := bat hb kB1
      replace hA := hA.below hb
      replace hB := hB.below hb
      replace B := B.trans (hb.mono B.size)
      clear hb
      go_wp2_with fail
      refine (szN g' a' c' ys.length (1048576 - xs.length) _ (by omega) km).mono ?_
      rintro e w2 ⟨rfl, hb⟩
      rw [if_neg (by omega)]
      replace kA0 := bat hb kA0
      replace kA1 := bat hb kA1
      replace kB0 := bat hb kB0
      replace kB1 := bat hb kB1
      replace hA := hA.below hb
      replace hB := hB.below hb
      replace B := B.trans (hb.mono B.size)
      clear hb
      go_wp2_with fail
      go_region_held3 (fun w' => w'.cell? ⟨w.heap.size, 0, none⟩ = some (.bool g) ∧ w'.cell? ⟨w.heap.size, 1, none⟩ = some (.slice a xs.length c) ∧ w'.cell? ⟨w.heap.size + 1, 0, none⟩ = some (.bool g') ∧ w'.cell? ⟨w.heap.size + 1, 1, none⟩ = some (.slice a' ys.length c'))
        (first | exact ⟨kA0, kA1, kB0, kB1⟩ | exact m3 | exact m4 | exact m5 | (simp [*]))
        (first
        | (go_at_call_of 11 (Value.agg #[Value.bool g, Value.slice a xs.length c]); refine (toN g a c xs _ ?_ hs).mono ?_; exact hA.below (Below.refl _ _).drew; rintro e w3 ⟨aa, ca, rfl, ho3, hb3⟩; have n3 : Below w2.heap.size w2 w3 := (Below.refl _ _).drew.trans hb3; have m3 : w3.cell? ⟨w.heap.size, 0, none⟩ = some (.bool g) ∧ w3.cell? ⟨w.heap.size, 1, none⟩ = some (.slice a xs.length c) ∧ w3.cell? ⟨w.heap.size + 1, 0, none⟩ = some (.bool g') ∧ w3.cell? ⟨w.heap.size + 1, 1, none⟩ = some (.slice a' ys.length c') := ⟨bat n3 kA0, bat n3 kA1, bat n3 kB0, bat n3 kB1⟩; have hs3 := ho3.toSees; clear hb3 ho3)
        | (go_at_call_of 11 (Value.agg #[Value.bool g', Value.slice a' ys.length c']); refine (toN g' a' c' ys _ ?_ ks).mono ?_; exact hB.below n3; rintro e w4 ⟨ab, cb, rfl, ho4, hb4⟩; have n4 : Below w2.heap.size w2 w4 := n3.trans (hb4.mono n3.size); have m4 : w4.cell? ⟨w.heap.size, 0, none⟩ = some (.bool g) ∧ w4.cell? ⟨w.heap.size, 1, none⟩ = some (.slice a xs.length c) ∧ w4.cell? ⟨w.heap.size + 1, 0, none⟩ = some (.bool g') ∧ w4.cell? ⟨w.heap.size + 1, 1, none⟩ = some (.slice a' ys.length c') := ⟨bat n4 kA0, bat n4 kA1, bat n4 kB0, bat n4 kB1⟩; have hs5 := hs3.below hb4; have hs4 := ho4.toSees; clear hb4 ho4 hs3)
        | (go_at_call 18; refine (specCmp g g' aa ab ca cb xs ys _ hs5 hs4).mono ?_; rintro e w5 ⟨rfl, hb5⟩; have hb : Below w2.heap.size w2 w5 := n4.trans (hb5.mono n4.size); have m5 : w5.cell? ⟨w.heap.size, 0, none⟩ = some (.bool g) ∧ w5.cell? ⟨w.heap.size, 1, none⟩ = some (.slice a xs.length c) ∧ w5.cell? ⟨w.heap.size + 1, 0, none⟩ = some (.bool g') ∧ w5.cell? ⟨w.heap.size + 1, 1, none⟩ = some (.slice a' ys.length c') := ⟨bat hb kA0, bat hb kA1, bat hb kB0, bat hb kB1⟩; rw [HR.out]; clear hb5 hs4 hs5))
      clear n3 n4 m3 m4 m5
      replace kA0 := bat hb kA0
      replace kA1 := bat hb kA1
      replace kB0 := bat hb kB0
      replace kB1 := bat hb kB1
      replace hA := hA.below hb
      replace hB := hB.below hb
      replace B := B.trans (hb.mono B.size)
      clear hb
      go_wp2_with fail
      refine (toN g a c xs _ hA hs).mono ?_
      rintro e w6 ⟨a6, c6, rfl, hox, hb⟩
      replace kA0 := bat hb kA0
      replace kA1 := bat hb kA1
      replace kB0 := bat hb kB0
      replace kB1 := bat hb kB1
      replace hA := hA.below hb
      replace hB := hB.below hb
      replace B := B.trans (hb.mono B.size)
      clear hb
      have l_kA := World.block_lt_of_cell? _ _ kA0
      have l_kB := World.block_lt_of_cell? _ _ kB0
      go_wp2_with fail
      clear l_kA l_kB
      obtain ⟨kX0, kX1⟩ := var_new w6 g a6 xs.length c6 26
      have hb := below1 w6 (.cells #[.bool g, .slice a6 xs.length c6] 26)
      replace kA0 := bat hb kA0
      replace kA1 := bat hb kA1
      replace kB0 := bat hb kB0
      replace kB1 := bat hb kB1
      replace hA := hA.below hb
      replace hB := hB.below hb
      replace hox := hox.below hb
      replace B := B.trans (hb.mono B.size)
      clear hb
      generalize w6.alloc (.cells #[.bool g, .slice a6 xs.length c6] 26) = W6 at *
      refine (toN g' a' c' ys _ hB ks).mono ?_
      rintro e w7 ⟨a7, c7, rfl, hoy, hb⟩
      replace kA0 := bat hb kA0
      replace kA1 := bat hb kA1
      replace kB0 := bat hb kB0
      replace kB1 := bat hb kB1
      replace kX0 := bat hb kX0
      replace kX1 := bat hb kX1
      replace hA := hA.below hb
      replace hB := hB.below hb
      replace hox := hox.below hb
      replace B := B.trans (hb.mono B.size)
      clear hb
      have l_kA := World.block_lt_of_cell? _ _ kA0
      have l_kB := World.block_lt_of_cell? _ _ kB0
      have l_kX := World.block_lt_of_cell? _ _ kX0
      go_wp2_with fail
      clear l_kA l_kB l_kX
      obtain ⟨kY0, kY1⟩ := var_new w7 g' a7 ys.length c7 26
      have hb := below1 w7 (.cells #[.bool g', .slice a7 ys.length c7] 26)
      replace kA0 := bat hb kA0
      replace kA1 := bat hb kA1
      replace kB0 := bat hb kB0
      replace kB1 := bat hb kB1
      replace kX0 := bat hb kX0
      replace kX1 := bat hb kX1
      replace hA := hA.below hb
      replace hB := hB.below hb
      replace hox := hox.below hb
      replace hoy := hoy.below hb
      replace B := B.trans (hb.mono B.size)
      clear hb
      generalize w7.alloc (.cells #[.bool g', .slice a7 ys.length c7] 26) = W7 at *
      refine (implCmp g g' a6 a7 c6 c7 xs ys _ hox.toSees hoy.toSees).mono ?_
      rintro e w8 ⟨rfl, hb⟩
      rw [HR.out]
      replace kA0 := bat hb kA0
      replace kA1 := bat hb kA1
      replace kB0 := bat hb kB0
      replace kB1 := bat hb kB1
      replace kX0 := bat hb kX0
      replace kX1 := bat hb kX1
      replace kY0 := bat hb kY0
      replace kY1 := bat hb kY1
      replace hA := hA.below hb
      replace hB := hB.below hb
      replace hox := hox.below hb
      replace hoy := hoy.below hb
      replace B := B.trans (hb.mono B.size)
      clear hb
      go_wp2_with fail
      go_region_held3 (fun w' => w'.cell? ⟨w6.heap.size, 0, none⟩ = some (.bool g) ∧ w'.cell? ⟨w6.heap.size, 1, none⟩ = some (.slice a6 xs.length c6) ∧ w'.cell? ⟨w.heap.size, 0, none⟩ = some (.bool g) ∧ w'.cell? ⟨w.heap.size, 1, none⟩ = some (.slice a xs.length c))
        (first | exact ⟨kX0, kX1, kA0, kA1⟩ | exact m1 | exact m2 | (simp [*]))
        (first
        | (go_at_call 11; refine (toN g a c xs _ ?_ hs).mono ?_; exact hA.below (Below.refl _ _).drew; rintro e w9 ⟨aq, cq, rfl, hoq, hbq⟩; have m1 : w9.cell? ⟨w6.heap.size, 0, none⟩ = some (.bool g) ∧ w9.cell? ⟨w6.heap.size, 1, none⟩ = some (.slice a6 xs.length c6) ∧ w9.cell? ⟨w.heap.size, 0, none⟩ = some (.bool g) ∧ w9.cell? ⟨w.heap.size, 1, none⟩ = some (.slice a xs.length c) := ⟨bat hbq kX0, bat hbq kX1, bat hbq kA0, bat hbq kA1⟩)
        | (go_at_call 13; refine (eqN g a6 aq c6 cq xs _ ?_ hoq.toSees).mono ?_; exact hox.toSees.below ((Below.refl _ _).drew.trans hbq); rintro e w10 ⟨rfl, hbr⟩; have m2 : w10.cell? ⟨w6.heap.size, 0, none⟩ = some (.bool g) ∧ w10.cell? ⟨w6.heap.size, 1, none⟩ = some (.slice a6 xs.length c6) ∧ w10.cell? ⟨w.heap.size, 0, none⟩ = some (.bool g) ∧ w10.cell? ⟨w.heap.size, 1, none⟩ = some (.slice a xs.length c) := ⟨bat hbr m1.1, bat hbr m1.2.1, bat hbr m1.2.2.1, bat hbr m1.2.2.2⟩))
      have hb := (Below.refl _ _).drew.trans (hbq.trans (hbr.mono hbq.size))
      clear hbq hbr hoq m1 m2
      replace kA0 := bat hb kA0
      replace kA1 := bat hb kA1
      replace kB0 := bat hb kB0
      replace kB1 := bat hb kB1
      replace kX0 := bat hb kX0
      replace kX1 := bat hb kX1
      replace kY0 := bat hb kY0
      replace kY1 := bat hb kY1
      replace hA := hA.below hb
      replace hB := hB.below hb
      replace hox := hox.below hb
      replace hoy := hoy.below hb
      replace B := B.trans (hb.mono B.size)
      clear hb
      go_wp2_with fail
      go_region_held3 (fun w' => w'.cell? ⟨w7.heap.size, 0, none⟩ = some (.bool g') ∧ w'.cell? ⟨w7.heap.size, 1, none⟩ = some (.slice a7 ys.length c7) ∧ w'.cell? ⟨w.heap.size + 1, 0, none⟩ = some (.bool g') ∧ w'.cell? ⟨w.heap.size + 1, 1, none⟩ = some (.slice a' ys.length c'))
        (first | exact ⟨kY0, kY1, kB0, kB1⟩ | exact m1 | exact m2 | (simp [*]))
        (first
        | (go_at_call 11; refine (toN g' a' c' ys _ ?_ ks).mono ?_; exact hB.below (Below.refl _ _).drew; rintro e w11 ⟨aq, cq, rfl, hoq, hbq⟩; have m1 : w11.cell? ⟨w7.heap.size, 0, none⟩ = some (.bool g') ∧ w11.cell? ⟨w7.heap.size, 1, none⟩ = some (.slice a7 ys.length c7) ∧ w11.cell? ⟨w.heap.size + 1, 0, none⟩ = some (.bool g') ∧ w11.cell? ⟨w.heap.size + 1, 1, none⟩ = some (.slice a' ys.length c') := ⟨bat hbq kY0, bat hbq kY1, bat hbq kB0, bat hbq kB1⟩)
        | (go_at_call 13; refine (eqN g' a7 aq c7 cq ys _ ?_ hoq.toSees).mono ?_; exact hoy.toSees.below ((Below.refl _ _).drew.trans hbq); rintro e w12 ⟨rfl, hbr⟩; have m2 : w12.cell? ⟨w7.heap.size, 0, none⟩ = some (.bool g') ∧ w12.cell? ⟨w7.heap.size, 1, none⟩ = some (.slice a7 ys.length c7) ∧ w12.cell? ⟨w.heap.size + 1, 0, none⟩ = some (.bool g') ∧ w12.cell? ⟨w.heap.size + 1, 1, none⟩ = some (.slice a' ys.length c') := ⟨bat hbr m1.1, bat hbr m1.2.1, bat hbr m1.2.2.1, bat hbr m1.2.2.2⟩))
      have hb := (Below.refl _ _).drew.trans (hbq.trans (hbr.mono hbq.size))
      clear hbq hbr hoq m1 m2
      replace kA0 := bat hb kA0
      replace kA1 := bat hb kA1
      replace kB0 := bat hb kB0
      replace kB1 := bat hb kB1
      replace kX0 := bat hb kX0
      replace kX1 := bat hb kX1
      replace kY0 := bat hb kY0
      replace kY1 := bat hb kY1
      replace hA := hA.below hb
      replace hB := hB.below hb
      replace hox := hox.below hb
      replace hoy := hoy.below hb
      replace B := B.trans (hb.mono B.size)
      clear hb
      go_wp2
      go_ret
      exact ⟨rfl, B⟩
    · go_enter Try.func5, Try.ntmps5
      go_wp2_with fail
      refine (szN g a c xs.length 1048576 _ (by omega) hm).mono ?_
      rintro e w1 ⟨rfl, hb⟩
      rw [if_neg (by omega)]
      obtain ⟨kB0, kB1⟩ := var_new (w.alloc (.cells #[.bool g, .slice a xs.length c] 24)) g' a' ys.length c' 24
      rw [World.size_alloc] at kB0 kB1
      replace kB0 := bat hb kB0
      replace kB1 := bat hb kB1
      have B := (below2 w _ _).trans (hb.mono (by simp; omega))
      clear hb h k
      go_wp2_with fail
      refine (szN g' a' c' ys.length (1048576 - xs.length) _ (by omega) km).mono ?_
      rintro e w2 ⟨rfl, hb⟩
      rw [if_pos (by omega)]
      go_wp2
      go_ret
      exact ⟨rfl, B.trans (hb.mono B.size)⟩
  · go_enter Try.func5, Try.ntmps5
    go_wp2_with fail
    refine (szN g a c xs.length 1048576 _ (by omega) hm).mono ?_
    rintro e w1 ⟨rfl, hb1⟩
    rw [if_pos (by omega)]
    go_wp2
    go_ret
    exact ⟨rfl, (below2 _ _ _).trans (hb1.mono (by simp; omega))⟩
end Go.Proofs.Ytniphhgjfdjjgai
