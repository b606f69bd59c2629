/- The law on TreeBuild: at every argument the program's TreeBuild is the specification's; it writes into no argument and keeps nothing of one; its answer owns its memory. -/
import Derived.Test.YthompofbdjdloaaGreatTbU
import Derived.Test.YthompofbdjdloaaGreatTbJ
import Derived.Test.YthompofbdjdloaaGreatTbK
import Derived.Test.YthompofbdjdloaaGreatBxsM
import Derived.Test.YthompofbdjdloaaGreatTrE
import Derived.Test.YthompofbdjdloaaGreatTrT
namespace Go.Proofs.YthompofbdjdloaaGreat
open Go.RowKit

theorem Bx7.chg {w w' : World} {F : Nat → Prop} {p : Nat} {u0 u1 u2 u3 u4 u5 u6 : Value} (h : Bx7 w p u0 u1 u2 u3 u4 u5 u6) (C : Chg F w w') (nf : ¬ F p) : Bx7 w' p u0 u1 u2 u3 u4 u5 u6 :=
  ⟨C.at nf h.c0, C.at nf h.c1, C.at nf h.c2, C.at nf h.c3, C.at nf h.c4, C.at nf h.c5, C.at nf h.c6, fun o => C.fr p o h.lt (h.fr o)⟩
theorem NdP.chgF {P F : Nat → Prop} {w w' : World} {t : Nd} {v1 v2 v3 : Value} (h : NdP P w t v1 v2 v3) (C : Chg F w w') (hd : ∀ q, P q → ¬ F q) : NdP P w' t v1 v2 v3 :=
  NdP.chg (H := F) (fun _ _ _ nf e => C.at nf e) hd _ h
theorem NdFp.more {w w' : World} {F : Nat → Prop} {t : Nd} {v1 v2 v3 : Value} (h : NdFp w F t v1 v2 v3) (hb : Below w.heap.size w w') : NdFp w' F t v1 v2 v3 :=
  NdFp.chg (H := fun _ => False) (Chg.of hb) _ (fun _ _ f => f) h

set_option maxRecDepth 100000 in
set_option maxHeartbeats 8000000 in
theorem lawTreeBuild (a1 a2 : Option Addr) (c1 c2 : Nat) (is : List Int) (bs : List Bx) (w : World) (h1 : SeesI w a1 c1 is) (h2 : SeesX w a2 c2 bs) :
    Calls Tryz.prog 3 #[.slice a1 is.length c1, .slice a2 bs.length c2] w fun e w' => e = .returned (.bool true) ∧ Below w.heap.size w w' := by
  have hm1 := h1.max
  have hf1 := h1.fits
  have hm2 := h2.max
  have hf2 := h2.fits
  unfold maxLen at hm1 hm2
  by_cases hs1 : is.length ≤ 1048576
  · have hs1' : ¬ (1048576 : Int) < (is.length : Int) := by omega
    by_cases hs : bs.length ≤ 1048576
    · have hM1 : is.length ≤ maxLen := by unfold maxLen; omega
      have hM : bs.length ≤ maxLen := by unfold maxLen; omega
      have SP := fun a1 a2 c1 c2 W h1 h2 => specTreeBuild a1 a2 c1 c2 is bs W h1 h2
      have IM := fun a1 a2 c1 c2 W h1 h2 => implTreeBuild a1 a2 c1 c2 is bs W h1 h2 hs1
      generalize tbV is bs = t at *
      generalize tbOk is bs = ok at *
      have EQ := @eqNode_any t
      unfold EqC at EQ
      obtain ⟨⟨x1, x2, x3, x4⟩, tb, ti, tk⟩ := t
      have MK := fun F v1 v2 v3 W => markNode_F F (.mk (x1, x2, x3, x4) tb ti tk) v1 v2 v3 W
      have HE := fun v1 v2 v3 W => heldNode_F (.mk (x1, x2, x3, x4) tb ti tk) (x1, x2, x3, x4) (x1, x2, x3, x4) v1 v2 v3 W
      obtain ⟨mm, hmm⟩ : ∃ m : Nat, ndC (.mk (x1, x2, x3, x4) tb ti tk) = m := ⟨_, rfl⟩
      rw [hmm] at MK HE
      clear hmm
      have hmm0 : ¬ (1 + (mm : Int)) < 0 := by omega
      unfold ndV at SP IM EQ MK
      dsimp only [Nd.b] at SP IM EQ MK HE
      go_enter Tryz.func3, Tryz.ntmps3
      go_wp2_with fail
      refine (szBoxs _ _ _ _ _ (by omega) (by omega)).mono ?_
      rintro e w0 ⟨rfl, rfl⟩
      rw [if_neg (by omega)]
      have hng : ¬ (1048576 : Int) - (bs.length : Int) < 0 := by omega
      go_wp2_with fail
      refine (toInts _ _ _ _ h1 hs1).mono ?_
      rintro e w1 ⟨rfl, X1, B⟩
      go_wp2_with fail
      refine (toBoxs _ _ _ _ (h2.below B) hs).mono ?_
      rintro e w2 ⟨rfl, X2, hb⟩
      replace B := B.trans (hb.mono B.size)
      replace X1 := X1.below hb
      clear hb
      go_wp2_with fail
      refine (SP _ _ _ _ _ (X1.sees rfl hM1) (X2.sees rfl hM)).mono ?_
      rintro e w3 ⟨s1, s2, s3, rfl, NS, hb⟩
      replace B := B.trans (hb.mono B.size)
      clear hb X1 X2
      obtain ⟨z1, e1, z2, e2, z3, e3, rfl, rfl, rfl, _⟩ := (NdP.toIn _ NS).open
      dsimp only [Nd.bs, Nd.is, Nd.ks] at NS ⊢
      go_wp2_with fail
      have hb := below1 w3 (.cells #[.int .i64 x1, .int .i64 x2, .int .i64 x3, .int .i64 x4, .slice z1 tb.length e1, .slice z2 ti.length e2, .slice z3 tk.length e3] 32)
      have V6 := Bx7.new w3 (.int .i64 x1) (.int .i64 x2) (.int .i64 x3) (.int .i64 x4) (.slice z1 tb.length e1) (.slice z2 ti.length e2) (.slice z3 tk.length e3) 32
      replace NS := NS.lt
      have hw6 := B.size
      replace NS := NS.keep hb
      replace B := B.trans (hb.mono B.size)
      clear hb
      generalize hW : w3.alloc (.cells #[.int .i64 x1, .int .i64 x2, .int .i64 x3, .int .i64 x4, .slice z1 tb.length e1, .slice z2 ti.length e2, .slice z3 tk.length e3] 32) = w4 at *
      clear hW
      generalize w3.heap.size = p6 at *
      have h6 := V6.lt
      refine (toInts _ _ _ _ (h1.below B) hs1).mono ?_
      rintro e w5 ⟨rfl, X3, hb⟩
      have h7 := X3.lt
      replace V6 := V6.below hb
      replace NS := NS.keep hb
      replace B := B.trans (hb.mono B.size)
      clear hb
      generalize w4.heap.size = g0 at *
      go_wp2_with fail
      refine (toBoxs _ _ _ _ (h2.below B) hs).mono ?_
      rintro e w6 ⟨rfl, X4, hb⟩
      have h8 := X4.lt
      replace V6 := V6.below hb
      replace NS := NS.keep hb
      replace X3 := X3.below hb
      replace B := B.trans (hb.mono B.size)
      clear hb
      generalize w5.heap.size = gx at *
      go_wp2_with fail
      refine (IM _ _ _ _ _ (X3.sees rfl hM1) (X4.sees rfl hM)).mono ?_
      rintro e w7 ⟨v1, v2, v3, F, rfl, NG, hF, hsz, hb⟩
      have h9 := hb.size
      replace V6 := V6.below hb
      replace NS := NS.keep hb
      replace X3 := X3.below hb
      replace X4 := X4.below hb
      replace B := B.trans (hb.mono B.size)
      clear hb
      obtain ⟨y1, d1, y2, d2, y3, d3, rfl, rfl, rfl, _⟩ := (NdFp.toIn _ NG).open
      dsimp only [Nd.bs, Nd.is, Nd.ks] at NG ⊢
      replace NG := NdFp.mono (F' := fun q => gx < q ∧ q < w7.heap.size) (fun q hq => ⟨by have := hF q hq.1; omega, hq.2⟩) _ NG.lt
      clear hF
      go_upto_region 11 with fail
      have hb := below1 w7 (.cells #[.int .i64 x1, .int .i64 x2, .int .i64 x3, .int .i64 x4, .slice y1 tb.length d1, .slice y2 ti.length d2, .slice y3 tk.length d3] 32)
      have V10 := Bx7.new w7 (.int .i64 x1) (.int .i64 x2) (.int .i64 x3) (.int .i64 x4) (.slice y1 tb.length d1) (.slice y2 ti.length d2) (.slice y3 tk.length d3) 32
      replace V6 := V6.below hb
      replace NS := NS.keep hb
      replace X3 := X3.below hb
      replace X4 := X4.below hb
      replace NG := NG.more hb
      replace B := B.trans (hb.mono B.size)
      clear hb
      generalize hW : w7.alloc (.cells #[.int .i64 x1, .int .i64 x2, .int .i64 x3, .int .i64 x4, .slice y1 tb.length d1, .slice y2 ti.length d2, .slice y3 tk.length d3] 32) = w8 at *
      clear hW
      generalize w7.heap.size = p10 at *
      have h10 := V10.lt
      obtain ⟨q0, q1, q2, q3, q4, q5, q6, qf⟩ := id V10
      obtain ⟨r0, r1, r2, r3, r4, r5, r6, rf⟩ := id V6
      go_wp2_with fail
      clear q0 q1 q2 q3 q4 q5 q6 qf r0 r1 r2 r3 r4 r5 r6 rf
      refine (EQ _ _ _ _ _ _ _ (NdFp.toIn _ NG) (NdP.toIn _ NS)).mono ?_
      rintro e w9 ⟨rfl, hb⟩
      replace V6 := V6.below hb
      replace V10 := V10.below hb
      replace NS := NS.keep hb
      replace X3 := X3.below hb
      replace X4 := X4.below hb
      replace NG := NG.more hb
      replace B := B.trans (hb.mono B.size)
      clear hb
      go_wp2_with fail
      refine (toInts _ _ _ _ (h1.below B) hs1).mono ?_
      rintro e w10 ⟨rfl, X5, hb⟩
      replace V6 := V6.below hb
      replace V10 := V10.below hb
      replace NS := NS.keep hb
      replace X3 := X3.below hb
      replace X4 := X4.below hb
      replace NG := NG.more hb
      replace B := B.trans (hb.mono B.size)
      clear hb
      go_wp2_with fail
      refine (eqInts _ _ _ _ _ _ (X3.sees rfl hM1) (X5.sees rfl hM1)).mono ?_
      rintro e w11 ⟨rfl, hb⟩
      replace V6 := V6.below hb
      replace V10 := V10.below hb
      replace NS := NS.keep hb
      replace X3 := X3.below hb
      replace X4 := X4.below hb
      replace NG := NG.more hb
      replace B := B.trans (hb.mono B.size)
      clear hb
      clear X5
      go_wp2_with fail
      refine (toBoxs _ _ _ _ (h2.below B) hs).mono ?_
      rintro e w12 ⟨rfl, X5, hb⟩
      replace V6 := V6.below hb
      replace V10 := V10.below hb
      replace NS := NS.keep hb
      replace X3 := X3.below hb
      replace X4 := X4.below hb
      replace NG := NG.more hb
      replace B := B.trans (hb.mono B.size)
      clear hb
      go_wp2_with fail
      refine (eqBoxs _ _ _ _ _ _ (X4.sees rfl hM) (X5.sees rfl hM)).mono ?_
      rintro e w13 ⟨rfl, hb⟩
      replace V6 := V6.below hb
      replace V10 := V10.below hb
      replace NS := NS.keep hb
      replace X3 := X3.below hb
      replace X4 := X4.below hb
      replace NG := NG.more hb
      replace B := B.trans (hb.mono B.size)
      clear hb
      clear X5
      go_wp2_with fail
      refine (markIntF _ _ g0 (fun q => q = g0) is 1 _ (X3.sees rfl hM1) ⟨fun _ => rfl, fun _ => rfl, fun _ => X3.lt, fun _ => X3.fr⟩ (by omega) (by omega)).mono ?_
      rintro e w14 ⟨rfl, _, C⟩
      have C1 : Chg (fun q => q = g0) w13 w14 := C.mono (fun q h => h.2)
      replace V6 := V6.chg C1 (by omega)
      replace V10 := V10.chg C1 (by omega)
      replace NS := NS.chgF C1 (fun q h => by omega)
      replace NG := NdFp.chg C1 _ (fun q h => by omega) NG
      have X4s := (X4.sees rfl hM).chg C1 (fun _ => rfl) (fun _ => by omega)
      have X4i : In1 w14 (fun q => q = gx) bs.length (some ⟨gx, 0, none⟩) gx := ⟨fun _ => rfl, fun _ => rfl, fun _ => Nat.lt_of_lt_of_le X4.lt C1.size, fun _ o => C1.fr gx o X4.lt (X4.fr o)⟩
      replace B := B.trans (C1.bel (fun q h => by omega) B.size)
      clear C C1 X3 X4
      go_wp2_with fail
      refine (markBoxF _ _ gx (fun q => q = gx) bs _ _ X4s X4i (by omega) (by omega)).mono ?_
      rintro e w15 ⟨rfl, _, C⟩
      have C1 : Chg (fun q => q = gx) w14 w15 := C.mono (fun q h => h.2)
      replace V6 := V6.chg C1 (by omega)
      replace V10 := V10.chg C1 (by omega)
      replace NS := NS.chgF C1 (fun q h => by omega)
      replace NG := NdFp.chg C1 _ (fun q h => by omega) NG
      replace B := B.trans (C1.bel (fun q h => by omega) B.size)
      clear C C1 X4s X4i
      have hk0 : ¬ (1 + (is.length : Int) + 4 * (bs.length : Int)) < 0 := by omega
      obtain ⟨q0, q1, q2, q3, q4, q5, q6, qf⟩ := id V10
      obtain ⟨r0, r1, r2, r3, r4, r5, r6, rf⟩ := id V6
      go_wp2_with fail
      clear q0 q1 q2 q3 q4 q5 q6 qf r0 r1 r2 r3 r4 r5 r6 rf
      refine (EQ _ _ _ _ _ _ _ (NdFp.toIn _ NG) (NdP.toIn _ NS)).mono ?_
      rintro e w16 ⟨rfl, hb⟩
      replace V6 := V6.below hb
      replace V10 := V10.below hb
      replace NS := NS.keep hb
      replace NG := NG.more hb
      replace B := B.trans (hb.mono B.size)
      clear hb
      obtain ⟨q0, q1, q2, q3, q4, q5, q6, qf⟩ := id V10
      go_wp2_with fail
      clear q0 q1 q2 q3 q4 q5 q6 qf
      refine (MK _ _ _ _ _ NG hsz (fun h => by have := V10.lt; omega)).mono ?_
      rintro e w17 ⟨rfl, NM, C1⟩
      replace V6 := V6.chg C1 (by omega)
      replace V10 := V10.chg C1 (by omega)
      replace NS := NS.chgF C1 (fun q h => by omega)
      replace B := B.trans (C1.bel (fun q h => by omega) B.size)
      clear C1 NG
      obtain ⟨q0, q1, q2, q3, q4, q5, q6, qf⟩ := id V10
      go_wp2_with fail
      clear q0 q1 q2 q3 q4 q5 q6 qf
      refine (HE _ _ _ _ (NdFp.toIn _ NM) hsz).mono ?_
      rintro e w18 ⟨rfl, hb⟩
      replace V6 := V6.below hb
      replace V10 := V10.below hb
      replace NS := NS.keep hb
      replace NM := NM.more hb
      replace B := B.trans (hb.mono B.size)
      clear hb
      go_wp2_with fail
      refine (toInts _ _ _ _ (h1.below B) hs1).mono ?_
      rintro e w19 ⟨rfl, X3, hb⟩
      replace V6 := V6.below hb
      replace V10 := V10.below hb
      replace NS := NS.keep hb
      replace NM := NM.more hb
      replace B := B.trans (hb.mono B.size)
      clear hb
      go_wp2_with fail
      refine (toBoxs _ _ _ _ (h2.below B) hs).mono ?_
      rintro e w20 ⟨rfl, X4, hb⟩
      replace V6 := V6.below hb
      replace V10 := V10.below hb
      replace NS := NS.keep hb
      replace NM := NM.more hb
      replace X3 := X3.below hb
      replace B := B.trans (hb.mono B.size)
      clear hb
      go_wp2_with fail
      refine (IM _ _ _ _ _ (X3.sees rfl hM1) (X4.sees rfl hM)).mono ?_
      rintro e w21 ⟨v1, v2, v3, F2, rfl, NG, _, _, hb⟩
      replace V6 := V6.below hb
      replace V10 := V10.below hb
      replace NS := NS.keep hb
      replace NM := NM.more hb
      replace B := B.trans (hb.mono B.size)
      clear hb
      clear X3 X4
      obtain ⟨o1, f1, o2, f2, o3, f3, rfl, rfl, rfl, _⟩ := (NdFp.toIn _ NG).open
      dsimp only [Nd.bs, Nd.is, Nd.ks] at NG ⊢
      go_upto_region 31 with fail
      have hb := below1 w21 (.cells #[.int .i64 x1, .int .i64 x2, .int .i64 x3, .int .i64 x4, .slice o1 tb.length f1, .slice o2 ti.length f2, .slice o3 tk.length f3] 32)
      have V15 := Bx7.new w21 (.int .i64 x1) (.int .i64 x2) (.int .i64 x3) (.int .i64 x4) (.slice o1 tb.length f1) (.slice o2 ti.length f2) (.slice o3 tk.length f3) 32
      replace V6 := V6.below hb
      replace V10 := V10.below hb
      replace NS := NS.keep hb
      replace NM := NM.more hb
      replace NG := NG.more hb
      replace B := B.trans (hb.mono B.size)
      clear hb
      generalize hW : w21.alloc (.cells #[.int .i64 x1, .int .i64 x2, .int .i64 x3, .int .i64 x4, .slice o1 tb.length f1, .slice o2 ti.length f2, .slice o3 tk.length f3] 32) = w22 at *
      clear hW
      generalize w21.heap.size = p15 at *
      obtain ⟨q0, q1, q2, q3, q4, q5, q6, qf⟩ := id V15
      obtain ⟨r0, r1, r2, r3, r4, r5, r6, rf⟩ := id V6
      go_wp2_with fail
      clear q0 q1 q2 q3 q4 q5 q6 qf r0 r1 r2 r3 r4 r5 r6 rf
      refine (EQ _ _ _ _ _ _ _ (NdFp.toIn _ NG) (NdP.toIn _ NS)).mono ?_
      rintro e w23 ⟨rfl, hb⟩
      replace V10 := V10.below hb
      replace NM := NM.more hb
      replace B := B.trans (hb.mono B.size)
      clear hb
      clear NS NG V15 V6
      obtain ⟨q0, q1, q2, q3, q4, q5, q6, qf⟩ := id V10
      go_wp2_with fail
      clear q0 q1 q2 q3 q4 q5 q6 qf
      refine (HE _ _ _ _ (NdFp.toIn _ NM) hsz).mono ?_
      rintro e w24 ⟨rfl, hb⟩
      replace B := B.trans (hb.mono B.size)
      go_wp2
      go_ret
      exact ⟨rfl, B⟩
    · go_enter Tryz.func3, Tryz.ntmps3
      go_wp2_with fail
      refine (szBoxs _ _ _ _ _ (by omega) (by omega)).mono ?_
      rintro e w0 ⟨rfl, rfl⟩
      rw [if_pos (by omega)]
      go_wp2
      go_ret
      exact ⟨rfl, Below.refl _ _⟩
  · have hs1' : (1048576 : Int) < (is.length : Int) := by omega
    go_enter Tryz.func3, Tryz.ntmps3
    go_wp2
    go_ret
    exact ⟨rfl, Below.refl _ _⟩
end Go.Proofs.YthompofbdjdloaaGreat
