/- The law on IndexOf: at every argument the program's IndexOf is the specification's; it writes into no argument and keeps nothing of one; its answer owns its memory. -/
import Derived.Test.YtinlomcaagdbiaaGreatIxI
import Derived.Test.YtinlomcaagdbiaaGreatTbU
import Derived.Test.YtinlomcaagdbiaaGreatTbJ
import Derived.Test.YtinlomcaagdbiaaGreatTbK
import Derived.Test.YtinlomcaagdbiaaGreatTbW
import Derived.Test.YtinlomcaagdbiaaGreatMkE
namespace Go.Proofs.YtinlomcaagdbiaaGreat
open Go.RowKit

theorem Bx7.chg {w w' : World} {F : Nat → Prop} {p : Nat} {u0 u1 u2 u3 u4 u5 u6 : Value} (h : Bx7 w p u0 u1 u2 u3 u4 u5 u6) (C : Chg F w w') (nf : ¬ F p) : Bx7 w' p u0 u1 u2 u3 u4 u5 u6 :=
 ⟨C.at nf h.c0, C.at nf h.c1, C.at nf h.c2, C.at nf h.c3, C.at nf h.c4, C.at nf h.c5, C.at nf h.c6, fun o => C.fr p o h.lt (h.fr o)⟩
theorem NdP.chgF {P F : Nat → Prop} {w w' : World} {t : Nd} {v1 v2 v3 : Value} (h : NdP P w t v1 v2 v3) (C : Chg F w w') (hd : ∀ q, P q → ¬ F q) : NdP P w' t v1 v2 v3 :=
 NdP.chg (H := F) (fun _ _ _ nf e => C.at nf e) hd _ h
theorem NdFp.more {w w' : World} {F : Nat → Prop} {t : Nd} {v1 v2 v3 : Value} (h : NdFp w F t v1 v2 v3) (hb : Below w.heap.size w w') : NdFp w' F t v1 v2 v3 :=
 NdFp.chg (H := fun _ => False) (Chg.of hb) _ (fun _ _ f => f) h
theorem putsChg {lo hi : Nat} {w w' : World} (P : Puts lo hi w w') : Chg (fun q => lo ≤ q ∧ q < hi) w w' :=
 P (fun W => Chg (fun q => lo ≤ q ∧ q < hi) w W) (fun _ b o u h1 h2 q => q.put (p := b) (k := o) ⟨h1, h2⟩ u) (Chg.refl _ _)

set_option maxRecDepth 100000 in
set_option maxHeartbeats 8000000 in
theorem lawIndexOf (a : Option Addr) (c : Nat) (es : List En) (w : World) (h : SeesEn w a c es) :
  Calls Tryz.prog 3 #[.slice a es.length c] w fun e w' => e = .returned (.bool true) ∧ Below w.heap.size w w' := by
 have SP := fun a c W h => specIndexOf a c es W h
 have IM := fun a c W h => implIndexOf a c es W h
 generalize ixV es = t at *
 have EQ := @eqNode_any t
 unfold EqC at EQ
 obtain ⟨⟨x1, x2, x3, x4⟩, tb, ti, tk⟩ := t
 have MK := fun F v1 v2 v3 W => markNode_F F (.mk (x1, x2, x3, x4) tb ti tk) v1 v2 v3 W
 have HE := fun v1 v2 v3 W => heldNode_F (.mk (x1, x2, x3, x4) tb ti tk) (x1, x2, x3, x4) (x1, x2, x3, x4) v1 v2 v3 W
 obtain ⟨mm, hmm⟩ : ∃ m : Nat, ndC (.mk (x1, x2, x3, x4) tb ti tk) = m := ⟨_, rfl⟩
 rw [hmm] at MK HE
 clear hmm
 have hmm0 : ¬ (1 + (mm : Int)) < 0 := by omega
 unfold ndV at SP IM EQ MK
 dsimp only [Nd.b] at SP IM EQ MK HE
 go_enter Tryz.func3, Tryz.ntmps3
 go_wp2_with fail
 refine (szEntries a c es 1048576 _ h (by omega)).mono ?_
 rintro e w0 ⟨z1, rfl, hz1, B⟩
 rcases hz1 with rfl | ⟨z10, hz1⟩
 ·go_wp2
  go_ret
  exact ⟨rfl, B⟩
 have L1 : Hid (uptoE es es.length ≤ 1048576) := by show _ ≤ _; omega
 have L3 : Hid (es.length ≤ maxLen) := by show _ ≤ _; have := uptoE_le es 0 es.length; simp only [uptoE, Nat.zero_add] at this; unfold maxLen; omega
 have hnz : ¬ z1 < 0 := by omega
 clear hz1 z10
 go_wp2_with fail
 refine (toEntries a c es _ (h.below B) L1.out).mono ?_
 rintro e w2 ⟨rfl, ⟨gb2, tp2, o2⟩, hb⟩
 have s2 := o2.sees L3.out
 replace B := B.trans (hb.mono B.size)
 clear hb
 clear o2
 go_wp2_with fail
 refine (SP _ _ _ s2).mono ?_
 rintro e w3 ⟨s1, s2', s3, rfl, NS, hb⟩
 replace B := B.trans (hb.mono B.size)
 clear hb
 clear s2
 obtain ⟨zz1, e1, z2, e2, z3, e3, rfl, rfl, rfl, _⟩ := (NdP.toIn _ NS).open
 dsimp only [Nd.bs, Nd.is, Nd.ks] at NS ⊢
 go_upto_region 6 with fail
 have hb := below1 w3 (.cells #[.int .i64 x1, .int .i64 x2, .int .i64 x3, .int .i64 x4, .slice zz1 tb.length e1, .slice z2 ti.length e2, .slice z3 tk.length e3] 32)
 have V6 := Bx7.new w3 (.int .i64 x1) (.int .i64 x2) (.int .i64 x3) (.int .i64 x4) (.slice zz1 tb.length e1) (.slice z2 ti.length e2) (.slice z3 tk.length e3) 32
 replace NS := NS.lt
 have hw6 := B.size
 replace NS := NS.keep hb
 replace B := B.trans (hb.mono B.size)
 clear hb
 generalize hW : w3.alloc (.cells #[.int .i64 x1, .int .i64 x2, .int .i64 x3, .int .i64 x4, .slice zz1 tb.length e1, .slice z2 ti.length e2, .slice z3 tk.length e3] 32) = w4 at *
 clear hW
 generalize w3.heap.size = p6 at *
 have h6 := V6.lt
 have hw4 : w.heap.size ≤ w4.heap.size := B.size
 go_wp2_with fail
 refine (toEntries a c es _ (h.below B) L1.out).mono ?_
 rintro e w5 ⟨rfl, ⟨gb5, tp5, o5⟩, hb⟩
 have s5 := o5.sees L3.out
 have M5 : Hid (MkEn w5 w4.heap.size es gb5 tp5) := o5.marks
 have M6 : Hid (∀ i, i < es.length → tp5 i ≤ w5.heap.size) := fun i hi => (o5.o i hi).2.2
 have hgx : w4.heap.size < w5.heap.size := o5.lt
 have BX : Below w5.heap.size w5 w5 := Below.refl _ _
 have BXs : Hid (w5.heap.size ≤ w5.heap.size) := Nat.le_refl _
 replace V6 := V6.below hb
 replace NS := NS.keep hb
 replace B := B.trans (hb.mono B.size)
 clear hb
 clear o5
 generalize hg4 : w4.heap.size = g4 at *
 clear BXs
 go_wp2_with fail
 refine (IM _ _ _ s5).mono ?_
 rintro e w7 ⟨v1, v2, v3, F, rfl, NG, hF, hsz, hb⟩
 have h9 := hb.size
 replace V6 := V6.below hb
 replace NS := NS.keep hb
 replace s5 := s5.below hb
 replace BX := BX.trans (hb.mono BX.size)
 replace B := B.trans (hb.mono B.size)
 clear hb
 obtain ⟨y1, d1, y2, d2, y3, d3, rfl, rfl, rfl, _⟩ := (NdFp.toIn _ NG).open
 dsimp only [Nd.bs, Nd.is, Nd.ks] at NG ⊢
 obtain ⟨h4, uh4⟩ : ∃ n, Hid (w5.heap.size = n) := ⟨_, rfl⟩
 have hx4 : g4 < h4 := by rw [← uh4.out]; exact hgx
 replace NG := NdFp.mono (F' := fun q => h4 ≤ q ∧ q < w7.heap.size) (fun q hq => ⟨by have := hF q hq.1; have := uh4.out; omega, hq.2⟩) _ NG.lt
 clear hF
 go_upto_region 8 with fail
 have hb := below1 w7 (.cells #[.int .i64 x1, .int .i64 x2, .int .i64 x3, .int .i64 x4, .slice y1 tb.length d1, .slice y2 ti.length d2, .slice y3 tk.length d3] 32)
 have V10 := Bx7.new w7 (.int .i64 x1) (.int .i64 x2) (.int .i64 x3) (.int .i64 x4) (.slice y1 tb.length d1) (.slice y2 ti.length d2) (.slice y3 tk.length d3) 32
 have h7l : h4 ≤ w7.heap.size := by have := uh4.out; omega
 replace V6 := V6.below hb
 replace NS := NS.keep hb
 replace NG := NG.more hb
 replace s5 := s5.below hb
 replace BX := BX.trans (hb.mono BX.size)
 replace B := B.trans (hb.mono B.size)
 clear hb
 generalize hW : w7.alloc (.cells #[.int .i64 x1, .int .i64 x2, .int .i64 x3, .int .i64 x4, .slice y1 tb.length d1, .slice y2 ti.length d2, .slice y3 tk.length d3] 32) = w8 at *
 clear hW
 generalize w7.heap.size = p10 at *
 have h10 := V10.lt
 obtain ⟨q0, q1, q2, q3, q4, q5, q6, qf⟩ := id V10
 obtain ⟨r0, r1, r2, r3, r4, r5, r6, rf⟩ := id V6
 go_wp2_with fail
 clear q0 q1 q2 q3 q4 q5 q6 qf r0 r1 r2 r3 r4 r5 r6 rf
 refine (EQ _ _ _ _ _ _ _ (NdFp.toIn _ NG) (NdP.toIn _ NS)).mono ?_
 rintro e w9 ⟨rfl, hb⟩
 replace V6 := V6.below hb
 replace V10 := V10.below hb
 replace NS := NS.keep hb
 replace NG := NG.more hb
 replace s5 := s5.below hb
 replace BX := BX.trans (hb.mono BX.size)
 replace B := B.trans (hb.mono B.size)
 clear hb
 go_wp2_with fail
 refine (toEntries a c es _ (h.below B) L1.out).mono ?_
 rintro e w10 ⟨rfl, ⟨gb8, tp8, o8⟩, hb⟩
 have s8 := o8.sees L3.out
 replace V6 := V6.below hb
 replace V10 := V10.below hb
 replace NS := NS.keep hb
 replace NG := NG.more hb
 replace s5 := s5.below hb
 replace BX := BX.trans (hb.mono BX.size)
 replace B := B.trans (hb.mono B.size)
 clear hb
 clear o8
 go_wp2_with fail
 refine (eqEntries _ _ _ _ es _ s5 s8).mono ?_
 rintro e w11 ⟨rfl, hb⟩
 replace V6 := V6.below hb
 replace V10 := V10.below hb
 replace NS := NS.keep hb
 replace NG := NG.more hb
 replace BX := BX.trans (hb.mono BX.size)
 replace B := B.trans (hb.mono B.size)
 clear hb
 clear s5 s8
 go_wp2_with fail
 refine (markEntries g4 h4 es gb5 tp5 _ (M5.out.below BX) (by rw [← uh4.out]; exact M6.out) hx4 L1.out).mono ?_
 rintro e w12 ⟨kk, rfl, kk0, PU⟩
 have C1 := putsChg PU
 replace V6 := V6.chg C1 (by omega)
 replace V10 := V10.chg C1 (by omega)
 replace NS := NS.chgF C1 (fun q h => by omega)
 replace NG := NdFp.chg C1 _ (fun q h => by omega) NG
 replace B := belowPuts B PU hw4
 have hkk : ¬ kk < 0 := by omega
 clear PU C1 BX M5 M6
 obtain ⟨q0, q1, q2, q3, q4, q5, q6, qf⟩ := id V10
 obtain ⟨r0, r1, r2, r3, r4, r5, r6, rf⟩ := id V6
 go_wp2_with fail
 clear q0 q1 q2 q3 q4 q5 q6 qf r0 r1 r2 r3 r4 r5 r6 rf
 refine (EQ _ _ _ _ _ _ _ (NdFp.toIn _ NG) (NdP.toIn _ NS)).mono ?_
 rintro e w16 ⟨rfl, hb⟩
 replace V6 := V6.below hb
 replace V10 := V10.below hb
 replace NS := NS.keep hb
 replace NG := NG.more hb
 replace B := B.trans (hb.mono B.size)
 clear hb
 obtain ⟨q0, q1, q2, q3, q4, q5, q6, qf⟩ := id V10
 go_wp2_with fail
 clear q0 q1 q2 q3 q4 q5 q6 qf
 refine (MK _ _ _ _ _ NG hsz (fun h => by have := V10.lt; omega)).mono ?_
 rintro e w17 ⟨rfl, NM, C1⟩
 replace V6 := V6.chg C1 (by omega)
 replace V10 := V10.chg C1 (by omega)
 replace NS := NS.chgF C1 (fun q h => by omega)
 replace B := B.trans (C1.bel (fun q h => by omega) B.size)
 clear C1 NG
 obtain ⟨q0, q1, q2, q3, q4, q5, q6, qf⟩ := id V10
 go_wp2_with fail
 clear q0 q1 q2 q3 q4 q5 q6 qf
 refine (HE _ _ _ _ (NdFp.toIn _ NM) hsz).mono ?_
 rintro e w18 ⟨rfl, hb⟩
 replace V6 := V6.below hb
 replace V10 := V10.below hb
 replace NS := NS.keep hb
 replace NM := NM.more hb
 replace B := B.trans (hb.mono B.size)
 clear hb
 go_wp2_with fail
 refine (toEntries a c es _ (h.below B) L1.out).mono ?_
 rintro e w19 ⟨rfl, ⟨gb9, tp9, o9⟩, hb⟩
 have s9 := o9.sees L3.out
 replace V6 := V6.below hb
 replace V10 := V10.below hb
 replace NS := NS.keep hb
 replace NM := NM.more hb
 replace B := B.trans (hb.mono B.size)
 clear hb
 clear o9
 go_wp2_with fail
 refine (IM _ _ _ s9).mono ?_
 rintro e w21 ⟨v1, v2, v3, F2, rfl, NG, _, _, hb⟩
 replace V6 := V6.below hb
 replace V10 := V10.below hb
 replace NS := NS.keep hb
 replace NM := NM.more hb
 replace B := B.trans (hb.mono B.size)
 clear hb
 clear s9
 obtain ⟨o1, f1, o2, f2, o3, f3, rfl, rfl, rfl, _⟩ := (NdFp.toIn _ NG).open
 dsimp only [Nd.bs, Nd.is, Nd.ks] at NG ⊢
 go_upto_region 25 with fail
 have hb := below1 w21 (.cells #[.int .i64 x1, .int .i64 x2, .int .i64 x3, .int .i64 x4, .slice o1 tb.length f1, .slice o2 ti.length f2, .slice o3 tk.length f3] 32)
 have V15 := Bx7.new w21 (.int .i64 x1) (.int .i64 x2) (.int .i64 x3) (.int .i64 x4) (.slice o1 tb.length f1) (.slice o2 ti.length f2) (.slice o3 tk.length f3) 32
 replace V6 := V6.below hb
 replace V10 := V10.below hb
 replace NS := NS.keep hb
 replace NM := NM.more hb
 replace NG := NG.more hb
 replace B := B.trans (hb.mono B.size)
 clear hb
 generalize hW : w21.alloc (.cells #[.int .i64 x1, .int .i64 x2, .int .i64 x3, .int .i64 x4, .slice o1 tb.length f1, .slice o2 ti.length f2, .slice o3 tk.length f3] 32) = w22 at *
 clear hW
 generalize w21.heap.size = p15 at *
 obtain ⟨q0, q1, q2, q3, q4, q5, q6, qf⟩ := id V15
 obtain ⟨r0, r1, r2, r3, r4, r5, r6, rf⟩ := id V6
 go_wp2_with fail
 clear q0 q1 q2 q3 q4 q5 q6 qf r0 r1 r2 r3 r4 r5 r6 rf
 refine (EQ _ _ _ _ _ _ _ (NdFp.toIn _ NG) (NdP.toIn _ NS)).mono ?_
 rintro e w23 ⟨rfl, hb⟩
 replace V10 := V10.below hb
 replace NM := NM.more hb
 replace B := B.trans (hb.mono B.size)
 clear hb
 clear NS NG V15 V6
 obtain ⟨q0, q1, q2, q3, q4, q5, q6, qf⟩ := id V10
 go_wp2_with fail
 clear q0 q1 q2 q3 q4 q5 q6 qf
 refine (HE _ _ _ _ (NdFp.toIn _ NM) hsz).mono ?_
 rintro e w24 ⟨rfl, hb⟩
 replace B := B.trans (hb.mono B.size)
 go_wp2
 go_ret
 exact ⟨rfl, B⟩
end Go.Proofs.YtinlomcaagdbiaaGreat
