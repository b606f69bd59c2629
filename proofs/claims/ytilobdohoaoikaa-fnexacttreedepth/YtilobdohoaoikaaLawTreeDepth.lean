/- The law on TreeDepth: at every argument the program's TreeDepth is the specification's; it writes into no argument. -/
import Derived.Test.YtilobdohoaoikaaTsE
import Derived.Test.YtilobdohoaoikaaTrR
import Derived.Test.YtilobdohoaoikaaTrE
import Derived.Test.YtilobdohoaoikaaTrU
namespace Go.Proofs.Ytilobdohoaoikaa
open Go.RowKit

set_option maxRecDepth 100000 in
set_option maxHeartbeats 8000000 in
theorem lawTreeDepth (t : Nd) (v1 v2 v3 : Value) (w : World) (h : NdIn 0 w t v1 v2 v3) :
    Calls Try.prog 5 #[ndV t v1 v2 v3] w fun e w' => e = .returned (.bool true) ∧ Below w.heap.size w w' := by
  have SZ := fun W (hb : Below w.heap.size w W) => szNode_any t v1 v2 v3 1048576 W (NdIn.keep hb _ h) (by omega) (by omega)
  have TO := fun W (hb : Below w.heap.size w W) (hl : ndSz t ≤ 1048576) => toNode_any t v1 v2 v3 W (NdIn.keep hb _ h) hl
  have SP := fun W (u1 u2 u3 : Value) (k : NdIn 0 W t u1 u2 u3) (hl : ndSz t ≤ 1048576) => specTreeDepth t u1 u2 u3 W k hl
  have IM := fun W (u1 u2 u3 : Value) (k : NdUp W 0 t u1 u2 u3) (hl : ndSz t ≤ 1048576) => implTreeDepth t u1 u2 u3 W k hl
  have EQ := @eqNode_any t
  obtain ⟨a1, c1, a2, c2, a3, c3, rfl, rfl, rfl, _⟩ := h.open
  obtain ⟨z, HZ⟩ : ∃ z, Hid (dpV t = z) := ⟨_, rfl⟩
  have hzz : (z != z) = false := by simp
  rw [HZ.out] at SP IM
  unfold EqC at EQ
  unfold ndV at *
  obtain ⟨⟨x1, x2, x3, x4⟩, ux⟩ : ∃ x, Hid (t.b = x) := ⟨_, rfl⟩
  rw [ux.out] at SZ TO SP IM EQ ⊢
  dsimp only at SZ TO SP IM EQ ⊢
  have hh : Hid (NdIn 0 w t (.slice a1 t.bs.length c1) (.slice a2 t.is.length c2) (.slice a3 t.ks.length c3)) := h
  clear h
  generalize hm1 : t.bs.length = m1 at *
  generalize hm2 : t.is.length = m2 at *
  generalize hm3 : t.ks.length = m3 at *
  have HM : Hid (t.bs.length = m1 ∧ t.is.length = m2 ∧ t.ks.length = m3) := ⟨hm1, hm2, hm3⟩
  clear hm1 hm2 hm3
  have B0 := below1 w (.cells #[.int .i64 x1, .int .i64 x2, .int .i64 x3, .int .i64 x4, .slice a1 m1 c1, .slice a2 m2 c2, .slice a3 m3 c3] 30)
  have V := Sev.new w x1 x2 x3 x4 (.slice a1 m1 c1) (.slice a2 m2 c2) (.slice a3 m3 c3) 30
  go_enter Try.func5, Try.ntmps5
  obtain ⟨⟨k0, k1, k2, k3⟩, k4, k5, k6⟩ := id V
  simp only [Nat.zero_add] at k0 k1 k2 k3 k4 k5 k6
  go_wp2_with fail
  generalize w.alloc (.cells #[.int .i64 x1, .int .i64 x2, .int .i64 x3, .int .i64 x4, .slice a1 m1 c1, .slice a2 m2 c2, .slice a3 m3 c3] 30) = W0 at *
  refine (SZ _ B0).mono ?_
  rintro e w1 ⟨z1, rfl, hz1, hb⟩
  replace B0 := B0.trans (hb.mono B0.size)
  replace V := V.below hb
  clear hb k0 k1 k2 k3 k4 k5 k6
  rcases hz1 with rfl | ⟨z10, hz1⟩
  · go_wp2
    go_ret
    exact ⟨rfl, B0⟩
  have HL : Hid (ndSz t ≤ 1048576) := by show ndSz t ≤ 1048576; omega
  have hnz : ¬ z1 < 0 := by omega
  clear hz1 z10
  obtain ⟨⟨k0, k1, k2, k3⟩, k4, k5, k6⟩ := id V
  simp only [Nat.zero_add] at k0 k1 k2 k3 k4 k5 k6
  go_wp2_with fail
  refine (TO _ B0 HL.out).mono ?_
  rintro e w2 ⟨u1, u2, u3, rfl, UP, hb⟩
  have UI := NdIn.lower (Nat.zero_le _) _ UP.toIn
  obtain ⟨b1, d1, b2, d2, b3, d3, rfl, rfl, rfl, _⟩ := UP.open
  rw [HM.out.1, HM.out.2.1, HM.out.2.2] at UP UI ⊢
  replace B0 := B0.trans (hb.mono B0.size)
  replace V := V.below hb
  clear hb k0 k1 k2 k3 k4 k5 k6
  go_wp2_with fail
  refine (SP _ _ _ _ UI HL.out).mono ?_
  rintro e w3 ⟨rfl, hb⟩
  replace B0 := B0.trans (hb.mono B0.size)
  replace V := V.below hb
  clear hb UP UI
  obtain ⟨⟨k0, k1, k2, k3⟩, k4, k5, k6⟩ := id V
  simp only [Nat.zero_add] at k0 k1 k2 k3 k4 k5 k6
  go_wp2_with fail
  refine (TO _ B0 HL.out).mono ?_
  rintro e w4 ⟨u1, u2, u3, rfl, UP, hb⟩
  obtain ⟨b1, d1, b2, d2, b3, d3, rfl, rfl, rfl, _⟩ := UP.open
  rw [HM.out.1, HM.out.2.1, HM.out.2.2] at UP ⊢
  have bn := below1 w4 (.cells #[.int .i64 x1, .int .i64 x2, .int .i64 x3, .int .i64 x4, .slice b1 m1 d1, .slice b2 m2 d2, .slice b3 m3 d3] 39)
  have X := Sev.new w4 x1 x2 x3 x4 (.slice b1 m1 d1) (.slice b2 m2 d2) (.slice b3 m3 d3) 39
  have UP2 := NdUp.lower (Nat.zero_le _) _ (NdUp.keep bn _ UP)
  replace bn := hb.trans (bn.mono hb.size)
  replace B0 := B0.trans (bn.mono B0.size)
  replace V := V.below bn
  clear hb bn k0 k1 k2 k3 k4 k5 k6 UP
  obtain ⟨⟨i0, i1, i2, i3⟩, i4, i5, i6⟩ := id X
  simp only [Nat.zero_add] at i0 i1 i2 i3 i4 i5 i6
  go_wp2_with fail
  generalize w4.alloc (.cells #[.int .i64 x1, .int .i64 x2, .int .i64 x3, .int .i64 x4, .slice b1 m1 d1, .slice b2 m2 d2, .slice b3 m3 d3] 39) = W5 at *
  generalize w4.heap.size = q5 at *
  refine (IM _ _ _ _ UP2 HL.out).mono ?_
  rintro e x7 ⟨rfl, hb⟩
  have XI : Hid (NdIn 0 x7 t (.slice b1 m1 d1) (.slice b2 m2 d2) (.slice b3 m3 d3)) := UP2.toIn.keep hb
  replace B0 := B0.trans (hb.mono B0.size)
  replace V := V.below hb
  replace X := X.below hb
  clear hb i0 i1 i2 i3 i4 i5 i6 UP2 SZ SP IM
  obtain ⟨⟨k0, k1, k2, k3⟩, k4, k5, k6⟩ := id V
  simp only [Nat.zero_add] at k0 k1 k2 k3 k4 k5 k6
  obtain ⟨⟨i0, i1, i2, i3⟩, i4, i5, i6⟩ := id X
  simp only [Nat.zero_add] at i0 i1 i2 i3 i4 i5 i6
  go_wp2_with fail
  have N : Below x7.heap.size x7 x7.drew := (Below.refl _ _).drew
  refine wp_region_held_drew (S := fun w' => Below x7.heap.size x7 w') (by kernel_rfl) N (fun hHeld => ?_)
  clear hHeld
  generalize x7.drew = ww0 at *
  refine takeW (i := 0) (by simp only [List.getElem?_toArray, List.getElem?_cons_zero]; exact rfl) (by kernel_rfl) (by kernel_rfl) (by kernel_rfl) (by exact fun _ _ _ h => h) (by rfl) (by intro wq hSw; have y0 := bat hSw i0; have y1 := bat hSw i1; have y2 := bat hSw i2; have y3 := bat hSw i3; have y4 := bat hSw i4; have y5 := bat hSw i5; have y6 := bat hSw i6; go_simp <;> with_reducible rfl) (by assumption) ?_
  try simp only [Act.put, List.setIfInBounds_toArray, List.set_cons_zero, List.set_cons_succ]
  refine takeW (i := 1) (by simp only [List.getElem?_toArray, List.getElem?_cons_succ, List.getElem?_cons_zero]; exact rfl) (by kernel_rfl) (by kernel_rfl) (by kernel_rfl) (by exact fun _ _ _ h => h) (by rfl) (by intro wq hSw; have y0 := bat hSw k0; have y1 := bat hSw k1; have y2 := bat hSw k2; have y3 := bat hSw k3; have y4 := bat hSw k4; have y5 := bat hSw k5; have y6 := bat hSw k6; go_simp <;> with_reducible rfl) (by assumption) ?_
  try simp only [Act.put, List.setIfInBounds_toArray, List.set_cons_zero, List.set_cons_succ]
  refine wpAnyH_ready (rs := [2]) (by kernel_rfl) (by simp) (AllReadyH.cons (by simp only [List.getElem?_toArray, List.getElem?_cons_succ, List.getElem?_cons_zero]; exact rfl) (fun K hK => ?_) AllReadyH.nil)
  go_simp
  refine (TO _ (B0.trans (N.mono B0.size)) HL.out).mono ?_
  rintro e x5 ⟨p1, p2, p3, rfl, UP, hb⟩
  obtain ⟨e1, f1, e2, f2, e3, f3, rfl, rfl, rfl, _⟩ := UP.open
  replace N := N.trans (hb.mono N.size)
  refine hK.out _ _ N (fun hHeld => ?_)
  clear hK K hHeld
  try simp only [Act.put, List.setIfInBounds_toArray, List.set_cons_zero, List.set_cons_succ]
  have IN2 := NdIn.lower (Nat.zero_le _) _ UP.toIn
  clear hb
  refine wpAnyH_ready (rs := [3]) (by kernel_rfl) (by simp) (AllReadyH.cons (by simp only [List.getElem?_toArray, List.getElem?_cons_succ, List.getElem?_cons_zero]; exact rfl) (fun K hK => ?_) AllReadyH.nil)
  go_simp
  refine (EQ _ _ _ _ _ _ _ (NdIn.keep N _ XI.out) IN2).mono ?_
  rintro e x6 ⟨rfl, hb⟩
  replace N := N.trans (hb.mono N.size)
  refine hK.out _ _ N (fun hHeld => ?_)
  clear hK K hHeld
  try simp only [Act.put, List.setIfInBounds_toArray, List.set_cons_zero, List.set_cons_succ]
  clear hb
  refine takeW (i := 4) (by simp only [List.getElem?_toArray, List.getElem?_cons_succ, List.getElem?_cons_zero]; exact rfl) (by kernel_rfl) (by kernel_rfl) (by kernel_rfl) (by exact fun _ _ _ h => h) (by rfl) (by intro wq hSw; go_simp <;> with_reducible rfl) (by assumption) ?_
  try simp only [Act.put, List.setIfInBounds_toArray, List.set_cons_zero, List.set_cons_succ]
  refine wpAnyH_done (by kernel_rfl) ?_ _
  go_wp2
  go_ret
  exact ⟨rfl, B0.trans (N.mono B0.size)⟩
end Go.Proofs.Ytilobdohoaoikaa
