/- The law on TreeIds: at every argument the program's TreeIds is the specification's; it writes into no argument. -/
import Derived.Test.YtilobdohoaoikaaTsD
import Derived.Test.YtilobdohoaoikaaTrR
import Derived.Test.YtilobdohoaoikaaTrE
import Derived.Test.YtilobdohoaoikaaTsH
import Derived.Test.YtilobdohoaoikaaTrU
namespace Go.Proofs.Ytilobdohoaoikaa
open Go.RowKit

set_option maxRecDepth 100000 in
set_option maxHeartbeats 8000000 in
theorem lawTreeIds (t : Nd) (v1 v2 v3 : Value) (w : World) (h : NdIn 0 w t v1 v2 v3) :
    Calls Try.prog 4 #[ndV t v1 v2 v3] w fun e w' => e = .returned (.bool true) ∧ Below w.heap.size w w' := by
  have SZ := fun W (hb : Below w.heap.size w W) => szNode_any t v1 v2 v3 1048576 W (NdIn.keep hb _ h) (by omega) (by omega)
  have TO := fun W (hb : Below w.heap.size w W) (hl : ndSz t ≤ 1048576) => toNode_any t v1 v2 v3 W (NdIn.keep hb _ h) hl
  have SP := fun W (u1 u2 u3 : Value) (k : NdIn 0 W t u1 u2 u3) (hl : ndSz t ≤ 1048576) => specTreeIds t u1 u2 u3 W k hl
  have IM := fun W (u1 u2 u3 : Value) (k : NdUp W 0 t u1 u2 u3) (hl : ndSz t ≤ 1048576) => implTreeIds t u1 u2 u3 W k hl
  have EQ := @eqNode_any t
  obtain ⟨a1, c1, a2, c2, a3, c3, rfl, rfl, rfl, _⟩ := h.open
  obtain ⟨z, HZ⟩ : ∃ z, Hid (idsR t = z) := ⟨_, rfl⟩
  have HLZ : Hid (z.length ≤ 1000000) := by show z.length ≤ _; rw [← HZ.out]; exact idsR_le t
  rw [HZ.out] at SP IM
  unfold EqC at EQ
  unfold ndV at *
  obtain ⟨⟨x1, x2, x3, x4⟩, ux⟩ : ∃ x, Hid (t.b = x) := ⟨_, rfl⟩
  rw [ux.out] at SZ TO SP IM EQ ⊢
  dsimp only at SZ TO SP IM EQ ⊢
  have hh : Hid (NdIn 0 w t (.slice a1 t.bs.length c1) (.slice a2 t.is.length c2) (.slice a3 t.ks.length c3)) := h
  clear h
  generalize hm1 : t.bs.length = m1 at *
  generalize hm2 : t.is.length = m2 at *
  generalize hm3 : t.ks.length = m3 at *
  have HM : Hid (t.bs.length = m1 ∧ t.is.length = m2 ∧ t.ks.length = m3) := ⟨hm1, hm2, hm3⟩
  clear hm1 hm2 hm3
  have B0 := below1 w (.cells #[.int .i64 x1, .int .i64 x2, .int .i64 x3, .int .i64 x4, .slice a1 m1 c1, .slice a2 m2 c2, .slice a3 m3 c3] 30)
  have V := Sev.new w x1 x2 x3 x4 (.slice a1 m1 c1) (.slice a2 m2 c2) (.slice a3 m3 c3) 30
  go_enter Try.func4, Try.ntmps4
  obtain ⟨⟨k0, k1, k2, k3⟩, k4, k5, k6⟩ := id V
  simp only [Nat.zero_add] at k0 k1 k2 k3 k4 k5 k6
  go_wp2_with fail
  generalize w.alloc (.cells #[.int .i64 x1, .int .i64 x2, .int .i64 x3, .int .i64 x4, .slice a1 m1 c1, .slice a2 m2 c2, .slice a3 m3 c3] 30) = W0 at *
  refine (SZ _ B0).mono ?_
  rintro e w1 ⟨z1, rfl, hz1, hb⟩
  replace B0 := B0.trans (hb.mono B0.size)
  replace V := V.below hb
  clear hb k0 k1 k2 k3 k4 k5 k6
  rcases hz1 with rfl | ⟨z10, hz1⟩
  · go_wp2
    go_ret
    exact ⟨rfl, B0⟩
  have HL : Hid (ndSz t ≤ 1048576) := by show ndSz t ≤ 1048576; omega
  have hnz : ¬ z1 < 0 := by omega
  clear hz1 z10
  obtain ⟨⟨k0, k1, k2, k3⟩, k4, k5, k6⟩ := id V
  simp only [Nat.zero_add] at k0 k1 k2 k3 k4 k5 k6
  go_wp2_with fail
  refine (TO _ B0 HL.out).mono ?_
  rintro e w2 ⟨u1, u2, u3, rfl, UP, hb⟩
  have UI := NdIn.lower (Nat.zero_le _) _ UP.toIn
  obtain ⟨b1, d1, b2, d2, b3, d3, rfl, rfl, rfl, _⟩ := UP.open
  rw [HM.out.1, HM.out.2.1, HM.out.2.2] at UP UI ⊢
  replace B0 := B0.trans (hb.mono B0.size)
  replace V := V.below hb
  clear hb k0 k1 k2 k3 k4 k5 k6
  go_wp2_with fail
  refine (SP _ _ _ _ UI HL.out).mono ?_
  rintro e w3 ⟨v0, rfl, R0, hb⟩
  have hz2 : w.heap.size ≤ w2.heap.size := B0.size
  replace R0 : RowI w.heap.size w3 v0 z := row_base R0 hz2
  replace B0 := B0.trans (hb.mono B0.size)
  replace V := V.below hb
  clear hb UP UI hz2
  obtain ⟨a0, c0, rfl, _, _⟩ := R0.shape'
  have HZV : Hid (w.heap.size < w3.heap.size) := World.block_lt_of_cell? _ _ V.c6
  have HZW : Hid (w.heap.size ≤ w3.heap.size) := B0.size
  have N0 : Hid (∀ k, (Value.slice a0 z.length c0).ownBlock = some k → k < w3.heap.size) := fun k hk => (World.ownsRow.lt R0 k hk).2
  obtain ⟨⟨k0, k1, k2, k3⟩, k4, k5, k6⟩ := id V
  simp only [Nat.zero_add] at k0 k1 k2 k3 k4 k5 k6
  go_wp2_with fail
  refine (TO _ B0 HL.out).mono ?_
  rintro e w4 ⟨u1, u2, u3, rfl, UP, hb⟩
  obtain ⟨b1, d1, b2, d2, b3, d3, rfl, rfl, rfl, _⟩ := UP.open
  rw [HM.out.1, HM.out.2.1, HM.out.2.2] at UP ⊢
  have bn := below1 w4 (.cells #[.int .i64 x1, .int .i64 x2, .int .i64 x3, .int .i64 x4, .slice b1 m1 d1, .slice b2 m2 d2, .slice b3 m3 d3] 39)
  have X := Sev.new w4 x1 x2 x3 x4 (.slice b1 m1 d1) (.slice b2 m2 d2) (.slice b3 m3 d3) 39
  have UP2 := NdUp.lower (Nat.zero_le _) _ (NdUp.keep bn _ UP)
  have HUP : Hid (NdUp w4 w3.heap.size t (.slice b1 m1 d1) (.slice b2 m2 d2) (.slice b3 m3 d3)) := UP
  have z34 : w3.heap.size ≤ w4.heap.size := hb.size
  have bn4 := bn
  replace R0 := R0.below (hb.trans (bn.mono hb.size))
  replace bn := hb.trans (bn.mono hb.size)
  replace B0 := B0.trans (bn.mono B0.size)
  replace V := V.below bn
  clear hb bn k0 k1 k2 k3 k4 k5 k6 UP
  obtain ⟨⟨i0, i1, i2, i3⟩, i4, i5, i6⟩ := id X
  simp only [Nat.zero_add] at i0 i1 i2 i3 i4 i5 i6
  go_wp2_with fail
  generalize w4.alloc (.cells #[.int .i64 x1, .int .i64 x2, .int .i64 x3, .int .i64 x4, .slice b1 m1 d1, .slice b2 m2 d2, .slice b3 m3 d3] 39) = W5 at *
  refine (IM _ _ _ _ UP2 HL.out).mono ?_
  rintro e x7 ⟨v6, rfl, R6, hb⟩
  have B47 : Below w4.heap.size w4 x7 := bn4.trans (hb.mono bn4.size)
  replace R6 : RowI w4.heap.size x7 v6 z := row_base R6 bn4.size
  have XI : Hid (NdIn 0 x7 t (.slice b1 m1 d1) (.slice b2 m2 d2) (.slice b3 m3 d3)) := UP2.toIn.keep hb
  replace R0 := R0.below hb
  replace B0 := B0.trans (hb.mono B0.size)
  replace V := V.below hb
  replace X := X.below hb
  obtain ⟨a6, c6, rfl, _, _⟩ := R6.shape'
  have N6 : Hid (∀ k, (Value.slice a6 z.length c6).ownBlock = some k → w4.heap.size ≤ k) := fun k hk => (World.ownsRow.lt R6 k hk).1
  have zw3 : w.heap.size ≤ w3.heap.size := HZW.out
  clear hb bn4 i0 i1 i2 i3 i4 i5 i6 UP2 SZ SP
  obtain ⟨⟨k0, k1, k2, k3⟩, k4, k5, k6⟩ := id V
  simp only [Nat.zero_add] at k0 k1 k2 k3 k4 k5 k6
  obtain ⟨⟨i0, i1, i2, i3⟩, i4, i5, i6⟩ := id X
  simp only [Nat.zero_add] at i0 i1 i2 i3 i4 i5 i6
  go_wp2_with fail
  refine (eqI _ _ _ _ _ _ R6 R0).mono ?_
  rintro e x8 ⟨rfl, hb⟩
  replace R0 := R0.below hb
  replace R6 := R6.below hb
  replace B0 := B0.trans (hb.mono B0.size)
  replace B47 := B47.trans (hb.mono B47.size)
  replace V := V.below hb
  replace X := X.below hb
  replace XI : Hid (NdIn 0 x8 t (.slice b1 m1 d1) (.slice b2 m2 d2) (.slice b3 m3 d3)) := NdIn.keep hb _ XI.out
  clear hb k0 k1 k2 k3 k4 k5 k6 i0 i1 i2 i3 i4 i5 i6
  obtain ⟨⟨k0, k1, k2, k3⟩, k4, k5, k6⟩ := id V
  simp only [Nat.zero_add] at k0 k1 k2 k3 k4 k5 k6
  obtain ⟨⟨i0, i1, i2, i3⟩, i4, i5, i6⟩ := id X
  simp only [Nat.zero_add] at i0 i1 i2 i3 i4 i5 i6
  go_wp2_with fail
  have N : Below x8.heap.size x8 x8.drew := (Below.refl _ _).drew
  refine wp_region_held_drew (S := fun w' => Below x8.heap.size x8 w') (by kernel_rfl) N (fun hHeld => ?_)
  clear hHeld
  generalize x8.drew = ww0 at *
  refine takeW (i := 0) (by simp only [List.getElem?_toArray, List.getElem?_cons_zero]; exact rfl) (by kernel_rfl) (by kernel_rfl) (by kernel_rfl) (by exact fun _ _ _ h => h) (by rfl) (by intro wq hSw; have y0 := bat hSw i0; have y1 := bat hSw i1; have y2 := bat hSw i2; have y3 := bat hSw i3; have y4 := bat hSw i4; have y5 := bat hSw i5; have y6 := bat hSw i6; go_simp <;> with_reducible rfl) (by assumption) ?_
  try simp only [Act.put, List.setIfInBounds_toArray, List.set_cons_zero, List.set_cons_succ]
  refine takeW (i := 1) (by simp only [List.getElem?_toArray, List.getElem?_cons_succ, List.getElem?_cons_zero]; exact rfl) (by kernel_rfl) (by kernel_rfl) (by kernel_rfl) (by exact fun _ _ _ h => h) (by rfl) (by intro wq hSw; have y0 := bat hSw k0; have y1 := bat hSw k1; have y2 := bat hSw k2; have y3 := bat hSw k3; have y4 := bat hSw k4; have y5 := bat hSw k5; have y6 := bat hSw k6; go_simp <;> with_reducible rfl) (by assumption) ?_
  try simp only [Act.put, List.setIfInBounds_toArray, List.set_cons_zero, List.set_cons_succ]
  refine wpAnyH_ready (rs := [2]) (by kernel_rfl) (by simp) (AllReadyH.cons (by simp only [List.getElem?_toArray, List.getElem?_cons_succ, List.getElem?_cons_zero]; exact rfl) (fun K hK => ?_) AllReadyH.nil)
  go_simp
  refine (TO _ (B0.trans (N.mono B0.size)) HL.out).mono ?_
  rintro e x5 ⟨p1, p2, p3, rfl, UP, hb⟩
  obtain ⟨e1, f1, e2, f2, e3, f3, rfl, rfl, rfl, _⟩ := UP.open
  replace N := N.trans (hb.mono N.size)
  refine hK.out _ _ N (fun hHeld => ?_)
  clear hK K hHeld
  try simp only [Act.put, List.setIfInBounds_toArray, List.set_cons_zero, List.set_cons_succ]
  have IN2 := NdIn.lower (Nat.zero_le _) _ UP.toIn
  clear hb
  refine wpAnyH_ready (rs := [3]) (by kernel_rfl) (by simp) (AllReadyH.cons (by simp only [List.getElem?_toArray, List.getElem?_cons_succ, List.getElem?_cons_zero]; exact rfl) (fun K hK => ?_) AllReadyH.nil)
  go_simp
  refine (EQ _ _ _ _ _ _ _ (NdIn.keep N _ XI.out) IN2).mono ?_
  rintro e x6 ⟨rfl, hb⟩
  replace N := N.trans (hb.mono N.size)
  refine hK.out _ _ N (fun hHeld => ?_)
  clear hK K hHeld
  try simp only [Act.put, List.setIfInBounds_toArray, List.set_cons_zero, List.set_cons_succ]
  clear hb
  refine takeW (i := 4) (by simp only [List.getElem?_toArray, List.getElem?_cons_succ, List.getElem?_cons_zero]; exact rfl) (by kernel_rfl) (by kernel_rfl) (by kernel_rfl) (by exact fun _ _ _ h => h) (by rfl) (by intro wq hSw; go_simp <;> with_reducible rfl) (by assumption) ?_
  try simp only [Act.put, List.setIfInBounds_toArray, List.set_cons_zero, List.set_cons_succ]
  refine wpAnyH_done (by kernel_rfl) ?_ _
  replace R0 := R0.below N
  replace R6 := R6.below N
  replace B0 := B0.trans (N.mono B0.size)
  replace B47 := B47.trans (N.mono B47.size)
  replace V := V.below N
  replace X := X.below N
  clear N k0 k1 k2 k3 k4 k5 k6 i0 i1 i2 i3 i4 i5 i6 XI EQ
  obtain ⟨⟨i0, i1, i2, i3⟩, i4, i5, i6⟩ := id X
  simp only [Nat.zero_add] at i0 i1 i2 i3 i4 i5 i6
  have MK := markNode_any w3.heap.size t _ _ _ x6 HUP.out B47 HL.out
  unfold ndV at MK
  rw [ux.out] at MK
  dsimp only at MK
  have z47 := B47.size
  have lz : z.length ≤ 1000000 := HLZ.out
  go_wp2_with fail
  refine MK.mono ?_
  rintro e x9 ⟨k9, rfl, hk9, IW9⟩
  replace R0 := R0.iw IW9 (fun k hk => .inl (N0.out k hk))
  replace R6 := R6.iw IW9 (fun k hk => .inr (N6.out k hk))
  replace B0 := B0.trans ((IW9.bel (by omega)).mono zw3)
  replace V : Sev x9 w.heap.size 0 (x1, x2, x3, x4) (.slice a1 m1 c1) (.slice a2 m2 c2) (.slice a3 m3 c3) := by
    have hb := IW9.blk w.heap.size (World.block_lt_of_cell? _ _ V.c6) (.inl HZV.out)
    obtain ⟨⟨f0, f1, f2, f3⟩, f4, f5, f6⟩ := V
    have q : ∀ o, x9.cell? ⟨w.heap.size, o, none⟩ = x6.cell? ⟨w.heap.size, o, none⟩ := fun o => World.cell?_of_block (a := ⟨w.heap.size, o, none⟩) hb
    exact ⟨⟨(q _).trans f0, (q _).trans f1, (q _).trans f2, (q _).trans f3⟩, (q _).trans f4, (q _).trans f5, (q _).trans f6⟩
  have hk9' : ¬ k9 < 0 := by omega
  clear IW9 MK X i0 i1 i2 i3 i4 i5 i6 hk9 HUP B47
  go_wp2_with fail
  refine (eqI _ _ _ _ _ _ R6 R0).mono ?_
  rintro e y1 ⟨rfl, hb⟩
  replace R0 := R0.below hb
  replace R6 := R6.below hb
  replace B0 := B0.trans (hb.mono B0.size)
  replace V := V.below hb
  clear hb
  go_wp2_with fail
  refine (markI _ _ _ _ R6 lz).mono ?_
  rintro e y2 ⟨rfl, M6, G⟩
  have bz := B0.size
  replace B0 := B0.grown G B0.size (fun k e => by have := N6.out k e; omega)
  replace R0 := owns_keptT R0 G (fun k hk e => by have := N6.out k e; have := N0.out k hk; omega)
  replace V := Sev.grownT V G (fun e => by have := N6.out _ e.symm; have := HZV.out; omega)
  clear G R6
  go_wp2_with fail
  refine (heldI _ _ _ _ M6 lz).mono ?_
  rintro e y3 ⟨rfl, rfl⟩
  obtain ⟨⟨k0, k1, k2, k3⟩, k4, k5, k6⟩ := id V
  simp only [Nat.zero_add] at k0 k1 k2 k3 k4 k5 k6
  go_wp2_with fail
  refine (TO _ B0 HL.out).mono ?_
  rintro e y4 ⟨u1, u2, u3, rfl, UP, hb⟩
  obtain ⟨b1', d1', b2', d2', b3', d3', rfl, rfl, rfl, _⟩ := UP.open
  have UP3 := NdUp.lower (Nat.zero_le _) _ UP
  rw [HM.out.1, HM.out.2.1, HM.out.2.2] at UP3 ⊢
  replace R0 : RowI w.heap.size y4 (.slice a0 z.length c0) z := owns_below R0 hb
  replace M6 := M6.below hb
  replace B0 := B0.trans (hb.mono B0.size)
  clear hb UP k0 k1 k2 k3 k4 k5 k6 V
  go_wp2_with fail
  refine (IM _ _ _ _ UP3 HL.out).mono ?_
  rintro e y5 ⟨v10, rfl, R10, hb⟩
  replace R0 := R0.below hb
  replace M6 := M6.below hb
  replace B0 := B0.trans (hb.mono B0.size)
  clear hb UP3
  obtain ⟨a9, c9, rfl, _, _⟩ := R10.shape'
  go_wp2_with fail
  refine (eqI _ _ _ _ _ _ R10 R0).mono ?_
  rintro e y6 ⟨rfl, hb⟩
  replace M6 := M6.below hb
  replace B0 := B0.trans (hb.mono B0.size)
  clear hb R0 R10
  go_wp2_with fail
  refine (heldI _ _ _ _ M6 lz).mono ?_
  rintro e y7 ⟨rfl, rfl⟩
  go_wp2
  go_ret
  exact ⟨rfl, B0⟩
end Go.Proofs.Ytilobdohoaoikaa
