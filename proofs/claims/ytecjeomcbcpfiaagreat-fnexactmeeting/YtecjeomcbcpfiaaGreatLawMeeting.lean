/- The law on Meeting: at every argument the program's Meeting is the specification's; it writes into no argument. -/
import Derived.Test.YtecjeomcbcpfiaaGreatLawWindow
import Derived.Test.YtecjeomcbcpfiaaGreatMkF
namespace Go.Proofs.YtecjeomcbcpfiaaGreat
open Go.RowKit

set_option maxRecDepth 100000 in
set_option maxHeartbeats 8000000 in
theorem lawMeeting (a : Option Addr) (c : Nat) (es : List En) (n : Int) (b : Option Addr) (d : Nat) (rs : List (List (Int × Int))) (w : World) (h : SeesEn w a c es) (hs : SeesS w b d rs) :
    Calls Tryz.prog 4 #[.slice a es.length c, .agg #[.int .i64 n, .slice b rs.length d]] w fun e w' => e = .returned (.bool true) ∧ Below w.heap.size w w' := by
  obtain ⟨z, HZ⟩ : ∃ z, Hid (mtV n rs es = z) := ⟨_, rfl⟩
  have lz : z.length ≤ 1000000 := by rw [← HZ.out]; have := mtV_few n rs es; omega
  have SP := fun W a c (k : SeesEn W a c es) b d (s : SeesS W b d rs) => specMeeting a c es n b d rs W k s
  have IM := fun W a c (k : SeesEn W a c es) b d (s : SeesS W b d rs) => implMeeting a c es n b d rs W k s
  rw [HZ.out] at SP IM
  have HS : Hid (SeesS w b d rs) := hs
  have B0 := below1 w (.cells #[.int .i64 n, .slice b rs.length d] 43)
  have V := Box2.new w (lo := w.heap.size) (Nat.le_refl _) (.int .i64 n) (.slice b rs.length d) 43
  clear hs
  go_enter Tryz.func4, Tryz.ntmps4
  go_upto_region 2 with fail
  generalize w.alloc (.cells #[.int .i64 n, .slice b rs.length d] 43) = W0 at *
  go_wp2_with fail
  refine (szEntries a c es 1048576 _ (h.below B0) (by omega)).mono ?_
  rintro e w1 ⟨z1, rfl, hz1, hb⟩
  replace B0 := B0.trans (hb.mono B0.size)
  replace V := V.below hb
  clear hb
  rcases hz1 with rfl | ⟨z10, hz1⟩
  · go_wp2
    go_ret
    exact ⟨rfl, B0⟩
  have L1 : Hid (uptoE es es.length ≤ 1048576) := by show _ ≤ _; omega
  have L3 : Hid (es.length ≤ maxLen) := by show _ ≤ _; have := uptoE_le es 0 es.length; simp only [uptoE, Nat.zero_add] at this; unfold maxLen; omega
  have hnz : ¬ z1 < 0 := by omega
  have hz8 : z1 ≤ 1048576 := by omega
  clear hz1
  obtain ⟨v0, v1, _, _⟩ := id V
  go_wp2_with fail
  refine (szShape_any n b d rs z1 _ (HS.out.below B0) ⟨z10, hz8⟩).mono ?_
  rintro e w2 ⟨z2, rfl, hz2, hb⟩
  replace B0 := B0.trans (hb.mono B0.size)
  replace V := V.below hb
  clear hb v0 v1
  rcases hz2 with rfl | ⟨z20, hz2⟩
  · go_wp2
    go_ret
    exact ⟨rfl, B0⟩
  have L2 : Hid (upto rs rs.length ≤ 1048576) := by show _ ≤ _; omega
  have hnz2 : ¬ z2 < 0 := by omega
  clear hz2 z20 hnz z10 hz8
  obtain ⟨v0, v1, _, _⟩ := id V
  go_wp2_with fail
  have N : Below w2.heap.size w2 w2.drew := (Below.refl _ _).drew
  refine wp_region_held_drew (S := fun w' => Below w2.heap.size w2 w') (by kernel_rfl) N (fun hHeld => ?_)
  clear hHeld
  generalize w2.drew = ww0 at *
  refine takeW (i := 0) (by simp only [List.getElem?_toArray, List.getElem?_cons_zero]; exact rfl) (by kernel_rfl) (by kernel_rfl) (by kernel_rfl) (by exact fun _ _ _ h => h) (by rfl) (by intro wq hSw; go_simp <;> with_reducible rfl) (by assumption) ?_
  try simp only [Act.put, List.setIfInBounds_toArray, List.set_cons_zero, List.set_cons_succ]
  refine takeW (i := 2) (by simp only [List.getElem?_toArray, List.getElem?_cons_succ, List.getElem?_cons_zero]; exact rfl) (by kernel_rfl) (by kernel_rfl) (by kernel_rfl) (by exact fun _ _ _ h => h) (by rfl) (by intro wq hSw; have p0 := bat hSw v0; have p1 := bat hSw v1; go_simp <;> with_reducible rfl) (by assumption) ?_
  try simp only [Act.put, List.setIfInBounds_toArray, List.set_cons_zero, List.set_cons_succ]
  refine wpAnyH_ready (rs := [1]) (by kernel_rfl) (by simp) (AllReadyH.cons (by simp only [List.getElem?_toArray, List.getElem?_cons_succ, List.getElem?_cons_zero]; exact rfl) (fun K hK => ?_) AllReadyH.nil)
  go_simp
  refine (toEntries a c es _ (h.below (B0.trans (N.mono B0.size))) L1.out).mono ?_
  rintro e wa ⟨rfl, ⟨g2, t2, o2⟩, hb⟩
  have s2 := o2.sees L3.out
  replace N := N.trans (hb.mono N.size)
  refine hK.out _ _ N (fun hHeld => ?_)
  clear hK K hHeld
  try simp only [List.setIfInBounds_toArray, List.set_cons_zero, List.set_cons_succ]
  clear hb o2
  refine wpAnyH_ready (rs := [3]) (by kernel_rfl) (by simp) (AllReadyH.cons (by simp only [List.getElem?_toArray, List.getElem?_cons_succ, List.getElem?_cons_zero]; exact rfl) (fun K hK => ?_) AllReadyH.nil)
  go_simp
  refine (toShape_any n b d rs _ (HS.out.below (B0.trans (N.mono B0.size))) L2.out).mono ?_
  rintro e wb ⟨b2, d2, rfl, u2, hb⟩
  replace s2 := s2.below hb
  replace u2 := u2.sees
  replace N := N.trans (hb.mono N.size)
  refine hK.out _ _ N (fun hHeld => ?_)
  clear hK K hHeld
  try simp only [List.setIfInBounds_toArray, List.set_cons_zero, List.set_cons_succ]
  clear hb
  have zz2 := Nat.le_trans B0.size N.size
  refine wpAnyH_ready (rs := [4]) (by kernel_rfl) (by simp) (AllReadyH.cons (by simp only [List.getElem?_toArray, List.getElem?_cons_succ, List.getElem?_cons_zero]; exact rfl) (fun K hK => ?_) AllReadyH.nil)
  go_simp
  refine (SP _ _ _ s2 _ _ u2).mono ?_
  rintro e w3 ⟨v5, rfl, R0, hb⟩
  replace N := N.trans (hb.mono N.size)
  obtain ⟨a0, c0, rfl, _, _⟩ := R0.shape'
  refine hK.out _ _ N (fun hHeld => ?_)
  clear hK K hHeld
  try simp only [List.setIfInBounds_toArray, List.set_cons_zero, List.set_cons_succ]
  refine takeW (i := 5) (by simp only [List.getElem?_toArray, List.getElem?_cons_succ, List.getElem?_cons_zero]; exact rfl) (by kernel_rfl) (by kernel_rfl) (by kernel_rfl) (by exact fun _ _ _ h => h) (by rfl) (by intro wq hSw; go_simp <;> with_reducible rfl) (by assumption) ?_
  try simp only [Act.put, List.setIfInBounds_toArray, List.set_cons_zero, List.set_cons_succ]
  refine wpAnyH_done (by kernel_rfl) ?_ _
  replace R0 : RowI w.heap.size w3 (.slice a0 z.length c0) z := row_base R0 zz2
  replace B0 := B0.trans (N.mono B0.size)
  replace V := V.below N
  clear hb N v0 v1 s2 u2
  have HZV : Hid (w.heap.size < w3.heap.size) := V.lt
  have zw3 : w.heap.size ≤ w3.heap.size := B0.size
  have N0 : Hid (∀ k, (Value.slice a0 z.length c0).ownBlock = some k → k < w3.heap.size) := fun k hk => (World.ownsRow.lt R0 k hk).2
  go_wp2_with fail
  refine (toEntries a c es _ (h.below B0) L1.out).mono ?_
  rintro e w4 ⟨rfl, ⟨gb, tp, o5⟩, hb⟩
  have M5 : Hid (MkEn w4 w3.heap.size es gb tp) := o5.marks
  have M6 : Hid (∀ i, i < es.length → tp i ≤ w4.heap.size) := fun i hi => (o5.o i hi).2.2
  have hgx : w3.heap.size < w4.heap.size := o5.lt
  have s5 := o5.sees L3.out
  replace B0 := B0.trans (hb.mono B0.size)
  replace V := V.below hb
  replace R0 := R0.below hb
  have BX : Below w4.heap.size w4 w4 := Below.refl _ _
  clear hb o5
  obtain ⟨v0, v1, _, _⟩ := id V
  go_wp2_with fail
  generalize hg4 : w3.heap.size = g4 at *
  refine (toShape_any n b d rs _ (HS.out.below B0) L2.out).mono ?_
  rintro e w5 ⟨b5, d5, rfl, u5', hb⟩
  have BY : Below w5.heap.size w5 w5 := Below.refl _ _
  have HM5 : Hid (∀ p off, b5 = some ⟨p, off, none⟩ → MarkS (p + 1) w5.heap.size w5 p off rs) := fun p off e => by
    subst e
    exact u5'.mark
  have U5 : Hid (OwnS w4.heap.size w5 b5 d5 rs) := u5'
  replace B0 := B0.trans (hb.mono B0.size)
  replace V := V.below hb
  replace R0 := R0.below hb
  replace s5 := s5.below hb
  replace BX := BX.trans (hb.mono BX.size)
  clear hb v0 v1 u5'
  have hb := below1 w5 (.cells #[.int .i64 n, .slice b5 rs.length d5] 48)
  have X := Box2.new w5 (lo := 0) (by omega) (.int .i64 n) (.slice b5 rs.length d5) 48
  have hz5 : w4.heap.size ≤ w5.heap.size := BX.size
  replace V := V.below hb
  replace R0 := R0.below hb
  replace s5 := s5.below hb
  replace B0 := B0.trans (hb.mono B0.size)
  replace BX := BX.trans (hb.mono BX.size)
  replace BY := BY.trans (hb.mono BY.size)
  have u5 := (U5.out.below hb).sees
  clear hb
  obtain ⟨x0, x1, _, _⟩ := id X
  go_upto_region 11 with fail
  generalize w5.alloc (.cells #[.int .i64 n, .slice b5 rs.length d5] 48) = W6 at *
  go_wp2_with fail
  refine (IM _ _ _ s5 _ _ u5).mono ?_
  rintro e x7 ⟨v6, rfl, R6, hb⟩
  have hz6 : w5.heap.size ≤ W6.heap.size := BY.size
  replace R6 : RowI w5.heap.size x7 v6 z := row_base R6 hz6
  replace V := V.below hb
  replace R0 := R0.below hb
  replace s5 := s5.below hb
  replace X := X.below hb
  replace B0 := B0.trans (hb.mono B0.size)
  replace BX := BX.trans (hb.mono BX.size)
  replace BY := BY.trans (hb.mono BY.size)
  replace u5 := u5.below hb
  clear hb x0 x1
  obtain ⟨a6, c6, rfl, _, _⟩ := R6.shape'
  have N6 : Hid (∀ k, (Value.slice a6 z.length c6).ownBlock = some k → w5.heap.size ≤ k) := fun k hk => (World.ownsRow.lt R6 k hk).1
  go_wp2_with fail
  refine (eqI _ _ _ _ _ _ R6 R0).mono ?_
  rintro e x8 ⟨rfl, hb⟩
  replace V := V.below hb
  replace R0 := R0.below hb
  replace R6 := R6.below hb
  replace s5 := s5.below hb
  replace X := X.below hb
  replace u5 := u5.below hb
  replace B0 := B0.trans (hb.mono B0.size)
  replace BX := BX.trans (hb.mono BX.size)
  replace BY := BY.trans (hb.mono BY.size)
  clear hb
  go_wp2_with fail
  refine (toEntries a c es _ (h.below B0) L1.out).mono ?_
  rintro e y1 ⟨rfl, ⟨gb8, tp8, o8⟩, hb⟩
  have s8 := o8.sees L3.out
  replace V := V.below hb
  replace R0 := R0.below hb
  replace R6 := R6.below hb
  replace s5 := s5.below hb
  replace X := X.below hb
  replace u5 := u5.below hb
  replace B0 := B0.trans (hb.mono B0.size)
  replace BX := BX.trans (hb.mono BX.size)
  replace BY := BY.trans (hb.mono BY.size)
  clear hb o8
  go_wp2_with fail
  refine (eqEntries _ _ _ _ es _ s5 s8).mono ?_
  rintro e y2 ⟨rfl, hb⟩
  replace V := V.below hb
  replace R0 := R0.below hb
  replace R6 := R6.below hb
  replace X := X.below hb
  replace u5 := u5.below hb
  replace B0 := B0.trans (hb.mono B0.size)
  replace BX := BX.trans (hb.mono BX.size)
  replace BY := BY.trans (hb.mono BY.size)
  clear hb s5 s8
  obtain ⟨x0, x1, _, _⟩ := id X
  obtain ⟨v0, v1, _, _⟩ := id V
  go_wp2_with fail
  have N : Below y2.heap.size y2 y2.drew := (Below.refl _ _).drew
  refine wp_region_held_drew (S := fun w' => Below y2.heap.size y2 w') (by kernel_rfl) N (fun hHeld => ?_)
  clear hHeld
  generalize y2.drew = ww0 at *
  refine takeW (i := 0) (by simp only [List.getElem?_toArray, List.getElem?_cons_zero]; exact rfl) (by kernel_rfl) (by kernel_rfl) (by kernel_rfl) (by exact fun _ _ _ h => h) (by rfl) (by intro wq hSw; have m0 := bat hSw x0; have m1 := bat hSw x1; go_simp <;> with_reducible rfl) (by assumption) ?_
  try simp only [Act.put, List.setIfInBounds_toArray, List.set_cons_zero, List.set_cons_succ]
  refine takeW (i := 1) (by simp only [List.getElem?_toArray, List.getElem?_cons_succ, List.getElem?_cons_zero]; exact rfl) (by kernel_rfl) (by kernel_rfl) (by kernel_rfl) (by exact fun _ _ _ h => h) (by rfl) (by intro wq hSw; have p0 := bat hSw v0; have p1 := bat hSw v1; go_simp <;> with_reducible rfl) (by assumption) ?_
  try simp only [Act.put, List.setIfInBounds_toArray, List.set_cons_zero, List.set_cons_succ]
  refine wpAnyH_ready (rs := [2]) (by kernel_rfl) (by simp) (AllReadyH.cons (by simp only [List.getElem?_toArray, List.getElem?_cons_succ, List.getElem?_cons_zero]; exact rfl) (fun K hK => ?_) AllReadyH.nil)
  go_simp
  refine (toShape_any n b d rs _ (HS.out.below (B0.trans (N.mono B0.size))) L2.out).mono ?_
  rintro e wb ⟨b8, d8, rfl, u8, hb⟩
  replace u8 := u8.sees
  replace N := N.trans (hb.mono N.size)
  refine hK.out _ _ N (fun hHeld => ?_)
  clear hK K hHeld
  try simp only [List.setIfInBounds_toArray, List.set_cons_zero, List.set_cons_succ]
  clear hb
  refine wpAnyH_ready (rs := [3]) (by kernel_rfl) (by simp) (AllReadyH.cons (by simp only [List.getElem?_toArray, List.getElem?_cons_succ, List.getElem?_cons_zero]; exact rfl) (fun K hK => ?_) AllReadyH.nil)
  go_simp
  refine (eqShape_any n b5 b8 d5 d8 rs _ (u5.below N) u8).mono ?_
  rintro e y3 ⟨rfl, hb⟩
  replace N := N.trans (hb.mono N.size)
  refine hK.out _ _ N (fun hHeld => ?_)
  clear hK K hHeld
  try simp only [List.setIfInBounds_toArray, List.set_cons_zero, List.set_cons_succ]
  clear hb
  refine takeW (i := 4) (by simp only [List.getElem?_toArray, List.getElem?_cons_succ, List.getElem?_cons_zero]; exact rfl) (by kernel_rfl) (by kernel_rfl) (by kernel_rfl) (by exact fun _ _ _ h => h) (by rfl) (by intro wq hSw; go_simp <;> with_reducible rfl) (by assumption) ?_
  try simp only [Act.put, List.setIfInBounds_toArray, List.set_cons_zero, List.set_cons_succ]
  refine wpAnyH_done (by kernel_rfl) ?_ _
  have hb := N
  clear N u8 x0 x1 v0 v1
  replace V := V.below hb
  replace R0 := R0.below hb
  replace R6 := R6.below hb
  replace X := X.below hb
  replace B0 := B0.trans (hb.mono B0.size)
  replace BX := BX.trans (hb.mono BX.size)
  replace BY := BY.trans (hb.mono BY.size)
  clear hb u5
  go_wp2_with fail
  refine (markEntriesK g4 w4.heap.size es gb tp _ (M5.out.below BX) M6.out hgx L1.out).mono ?_
  rintro e y4 ⟨kk, rfl, kk0, kk1, PU⟩
  have O7 : Hid (OwnS w4.heap.size y4 b5 d5 rs) := PU (fun W => OwnS w4.heap.size W b5 d5 rs) (fun W q o u h1 h2 r => r.put (by omega) o u) (U5.out.below BY)
  have M7 : Hid (∀ p off, b5 = some ⟨p, off, none⟩ → MarkS (p + 1) w5.heap.size y4 p off rs) := fun p off e => by
    have hlo : rs ≠ [] → w4.heap.size ≤ p := fun hn => by
      obtain ⟨b', off', e', hlo, _⟩ := U5.out.cells hn
      rw [e] at e'
      injection e' with e'
      injection e' with e1 e2
      omega
    by_cases hn : rs = []
    · subst hn
      intro i hi
      simp at hi
    · exact PU (fun W => MarkS (p + 1) w5.heap.size W p off rs) (fun W q o u h1 h2 r => r.far (by have := hlo hn; omega)) ((HM5.out p off e).below BY)
  replace R0 := RowI.puts R0 PU (fun k hk => .inl (by have := N0.out k hk; omega))
  replace R6 := RowI.puts R6 PU (fun k hk => .inr (by have := N6.out k hk; omega))
  replace V := V.puts PU (.inl HZV.out)
  replace X := X.puts PU (.inr hz5)
  replace B0 := belowPuts B0 PU zw3
  clear PU BX BY M5 M6 U5 HM5
  obtain ⟨x0, x1, _, _⟩ := id X
  go_wp2_with fail
  refine (markShapeK n kk w4.heap.size w5.heap.size b5 d5 rs _ O7.out M7.out L2.out kk0 (by omega)).mono ?_
  rintro e y5 ⟨k8, rfl, k80, PU⟩
  have hb := below1 y4 (.cells #[.int .i64 n, .slice b5 rs.length d5] 48)
  replace R0 := RowI.puts (R0.below hb) PU (fun k hk => .inl (by have := N0.out k hk; omega))
  replace R6 := RowI.puts (R6.below hb) PU (fun k hk => .inr (N6.out k hk))
  replace V := (V.below hb).puts PU (.inl (by have := HZV.out; omega))
  replace B0 := belowPuts (B0.trans (hb.mono B0.size)) PU (by omega)
  have hkk : ¬ k8 < 0 := by omega
  clear PU O7 M7 hb X x0 x1 kk0 kk1
  go_wp2_with fail
  refine (eqI _ _ _ _ _ _ R6 R0).mono ?_
  rintro e y6 ⟨rfl, hb⟩
  replace R0 := R0.below hb
  replace R6 := R6.below hb
  replace V := V.below hb
  replace B0 := B0.trans (hb.mono B0.size)
  clear hb
  go_wp2_with fail
  refine (markI _ _ _ _ R6 lz).mono ?_
  rintro e y7 ⟨rfl, M7, G⟩
  replace B0 := B0.grown G B0.size (fun k e => by have := N6.out k e; omega)
  replace R0 : RowI w.heap.size y7 (.slice a0 z.length c0) z := owns_keptW R0 G (fun k hk e => by have := N6.out k e; have := N0.out k hk; omega)
  replace V := V.grown2N G (fun e => by have := N6.out _ e.symm; have := HZV.out; omega)
  clear G R6
  go_wp2_with fail
  refine (heldI _ _ _ _ M7 lz).mono ?_
  rintro e y8 ⟨rfl, rfl⟩
  obtain ⟨v0, v1, _, _⟩ := id V
  go_wp2_with fail
  have N : Below y8.heap.size y8 y8.drew := (Below.refl _ _).drew
  refine wp_region_held_drew (S := fun w' => Below y8.heap.size y8 w') (by kernel_rfl) N (fun hHeld => ?_)
  clear hHeld
  generalize y8.drew = ww0 at *
  refine takeW (i := 0) (by simp only [List.getElem?_toArray, List.getElem?_cons_zero]; exact rfl) (by kernel_rfl) (by kernel_rfl) (by kernel_rfl) (by exact fun _ _ _ h => h) (by rfl) (by intro wq hSw; go_simp <;> with_reducible rfl) (by assumption) ?_
  try simp only [Act.put, List.setIfInBounds_toArray, List.set_cons_zero, List.set_cons_succ]
  refine takeW (i := 2) (by simp only [List.getElem?_toArray, List.getElem?_cons_succ, List.getElem?_cons_zero]; exact rfl) (by kernel_rfl) (by kernel_rfl) (by kernel_rfl) (by exact fun _ _ _ h => h) (by rfl) (by intro wq hSw; have p0 := bat hSw v0; have p1 := bat hSw v1; go_simp <;> with_reducible rfl) (by assumption) ?_
  try simp only [Act.put, List.setIfInBounds_toArray, List.set_cons_zero, List.set_cons_succ]
  refine wpAnyH_ready (rs := [1]) (by kernel_rfl) (by simp) (AllReadyH.cons (by simp only [List.getElem?_toArray, List.getElem?_cons_succ, List.getElem?_cons_zero]; exact rfl) (fun K hK => ?_) AllReadyH.nil)
  go_simp
  refine (toEntries a c es _ (h.below (B0.trans (N.mono B0.size))) L1.out).mono ?_
  rintro e wa ⟨rfl, ⟨g9, t9, o9⟩, hb⟩
  have s9 := o9.sees L3.out
  replace N := N.trans (hb.mono N.size)
  refine hK.out _ _ N (fun hHeld => ?_)
  clear hK K hHeld
  try simp only [List.setIfInBounds_toArray, List.set_cons_zero, List.set_cons_succ]
  clear hb o9
  refine wpAnyH_ready (rs := [3]) (by kernel_rfl) (by simp) (AllReadyH.cons (by simp only [List.getElem?_toArray, List.getElem?_cons_succ, List.getElem?_cons_zero]; exact rfl) (fun K hK => ?_) AllReadyH.nil)
  go_simp
  refine (toShape_any n b d rs _ (HS.out.below (B0.trans (N.mono B0.size))) L2.out).mono ?_
  rintro e wb ⟨b9, d9, rfl, u9, hb⟩
  replace s9 := s9.below hb
  replace u9 := u9.sees
  replace N := N.trans (hb.mono N.size)
  refine hK.out _ _ N (fun hHeld => ?_)
  clear hK K hHeld
  try simp only [List.setIfInBounds_toArray, List.set_cons_zero, List.set_cons_succ]
  clear hb
  have zz9 := Nat.le_trans B0.size N.size
  refine wpAnyH_ready (rs := [4]) (by kernel_rfl) (by simp) (AllReadyH.cons (by simp only [List.getElem?_toArray, List.getElem?_cons_succ, List.getElem?_cons_zero]; exact rfl) (fun K hK => ?_) AllReadyH.nil)
  go_simp
  refine (IM _ _ _ s9 _ _ u9).mono ?_
  rintro e y9 ⟨v10, rfl, R10, hb⟩
  replace N := N.trans (hb.mono N.size)
  obtain ⟨a9, c9, rfl, _, _⟩ := R10.shape'
  refine hK.out _ _ N (fun hHeld => ?_)
  clear hK K hHeld
  try simp only [List.setIfInBounds_toArray, List.set_cons_zero, List.set_cons_succ]
  refine takeW (i := 5) (by simp only [List.getElem?_toArray, List.getElem?_cons_succ, List.getElem?_cons_zero]; exact rfl) (by kernel_rfl) (by kernel_rfl) (by kernel_rfl) (by exact fun _ _ _ h => h) (by rfl) (by intro wq hSw; go_simp <;> with_reducible rfl) (by assumption) ?_
  try simp only [Act.put, List.setIfInBounds_toArray, List.set_cons_zero, List.set_cons_succ]
  refine wpAnyH_done (by kernel_rfl) ?_ _
  replace R0 : RowI w.heap.size y9 (.slice a0 z.length c0) z := owns_below R0 N
  replace M7 := M7.below N
  replace B0 := B0.trans (N.mono B0.size)
  clear hb N v0 v1 s9 u9 V
  go_wp2_with fail
  refine (eqI _ _ _ _ _ _ R10 R0).mono ?_
  rintro e t1 ⟨rfl, hb⟩
  replace M7 := M7.below hb
  replace B0 := B0.trans (hb.mono B0.size)
  clear hb R0 R10
  go_wp2_with fail
  refine (heldI _ _ _ _ M7 lz).mono ?_
  rintro e t2 ⟨rfl, rfl⟩
  go_wp2
  go_ret
  exact ⟨rfl, B0⟩
end Go.Proofs.YtecjeomcbcpfiaaGreat
