/- The law on Window: at every argument the program's Window is the specification's; it writes into no argument. -/
import Derived.Test.YtecjeomcbcpfiaaGreatWinI
import Derived.Test.YtecjeomcbcpfiaaGreatWinS
import Derived.Test.YtecjeomcbcpfiaaGreatMkE
namespace Go.Proofs.YtecjeomcbcpfiaaGreat
open Go.RowKit

theorem owns_keptW {w w' : World} {base e size n : Nat} {v : Value} {xs : List Value} {row : Option Nat} (h : w.ownsRow base e size v n xs) (hg : w.grownBy w' row) (hne : ∀ k, v.ownBlock = some k → row ≠ some k) : w'.ownsRow base e size v n xs := by
  refine h.kept hg ?_
  cases e : v.ownBlock with
  | none => exact .inl rfl
  | some k => exact .inr (fun q => hne k e q.symm)
theorem RowI.puts {base lo hi : Nat} {w w' : World} {v : Value} {ds : List Int} (h : RowI base w v ds) (P : Puts lo hi w w') (nv : ∀ k, v.ownBlock = some k → k < lo ∨ hi ≤ k) : RowI base w' v ds :=
  P (fun W => RowI base W v ds) (fun W b o u h1 h2 q => owns_keptW q (grownBy_setCell (grownBy_refl W (some b)) rfl u) (fun k hk e => by have := nv k hk; injection e with e; omega)) h
theorem Box4.puts {l p lo hi : Nat} {w w' : World} {x0 x1 x2 x3 : Value} (h : Box4 l w p x0 x1 x2 x3) (P : Puts lo hi w w') (hp : p < lo ∨ hi ≤ p) : Box4 l w' p x0 x1 x2 x3 :=
  P (fun W => Box4 l W p x0 x1 x2 x3) (fun _ b o u h1 h2 q => ⟨(cell_other (.inl (by omega)) u).trans q.c0, (cell_other (.inl (by omega)) u).trans q.c1, (cell_other (.inl (by omega)) u).trans q.c2, (cell_other (.inl (by omega)) u).trans q.c3, fun i => (World.frozen?_setCell ..).trans (q.fr i), q.lo⟩) h

set_option maxRecDepth 100000 in
set_option maxHeartbeats 8000000 in
theorem lawWindow (a : Option Addr) (c : Nat) (es : List En) (r1 r2 r3 r4 : Int) (w : World) (h : SeesEn w a c es) :
    Calls Tryz.prog 3 #[.slice a es.length c, .agg #[.int .i64 r1, .int .i64 r2, .int .i64 r3, .int .i64 r4]] w fun e w' => e = .returned (.bool true) ∧ Below w.heap.size w w' := by
  have h0 := h
  obtain ⟨z, HZ⟩ : ∃ z, Hid (wnV r1 r2 r3 r4 es = z) := ⟨_, rfl⟩
  have lz : z.length ≤ 1000000 := by rw [← HZ.out]; have := wnV_few r1 r2 r3 r4 es; omega
  have SP := fun W a c (k : SeesEn W a c es) => specWindow a c es r1 r2 r3 r4 W k
  have IM := fun W a c (k : SeesEn W a c es) => implWindow a c es r1 r2 r3 r4 W k
  rw [HZ.out] at SP IM
  have B0 := below1 w (.cells #[.int .i64 r1, .int .i64 r2, .int .i64 r3, .int .i64 r4] 26)
  have V := Box4.new w (lo := w.heap.size) (Nat.le_refl _) (.int .i64 r1) (.int .i64 r2) (.int .i64 r3) (.int .i64 r4) 26
  clear h0
  go_enter Tryz.func3, Tryz.ntmps3
  go_upto_region 2 with fail
  generalize w.alloc (.cells #[.int .i64 r1, .int .i64 r2, .int .i64 r3, .int .i64 r4] 26) = W0 at *
  go_wp2_with fail
  refine (szEntries a c es 1048576 _ (h.below B0) (by omega)).mono ?_
  rintro e w1 ⟨z1, rfl, hz1, hb⟩
  replace B0 := B0.trans (hb.mono B0.size)
  replace V := V.below hb
  clear hb
  rcases hz1 with rfl | ⟨z10, hz1⟩
  · go_wp2
    go_ret
    exact ⟨rfl, B0⟩
  have L1 : Hid (uptoE es es.length ≤ 1048576) := by show _ ≤ _; omega
  have L3 : Hid (es.length ≤ maxLen) := by show _ ≤ _; have := uptoE_le es 0 es.length; simp only [uptoE, Nat.zero_add] at this; unfold maxLen; omega
  have hnz : ¬ z1 < 0 := by omega
  clear hz1 z10
  obtain ⟨j0, j1, j2, j3, _, _⟩ := id V
  go_wp2_with fail
  have N : Below w1.heap.size w1 w1.drew := (Below.refl _ _).drew
  refine wp_region_held_drew (S := fun w' => Below w1.heap.size w1 w') (by kernel_rfl) N (fun hHeld => ?_)
  clear hHeld
  generalize w1.drew = ww0 at *
  refine takeW (i := 0) (by simp only [List.getElem?_toArray, List.getElem?_cons_zero]; exact rfl) (by kernel_rfl) (by kernel_rfl) (by kernel_rfl) (by exact fun _ _ _ h => h) (by rfl) (by intro wq hSw; go_simp <;> with_reducible rfl) (by assumption) ?_
  try simp only [Act.put, List.setIfInBounds_toArray, List.set_cons_zero, List.set_cons_succ]
  refine takeW (i := 2) (by simp only [List.getElem?_toArray, List.getElem?_cons_succ, List.getElem?_cons_zero]; exact rfl) (by kernel_rfl) (by kernel_rfl) (by kernel_rfl) (by exact fun _ _ _ h => h) (by rfl) (by intro wq hSw; have p0 := bat hSw j0; have p1 := bat hSw j1; have p2 := bat hSw j2; have p3 := bat hSw j3; go_simp <;> with_reducible rfl) (by assumption) ?_
  try simp only [Act.put, List.setIfInBounds_toArray, List.set_cons_zero, List.set_cons_succ]
  refine wpAnyH_ready (rs := [1]) (by kernel_rfl) (by simp) (AllReadyH.cons (by simp only [List.getElem?_toArray, List.getElem?_cons_succ, List.getElem?_cons_zero]; exact rfl) (fun K hK => ?_) AllReadyH.nil)
  go_simp
  refine (toEntries a c es _ (h.below (B0.trans (N.mono B0.size))) L1.out).mono ?_
  rintro e wa ⟨rfl, ⟨g2, t2, o2⟩, hb⟩
  have s2 := o2.sees L3.out
  replace N := N.trans (hb.mono N.size)
  refine hK.out _ _ N (fun hHeld => ?_)
  clear hK K hHeld
  try simp only [List.setIfInBounds_toArray, List.set_cons_zero, List.set_cons_succ]
  clear hb o2
  refine wpAnyH_ready (rs := [3]) (by kernel_rfl) (by simp) (AllReadyH.cons (by simp only [List.getElem?_toArray, List.getElem?_cons_succ, List.getElem?_cons_zero]; exact rfl) (fun K hK => ?_) AllReadyH.nil)
  go_simp
  refine (toBox_any _ _ _ _ _).mono ?_
  rintro e wb ⟨rfl, hb⟩
  replace s2 := s2.below hb
  replace N := N.trans (hb.mono N.size)
  refine hK.out _ _ N (fun hHeld => ?_)
  clear hK K hHeld
  try simp only [List.setIfInBounds_toArray, List.set_cons_zero, List.set_cons_succ]
  clear hb
  have zz2 := Nat.le_trans B0.size N.size
  refine wpAnyH_ready (rs := [4]) (by kernel_rfl) (by simp) (AllReadyH.cons (by simp only [List.getElem?_toArray, List.getElem?_cons_succ, List.getElem?_cons_zero]; exact rfl) (fun K hK => ?_) AllReadyH.nil)
  go_simp
  refine (SP _ _ _ s2).mono ?_
  rintro e w3 ⟨v0, rfl, R0, hb⟩
  replace N := N.trans (hb.mono N.size)
  obtain ⟨a0, c0, rfl, _, _⟩ := R0.shape'
  refine hK.out _ _ N (fun hHeld => ?_)
  clear hK K hHeld
  try simp only [List.setIfInBounds_toArray, List.set_cons_zero, List.set_cons_succ]
  refine takeW (i := 5) (by simp only [List.getElem?_toArray, List.getElem?_cons_succ, List.getElem?_cons_zero]; exact rfl) (by kernel_rfl) (by kernel_rfl) (by kernel_rfl) (by exact fun _ _ _ h => h) (by rfl) (by intro wq hSw; go_simp <;> with_reducible rfl) (by assumption) ?_
  try simp only [Act.put, List.setIfInBounds_toArray, List.set_cons_zero, List.set_cons_succ]
  refine wpAnyH_done (by kernel_rfl) ?_ _
  replace R0 : RowI w.heap.size w3 (.slice a0 z.length c0) z := row_base R0 zz2
  replace B0 := B0.trans (N.mono B0.size)
  replace V := V.below N
  clear hb N j0 j1 j2 j3 s2
  have HZV : Hid (w.heap.size < w3.heap.size) := V.lt
  have zw3 : w.heap.size ≤ w3.heap.size := B0.size
  have N0 : Hid (∀ k, (Value.slice a0 z.length c0).ownBlock = some k → k < w3.heap.size) := fun k hk => (World.ownsRow.lt R0 k hk).2
  go_wp2_with fail
  refine (toEntries a c es _ (h.below B0) L1.out).mono ?_
  rintro e w4 ⟨rfl, ⟨gb, tp, o5⟩, hb⟩
  have M5 : Hid (MkEn w4 w3.heap.size es gb tp) := o5.marks
  have M6 : Hid (∀ i, i < es.length → tp i ≤ w4.heap.size) := fun i hi => (o5.o i hi).2.2
  have hgx : w3.heap.size < w4.heap.size := o5.lt
  have s5 := o5.sees L3.out
  replace B0 := B0.trans (hb.mono B0.size)
  replace V := V.below hb
  replace R0 := R0.below hb
  have BX : Below w4.heap.size w4 w4 := Below.refl _ _
  clear hb o5
  obtain ⟨j0, j1, j2, j3, _, _⟩ := id V
  go_wp2_with fail
  generalize hg4 : w3.heap.size = g4 at *
  refine (toBox_any _ _ _ _ _).mono ?_
  rintro e w5 ⟨rfl, hb⟩
  replace B0 := B0.trans (hb.mono B0.size)
  replace V := V.below hb
  replace R0 := R0.below hb
  replace s5 := s5.below hb
  replace BX := BX.trans (hb.mono BX.size)
  clear hb j0 j1 j2 j3
  go_wp2_with fail
  refine (IM _ _ _ s5).mono ?_
  rintro e x7 ⟨v6, rfl, R6, hb⟩
  replace R6 : RowI w4.heap.size x7 v6 z := row_base R6 BX.size
  replace B0 := B0.trans (hb.mono B0.size)
  replace V := V.below hb
  replace R0 := R0.below hb
  replace s5 := s5.below hb
  replace BX := BX.trans (hb.mono BX.size)
  clear hb
  obtain ⟨a6, c6, rfl, _, _⟩ := R6.shape'
  have N6 : Hid (∀ k, (Value.slice a6 z.length c6).ownBlock = some k → w4.heap.size ≤ k) := fun k hk => (World.ownsRow.lt R6 k hk).1
  go_wp2_with fail
  refine (eqI _ _ _ _ _ _ R6 R0).mono ?_
  rintro e x8 ⟨rfl, hb⟩
  replace R0 := R0.below hb
  replace R6 := R6.below hb
  replace B0 := B0.trans (hb.mono B0.size)
  replace V := V.below hb
  replace s5 := s5.below hb
  replace BX := BX.trans (hb.mono BX.size)
  clear hb
  go_wp2_with fail
  refine (toEntries a c es _ (h.below B0) L1.out).mono ?_
  rintro e y1 ⟨rfl, ⟨gb8, tp8, o8⟩, hb⟩
  have s8 := o8.sees L3.out
  replace BX := BX.trans (hb.mono BX.size)
  replace B0 := B0.trans (hb.mono B0.size)
  replace V := V.below hb
  replace R0 := R0.below hb
  replace R6 := R6.below hb
  replace s5 := s5.below hb
  clear hb o8
  go_wp2_with fail
  refine (eqEntries _ _ _ _ es _ s5 s8).mono ?_
  rintro e y2 ⟨rfl, hb⟩
  replace BX := BX.trans (hb.mono BX.size)
  replace B0 := B0.trans (hb.mono B0.size)
  replace V := V.below hb
  replace R0 := R0.below hb
  replace R6 := R6.below hb
  clear hb s5 s8
  go_wp2_with fail
  refine (markEntries g4 w4.heap.size es gb tp _ (M5.out.below BX) M6.out hgx L1.out).mono ?_
  rintro e y3 ⟨kk, rfl, kk0, PU⟩
  replace R0 := RowI.puts R0 PU (fun k hk => .inl (by have := N0.out k hk; omega))
  replace R6 := RowI.puts R6 PU (fun k hk => .inr (N6.out k hk))
  replace V := Box4.puts V PU (.inl HZV.out)
  replace B0 := belowPuts B0 PU zw3
  have hkk : ¬ kk < 0 := by omega
  clear PU BX M5 M6
  go_wp2_with fail
  refine (eqI _ _ _ _ _ _ R6 R0).mono ?_
  rintro e y4 ⟨rfl, hb⟩
  replace R0 := R0.below hb
  replace R6 := R6.below hb
  replace B0 := B0.trans (hb.mono B0.size)
  replace V := V.below hb
  clear hb
  go_wp2_with fail
  refine (markI _ _ _ _ R6 lz).mono ?_
  rintro e y5 ⟨rfl, M7, G⟩
  replace B0 := B0.grown G B0.size (fun k e => by have := N6.out k e; omega)
  replace R0 : RowI w.heap.size y5 (.slice a0 z.length c0) z := owns_keptW R0 G (fun k hk e => by have := N6.out k e; have := N0.out k hk; omega)
  replace V := V.grown4N G (fun e => by have := N6.out _ e.symm; have := HZV.out; omega)
  clear G R6
  go_wp2_with fail
  refine (heldI _ _ _ _ M7 lz).mono ?_
  rintro e y6 ⟨rfl, rfl⟩
  obtain ⟨j0, j1, j2, j3, _, _⟩ := id V
  go_wp2_with fail
  have N : Below y6.heap.size y6 y6.drew := (Below.refl _ _).drew
  refine wp_region_held_drew (S := fun w' => Below y6.heap.size y6 w') (by kernel_rfl) N (fun hHeld => ?_)
  clear hHeld
  generalize y6.drew = ww0 at *
  refine takeW (i := 0) (by simp only [List.getElem?_toArray, List.getElem?_cons_zero]; exact rfl) (by kernel_rfl) (by kernel_rfl) (by kernel_rfl) (by exact fun _ _ _ h => h) (by rfl) (by intro wq hSw; go_simp <;> with_reducible rfl) (by assumption) ?_
  try simp only [Act.put, List.setIfInBounds_toArray, List.set_cons_zero, List.set_cons_succ]
  refine takeW (i := 2) (by simp only [List.getElem?_toArray, List.getElem?_cons_succ, List.getElem?_cons_zero]; exact rfl) (by kernel_rfl) (by kernel_rfl) (by kernel_rfl) (by exact fun _ _ _ h => h) (by rfl) (by intro wq hSw; have p0 := bat hSw j0; have p1 := bat hSw j1; have p2 := bat hSw j2; have p3 := bat hSw j3; go_simp <;> with_reducible rfl) (by assumption) ?_
  try simp only [Act.put, List.setIfInBounds_toArray, List.set_cons_zero, List.set_cons_succ]
  refine wpAnyH_ready (rs := [1]) (by kernel_rfl) (by simp) (AllReadyH.cons (by simp only [List.getElem?_toArray, List.getElem?_cons_succ, List.getElem?_cons_zero]; exact rfl) (fun K hK => ?_) AllReadyH.nil)
  go_simp
  refine (toEntries a c es _ (h.below (B0.trans (N.mono B0.size))) L1.out).mono ?_
  rintro e wa ⟨rfl, ⟨g9, t9, o9⟩, hb⟩
  have s9 := o9.sees L3.out
  replace N := N.trans (hb.mono N.size)
  refine hK.out _ _ N (fun hHeld => ?_)
  clear hK K hHeld
  try simp only [List.setIfInBounds_toArray, List.set_cons_zero, List.set_cons_succ]
  clear hb o9
  refine wpAnyH_ready (rs := [3]) (by kernel_rfl) (by simp) (AllReadyH.cons (by simp only [List.getElem?_toArray, List.getElem?_cons_succ, List.getElem?_cons_zero]; exact rfl) (fun K hK => ?_) AllReadyH.nil)
  go_simp
  refine (toBox_any _ _ _ _ _).mono ?_
  rintro e wb ⟨rfl, hb⟩
  replace s9 := s9.below hb
  replace N := N.trans (hb.mono N.size)
  refine hK.out _ _ N (fun hHeld => ?_)
  clear hK K hHeld
  try simp only [List.setIfInBounds_toArray, List.set_cons_zero, List.set_cons_succ]
  clear hb
  have zz9 := Nat.le_trans B0.size N.size
  refine wpAnyH_ready (rs := [4]) (by kernel_rfl) (by simp) (AllReadyH.cons (by simp only [List.getElem?_toArray, List.getElem?_cons_succ, List.getElem?_cons_zero]; exact rfl) (fun K hK => ?_) AllReadyH.nil)
  go_simp
  refine (IM _ _ _ s9).mono ?_
  rintro e y7 ⟨v10, rfl, R10, hb⟩
  replace N := N.trans (hb.mono N.size)
  obtain ⟨a9, c9, rfl, _, _⟩ := R10.shape'
  refine hK.out _ _ N (fun hHeld => ?_)
  clear hK K hHeld
  try simp only [List.setIfInBounds_toArray, List.set_cons_zero, List.set_cons_succ]
  refine takeW (i := 5) (by simp only [List.getElem?_toArray, List.getElem?_cons_succ, List.getElem?_cons_zero]; exact rfl) (by kernel_rfl) (by kernel_rfl) (by kernel_rfl) (by exact fun _ _ _ h => h) (by rfl) (by intro wq hSw; go_simp <;> with_reducible rfl) (by assumption) ?_
  try simp only [Act.put, List.setIfInBounds_toArray, List.set_cons_zero, List.set_cons_succ]
  refine wpAnyH_done (by kernel_rfl) ?_ _
  replace R0 : RowI w.heap.size y7 (.slice a0 z.length c0) z := owns_below R0 N
  replace M7 := M7.below N
  replace B0 := B0.trans (N.mono B0.size)
  clear hb N j0 j1 j2 j3 s9 V
  go_wp2_with fail
  refine (eqI _ _ _ _ _ _ R10 R0).mono ?_
  rintro e y8 ⟨rfl, hb⟩
  replace M7 := M7.below hb
  replace B0 := B0.trans (hb.mono B0.size)
  clear hb R0 R10
  go_wp2_with fail
  refine (heldI _ _ _ _ M7 lz).mono ?_
  rintro e y9 ⟨rfl, rfl⟩
  go_wp2
  go_ret
  exact ⟨rfl, B0⟩
end Go.Proofs.YtecjeomcbcpfiaaGreat
