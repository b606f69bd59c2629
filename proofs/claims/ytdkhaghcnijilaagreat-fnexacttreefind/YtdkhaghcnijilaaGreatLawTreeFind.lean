/- The law on TreeFind: at every argument the program's TreeFind is the specification's; it writes into no argument. -/
import Derived.Test.YtdkhaghcnijilaaGreatTgD
import Derived.Test.YtdkhaghcnijilaaGreatTrR
import Derived.Test.YtdkhaghcnijilaaGreatTrE
import Derived.Test.YtdkhaghcnijilaaGreatTsH
import Derived.Test.YtdkhaghcnijilaaGreatTrU
namespace Go.Proofs.YtdkhaghcnijilaaGreat
open Go.RowKit

theorem ins_sorted (a : Int) : ∀ z : List Int, z.Pairwise (· ≤ ·) → ∃ z' : List Int, z'.Perm (a :: z) ∧ z'.Pairwise (· ≤ ·)
  | [], _ => ⟨[a], List.Perm.refl _, List.pairwise_singleton _ _⟩
  | b :: z, h => by
    rw [List.pairwise_cons] at h
    by_cases c : a ≤ b
    · refine ⟨a :: b :: z, List.Perm.refl _, List.pairwise_cons.2 ⟨fun x hx => ?_, List.pairwise_cons.2 h⟩⟩
      rcases List.mem_cons.1 hx with e | e
      · rw [e]; exact c
      · exact Int.le_trans c (h.1 x e)
    · obtain ⟨z', hp, hs⟩ := ins_sorted a z h.2
      refine ⟨b :: z', (List.Perm.cons b hp).trans (List.Perm.swap a b z), List.pairwise_cons.2 ⟨fun x hx => ?_, hs⟩⟩
      rcases List.mem_cons.1 (hp.mem_iff.1 hx) with e | e
      · rw [e]; omega
      · exact h.1 x e
theorem ex_sorted : ∀ l : List Int, ∃ z : List Int, z.Perm l ∧ z.Pairwise (· ≤ ·)
  | [] => ⟨[], List.Perm.refl _, List.Pairwise.nil⟩
  | a :: l => by
    obtain ⟨z, hp, hs⟩ := ex_sorted l
    obtain ⟨z', hp', hs'⟩ := ins_sorted a z hs
    exact ⟨z', hp'.trans (List.Perm.cons a hp), hs'⟩
theorem fdV_ids (wn : Bx) : ∀ t : Nd, (fdV wn t).length ≤ (idV t).length := by
  have key : ∀ l : List Nd, (∀ k ∈ l, (fdV wn k).length ≤ (idV k).length) → (fdV.fdL wn l).length ≤ (idV.idL l).length := by
    intro l
    induction l with
    | nil => intro _; simp [fdV.fdL, idV.idL]
    | cons a l ih =>
      intro h
      have h1 := h a (List.mem_cons_self ..)
      have h2 := ih (fun k hk => h k (List.mem_cons_of_mem _ hk))
      simp only [fdV.fdL, idV.idL, List.length_append]
      omega
  refine Nd.ind ?_
  intro b bs is ks ih
  have h1 := key ks ih
  have h2 := fdI_le wn bs is is.length
  simp only [fdV, idV, List.length_append]
  omega
theorem fdR_few (wn : Bx) (t : Nd) : (fdR wn t).length ≤ 1000000 := by
  unfold fdR
  split
  · rename_i ho
    obtain ⟨m, h⟩ := (okT_prS t).1 ho
    have hg := (hd_gd m true t).1 ((hd_lvS t m).2 ((lvS_prS t m).2 h).1)
    have h3 := h.2.2
    have h4 := fdV_ids wn t
    rw [gd_ids m true t hg] at h4
    rw [ids_cnt] at h3
    have h5 : cnt [t] m ≤ 1000000 := by omega
    exact Nat.le_trans h4 h5
  · exact Nat.zero_le _

set_option maxRecDepth 100000 in
set_option maxHeartbeats 16000000 in
theorem lawTreeFind (t : Nd) (v1 v2 v3 : Value) (r1 r2 r3 r4 : Int) (w : World) (h : NdIn 0 w t v1 v2 v3) :
    Calls Tryz.prog 3 #[ndV t v1 v2 v3, .agg #[.int .i64 r1, .int .i64 r2, .int .i64 r3, .int .i64 r4]] w fun e w' => e = .returned (.bool true) ∧ Below w.heap.size w w' := by
  have SZ := fun W (hb : Below w.heap.size w W) => szNode_any t v1 v2 v3 1048576 W (NdIn.keep hb _ h) (by omega) (by omega)
  have TO := fun W (hb : Below w.heap.size w W) (hl : ndSz t ≤ 1048576) => toNode_any t v1 v2 v3 W (NdIn.keep hb _ h) hl
  obtain ⟨z, hzp, hzs⟩ := ex_sorted (fdR (r1, r2, r3, r4) t)
  have HLZ : Hid (z.length ≤ 1000000) := by show z.length ≤ _; rw [hzp.length_eq]; exact fdR_few _ t
  have SP : ∀ W (u1 u2 u3 : Value) (_ : NdIn 0 W t u1 u2 u3) (_ : ndSz t ≤ 1048576), Calls Tryz.prog 8 #[ndV t u1 u2 u3, .agg #[.int .i64 r1, .int .i64 r2, .int .i64 r3, .int .i64 r4]] W fun e w' => ∃ v, e = .returned v ∧ RowI W.heap.size w' v z ∧ Below W.heap.size W w' := fun W u1 u2 u3 k hl => (specTreeFind t u1 u2 u3 r1 r2 r3 r4 W k hl).mono fun e w' ⟨v, L, he, R, hp, hs, hb⟩ => ⟨v, he, by rw [sorted_same hzs hs (hzp.trans hp.symm)]; exact R, hb⟩
  have IM : ∀ W (u1 u2 u3 : Value) (_ : NdUp W 0 t u1 u2 u3) (_ : ndSz t ≤ 1048576), Calls Tryz.prog 11 #[ndV t u1 u2 u3, .agg #[.int .i64 r1, .int .i64 r2, .int .i64 r3, .int .i64 r4]] W fun e w' => ∃ v, e = .returned v ∧ RowI W.heap.size w' v z ∧ Below W.heap.size W w' := fun W u1 u2 u3 k hl => (implTreeFind t u1 u2 u3 r1 r2 r3 r4 W k hl).mono fun e w' ⟨v, L, he, R, hp, hs, hb⟩ => ⟨v, he, by rw [sorted_same hzs hs (hzp.trans hp.symm)]; exact R, hb⟩
  clear hzp hzs
  have EQ := @eqNode_any t
  obtain ⟨a1, c1, a2, c2, a3, c3, rfl, rfl, rfl, _⟩ := h.open
  unfold EqC at EQ
  unfold ndV at *
  obtain ⟨⟨x1, x2, x3, x4⟩, ux⟩ : ∃ x, Hid (t.b = x) := ⟨_, rfl⟩
  rw [ux.out] at SZ TO SP IM EQ ⊢
  dsimp only at SZ TO SP IM EQ ⊢
  have hh : Hid (NdIn 0 w t (.slice a1 t.bs.length c1) (.slice a2 t.is.length c2) (.slice a3 t.ks.length c3)) := h
  clear h
  generalize hm1 : t.bs.length = m1 at *
  generalize hm2 : t.is.length = m2 at *
  generalize hm3 : t.ks.length = m3 at *
  have HM : Hid (t.bs.length = m1 ∧ t.is.length = m2 ∧ t.ks.length = m3) := ⟨hm1, hm2, hm3⟩
  clear hm1 hm2 hm3
  have b0 := below1 w (.cells #[.int .i64 x1, .int .i64 x2, .int .i64 x3, .int .i64 x4, .slice a1 m1 c1, .slice a2 m2 c2, .slice a3 m3 c3] 30)
  have V0 := Sev.new w x1 x2 x3 x4 (.slice a1 m1 c1) (.slice a2 m2 c2) (.slice a3 m3 c3) 30
  have b1 := below1 (w.alloc (.cells #[.int .i64 x1, .int .i64 x2, .int .i64 x3, .int .i64 x4, .slice a1 m1 c1, .slice a2 m2 c2, .slice a3 m3 c3] 30)) (.cells #[.int .i64 r1, .int .i64 r2, .int .i64 r3, .int .i64 r4] 25)
  have Y0 : Four ((w.alloc (.cells #[.int .i64 x1, .int .i64 x2, .int .i64 x3, .int .i64 x4, .slice a1 m1 c1, .slice a2 m2 c2, .slice a3 m3 c3] 30)).alloc (.cells #[.int .i64 r1, .int .i64 r2, .int .i64 r3, .int .i64 r4] 25)) (w.heap.size + 1) 0 (r1, r2, r3, r4) := by
    have q := fun k v (hv : (#[Value.int .i64 r1, .int .i64 r2, .int .i64 r3, .int .i64 r4] : Array Value)[k]? = some v) => cell_new (w.alloc (.cells #[.int .i64 x1, .int .i64 x2, .int .i64 x3, .int .i64 x4, .slice a1 m1 c1, .slice a2 m2 c2, .slice a3 m3 c3] 30)) #[.int .i64 r1, .int .i64 r2, .int .i64 r3, .int .i64 r4] 25 k hv
    rw [World.size_alloc] at q
    exact ⟨q 0 _ rfl, q 1 _ rfl, q 2 _ rfl, q 3 _ rfl⟩
  have V : FB _ w.heap.size x1 x2 x3 x4 (.slice a1 m1 c1) (.slice a2 m2 c2) (.slice a3 m3 c3) r1 r2 r3 r4 := ⟨V0.below b1, Y0⟩
  have B0 := b0.trans (b1.mono b0.size)
  clear b0 b1 V0 Y0
  go_enter Tryz.func3, Tryz.ntmps3
  obtain ⟨⟨⟨k0, k1, k2, k3⟩, k4, k5, k6⟩, ⟨j0, j1, j2, j3⟩⟩ := id V
  simp only [Nat.zero_add] at k0 k1 k2 k3 k4 k5 k6 j0 j1 j2 j3
  go_wp2_with fail
  generalize (w.alloc (.cells #[.int .i64 x1, .int .i64 x2, .int .i64 x3, .int .i64 x4, .slice a1 m1 c1, .slice a2 m2 c2, .slice a3 m3 c3] 30)).alloc (.cells #[.int .i64 r1, .int .i64 r2, .int .i64 r3, .int .i64 r4] 25) = W0 at *
  refine (SZ _ B0).mono ?_
  rintro e w1 ⟨z1, rfl, hz1, hb⟩
  replace B0 := B0.trans (hb.mono B0.size)
  replace V := V.below hb
  clear hb k0 k1 k2 k3 k4 k5 k6 j0 j1 j2 j3
  rcases hz1 with rfl | ⟨z10, hz1⟩
  · go_wp2
    go_ret
    exact ⟨rfl, B0⟩
  have HL : Hid (ndSz t ≤ 1048576) := by show ndSz t ≤ 1048576; omega
  have hnz : ¬ z1 < 0 := by omega
  clear hz1 z10
  obtain ⟨⟨⟨k0, k1, k2, k3⟩, k4, k5, k6⟩, ⟨j0, j1, j2, j3⟩⟩ := id V
  simp only [Nat.zero_add] at k0 k1 k2 k3 k4 k5 k6 j0 j1 j2 j3
  go_wp2_with fail
  have N : Below w1.heap.size w1 w1.drew := (Below.refl _ _).drew
  refine wp_region_held_drew (S := fun w' => Below w1.heap.size w1 w') (by kernel_rfl) N (fun hHeld => ?_)
  clear hHeld
  generalize w1.drew = ww0 at *
  refine takeW (i := 0) (by simp only [List.getElem?_toArray, List.getElem?_cons_zero]; exact rfl) (by kernel_rfl) (by kernel_rfl) (by kernel_rfl) (by exact fun _ _ _ h => h) (by rfl) (by intro wq hSw; have q0 := bat hSw k0; have q1 := bat hSw k1; have q2 := bat hSw k2; have q3 := bat hSw k3; have q4 := bat hSw k4; have q5 := bat hSw k5; have q6 := bat hSw k6; go_simp <;> with_reducible rfl) (by assumption) ?_
  try simp only [Act.put, List.setIfInBounds_toArray, List.set_cons_zero, List.set_cons_succ]
  refine takeW (i := 2) (by simp only [List.getElem?_toArray, List.getElem?_cons_succ, List.getElem?_cons_zero]; exact rfl) (by kernel_rfl) (by kernel_rfl) (by kernel_rfl) (by exact fun _ _ _ h => h) (by rfl) (by intro wq hSw; have p0 := bat hSw j0; have p1 := bat hSw j1; have p2 := bat hSw j2; have p3 := bat hSw j3; go_simp <;> with_reducible rfl) (by assumption) ?_
  try simp only [Act.put, List.setIfInBounds_toArray, List.set_cons_zero, List.set_cons_succ]
  refine wpAnyH_ready (rs := [1]) (by kernel_rfl) (by simp) (AllReadyH.cons (by simp only [List.getElem?_toArray, List.getElem?_cons_succ, List.getElem?_cons_zero]; exact rfl) (fun K hK => ?_) AllReadyH.nil)
  go_simp
  refine (TO _ (B0.trans (N.mono B0.size)) HL.out).mono ?_
  rintro e wa ⟨u1, u2, u3, rfl, UP, hb⟩
  obtain ⟨g1, e1, g2, e2, g3, e3, rfl, rfl, rfl, _⟩ := UP.open
  replace UP := NdUp.lower (Nat.zero_le _) _ UP
  rw [HM.out.1, HM.out.2.1, HM.out.2.2] at UP ⊢
  replace N := N.trans (hb.mono N.size)
  refine hK.out _ _ N (fun hHeld => ?_)
  clear hK K hHeld
  try simp only [List.setIfInBounds_toArray, List.set_cons_zero, List.set_cons_succ]
  clear hb
  refine wpAnyH_ready (rs := [3]) (by kernel_rfl) (by simp) (AllReadyH.cons (by simp only [List.getElem?_toArray, List.getElem?_cons_succ, List.getElem?_cons_zero]; exact rfl) (fun K hK => ?_) AllReadyH.nil)
  go_simp
  refine (toBox_any _ _ _ _ _).mono ?_
  rintro e wb ⟨rfl, hb⟩
  replace UP := NdUp.keep hb _ UP
  replace N := N.trans (hb.mono N.size)
  refine hK.out _ _ N (fun hHeld => ?_)
  clear hK K hHeld
  try simp only [List.setIfInBounds_toArray, List.set_cons_zero, List.set_cons_succ]
  clear hb
  refine wpAnyH_ready (rs := [4]) (by kernel_rfl) (by simp) (AllReadyH.cons (by simp only [List.getElem?_toArray, List.getElem?_cons_succ, List.getElem?_cons_zero]; exact rfl) (fun K hK => ?_) AllReadyH.nil)
  go_simp
  have UI := UP.toIn
  refine (SP _ _ _ _ UI HL.out).mono ?_
  rintro e w3 ⟨v0, rfl, R0, hb⟩
  have hz2 := Nat.le_trans B0.size N.size
  replace R0 : RowI w.heap.size w3 v0 z := row_base R0 hz2
  replace N := N.trans (hb.mono N.size)
  obtain ⟨a0, c0, rfl, _, _⟩ := R0.shape'
  refine hK.out _ _ N (fun hHeld => ?_)
  clear hK K hHeld
  try simp only [List.setIfInBounds_toArray, List.set_cons_zero, List.set_cons_succ]
  refine takeW (i := 5) (by simp only [List.getElem?_toArray, List.getElem?_cons_succ, List.getElem?_cons_zero]; exact rfl) (by kernel_rfl) (by kernel_rfl) (by kernel_rfl) (by exact fun _ _ _ h => h) (by rfl) (by intro wq hSw; go_simp <;> with_reducible rfl) (by assumption) ?_
  try simp only [Act.put, List.setIfInBounds_toArray, List.set_cons_zero, List.set_cons_succ]
  refine wpAnyH_done (by kernel_rfl) ?_ _
  replace B0 := B0.trans (N.mono B0.size)
  replace V := V.below N
  clear hb UP UI hz2 N k0 k1 k2 k3 k4 k5 k6 j0 j1 j2 j3
  have HZV : Hid (w.heap.size + 1 < w3.heap.size) := V.lt
  have HZW : Hid (w.heap.size ≤ w3.heap.size) := B0.size
  have N0 : Hid (∀ k, (Value.slice a0 z.length c0).ownBlock = some k → k < w3.heap.size) := fun k hk => (World.ownsRow.lt R0 k hk).2
  obtain ⟨⟨⟨k0, k1, k2, k3⟩, k4, k5, k6⟩, ⟨j0, j1, j2, j3⟩⟩ := id V
  simp only [Nat.zero_add] at k0 k1 k2 k3 k4 k5 k6 j0 j1 j2 j3
  go_wp2_with fail
  refine (TO _ B0 HL.out).mono ?_
  rintro e w4 ⟨u1, u2, u3, rfl, UP, hb⟩
  obtain ⟨b1, d1, b2, d2, b3, d3, rfl, rfl, rfl, _⟩ := UP.open
  rw [HM.out.1, HM.out.2.1, HM.out.2.2] at UP ⊢
  have bn := below1 w4 (.cells #[.int .i64 x1, .int .i64 x2, .int .i64 x3, .int .i64 x4, .slice b1 m1 d1, .slice b2 m2 d2, .slice b3 m3 d3] 39)
  have X := Sev.new w4 x1 x2 x3 x4 (.slice b1 m1 d1) (.slice b2 m2 d2) (.slice b3 m3 d3) 39
  have UP2 := NdUp.lower (Nat.zero_le _) _ (NdUp.keep bn _ UP)
  have HUP : Hid (NdUp w4 w3.heap.size t (.slice b1 m1 d1) (.slice b2 m2 d2) (.slice b3 m3 d3)) := UP
  have z34 : w3.heap.size ≤ w4.heap.size := hb.size
  have bn4 := bn
  replace R0 := R0.below (hb.trans (bn.mono hb.size))
  replace bn := hb.trans (bn.mono hb.size)
  replace B0 := B0.trans (bn.mono B0.size)
  replace V := V.below bn
  clear hb bn k0 k1 k2 k3 k4 k5 k6 j0 j1 j2 j3 UP
  obtain ⟨⟨i0, i1, i2, i3⟩, i4, i5, i6⟩ := id X
  simp only [Nat.zero_add] at i0 i1 i2 i3 i4 i5 i6
  go_wp2_with fail
  generalize w4.alloc (.cells #[.int .i64 x1, .int .i64 x2, .int .i64 x3, .int .i64 x4, .slice b1 m1 d1, .slice b2 m2 d2, .slice b3 m3 d3] 39) = W5 at *
  obtain ⟨_, ⟨j0, j1, j2, j3⟩⟩ := id V
  simp only [Nat.zero_add] at j0 j1 j2 j3
  have N : Below W5.heap.size W5 W5.drew := (Below.refl _ _).drew
  refine wp_region_held_drew (S := fun w' => Below W5.heap.size W5 w') (by kernel_rfl) N (fun hHeld => ?_)
  clear hHeld
  generalize W5.drew = ww0 at *
  refine takeW (i := 0) (by simp only [List.getElem?_toArray, List.getElem?_cons_zero]; exact rfl) (by kernel_rfl) (by kernel_rfl) (by kernel_rfl) (by exact fun _ _ _ h => h) (by rfl) (by intro wq hSw; have q0 := bat hSw i0; have q1 := bat hSw i1; have q2 := bat hSw i2; have q3 := bat hSw i3; have q4 := bat hSw i4; have q5 := bat hSw i5; have q6 := bat hSw i6; go_simp <;> with_reducible rfl) (by assumption) ?_
  try simp only [Act.put, List.setIfInBounds_toArray, List.set_cons_zero, List.set_cons_succ]
  refine takeW (i := 1) (by simp only [List.getElem?_toArray, List.getElem?_cons_succ, List.getElem?_cons_zero]; exact rfl) (by kernel_rfl) (by kernel_rfl) (by kernel_rfl) (by exact fun _ _ _ h => h) (by rfl) (by intro wq hSw; have p0 := bat hSw j0; have p1 := bat hSw j1; have p2 := bat hSw j2; have p3 := bat hSw j3; go_simp <;> with_reducible rfl) (by assumption) ?_
  try simp only [Act.put, List.setIfInBounds_toArray, List.set_cons_zero, List.set_cons_succ]
  refine wpAnyH_ready (rs := [2]) (by kernel_rfl) (by simp) (AllReadyH.cons (by simp only [List.getElem?_toArray, List.getElem?_cons_succ, List.getElem?_cons_zero]; exact rfl) (fun K hK => ?_) AllReadyH.nil)
  go_simp
  refine (toBox_any _ _ _ _ _).mono ?_
  rintro e wb ⟨rfl, hb⟩
  replace N := N.trans (hb.mono N.size)
  refine hK.out _ _ N (fun hHeld => ?_)
  clear hK K hHeld
  try simp only [List.setIfInBounds_toArray, List.set_cons_zero, List.set_cons_succ]
  clear hb
  refine wpAnyH_ready (rs := [3]) (by kernel_rfl) (by simp) (AllReadyH.cons (by simp only [List.getElem?_toArray, List.getElem?_cons_succ, List.getElem?_cons_zero]; exact rfl) (fun K hK => ?_) AllReadyH.nil)
  go_simp
  refine (IM _ _ _ _ (NdUp.keep N _ UP2) HL.out).mono ?_
  rintro e x7 ⟨v6, rfl, R6, hb⟩
  have zn5 := Nat.le_trans bn4.size N.size
  replace N := N.trans (hb.mono N.size)
  clear hb
  refine hK.out _ _ N (fun hHeld => ?_)
  clear hK K hHeld
  try simp only [List.setIfInBounds_toArray, List.set_cons_zero, List.set_cons_succ]
  refine takeW (i := 4) (by simp only [List.getElem?_toArray, List.getElem?_cons_succ, List.getElem?_cons_zero]; exact rfl) (by kernel_rfl) (by kernel_rfl) (by kernel_rfl) (by exact fun _ _ _ h => h) (by rfl) (by intro wq hSw; go_simp <;> with_reducible rfl) (by assumption) ?_
  try simp only [Act.put, List.setIfInBounds_toArray, List.set_cons_zero, List.set_cons_succ]
  refine wpAnyH_done (by kernel_rfl) ?_ _
  have hb := N
  clear N j0 j1 j2 j3
  have B47 : Below w4.heap.size w4 x7 := bn4.trans (hb.mono bn4.size)
  replace R6 : RowI w4.heap.size x7 v6 z := row_base R6 zn5
  have XI : Hid (NdIn 0 x7 t (.slice b1 m1 d1) (.slice b2 m2 d2) (.slice b3 m3 d3)) := UP2.toIn.keep hb
  replace R0 := R0.below hb
  replace B0 := B0.trans (hb.mono B0.size)
  replace V := V.below hb
  replace X := X.below hb
  obtain ⟨a6, c6, rfl, _, _⟩ := R6.shape'
  have N6 : Hid (∀ k, (Value.slice a6 z.length c6).ownBlock = some k → w4.heap.size ≤ k) := fun k hk => (World.ownsRow.lt R6 k hk).1
  have zw3 : w.heap.size ≤ w3.heap.size := HZW.out
  clear hb bn4 i0 i1 i2 i3 i4 i5 i6 UP2 SZ SP
  obtain ⟨⟨⟨k0, k1, k2, k3⟩, k4, k5, k6⟩, ⟨j0, j1, j2, j3⟩⟩ := id V
  simp only [Nat.zero_add] at k0 k1 k2 k3 k4 k5 k6 j0 j1 j2 j3
  obtain ⟨⟨i0, i1, i2, i3⟩, i4, i5, i6⟩ := id X
  simp only [Nat.zero_add] at i0 i1 i2 i3 i4 i5 i6
  go_wp2_with fail
  refine (eqI _ _ _ _ _ _ R6 R0).mono ?_
  rintro e x8 ⟨rfl, hb⟩
  replace R0 := R0.below hb
  replace R6 := R6.below hb
  replace B0 := B0.trans (hb.mono B0.size)
  replace B47 := B47.trans (hb.mono B47.size)
  replace V := V.below hb
  replace X := X.below hb
  replace XI : Hid (NdIn 0 x8 t (.slice b1 m1 d1) (.slice b2 m2 d2) (.slice b3 m3 d3)) := NdIn.keep hb _ XI.out
  clear hb k0 k1 k2 k3 k4 k5 k6 j0 j1 j2 j3 i0 i1 i2 i3 i4 i5 i6
  obtain ⟨⟨⟨k0, k1, k2, k3⟩, k4, k5, k6⟩, ⟨j0, j1, j2, j3⟩⟩ := id V
  simp only [Nat.zero_add] at k0 k1 k2 k3 k4 k5 k6 j0 j1 j2 j3
  obtain ⟨⟨i0, i1, i2, i3⟩, i4, i5, i6⟩ := id X
  simp only [Nat.zero_add] at i0 i1 i2 i3 i4 i5 i6
  go_wp2_with fail
  have N : Below x8.heap.size x8 x8.drew := (Below.refl _ _).drew
  refine wp_region_held_drew (S := fun w' => Below x8.heap.size x8 w') (by kernel_rfl) N (fun hHeld => ?_)
  clear hHeld
  generalize x8.drew = ww0 at *
  refine takeW (i := 0) (by simp only [List.getElem?_toArray, List.getElem?_cons_zero]; exact rfl) (by kernel_rfl) (by kernel_rfl) (by kernel_rfl) (by exact fun _ _ _ h => h) (by rfl) (by intro wq hSw; have y0 := bat hSw i0; have y1 := bat hSw i1; have y2 := bat hSw i2; have y3 := bat hSw i3; have y4 := bat hSw i4; have y5 := bat hSw i5; have y6 := bat hSw i6; go_simp <;> with_reducible rfl) (by assumption) ?_
  try simp only [Act.put, List.setIfInBounds_toArray, List.set_cons_zero, List.set_cons_succ]
  refine takeW (i := 1) (by simp only [List.getElem?_toArray, List.getElem?_cons_succ, List.getElem?_cons_zero]; exact rfl) (by kernel_rfl) (by kernel_rfl) (by kernel_rfl) (by exact fun _ _ _ h => h) (by rfl) (by intro wq hSw; have y0 := bat hSw k0; have y1 := bat hSw k1; have y2 := bat hSw k2; have y3 := bat hSw k3; have y4 := bat hSw k4; have y5 := bat hSw k5; have y6 := bat hSw k6; go_simp <;> with_reducible rfl) (by assumption) ?_
  try simp only [Act.put, List.setIfInBounds_toArray, List.set_cons_zero, List.set_cons_succ]
  refine wpAnyH_ready (rs := [2]) (by kernel_rfl) (by simp) (AllReadyH.cons (by simp only [List.getElem?_toArray, List.getElem?_cons_succ, List.getElem?_cons_zero]; exact rfl) (fun K hK => ?_) AllReadyH.nil)
  go_simp
  refine (TO _ (B0.trans (N.mono B0.size)) HL.out).mono ?_
  rintro e x5 ⟨p1, p2, p3, rfl, UP, hb⟩
  obtain ⟨e1, f1, e2, f2, e3, f3, rfl, rfl, rfl, _⟩ := UP.open
  replace N := N.trans (hb.mono N.size)
  refine hK.out _ _ N (fun hHeld => ?_)
  clear hK K hHeld
  try simp only [Act.put, List.setIfInBounds_toArray, List.set_cons_zero, List.set_cons_succ]
  have IN2 := NdIn.lower (Nat.zero_le _) _ UP.toIn
  clear hb
  refine wpAnyH_ready (rs := [3]) (by kernel_rfl) (by simp) (AllReadyH.cons (by simp only [List.getElem?_toArray, List.getElem?_cons_succ, List.getElem?_cons_zero]; exact rfl) (fun K hK => ?_) AllReadyH.nil)
  go_simp
  refine (EQ _ _ _ _ _ _ _ (NdIn.keep N _ XI.out) IN2).mono ?_
  rintro e x6 ⟨rfl, hb⟩
  replace N := N.trans (hb.mono N.size)
  refine hK.out _ _ N (fun hHeld => ?_)
  clear hK K hHeld
  try simp only [Act.put, List.setIfInBounds_toArray, List.set_cons_zero, List.set_cons_succ]
  clear hb
  refine takeW (i := 4) (by simp only [List.getElem?_toArray, List.getElem?_cons_succ, List.getElem?_cons_zero]; exact rfl) (by kernel_rfl) (by kernel_rfl) (by kernel_rfl) (by exact fun _ _ _ h => h) (by rfl) (by intro wq hSw; go_simp <;> with_reducible rfl) (by assumption) ?_
  try simp only [Act.put, List.setIfInBounds_toArray, List.set_cons_zero, List.set_cons_succ]
  refine wpAnyH_done (by kernel_rfl) ?_ _
  replace R0 := R0.below N
  replace R6 := R6.below N
  replace B0 := B0.trans (N.mono B0.size)
  replace B47 := B47.trans (N.mono B47.size)
  replace V := V.below N
  replace X := X.below N
  clear N k0 k1 k2 k3 k4 k5 k6 j0 j1 j2 j3 i0 i1 i2 i3 i4 i5 i6 XI EQ
  obtain ⟨⟨i0, i1, i2, i3⟩, i4, i5, i6⟩ := id X
  simp only [Nat.zero_add] at i0 i1 i2 i3 i4 i5 i6
  have MK := markNode_any w3.heap.size t _ _ _ x6 HUP.out B47 HL.out
  unfold ndV at MK
  rw [ux.out] at MK
  dsimp only at MK
  have z47 := B47.size
  have lz : z.length ≤ 1000000 := HLZ.out
  go_wp2_with fail
  refine MK.mono ?_
  rintro e x9 ⟨k9, rfl, hk9, IW9⟩
  replace R0 := R0.iw IW9 (fun k hk => .inl (N0.out k hk))
  replace R6 := R6.iw IW9 (fun k hk => .inr (N6.out k hk))
  replace B0 := B0.trans ((IW9.bel (by omega)).mono zw3)
  replace V : FB x9 w.heap.size x1 x2 x3 x4 (.slice a1 m1 c1) (.slice a2 m2 c2) (.slice a3 m3 c3) r1 r2 r3 r4 := by
    have lt := V.lt
    have hb := IW9.blk w.heap.size (by omega) (.inl (by have := HZV.out; omega))
    have hb1 := IW9.blk (w.heap.size + 1) lt (.inl HZV.out)
    obtain ⟨⟨⟨f0, f1, f2, f3⟩, f4, f5, f6⟩, ⟨h0, h1, h2, h3⟩⟩ := V
    have q : ∀ o, x9.cell? ⟨w.heap.size, o, none⟩ = x6.cell? ⟨w.heap.size, o, none⟩ := fun o => World.cell?_of_block (a := ⟨w.heap.size, o, none⟩) hb
    have q' : ∀ o, x9.cell? ⟨w.heap.size + 1, o, none⟩ = x6.cell? ⟨w.heap.size + 1, o, none⟩ := fun o => World.cell?_of_block (a := ⟨w.heap.size + 1, o, none⟩) hb1
    exact ⟨⟨⟨(q _).trans f0, (q _).trans f1, (q _).trans f2, (q _).trans f3⟩, (q _).trans f4, (q _).trans f5, (q _).trans f6⟩, ⟨(q' _).trans h0, (q' _).trans h1, (q' _).trans h2, (q' _).trans h3⟩⟩
  have hk9' : ¬ k9 < 0 := by omega
  clear IW9 MK X i0 i1 i2 i3 i4 i5 i6 hk9 HUP B47
  go_wp2_with fail
  refine (eqI _ _ _ _ _ _ R6 R0).mono ?_
  rintro e y1 ⟨rfl, hb⟩
  replace R0 := R0.below hb
  replace R6 := R6.below hb
  replace B0 := B0.trans (hb.mono B0.size)
  replace V := V.below hb
  clear hb
  go_wp2_with fail
  refine (markI _ _ _ _ R6 lz).mono ?_
  rintro e y2 ⟨rfl, M6, G⟩
  have bz := B0.size
  replace B0 := B0.grown G B0.size (fun k e => by have := N6.out k e; omega)
  replace R0 := owns_keptT R0 G (fun k hk e => by have := N6.out k e; have := N0.out k hk; omega)
  replace V := V.grown G (fun k hk => by have := N6.out k hk; have := HZV.out; omega)
  clear G R6
  go_wp2_with fail
  refine (heldI _ _ _ _ M6 lz).mono ?_
  rintro e y3 ⟨rfl, rfl⟩
  obtain ⟨⟨⟨k0, k1, k2, k3⟩, k4, k5, k6⟩, ⟨j0, j1, j2, j3⟩⟩ := id V
  simp only [Nat.zero_add] at k0 k1 k2 k3 k4 k5 k6 j0 j1 j2 j3
  go_wp2_with fail
  have N : Below y3.heap.size y3 y3.drew := (Below.refl _ _).drew
  refine wp_region_held_drew (S := fun w' => Below y3.heap.size y3 w') (by kernel_rfl) N (fun hHeld => ?_)
  clear hHeld
  generalize y3.drew = ww0 at *
  refine takeW (i := 0) (by simp only [List.getElem?_toArray, List.getElem?_cons_zero]; exact rfl) (by kernel_rfl) (by kernel_rfl) (by kernel_rfl) (by exact fun _ _ _ h => h) (by rfl) (by intro wq hSw; have q0 := bat hSw k0; have q1 := bat hSw k1; have q2 := bat hSw k2; have q3 := bat hSw k3; have q4 := bat hSw k4; have q5 := bat hSw k5; have q6 := bat hSw k6; go_simp <;> with_reducible rfl) (by assumption) ?_
  try simp only [Act.put, List.setIfInBounds_toArray, List.set_cons_zero, List.set_cons_succ]
  refine takeW (i := 2) (by simp only [List.getElem?_toArray, List.getElem?_cons_succ, List.getElem?_cons_zero]; exact rfl) (by kernel_rfl) (by kernel_rfl) (by kernel_rfl) (by exact fun _ _ _ h => h) (by rfl) (by intro wq hSw; have p0 := bat hSw j0; have p1 := bat hSw j1; have p2 := bat hSw j2; have p3 := bat hSw j3; go_simp <;> with_reducible rfl) (by assumption) ?_
  try simp only [Act.put, List.setIfInBounds_toArray, List.set_cons_zero, List.set_cons_succ]
  refine wpAnyH_ready (rs := [1]) (by kernel_rfl) (by simp) (AllReadyH.cons (by simp only [List.getElem?_toArray, List.getElem?_cons_succ, List.getElem?_cons_zero]; exact rfl) (fun K hK => ?_) AllReadyH.nil)
  go_simp
  refine (TO _ (B0.trans (N.mono B0.size)) HL.out).mono ?_
  rintro e wa ⟨u1, u2, u3, rfl, UP, hb⟩
  obtain ⟨g1, e1, g2, e2, g3, e3, rfl, rfl, rfl, _⟩ := UP.open
  replace UP := NdUp.lower (Nat.zero_le _) _ UP
  rw [HM.out.1, HM.out.2.1, HM.out.2.2] at UP ⊢
  replace N := N.trans (hb.mono N.size)
  refine hK.out _ _ N (fun hHeld => ?_)
  clear hK K hHeld
  try simp only [List.setIfInBounds_toArray, List.set_cons_zero, List.set_cons_succ]
  clear hb
  refine wpAnyH_ready (rs := [3]) (by kernel_rfl) (by simp) (AllReadyH.cons (by simp only [List.getElem?_toArray, List.getElem?_cons_succ, List.getElem?_cons_zero]; exact rfl) (fun K hK => ?_) AllReadyH.nil)
  go_simp
  refine (toBox_any _ _ _ _ _).mono ?_
  rintro e wb ⟨rfl, hb⟩
  replace UP := NdUp.keep hb _ UP
  replace N := N.trans (hb.mono N.size)
  refine hK.out _ _ N (fun hHeld => ?_)
  clear hK K hHeld
  try simp only [List.setIfInBounds_toArray, List.set_cons_zero, List.set_cons_succ]
  clear hb
  refine wpAnyH_ready (rs := [4]) (by kernel_rfl) (by simp) (AllReadyH.cons (by simp only [List.getElem?_toArray, List.getElem?_cons_succ, List.getElem?_cons_zero]; exact rfl) (fun K hK => ?_) AllReadyH.nil)
  go_simp
  refine (IM _ _ _ _ UP HL.out).mono ?_
  rintro e y5 ⟨v10, rfl, R10, hb⟩
  replace N := N.trans (hb.mono N.size)
  obtain ⟨a9, c9, rfl, _, _⟩ := R10.shape'
  refine hK.out _ _ N (fun hHeld => ?_)
  clear hK K hHeld
  try simp only [List.setIfInBounds_toArray, List.set_cons_zero, List.set_cons_succ]
  refine takeW (i := 5) (by simp only [List.getElem?_toArray, List.getElem?_cons_succ, List.getElem?_cons_zero]; exact rfl) (by kernel_rfl) (by kernel_rfl) (by kernel_rfl) (by exact fun _ _ _ h => h) (by rfl) (by intro wq hSw; go_simp <;> with_reducible rfl) (by assumption) ?_
  try simp only [Act.put, List.setIfInBounds_toArray, List.set_cons_zero, List.set_cons_succ]
  refine wpAnyH_done (by kernel_rfl) ?_ _
  replace R0 : RowI w.heap.size y5 (.slice a0 z.length c0) z := owns_below R0 N
  replace M6 := M6.below N
  replace B0 := B0.trans (N.mono B0.size)
  clear hb UP N k0 k1 k2 k3 k4 k5 k6 j0 j1 j2 j3 V
  go_wp2_with fail
  refine (eqI _ _ _ _ _ _ R10 R0).mono ?_
  rintro e y6 ⟨rfl, hb⟩
  replace M6 := M6.below hb
  replace B0 := B0.trans (hb.mono B0.size)
  clear hb R0 R10
  go_wp2_with fail
  refine (heldI _ _ _ _ M6 lz).mono ?_
  rintro e y7 ⟨rfl, rfl⟩
  go_wp2
  go_ret
  exact ⟨rfl, B0⟩
end Go.Proofs.YtdkhaghcnijilaaGreat
