/- Whether two trees are equal, of the same one (eqIntS, eqNodeS, eqNode). -/
import Derived.Test.YthompofbdjdloaaGreatTrL
import Derived.Test.YthompofbdjdloaaGreatBxsM
import Derived.Test.YthompofbdjdloaaGreatHeld
import Derived.BigRegion
import Derived.Deep.Cut
namespace Go.Proofs.YthompofbdjdloaaGreat
open Go.RowKit

set_option maxRecDepth 20000 in
set_option maxHeartbeats 1000000 in
theorem eqInts (a b : Option Addr) (c d : Nat) (ds : List Int) (w : World) (h : SeesI w a c ds) (k : SeesI w b d ds) :
    Calls Tryz.prog 12 #[.slice a ds.length c, .slice b ds.length d] w fun e w' => e = .returned (.bool true) ∧ Below w.heap.size w w' := by
  have hm := h.max
  have hf := h.fits
  unfold maxLen at hm
  have hne : ((ds.length : Int) != (ds.length : Int)) = false := by simp
  go_enter Tryz.func12, Tryz.ntmps12
  go_wp2
  go_loopw [5] (fun i wr => ∃ j : Nat, j ≤ ds.length ∧ i = .int .i64 j ∧ Below w.heap.size w wr) (fun i _ => ds.length - (intOf i).toNat)
  case atStart => exact ⟨0, Nat.zero_le _, rfl, Below.refl _ _⟩
  case round =>
    obtain ⟨j, hj, rfl, B⟩ := hrel
    rename World => wr
    by_cases hlt : j < ds.length
    · obtain ⟨b1, o1, rfl, hc⟩ := (h.below B).cells (by intro e; simp [e] at hlt)
      obtain ⟨b2, o2, rfl, hd⟩ := (k.below B).cells (by intro e; simp [e] at hlt)
      have g1 := hc j hlt
      have g2 := hd j hlt
      generalize ds[j]?.getD 0 = x at *
      have hxx : (x != x) = false := by simp
      clear hc hd
      go_wp2_with fail
      go_region
      go_wp2
      go_roundw
      case rel => exact ⟨j + 1, by omega, by go_num, B.drew⟩
      case measure => simp [intOf]; omega
    · go_wp2
      go_ret
      exact ⟨rfl, B⟩
/-- What eqNode answers of the same tree. -/
def EqC (t : Nd) : Prop := ∀ (v1 v2 v3 u1 u2 u3 : Value) (w : World), NdIn 0 w t v1 v2 v3 → NdIn 0 w t u1 u2 u3 →
  Calls Tryz.prog 11 #[ndV t v1 v2 v3, ndV t u1 u2 u3] w fun e w' => e = .returned (.bool true) ∧ Below w.heap.size w w'
def EqsC (ks : List Nd) : Prop := ∀ (a b : Option Addr) (c d : Nat) (w : World), NdsIn 0 w a c ks → NdsIn 0 w b d ks →
  Calls Tryz.prog 37 #[.slice a ks.length c, .slice b ks.length d] w fun e w' => e = .returned (.bool true) ∧ Below w.heap.size w w'

set_option maxRecDepth 20000 in
set_option maxHeartbeats 4000000 in
theorem eqNodeS_step {ks : List Nd} (ih : ∀ k ∈ ks, EqC k) : EqsC ks := by
  intro a b c d w h k
  have IH : Hid (∀ k ∈ ks, EqC k) := ih
  have hn := lenN h
  clear ih
  have hne : ((ks.length : Int) != (ks.length : Int)) = false := by simp
  go_enter Tryz.func37, Tryz.ntmps37
  go_wp2
  go_loopw [5] (fun i wr => ∃ j : Nat, j ≤ ks.length ∧ i = .int .i64 j ∧ Below w.heap.size w wr) (fun i _ => ks.length - (intOf i).toNat)
  case atStart => exact ⟨0, Nat.zero_le _, rfl, Below.refl _ _⟩
  case round =>
    obtain ⟨j, hj, rfl, B⟩ := hrel
    rename World => wr
    by_cases hlt : j < ks.length
    · obtain ⟨b1, o1, rfl, hc⟩ := (h.below B).cells (by intro e; simp [e] at hlt)
      obtain ⟨b2, o2, rfl, hd⟩ := (k.below B).cells (by intro e; simp [e] at hlt)
      obtain ⟨v1, v2, v3, SV, N1⟩ := hc j hlt
      obtain ⟨u1, u2, u3, SU, N2⟩ := hd j hlt
      have C : Hid (∀ W, Below wr.heap.size wr W → Calls Tryz.prog 11 #[ndV (ndA ks j) v1 v2 v3, ndV (ndA ks j) u1 u2 u3] W fun e w' => e = .returned (.bool true) ∧ Below W.heap.size W w') := fun W hb => IH.out _ (ndA_mem hlt) v1 v2 v3 u1 u2 u3 W (NdIn.keep hb _ N1) (NdIn.keep hb _ N2)
      clear hc hd N1 N2
      generalize ndA ks j = t at *
      obtain ⟨⟨x1, x2, x3, x4⟩, ux⟩ : ∃ x, Hid (t.b = x) := ⟨_, rfl⟩
      unfold ndV at C
      rw [ux.out] at SV SU C
      dsimp only at C
      obtain ⟨⟨g0, g1, g2, g3⟩, g4, g5, g6⟩ := SV
      obtain ⟨⟨h0, h1, h2, h3⟩, h4, h5, h6⟩ := SU
      dsimp only at g0 g1 g2 g3 h0 h1 h2 h3
      go_upto_region 6 with fail
      have N : Below wr.heap.size wr wr.drew := (Below.refl _ _).drew
      refine wp_region_held_drew (S := fun w' => Below wr.heap.size wr w') (by kernel_rfl) N (fun hHeld => ?_)
      clear hHeld
      generalize wr.drew = ww0 at *
      refine takeW (i := 0) (by simp only [List.getElem?_toArray, List.getElem?_cons_zero]; exact rfl) (by kernel_rfl) (by kernel_rfl) (by kernel_rfl) (by exact fun _ _ _ h => h) (by rfl) (by intro wq hSw; go_simp <;> with_reducible rfl) (by assumption) ?_
      try simp only [Act.put, List.setIfInBounds_toArray, List.set_cons_zero, List.set_cons_succ]
      refine takeW (i := 1) (by simp only [List.getElem?_toArray, List.getElem?_cons_succ, List.getElem?_cons_zero]; exact rfl) (by kernel_rfl) (by kernel_rfl) (by kernel_rfl) (by exact fun _ _ _ h => h) (by rfl) (by intro wq hSw; go_simp <;> with_reducible rfl) (by assumption) ?_
      try simp only [Act.put, List.setIfInBounds_toArray, List.set_cons_zero, List.set_cons_succ]
      refine takeW (i := 2) (by simp only [List.getElem?_toArray, List.getElem?_cons_succ, List.getElem?_cons_zero]; exact rfl) (by kernel_rfl) (by kernel_rfl) (by kernel_rfl) (by exact fun _ _ _ h => h) (by rfl) (by intro wq hSw; go_simp <;> with_reducible rfl) (by assumption) ?_
      try simp only [Act.put, List.setIfInBounds_toArray, List.set_cons_zero, List.set_cons_succ]
      refine takeW (i := 3) (by simp only [List.getElem?_toArray, List.getElem?_cons_succ, List.getElem?_cons_zero]; exact rfl) (by kernel_rfl) (by kernel_rfl) (by kernel_rfl) (by exact fun _ _ _ h => h) (by rfl) (by intro wq hSw; have y0 := bat hSw g0; have z0 := bat hSw h0; have y1 := bat hSw g1; have z1 := bat hSw h1; have y2 := bat hSw g2; have z2 := bat hSw h2; have y3 := bat hSw g3; have z3 := bat hSw h3; have y4 := bat hSw g4; have z4 := bat hSw h4; have y5 := bat hSw g5; have z5 := bat hSw h5; have y6 := bat hSw g6; have z6 := bat hSw h6; go_simp <;> with_reducible rfl) (by assumption) ?_
      try simp only [Act.put, List.setIfInBounds_toArray, List.set_cons_zero, List.set_cons_succ]
      refine takeW (i := 4) (by simp only [List.getElem?_toArray, List.getElem?_cons_succ, List.getElem?_cons_zero]; exact rfl) (by kernel_rfl) (by kernel_rfl) (by kernel_rfl) (by exact fun _ _ _ h => h) (by rfl) (by intro wq hSw; go_simp <;> with_reducible rfl) (by assumption) ?_
      try simp only [Act.put, List.setIfInBounds_toArray, List.set_cons_zero, List.set_cons_succ]
      refine takeW (i := 5) (by simp only [List.getElem?_toArray, List.getElem?_cons_succ, List.getElem?_cons_zero]; exact rfl) (by kernel_rfl) (by kernel_rfl) (by kernel_rfl) (by exact fun _ _ _ h => h) (by rfl) (by intro wq hSw; go_simp <;> with_reducible rfl) (by assumption) ?_
      try simp only [Act.put, List.setIfInBounds_toArray, List.set_cons_zero, List.set_cons_succ]
      refine takeW (i := 6) (by simp only [List.getElem?_toArray, List.getElem?_cons_succ, List.getElem?_cons_zero]; exact rfl) (by kernel_rfl) (by kernel_rfl) (by kernel_rfl) (by exact fun _ _ _ h => h) (by rfl) (by intro wq hSw; go_simp <;> with_reducible rfl) (by assumption) ?_
      try simp only [Act.put, List.setIfInBounds_toArray, List.set_cons_zero, List.set_cons_succ]
      refine takeW (i := 7) (by simp only [List.getElem?_toArray, List.getElem?_cons_succ, List.getElem?_cons_zero]; exact rfl) (by kernel_rfl) (by kernel_rfl) (by kernel_rfl) (by exact fun _ _ _ h => h) (by rfl) (by intro wq hSw; have y0 := bat hSw g0; have z0 := bat hSw h0; have y1 := bat hSw g1; have z1 := bat hSw h1; have y2 := bat hSw g2; have z2 := bat hSw h2; have y3 := bat hSw g3; have z3 := bat hSw h3; have y4 := bat hSw g4; have z4 := bat hSw h4; have y5 := bat hSw g5; have z5 := bat hSw h5; have y6 := bat hSw g6; have z6 := bat hSw h6; go_simp <;> with_reducible rfl) (by assumption) ?_
      try simp only [Act.put, List.setIfInBounds_toArray, List.set_cons_zero, List.set_cons_succ]
      refine wpAnyH_ready (rs := [8]) (by kernel_rfl) (by simp) (AllReadyH.cons (by simp only [List.getElem?_toArray, List.getElem?_cons_succ, List.getElem?_cons_zero]; exact rfl) (fun K hK => ?_) AllReadyH.nil)
      go_simp
      refine (C.out _ N).mono ?_
      rintro e ww1 ⟨rfl, hb⟩
      replace N := N.trans (hb.mono N.size)
      clear hb
      refine hK.out _ _ N (fun hHeld => ?_)
      clear hK K hHeld
      try simp only [Act.put, List.setIfInBounds_toArray, List.set_cons_zero, List.set_cons_succ]
      refine takeW (i := 9) (by simp only [List.getElem?_toArray, List.getElem?_cons_succ, List.getElem?_cons_zero]; exact rfl) (by kernel_rfl) (by kernel_rfl) (by kernel_rfl) (by exact fun _ _ _ h => h) (by rfl) (by intro wq hSw; go_simp <;> with_reducible rfl) (by assumption) ?_
      try simp only [Act.put, List.setIfInBounds_toArray, List.set_cons_zero, List.set_cons_succ]
      refine wpAnyH_done (by kernel_rfl) ?_ _
      replace B := B.trans (N.mono B.size)
      clear N g0 g1 g2 g3 g4 g5 g6 h0 h1 h2 h3 h4 h5 h6 C
      go_wp2
      go_roundw
      case rel => exact ⟨j + 1, by omega, by go_num, B⟩
      case measure => simp [intOf]; omega
    · go_wp2
      go_ret
      exact ⟨rfl, B⟩

set_option maxRecDepth 20000 in
set_option maxHeartbeats 4000000 in
theorem eqNode_step (b : Bx) (bs : List Bx) (is : List Int) (ks : List Nd) (ih : EqsC ks) : EqC (.mk b bs is ks) := by
  intro v1 v2 v3 u1 u2 u3 w h k
  obtain ⟨a1, c1, a2, c2, a3, c3, rfl, rfl, rfl, s1, _, s2, _, s3⟩ := h.open
  obtain ⟨x1, x2, x3, x4⟩ := b
  simp only [Nd.bs, Nd.is, Nd.ks] at s1 s2 s3
  obtain ⟨b1, d1, b2, d2, b3, d3, rfl, rfl, rfl, t1, _, t2, _, t3⟩ := k.open
  simp only [Nd.bs, Nd.is, Nd.ks] at t1 t2 t3
  show Calls Tryz.prog 11 #[.agg #[.int .i64 x1, .int .i64 x2, .int .i64 x3, .int .i64 x4, .slice a1 bs.length c1, .slice a2 is.length c2, .slice a3 ks.length c3], .agg #[.int .i64 x1, .int .i64 x2, .int .i64 x3, .int .i64 x4, .slice b1 bs.length d1, .slice b2 is.length d2, .slice b3 ks.length d3]] w _
  have B := below2 w (.cells #[.int .i64 x1, .int .i64 x2, .int .i64 x3, .int .i64 x4, .slice a1 bs.length c1, .slice a2 is.length c2, .slice a3 ks.length c3] 32) (.cells #[.int .i64 x1, .int .i64 x2, .int .i64 x3, .int .i64 x4, .slice b1 bs.length d1, .slice b2 is.length d2, .slice b3 ks.length d3] 32)
  have V := (Sev.new w x1 x2 x3 x4 (.slice a1 bs.length c1) (.slice a2 is.length c2) (.slice a3 ks.length c3) 32).below (below1 _ (.cells #[.int .i64 x1, .int .i64 x2, .int .i64 x3, .int .i64 x4, .slice b1 bs.length d1, .slice b2 is.length d2, .slice b3 ks.length d3] 32))
  have U := Sev.new (w.alloc (.cells #[.int .i64 x1, .int .i64 x2, .int .i64 x3, .int .i64 x4, .slice a1 bs.length c1, .slice a2 is.length c2, .slice a3 ks.length c3] 32)) x1 x2 x3 x4 (.slice b1 bs.length d1) (.slice b2 is.length d2) (.slice b3 ks.length d3) 32
  rw [World.size_alloc] at U
  clear h k
  replace s1 := s1.below B
  replace s2 := s2.below B
  replace s3 := s3.below B
  replace t1 := t1.below B
  replace t2 := t2.below B
  replace t3 := t3.below B
  obtain ⟨⟨k0, k1, k2, k3⟩, k4, k5, k6⟩ := id V
  obtain ⟨⟨l0, l1, l2, l3⟩, l4, l5, l6⟩ := id U
  simp only [Nat.zero_add] at k0 k1 k2 k3 k4 k5 k6 l0 l1 l2 l3 l4 l5 l6
  go_enter Tryz.func11, Tryz.ntmps11
  go_wp2_with fail
  generalize (w.alloc (.cells #[.int .i64 x1, .int .i64 x2, .int .i64 x3, .int .i64 x4, .slice a1 bs.length c1, .slice a2 is.length c2, .slice a3 ks.length c3] 32)).alloc (.cells #[.int .i64 x1, .int .i64 x2, .int .i64 x3, .int .i64 x4, .slice b1 bs.length d1, .slice b2 is.length d2, .slice b3 ks.length d3] 32) = W0 at *
  refine (eqBox_any x1 x2 x3 x4 x1 x2 x3 x4 _).mono ?_
  rintro e w1 ⟨rfl, hb⟩
  rw [eqX_refl]
  replace V := V.below hb
  replace U := U.below hb
  replace s1 := s1.below hb
  replace s2 := s2.below hb
  replace s3 := s3.below hb
  replace t1 := t1.below hb
  replace t2 := t2.below hb
  replace t3 := t3.below hb
  replace B := B.trans (hb.mono B.size)
  clear hb k0 k1 k2 k3 k4 k5 k6 l0 l1 l2 l3 l4 l5 l6
  obtain ⟨⟨k0, k1, k2, k3⟩, k4, k5, k6⟩ := id V
  obtain ⟨⟨l0, l1, l2, l3⟩, l4, l5, l6⟩ := id U
  simp only [Nat.zero_add] at k0 k1 k2 k3 k4 k5 k6 l0 l1 l2 l3 l4 l5 l6
  go_wp2_with fail
  refine (eqBoxs a1 b1 c1 d1 bs _ s1 t1).mono ?_
  rintro e w2 ⟨rfl, hb⟩
  replace V := V.below hb
  replace U := U.below hb
  replace s2 := s2.below hb
  replace s3 := s3.below hb
  replace t2 := t2.below hb
  replace t3 := t3.below hb
  replace B := B.trans (hb.mono B.size)
  clear hb k0 k1 k2 k3 k4 k5 k6 l0 l1 l2 l3 l4 l5 l6
  obtain ⟨⟨k0, k1, k2, k3⟩, k4, k5, k6⟩ := id V
  obtain ⟨⟨l0, l1, l2, l3⟩, l4, l5, l6⟩ := id U
  simp only [Nat.zero_add] at k0 k1 k2 k3 k4 k5 k6 l0 l1 l2 l3 l4 l5 l6
  go_wp2_with fail
  refine (eqInts a2 b2 c2 d2 is _ s2 t2).mono ?_
  rintro e w3 ⟨rfl, hb⟩
  replace V := V.below hb
  replace U := U.below hb
  replace s3 := s3.below hb
  replace t3 := t3.below hb
  replace B := B.trans (hb.mono B.size)
  clear hb k0 k1 k2 k3 k4 k5 k6 l0 l1 l2 l3 l4 l5 l6
  obtain ⟨⟨k0, k1, k2, k3⟩, k4, k5, k6⟩ := id V
  obtain ⟨⟨l0, l1, l2, l3⟩, l4, l5, l6⟩ := id U
  simp only [Nat.zero_add] at k0 k1 k2 k3 k4 k5 k6 l0 l1 l2 l3 l4 l5 l6
  go_wp2_with fail
  refine (ih a3 b3 c3 d3 _ s3 t3).mono ?_
  rintro e w4 ⟨rfl, hb⟩
  replace B := B.trans (hb.mono B.size)
  clear hb k0 k1 k2 k3 k4 k5 k6 l0 l1 l2 l3 l4 l5 l6
  go_wp2
  go_ret
  exact ⟨rfl, B⟩
theorem eqNode_any : ∀ t, EqC t := Nd.ind (fun b bs is ks ih => eqNode_step b bs is ks (eqNodeS_step ih))
end Go.Proofs.YthompofbdjdloaaGreat
