/- The specification's helpers on trees: l15Leaf, l15Join, l15KidBoxes. -/
import Derived.Test.YthompofbdjdloaaGreatTrL
import Derived.Test.YthompofbdjdloaaGreatBoxN
import Derived.Test.YthompofbdjdloaaGreatBxR
import Derived.Test.YthompofbdjdloaaGreatHeld
import Derived.Deep.Cut
import Derived.Deep.DeepCutAuto
namespace Go.Proofs.YthompofbdjdloaaGreat
open Go.RowKit

/-- Two boxes joined, as the specification has it. -/
def jnB (x y : Bx) : Bx := (oA x.1 x.2.1 x.2.2.1 x.2.2.2 y.1 y.2.1 y.2.2.1 y.2.2.2, oB x.1 x.2.1 x.2.2.1 x.2.2.2 y.1 y.2.1 y.2.2.1 y.2.2.2, oC x.1 x.2.1 x.2.2.1 x.2.2.2 y.1 y.2.1 y.2.2.1 y.2.2.2, oD x.1 x.2.1 x.2.2.1 x.2.2.2 y.1 y.2.1 y.2.2.1 y.2.2.2)
/-- The first boxes joined. -/
def jnU (bs : List Bx) : Nat → Bx
  | 0 => (0, 0, 0, 0)
  | 1 => bxAt bs 0
  | j + 2 => jnB (jnU bs (j + 1)) (bxAt bs (j + 1))
def jnS (bs : List Bx) : Bx := jnU bs bs.length
theorem fourW {w : World} {p q k : Nat} (ne : q ≠ p) (u0 u1 u2 u3 : Value) : ((((w.setCell ⟨p, 0, none⟩ u0).setCell ⟨p, 1, none⟩ u1).setCell ⟨p, 2, none⟩ u2).setCell ⟨p, 3, none⟩ u3).cell? ⟨q, k, none⟩ = w.cell? ⟨q, k, none⟩ :=
  (cell_other (.inl (Ne.symm ne)) u3).trans ((cell_other (.inl (Ne.symm ne)) u2).trans ((cell_other (.inl (Ne.symm ne)) u1).trans (cell_other (.inl (Ne.symm ne)) u0)))
/-- A box's value. -/
def bxV (x : Bx) : Value := .agg #[.int .i64 x.1, .int .i64 x.2.1, .int .i64 x.2.2.1, .int .i64 x.2.2.2]

set_option maxRecDepth 20000 in
theorem l15Leaf_any (t : Nd) (v1 v2 v3 : Value) (w : World) (h : NdIn 0 w t v1 v2 v3) :
    Calls Tryz.prog 85 #[ndV t v1 v2 v3] w fun e w' => e = .returned (.bool (decide (t.ks = []))) ∧ Below w.heap.size w w' := by
  obtain ⟨b, bs, is, ks⟩ := t
  obtain ⟨a1, c1, a2, c2, a3, c3, rfl, rfl, rfl, s1, _, s2, _, s3⟩ := h.open
  obtain ⟨x1, x2, x3, x4⟩ := b
  simp only [Nd.bs, Nd.is, Nd.ks] at s1 s2 s3
  have l3 := lenN s3
  have B := below1 w (.cells #[.int .i64 x1, .int .i64 x2, .int .i64 x3, .int .i64 x4, .slice a1 bs.length c1, .slice a2 is.length c2, .slice a3 ks.length c3] 32)
  have V := Sev.new w x1 x2 x3 x4 (.slice a1 bs.length c1) (.slice a2 is.length c2) (.slice a3 ks.length c3) 32
  obtain ⟨_, k4, k5, k6⟩ := id V
  simp only [Nat.zero_add] at k4 k5 k6
  show Calls Tryz.prog 85 #[.agg #[.int .i64 x1, .int .i64 x2, .int .i64 x3, .int .i64 x4, .slice a1 bs.length c1, .slice a2 is.length c2, .slice a3 ks.length c3]] w fun e w' => e = .returned (.bool (decide (ks = []))) ∧ Below w.heap.size w w'
  have e : Hid (decide (ks = []) = ((ks.length : Int) == 0)) := by
    show _ = _
    rw [Bool.eq_iff_iff]
    simp
  obtain ⟨f, hf⟩ : ∃ f, ((ks.length : Int) == 0) = f := ⟨_, rfl⟩
  go_enter Tryz.func85, Tryz.ntmps85
  go_wp2
  go_ret
  exact ⟨by rw [e.out, hf]; rfl, B⟩

set_option maxRecDepth 20000 in
set_option maxHeartbeats 4000000 in
theorem l15Join_any (a : Option Addr) (c : Nat) (bs : List Bx) (w : World) (h : SeesX w a c bs) :
    Calls Tryz.prog 86 #[.slice a bs.length c] w fun e w' => e = .returned (bxV (jnS bs)) ∧ Below w.heap.size w w' := by
  have hm := lenX h
  have B0 := below2 w (.cells #[.int .i64 0, .int .i64 0, .int .i64 0, .int .i64 0] 28) (.cells #[.int .i64 0, .int .i64 0, .int .i64 0, .int .i64 0] 28)
  have RR := (Box4.new w (lo := w.heap.size) (Nat.le_refl _) (.int .i64 0) (.int .i64 0) (.int .i64 0) (.int .i64 0) 28).below (below1 _ (.cells #[.int .i64 0, .int .i64 0, .int .i64 0, .int .i64 0] 28))
  have O := Box4.new (w.alloc (.cells #[.int .i64 0, .int .i64 0, .int .i64 0, .int .i64 0] 28)) (lo := w.heap.size) (by simp) (.int .i64 0) (.int .i64 0) (.int .i64 0) (.int .i64 0) 28
  rw [World.size_alloc] at O
  go_enter Tryz.func86, Tryz.ntmps86
  go_wp2
  generalize (w.alloc (.cells #[.int .i64 0, .int .i64 0, .int .i64 0, .int .i64 0] 28)).alloc (.cells #[.int .i64 0, .int .i64 0, .int .i64 0, .int .i64 0] 28) = W0 at *
  go_loopw [4] (fun s4 wr => ∃ (j : Nat) (y : Bx), j ≤ bs.length ∧ s4 = .int .i64 j ∧ Hid (jnU bs j = y) ∧ Box4 w.heap.size wr (w.heap.size + 1) (.int .i64 y.1) (.int .i64 y.2.1) (.int .i64 y.2.2.1) (.int .i64 y.2.2.2) ∧ Box4 w.heap.size wr w.heap.size (.int .i64 0) (.int .i64 0) (.int .i64 0) (.int .i64 0) ∧ Below w.heap.size w wr) (fun s4 _ => bs.length - (intOf s4).toNat)
  case atStart => exact ⟨0, (0, 0, 0, 0), Nat.zero_le _, rfl, rfl, O, RR, B0⟩
  case round =>
    clear O RR B0
    obtain ⟨j, y, hj, rfl, J, O, RR, B⟩ := hrel
    rename World => wr
    obtain ⟨y1, y2, y3, y4⟩ := y
    dsimp only at O
    by_cases hlt : j < bs.length
    · obtain ⟨b1, o1, rfl, hc⟩ := (h.below B).cells (by intro e; simp [e] at hlt)
      have hb1 : b1 < w.heap.size := by
        obtain ⟨b2, o2, e2, hc2⟩ := h.cells (by intro e; simp [e] at hlt)
        injection e2 with e2; injection e2 with e2
        have q : b2 < w.heap.size := World.block_lt_of_cell? _ _ (hc2 j hlt).1
        omega
      by_cases h0 : j = 0
      · subst h0
        obtain ⟨g1, g2, g3, g4⟩ := hc 0 hlt
        have HJ : Hid (jnU bs (0 + 1) = bxAt bs 0) := (rfl : jnU bs 1 = _)
        generalize bxAt bs 0 = x at *
        obtain ⟨x1, x2, x3, x4⟩ := x
        dsimp only at g1 g2 g3 g4
        simp only [Nat.zero_mul, Nat.add_zero] at g1 g2 g3 g4
        obtain ⟨z0, z1, z2, z3, zf, _⟩ := id O
        have O' := O.put (.int .i64 x1) (.int .i64 x2) (.int .i64 x3) (.int .i64 x4)
        have RR' := RR.old (p := w.heap.size + 1) (by omega) (.int .i64 x1) (.int .i64 x2) (.int .i64 x3) (.int .i64 x4)
        have B' := Box4.chain B O (.int .i64 x1) (.int .i64 x2) (.int .i64 x3) (.int .i64 x4)
        clear hc O RR B
        go_wp2
        go_roundw
        case rel => exact ⟨1, (x1, x2, x3, x4), by omega, rfl, HJ, O', RR', B'⟩
        case measure => simp [intOf]; omega
      · have e0 : ((j : Int) == 0) = false := by simp; omega
        obtain ⟨g1, g2, g3, g4⟩ := hc j hlt
        have HJ : Hid (jnU bs (j + 1) = jnB (y1, y2, y3, y4) (bxAt bs j)) := by
          obtain ⟨i, rfl⟩ : ∃ i, j = i + 1 := ⟨j - 1, by omega⟩
          show jnB (jnU bs (i + 1)) _ = _
          rw [J.out]
        generalize bxAt bs j = x at *
        obtain ⟨x1, x2, x3, x4⟩ := x
        dsimp only at g1 g2 g3 g4
        have H : Four wr b1 (o1 + j * 4) (x1, x2, x3, x4) := ⟨g1, g2, g3, g4⟩
        clear hc g1 g2 g3 g4
        obtain ⟨n, HN⟩ : ∃ n, Hid (jnB (y1, y2, y3, y4) (x1, x2, x3, x4) = n) := ⟨_, rfl⟩
        obtain ⟨n1, n2, n3, n4⟩ := n
        have HN' : Hid (oA y1 y2 y3 y4 x1 x2 x3 x4 = n1 ∧ oB y1 y2 y3 y4 x1 x2 x3 x4 = n2 ∧ oC y1 y2 y3 y4 x1 x2 x3 x4 = n3 ∧ oD y1 y2 y3 y4 x1 x2 x3 x4 = n4) := by
          have := HN.out
          unfold jnB at this
          simp only [Prod.mk.injEq] at this
          exact this
        go_upto_region 7 with fail
        have N : Below wr.heap.size wr wr.drew := (Below.refl _ _).drew
        replace H := H.below N
        replace B := B.drew
        replace O := O.below N
        replace RR := RR.below N
        refine wp_region_held_drew (S := fun w' => Four w' b1 (o1 + j * 4) (x1, x2, x3, x4)) (by kernel_rfl) H (fun hHeld => ?_)
        clear hHeld
        generalize wr.drew = ww0 at *
        refine takeW (i := 1) (by simp only [List.getElem?_toArray, List.getElem?_cons_succ, List.getElem?_cons_zero]; exact rfl) (by kernel_rfl) (by kernel_rfl) (by kernel_rfl) (by exact fun _ _ _ h => h) (by rfl) (by intro wq hSw; go_simp <;> with_reducible rfl) (by assumption) ?_
        try simp only [Act.put, List.setIfInBounds_toArray, List.set_cons_zero, List.set_cons_succ]
        refine takeW (i := 2) (by simp only [List.getElem?_toArray, List.getElem?_cons_succ, List.getElem?_cons_zero]; exact rfl) (by kernel_rfl) (by kernel_rfl) (by kernel_rfl) (by exact fun _ _ _ h => h) (by rfl) (by intro wq hSw; go_simp <;> with_reducible rfl) (by assumption) ?_
        try simp only [Act.put, List.setIfInBounds_toArray, List.set_cons_zero, List.set_cons_succ]
        refine takeW (i := 3) (by simp only [List.getElem?_toArray, List.getElem?_cons_succ, List.getElem?_cons_zero]; exact rfl) (by kernel_rfl) (by kernel_rfl) (by kernel_rfl) (by exact fun _ _ _ h => h) (by rfl) (by intro wq hSw; go_simp <;> with_reducible rfl) (by assumption) ?_
        try simp only [Act.put, List.setIfInBounds_toArray, List.set_cons_zero, List.set_cons_succ]
        refine takeW (i := 4) (by simp only [List.getElem?_toArray, List.getElem?_cons_succ, List.getElem?_cons_zero]; exact rfl) (by kernel_rfl) (by kernel_rfl) (by kernel_rfl) (by exact fun _ _ _ h => h) (by rfl) (by intro wq hSw; have y0 := hSw.1; have y5 := hSw.2.1; have y6 := hSw.2.2.1; have y7 := hSw.2.2.2; go_simp <;> with_reducible rfl) (by assumption) ?_
        try simp only [Act.put, List.setIfInBounds_toArray, List.set_cons_zero, List.set_cons_succ]
        refine wpAnyH_ready (rs := [0]) (by kernel_rfl) (by simp) (AllReadyH.cons (by simp only [List.getElem?_toArray, List.getElem?_cons_zero]; exact rfl) (fun K hK => ?_) AllReadyH.nil)
        have z0 := O.c0
        have z1 := O.c1
        have z2 := O.c2
        have z3 := O.c3
        go_simp
        clear z0 z1 z2 z3
        refine hK.out _ _ H (fun hHeld => ?_)
        clear hK K hHeld
        try simp only [Act.put, List.setIfInBounds_toArray, List.set_cons_zero, List.set_cons_succ]
        refine wpAnyH_ready (rs := [5]) (by kernel_rfl) (by simp) (AllReadyH.cons (by simp only [List.getElem?_toArray, List.getElem?_cons_succ, List.getElem?_cons_zero]; exact rfl) (fun K hK => ?_) AllReadyH.nil)
        go_simp
        refine (specJoin y1 y2 y3 y4 x1 x2 x3 x4 _).mono ?_
        rintro e ww1 ⟨rfl, hb⟩
        rw [HN'.out.1, HN'.out.2.1, HN'.out.2.2.1, HN'.out.2.2.2]
        replace O := O.below hb
        replace RR := RR.below hb
        replace H := H.below hb
        replace B := B.trans (hb.mono B.size)
        clear hb
        refine hK.out _ _ H (fun hHeld => ?_)
        clear hK K hHeld
        try simp only [Act.put, List.setIfInBounds_toArray, List.set_cons_zero, List.set_cons_succ]
        refine wpAnyH_ready (rs := [6]) (by kernel_rfl) (by simp) (AllReadyH.cons (by simp only [List.getElem?_toArray, List.getElem?_cons_succ, List.getElem?_cons_zero]; exact rfl) (fun K hK => ?_) AllReadyH.nil)
        have z0 := O.c0
        have z1 := O.c1
        have z2 := O.c2
        have z3 := O.c3
        have zf := O.fr
        go_simp
        clear z0 z1 z2 z3 zf
        replace B := Box4.chain B O (.int .i64 n1) (.int .i64 n2) (.int .i64 n3) (.int .i64 n4)
        replace RR := RR.old (p := w.heap.size + 1) (by omega) (.int .i64 n1) (.int .i64 n2) (.int .i64 n3) (.int .i64 n4)
        replace O := O.put (.int .i64 n1) (.int .i64 n2) (.int .i64 n3) (.int .i64 n4)
        replace H : Four _ b1 (o1 + j * 4) (x1, x2, x3, x4) := ⟨(fourW (p := w.heap.size + 1) (by omega) (.int .i64 n1) (.int .i64 n2) (.int .i64 n3) (.int .i64 n4)).trans H.1, (fourW (p := w.heap.size + 1) (by omega) (.int .i64 n1) (.int .i64 n2) (.int .i64 n3) (.int .i64 n4)).trans H.2.1, (fourW (p := w.heap.size + 1) (by omega) (.int .i64 n1) (.int .i64 n2) (.int .i64 n3) (.int .i64 n4)).trans H.2.2.1, (fourW (p := w.heap.size + 1) (by omega) (.int .i64 n1) (.int .i64 n2) (.int .i64 n3) (.int .i64 n4)).trans H.2.2.2⟩
        refine hK.out _ _ H (fun hHeld => ?_)
        clear hK K hHeld
        try simp only [Act.put, List.setIfInBounds_toArray, List.set_cons_zero, List.set_cons_succ]
        refine wpAnyH_done (by kernel_rfl) ?_ _
        go_wp2
        go_roundw
        case rel => exact ⟨j + 1, (n1, n2, n3, n4), by omega, by go_num, HJ.out.trans HN.out, O, RR, B⟩
        case measure => simp [intOf]; omega
    · obtain rfl : j = bs.length := by omega
      have HV : Hid (bxV (jnS bs) = .agg #[.int .i64 y1, .int .i64 y2, .int .i64 y3, .int .i64 y4]) := by
        show bxV (jnU bs bs.length) = _
        rw [J.out]
        rfl
      obtain ⟨z0, z1, z2, z3, zf, _⟩ := id O
      obtain ⟨r0, r1, r2, r3, rf, _⟩ := id RR
      have RR' := RR.put (.int .i64 y1) (.int .i64 y2) (.int .i64 y3) (.int .i64 y4)
      have B' := Box4.chain B RR (.int .i64 y1) (.int .i64 y2) (.int .i64 y3) (.int .i64 y4)
      have q0 := RR'.c0
      have q1 := RR'.c1
      have q2 := RR'.c2
      have q3 := RR'.c3
      clear O RR B J RR'
      go_wp2
      exact bodyPost_ret (v := .agg #[.int .i64 y1, .int .i64 y2, .int .i64 y3, .int .i64 y4]) (by simp [results, Tryz.results86, go_sem, q0, q1, q2, q3]) rfl ⟨by rw [HV.out], B'⟩

set_option maxRecDepth 20000 in
set_option maxHeartbeats 4000000 in
theorem l15KidBoxes_any {lo : Nat} (a : Option Addr) (c : Nat) (ks : List Nd) (w : World) (h : NdsIn lo w a c ks) (hl : ks.length ≤ 1000) :
    Calls Tryz.prog 87 #[.slice a ks.length c] w fun e w' => ∃ a' c', e = .returned (.slice a' ks.length c') ∧ SeesX w' a' c' (ks.map Nd.b) ∧ Below w.heap.size w w' := by
  have hm := lenN h
  obtain ⟨iX, hiX, hx0, hx1, hx2⟩ := info_parts infoX
  have R0 := RowBx.empty w (base := w.heap.size) (Nat.le_refl _)
  have B0 := below1 w (.cells #[] 28)
  go_enter Tryz.func87, Tryz.ntmps87
  go_wp2
  go_loopw [3, 4] (fun s3 s4 wr => ∃ (j : Nat) (bs : List Bx), j ≤ ks.length ∧ s4 = .int .i64 j ∧ Hid (bs = (ks.take j).map Nd.b) ∧ Hid (bs.length = j) ∧ Hid (RowBx w.heap.size wr s3 bs) ∧ Below w.heap.size w wr) (fun _ s4 _ => ks.length - (intOf s4).toNat)
  case atStart => exact ⟨0, [], Nat.zero_le _, rfl, rfl, rfl, R0, B0⟩
  case round =>
    clear R0 B0
    obtain ⟨j, bs, hj, rfl, E, L, RR, B⟩ := hrel
    rename World => wr
    by_cases hlt : j < ks.length
    · obtain ⟨p, o, rfl, hc⟩ := (h.below B).cells (by intro e; simp [e] at hlt)
      obtain ⟨v1, v2, v3, ⟨⟨g0, g1, g2, g3⟩, _, _, _⟩, _⟩ := hc j hlt
      have HE : Hid (bs ++ [(ndA ks j).b] = (ks.take (j + 1)).map Nd.b) := by
        show _ = _
        rw [E.out, List.take_add_one, List.getElem?_eq_getElem hlt, List.map_append]
        unfold ndA
        rw [List.getElem?_eq_getElem hlt]
        rfl
      clear hc E
      obtain ⟨⟨x1, x2, x3, x4⟩, ux⟩ : ∃ x, Hid ((ndA ks j).b = x) := ⟨_, rfl⟩
      rw [ux.out] at g0 g1 g2 g3 HE
      dsimp only at g0 g1 g2 g3
      have hb := below1 wr (.cells #[.int .i64 x1, .int .i64 x2, .int .i64 x3, .int .i64 x4] 28)
      have NW := box_new wr 28 x1 x2 x3 x4
      have R2 : RowBx w.heap.size (wr.alloc (.cells #[.int .i64 x1, .int .i64 x2, .int .i64 x3, .int .i64 x4] 28)) _ bs := owns_below RR.out hb
      have hl' : bs.length ≤ 1000 := by have := L.out; omega
      have B3 := B.trans (hb.mono B.size)
      have hz : w.heap.size ≤ (wr.alloc (.cells #[.int .i64 x1, .int .i64 x2, .int .i64 x3, .int .i64 x4] 28)).heap.size := B3.size
      clear RR hb B
      go_wp2_with (at_builtin; refine wpList_append_own_at _ rfl (.tmp 12) (.tmp 18) 29 rfl w.heap.size 28 iX (.agg #[.int .i64 0, .int .i64 0, .int .i64 0, .int .i64 0]) 4 32 Tryz.underlying29 hiX hx0 hx1 hx2 rfl (by decide) u3 bs.length (boxC bs) rfl R2 ⟨wr.heap.size, 0, none⟩ 1 _ (boxC [(x1, x2, x3, x4)]) rfl rfl NW (boxC_ones _) (by unfold maxLen; omega) (by omega) hz ?_; intro v7 w7 R8 G7 nil7 _; replace R8 := RowBx.snoc R8; clear nil7)
      have B8 := B3.grown G7 B3.size (fun k e => (World.ownsRow.lt R2 _ e).1)
      go_roundw
      case rel => exact ⟨j + 1, _, by omega, by go_num, HE, (by show _ = _; rw [List.length_append, List.length_singleton, L.out]), R8, B8⟩
      case measure => simp [intOf]; omega
    · obtain rfl : j = ks.length := by omega
      obtain ⟨a', c', rfl, SX⟩ := RR.out.sees
      have F : Hid (SeesX wr a' c' (ks.map Nd.b)) := by have e := E.out; rw [List.take_length] at e; rw [← e]; exact SX
      have e2 := L.out
      rw [e2]
      clear SX E L RR e2
      go_wp2
      go_ret
      exact ⟨a', c', rfl, F.out, B⟩
end Go.Proofs.YthompofbdjdloaaGreat
