/- The specification's copy of a shape: l5Copy, with what stands in it. -/
import Derived.Test.YtakfjpenpnjlhaaShR
namespace Go.Proofs.Ytakfjpenpnjlhaa
open Go.RowKit

set_option maxRecDepth 20000 in
set_option maxHeartbeats 4000000 in
theorem l5CopyR (k : Int) (a : Option Addr) (c : Nat) (rs : List (List (Int × Int))) (w : World) (h : SeesS w a c rs) (hm' : Somes w a rs.length) (hs : upto rs rs.length ≤ 1048576) :
    Calls Try.prog 33 #[.agg #[.int .i64 k, .slice a rs.length c]] w fun e w' => ∃ v vs, e = .returned (.agg #[.int .i64 k, v]) ∧ ShR w.heap.size w' v vs rs ∧ Below w.heap.size w w' := by
  obtain ⟨iP, hiP, hP0, hP1, hP2⟩ := info_parts infoPt
  obtain ⟨iR, hiR, hR0, hR1, hR2⟩ := info_parts infoR'
  have hm := h.max
  have hf := h.fits
  unfold maxLen at hm
  have hn : rs.length ≤ 1048576 := by have := upto_le rs 0 rs.length; simp only [upto, Nat.zero_add] at this; omega
  have HS : Hid (upto rs rs.length ≤ 1048576) := hs
  have HM : Hid (Somes w a rs.length) := hm'
  have b1 := below1 w (.cells #[.int .i64 k, .slice a rs.length c] 31)
  have V1 := Box2.new w (lo := w.heap.size) (Nat.le_refl _) (.int .i64 k) (.slice a rs.length c) 31
  have b2 := below1 (w.alloc (.cells #[.int .i64 k, .slice a rs.length c] 31)) (.cells #[.int .i64 0, .slice none 0 0] 31)
  have V2 := Box2.new (w.alloc (.cells #[.int .i64 k, .slice a rs.length c] 31)) (lo := w.heap.size) (by simp) (.int .i64 0) (.slice none 0 0) 31
  rw [World.size_alloc] at V2
  have z2 : ((w.alloc (.cells #[.int .i64 k, .slice a rs.length c] 31)).alloc (.cells #[.int .i64 0, .slice none 0 0] 31)).heap.size = w.heap.size + 2 := by simp
  have B2 := b1.trans (b2.mono b1.size)
  replace V1 := V1.below b2
  have S2 := h.below B2
  have HH : Hid (SeesS w a c rs) := h
  clear b1 b2 hs hm' h
  go_enter Try.func33, Try.ntmps33
  go_upto_region 1 with fail
  generalize (w.alloc (.cells #[.int .i64 k, .slice a rs.length c] 31)).alloc (.cells #[.int .i64 0, .slice none 0 0] 31) = W0 at *
  obtain ⟨t0, t1, _, _⟩ := id V1
  have b3 := below1 W0 (.cells #[.int .i64 k, .slice none 0 0] 31)
  have V3 := Box2.new W0 (lo := w.heap.size) (by omega) (.int .i64 k) (.slice none 0 0) 31
  rw [z2] at V3
  have z3 : (W0.alloc (.cells #[.int .i64 k, .slice none 0 0] 31)).heap.size = w.heap.size + 3 := by rw [World.size_alloc, z2]
  have B3 := B2.trans (b3.mono B2.size)
  replace V1 := V1.below b3
  replace V2 := V2.below b3
  clear S2 B2 b3
  go_wp2
  clear t0 t1
  generalize W0.alloc (.cells #[.int .i64 k, .slice none 0 0] 31) = W1 at *
  have R0 := ShR.nil W1.heap.size W1
  go_loopw [4] (fun s4 wr => ∃ (j : Nat) (v : Value) (vs : List Value), j ≤ rs.length ∧ s4 = .int .i64 j ∧ ShR W1.heap.size wr v vs (rs.take j) ∧ Box2 w.heap.size wr (w.heap.size + 2) (.int .i64 k) v ∧ W1.grownBy wr (some (w.heap.size + 2))) (fun s4 _ => rs.length - (intOf s4).toNat)
  case atStart => exact ⟨0, _, [], Nat.zero_le _, rfl, R0, V3, grownBy_refl _ _⟩
  case round =>
    clear R0 V3
    obtain ⟨j, v, vs, hj, rfl, RR, VV, G⟩ := hrel
    rename World => wr
    have t1 := cell_drawn G V1.c1 (by omega)
    have hzr : W1.heap.size ≤ wr.heap.size := G.size
    by_cases hlt : j < rs.length
    · obtain ⟨b, off, rfl, hc⟩ := HH.out.cells (by intro e; simp [e] at hlt)
      obtain ⟨a', c', g0, PP⟩ := hc j hlt
      obtain ⟨b9, o9, e9, hsm⟩ := HM.out
      simp only [Option.some.injEq, Addr.mk.injEq] at e9
      obtain ⟨rfl, rfl, _⟩ := e9
      obtain ⟨ad, e8⟩ : ∃ ad, a' = some ad := by
        obtain ⟨ad, l, c2, q⟩ := hsm j hlt
        rw [g0] at q
        injection q with q
        injection q with q
        exact ⟨ad, q⟩
      subst e8
      have hvl : Hid (vs.length = j) := by have := RR.len.out; rw [List.length_take] at this; show _ = _; omega
      have hle := row_le rs hlt
      have l1 : (rowA rs j).length ≤ 1048576 := by have := HS.out; omega
      have TK : Hid (rs.take (j + 1) = rs.take j ++ [rowA rs j]) := rowA_take hlt
      have hbl : b < w.heap.size := World.block_lt_of_cell? w ⟨b, off + j, none⟩ g0
      have t2 := cell_drawn G (bat B3 g0) (by omega)
      have P3 := (PP.below B3).drawnA G (fun b2 o2 e hn => by
        obtain ⟨b3, o3, e3, hpc⟩ := PP.cells hn
        rw [e3] at e
        injection e with e
        injection e with e
        have := World.block_lt_of_cell? w ⟨b3, o3 + 0 * 2, none⟩ (hpc 0 (List.length_pos_iff.2 hn)).1
        simp only at this
        omega)
      have PM := PP.max
      have PF := PP.fits
      unfold maxLen at PM
      obtain ⟨va, vc, rfl, vf, vm⟩ := RR.shape
      obtain ⟨y0, y1, yf, _⟩ := id VV
      clear hc hsm PP g0 hle
      generalize rowA rs j = ps at *
      go_wp2_with fail
      have bd := ((Below.refl wr.heap.size wr).drew : Below wr.heap.size wr _)
      have N : wr.drew.cell? ⟨w.heap.size, 1, none⟩ = some (.slice (some ⟨b, off, none⟩) rs.length c) ∧ wr.drew.cell? ⟨b, off + j, none⟩ = some (.slice (some ad) ps.length c') := ⟨t1, t2⟩
      replace RR := RR.below bd
      replace VV := VV.below bd
      replace P3 := P3.below bd
      replace G := grownBy_drew G
      clear bd y0 y1 yf t1 t2
      refine wp_region_held_drew (S := fun W => W.cell? ⟨w.heap.size, 1, none⟩ = some (.slice (some ⟨b, off, none⟩) rs.length c) ∧ W.cell? ⟨b, off + j, none⟩ = some (.slice (some ad) ps.length c')) (by kernel_rfl) N (fun hHeld => ?_)
      clear hHeld
      have hzd : W1.heap.size ≤ wr.drew.heap.size := G.size
      revert N RR VV P3 G hzd
      generalize wr.drew = ww0
      intro N RR VV P3 G hzd
      refine takeW (i := 0) (by simp only [List.getElem?_toArray, List.getElem?_cons_zero]; exact rfl) (by kernel_rfl) (by kernel_rfl) (by kernel_rfl) (by exact fun _ _ _ h => h) (by rfl) (by intro wq hSw; go_simp <;> with_reducible rfl) (by assumption) ?_
      try simp only [Act.put, List.setIfInBounds_toArray, List.set_cons_zero, List.set_cons_succ]
      refine takeW (i := 3) (by simp only [List.getElem?_toArray, List.getElem?_cons_succ, List.getElem?_cons_zero]; exact rfl) (by kernel_rfl) (by kernel_rfl) (by kernel_rfl) (by exact fun _ _ _ h => h) (by rfl) (by intro wq hSw; go_simp <;> with_reducible rfl) (by assumption) ?_
      try simp only [Act.put, List.setIfInBounds_toArray, List.set_cons_zero, List.set_cons_succ]
      refine takeW (i := 4) (by simp only [List.getElem?_toArray, List.getElem?_cons_succ, List.getElem?_cons_zero]; exact rfl) (by kernel_rfl) (by kernel_rfl) (by kernel_rfl) (by exact fun _ _ _ h => h) (by rfl) (by intro wq hSw; obtain ⟨p1, p2⟩ := hSw; go_simp <;> with_reducible rfl) (by assumption) ?_
      try simp only [Act.put, List.setIfInBounds_toArray, List.set_cons_zero, List.set_cons_succ]
      refine takeW (i := 5) (by simp only [List.getElem?_toArray, List.getElem?_cons_succ, List.getElem?_cons_zero]; exact rfl) (by kernel_rfl) (by kernel_rfl) (by kernel_rfl) (by exact fun _ _ _ h => h) (by rfl) (by intro wq hSw; go_simp <;> with_reducible rfl) (by assumption) ?_
      try simp only [Act.put, List.setIfInBounds_toArray, List.set_cons_zero, List.set_cons_succ]
      refine takeW (i := 6) (by simp only [List.getElem?_toArray, List.getElem?_cons_succ, List.getElem?_cons_zero]; exact rfl) (by kernel_rfl) (by kernel_rfl) (by kernel_rfl) (by exact fun _ _ _ h => h) (by rfl) (by intro wq hSw; go_simp <;> with_reducible rfl) (by assumption) ?_
      try simp only [Act.put, List.setIfInBounds_toArray, List.set_cons_zero, List.set_cons_succ]
      refine takeW (i := 7) (by simp only [List.getElem?_toArray, List.getElem?_cons_succ, List.getElem?_cons_zero]; exact rfl) (by kernel_rfl) (by kernel_rfl) (by kernel_rfl) (by exact fun _ _ _ h => h) (by rfl) (by intro wq hSw; obtain ⟨p1, p2⟩ := hSw; go_simp <;> with_reducible rfl) (by assumption) ?_
      try simp only [Act.put, List.setIfInBounds_toArray, List.set_cons_zero, List.set_cons_succ]
      refine wpAnyH_ready (rs := [1, 2]) (by kernel_rfl) (by simp) (AllReadyH.cons (by simp only [List.getElem?_toArray, List.getElem?_cons_succ, List.getElem?_cons_zero]; exact rfl) (fun K hK => ?_) (AllReadyH.cons (by simp only [List.getElem?_toArray, List.getElem?_cons_succ, List.getElem?_cons_zero]; exact rfl) (fun K hK => ?_) AllReadyH.nil))
      · have y1 := VV.c1
        go_simp
        refine hK.out _ _ N (fun hHeld => ?_)
        clear hK K hHeld y1
        try simp only [Act.put, List.setIfInBounds_toArray, List.set_cons_zero, List.set_cons_succ]
        refine wpAnyH_ready (rs := [2]) (by kernel_rfl) (by simp) (AllReadyH.cons (by simp only [List.getElem?_toArray, List.getElem?_cons_succ, List.getElem?_cons_zero]; exact rfl) (fun K hK => ?_) AllReadyH.nil)
        go_simp
        have bn := below1 ww0 (.cells #[] 76)
        have RE := RowPt.empty ww0 (base := W1.heap.size) hzd
        have N1 : _ ∧ _ := ⟨bat bn N.1, bat bn N.2⟩
        have nq : ∀ k, (Value.slice va vs.length vc).ownBlock = some k → k < ww0.heap.size := fun k hk => (World.ownsRow.lt RR.own k hk).2
        have nr : ∀ x ∈ vs, ∀ k, x.ownBlock = some k → k < ww0.heap.size := fun x hx k hk => by exact (RR.lts.2 x hx k hk).2
        replace RR := RR.below bn
        replace VV := VV.below bn
        replace P3 := P3.below bn
        replace G := grown_alloc G (.cells #[] 76)
        have hz1 := bn.size
        refine hK.out _ _ N1 (fun hHeld => ?_)
        clear hK K hHeld bn N
        try simp only [Act.put, List.setIfInBounds_toArray, List.set_cons_zero, List.set_cons_succ]
        generalize hz9 : ww0.heap.size = z9 at *
        generalize ww0.alloc (.cells #[] 76) = ww1 at *
        refine wpAnyH_ready (rs := [8]) (by kernel_rfl) (by simp) (AllReadyH.cons (by simp only [List.getElem?_toArray, List.getElem?_cons_succ, List.getElem?_cons_zero]; exact rfl) (fun K hK => ?_) AllReadyH.nil)
        refine wp_append_at (.tmp 17) (.tmp 22) 73 rfl W1.heap.size 76 iP (.agg #[.int .i64 0, .int .i64 0]) 2 16 Try.underlying73 hiP hP0 hP1 hP2 rfl (by decide) (.slice (some ⟨z9, 0, none⟩) 0 0) 0 [] rfl RE ad ps.length _ (ptC ps) rfl (ptC_len _) P3.newsA (ptC_ones _) (by unfold maxLen; omega) (by omega) (by omega) ?_
        intro u2 w2 R2 G2 A2
        rw [Nat.zero_add, List.nil_append] at R2
        replace R2 : RowPt W1.heap.size w2 u2 ps := R2
        obtain ⟨a5, c5, e5, _, _⟩ := R2.shape
        subst e5
        have G2' : ww1.grownBy w2 (some z9) := G2
        replace RR := RR.kept G2' (fun k hk e => by have := nq k hk; injection e with e; omega) (fun x hx k hk e => by have := nr x hx k hk; injection e with e; omega)
        replace VV := VV.grown G2' (by omega)
        have N2 : _ ∧ _ := ⟨cell_drawn G2' N1.1 (by omega), cell_drawn G2' N1.2 (by omega)⟩
        replace G : W1.grownBy w2 (some (w.heap.size + 2)) := ⟨G2'.os.trans G.os, G2'.tape.trans G.tape, G2'.output.trans G.output, Nat.le_trans G.size G2'.size, fun i hi hr => (G2'.block i (Nat.lt_of_lt_of_le hi G.size) (fun e => by injection e with e; omega)).trans (G.block i hi hr)⟩
        have uo : ∀ k, (Value.slice a5 ps.length c5).ownBlock = some k → z9 ≤ k := fun k hk => by
          rcases A2 with e | e
          · rw [e] at hk; injection hk with hk; show z9 ≤ k; rw [← hk]; exact Nat.le_refl _
          · rw [e] at hk; injection hk with hk; omega
        have hz2 := G2'.size
        refine hK.out _ _ N2 (fun hHeld => ?_)
        clear hK K hHeld G2 A2 N1 RE P3
        try simp only [Act.put, List.setIfInBounds_toArray, List.set_cons_zero, List.set_cons_succ]
        refine wpAnyH_ready (rs := [9]) (by kernel_rfl) (by simp) (AllReadyH.cons (by simp only [List.getElem?_toArray, List.getElem?_cons_succ, List.getElem?_cons_zero]; exact rfl) (fun K hK => ?_) AllReadyH.nil)
        go_simp
        have bn := below1 w2 (.cells #[(.slice a5 ps.length c5)] 73)
        have NW := slice_newR w2 73 (.slice a5 ps.length c5)
        have N3 : _ ∧ _ := ⟨bat bn N2.1, bat bn N2.2⟩
        have ulo : ∀ k, (Value.slice a5 ps.length c5).ownBlock = some k → k < w2.heap.size := fun k hk => (World.ownsRow.lt R2 k hk).2
        replace RR := RR.below bn
        replace VV := VV.below bn
        replace R2 := R2.below bn
        replace G := grown_alloc G (.cells #[(.slice a5 ps.length c5)] 73)
        have hz3 := bn.size
        refine hK.out _ _ N3 (fun hHeld => ?_)
        clear hK K hHeld bn N2
        try simp only [Act.put, List.setIfInBounds_toArray, List.set_cons_zero, List.set_cons_succ]
        generalize hzA : w2.heap.size = zA at *
        generalize w2.alloc (.cells #[(.slice a5 ps.length c5)] 73) = ww3 at *
        refine wpAnyH_ready (rs := [10]) (by kernel_rfl) (by simp) (AllReadyH.cons (by simp only [List.getElem?_toArray, List.getElem?_cons_succ, List.getElem?_cons_zero]; exact rfl) (fun K hK => ?_) AllReadyH.nil)
        refine wp_append_at (.tmp 16) (.tmp 24) 29 rfl W1.heap.size 73 iR (.slice none 0 0) 1 24 Try.underlying29 hiR hR0 hR1 hR2 rfl (by decide) (.slice va vs.length vc) vs.length vs rfl RR.own ⟨zA, 0, none⟩ 1 _ [(.slice a5 ps.length c5)] rfl rfl NW (by intro x hx; simp at hx; subst hx; rfl) (by unfold maxLen; have := hvl.out; omega) (by have := hvl.out; omega) (by omega) ?_
        intro v7 w7 R7 G7 A7
        have nv7 : v7.ownBlock ≠ some (w.heap.size + 2) := fun e => by have := (World.ownsRow.lt R7 _ e).1; omega
        have RN := RR.snoc R2 (fun k hk => ⟨fun e => by have := nq k e; have := uo k hk; omega, fun e => by
          have q2 := ulo k hk
          have q1 := uo k hk
          rcases A7 with e7 | e7
          · rw [e7] at e; have := nq k e; omega
          · rw [e7] at e; injection e with e; omega, fun x hx e => by have := nr x hx k e; have := uo k hk; omega⟩) R7 G7 A7
        have vb : ∀ i, i < W1.heap.size → some i ≠ (Value.slice va vs.length vc).ownBlock := fun i hi e => by have := (World.ownsRow.lt RR.own i e.symm).1; omega
        have VN := Ext2.box G7 VV (fun e => vb (w.heap.size + 2) (by omega) e.symm)
        replace G : W1.grownBy w7 (some (w.heap.size + 2)) := ⟨G7.os.trans G.os, G7.tape.trans G.tape, G7.output.trans G.output, Nat.le_trans G.size G7.size, fun i hi hr => (G7.block i (Nat.lt_of_lt_of_le hi G.size) (vb i hi)).trans (G.block i hi hr)⟩
        have N7 : _ ∧ _ := ⟨(World.cell?_of_block (a := ⟨w.heap.size, 1, none⟩) (G7.block w.heap.size (by omega) (vb w.heap.size (by omega)))).trans N3.1, (World.cell?_of_block (a := ⟨b, off + j, none⟩) (G7.block b (by omega) (vb b (by omega)))).trans N3.2⟩
        obtain ⟨a7, c7, rfl, _, _⟩ := RN.shape
        rw [List.length_append, List.length_singleton] at RN
        refine hK.out _ _ N7 (fun hHeld => ?_)
        clear hK K hHeld G7 A7 R7 RR VV N3 R2 NW
        try simp only [Act.put, List.setIfInBounds_toArray, List.set_cons_zero, List.set_cons_succ]
        refine takeW (i := 11) (by simp only [List.getElem?_toArray, List.getElem?_cons_succ, List.getElem?_cons_zero]; exact rfl) (by kernel_rfl) (by kernel_rfl) (by kernel_rfl) (by exact fun _ _ _ h => h) (by rfl) (by intro wq hSw; go_simp <;> with_reducible rfl) (by assumption) ?_
        try simp only [Act.put, List.setIfInBounds_toArray, List.set_cons_zero, List.set_cons_succ]
        refine wpAnyH_ready (rs := [12]) (by kernel_rfl) (by simp) (AllReadyH.cons (by simp only [List.getElem?_toArray, List.getElem?_cons_succ, List.getElem?_cons_zero]; exact rfl) (fun K hK => ?_) AllReadyH.nil)
        have yf := VN.fr 1
        have yc := VN.c1
        go_simp
        have gq : w7.grownBy (w7.setCell ⟨w.heap.size + 2, 1, none⟩ (.slice a7 (vs.length + 1) c7)) (some (w.heap.size + 2)) := grownBy_setCell (p := ⟨w.heap.size + 2, 1, none⟩) (grownBy_refl _ _) rfl _
        have RS := RN.drawn gq (by omega)
        have VS := VN.set1 (.slice a7 (vs.length + 1) c7)
        have GS := grownBy_trans G gq
        have N9 : _ ∧ _ := ⟨cell_drawn gq N7.1 (by omega), cell_drawn gq N7.2 (by omega)⟩
        refine hK.out _ _ N9 (fun hHeld => ?_)
        clear hK K hHeld gq RN VN G N7 yf yc
        try simp only [Act.put, List.setIfInBounds_toArray, List.set_cons_zero, List.set_cons_succ]
        refine wpAnyH_done (by kernel_rfl) ?_ _
        go_wp2
        go_roundw
        case rel => exact ⟨j + 1, _, _, by omega, by go_num, (by rw [TK.out]; exact RS), VS, GS⟩
        case measure => simp [intOf]; omega
      · go_simp
        have bn := below1 ww0 (.cells #[] 76)
        have RE := RowPt.empty ww0 (base := W1.heap.size) hzd
        have N1 : _ ∧ _ := ⟨bat bn N.1, bat bn N.2⟩
        have nq : ∀ k, (Value.slice va vs.length vc).ownBlock = some k → k < ww0.heap.size := fun k hk => (World.ownsRow.lt RR.own k hk).2
        have nr : ∀ x ∈ vs, ∀ k, x.ownBlock = some k → k < ww0.heap.size := fun x hx k hk => by exact (RR.lts.2 x hx k hk).2
        replace RR := RR.below bn
        replace VV := VV.below bn
        replace P3 := P3.below bn
        replace G := grown_alloc G (.cells #[] 76)
        have hz1 := bn.size
        refine hK.out _ _ N1 (fun hHeld => ?_)
        clear hK K hHeld bn N
        try simp only [Act.put, List.setIfInBounds_toArray, List.set_cons_zero, List.set_cons_succ]
        generalize hz9 : ww0.heap.size = z9 at *
        generalize ww0.alloc (.cells #[] 76) = ww1 at *
        refine wpAnyH_ready (rs := [1, 8]) (by kernel_rfl) (by simp) (AllReadyH.cons (by simp only [List.getElem?_toArray, List.getElem?_cons_succ, List.getElem?_cons_zero]; exact rfl) (fun K hK => ?_) (AllReadyH.cons (by simp only [List.getElem?_toArray, List.getElem?_cons_succ, List.getElem?_cons_zero]; exact rfl) (fun K hK => ?_) AllReadyH.nil))
        · have y1 := VV.c1
          go_simp
          refine hK.out _ _ N1 (fun hHeld => ?_)
          clear hK K hHeld y1
          try simp only [Act.put, List.setIfInBounds_toArray, List.set_cons_zero, List.set_cons_succ]
          refine wpAnyH_ready (rs := [8]) (by kernel_rfl) (by simp) (AllReadyH.cons (by simp only [List.getElem?_toArray, List.getElem?_cons_succ, List.getElem?_cons_zero]; exact rfl) (fun K hK => ?_) AllReadyH.nil)
          refine wp_append_at (.tmp 17) (.tmp 22) 73 rfl W1.heap.size 76 iP (.agg #[.int .i64 0, .int .i64 0]) 2 16 Try.underlying73 hiP hP0 hP1 hP2 rfl (by decide) (.slice (some ⟨z9, 0, none⟩) 0 0) 0 [] rfl RE ad ps.length _ (ptC ps) rfl (ptC_len _) P3.newsA (ptC_ones _) (by unfold maxLen; omega) (by omega) (by omega) ?_
          intro u2 w2 R2 G2 A2
          rw [Nat.zero_add, List.nil_append] at R2
          replace R2 : RowPt W1.heap.size w2 u2 ps := R2
          obtain ⟨a5, c5, e5, _, _⟩ := R2.shape
          subst e5
          have G2' : ww1.grownBy w2 (some z9) := G2
          replace RR := RR.kept G2' (fun k hk e => by have := nq k hk; injection e with e; omega) (fun x hx k hk e => by have := nr x hx k hk; injection e with e; omega)
          replace VV := VV.grown G2' (by omega)
          have N2 : _ ∧ _ := ⟨cell_drawn G2' N1.1 (by omega), cell_drawn G2' N1.2 (by omega)⟩
          replace G : W1.grownBy w2 (some (w.heap.size + 2)) := ⟨G2'.os.trans G.os, G2'.tape.trans G.tape, G2'.output.trans G.output, Nat.le_trans G.size G2'.size, fun i hi hr => (G2'.block i (Nat.lt_of_lt_of_le hi G.size) (fun e => by injection e with e; omega)).trans (G.block i hi hr)⟩
          have uo : ∀ k, (Value.slice a5 ps.length c5).ownBlock = some k → z9 ≤ k := fun k hk => by
            rcases A2 with e | e
            · rw [e] at hk; injection hk with hk; show z9 ≤ k; rw [← hk]; exact Nat.le_refl _
            · rw [e] at hk; injection hk with hk; omega
          have hz2 := G2'.size
          refine hK.out _ _ N2 (fun hHeld => ?_)
          clear hK K hHeld G2 A2 N1 RE P3
          try simp only [Act.put, List.setIfInBounds_toArray, List.set_cons_zero, List.set_cons_succ]
          refine wpAnyH_ready (rs := [9]) (by kernel_rfl) (by simp) (AllReadyH.cons (by simp only [List.getElem?_toArray, List.getElem?_cons_succ, List.getElem?_cons_zero]; exact rfl) (fun K hK => ?_) AllReadyH.nil)
          go_simp
          have bn := below1 w2 (.cells #[(.slice a5 ps.length c5)] 73)
          have NW := slice_newR w2 73 (.slice a5 ps.length c5)
          have N3 : _ ∧ _ := ⟨bat bn N2.1, bat bn N2.2⟩
          have ulo : ∀ k, (Value.slice a5 ps.length c5).ownBlock = some k → k < w2.heap.size := fun k hk => (World.ownsRow.lt R2 k hk).2
          replace RR := RR.below bn
          replace VV := VV.below bn
          replace R2 := R2.below bn
          replace G := grown_alloc G (.cells #[(.slice a5 ps.length c5)] 73)
          have hz3 := bn.size
          refine hK.out _ _ N3 (fun hHeld => ?_)
          clear hK K hHeld bn N2
          try simp only [Act.put, List.setIfInBounds_toArray, List.set_cons_zero, List.set_cons_succ]
          generalize hzA : w2.heap.size = zA at *
          generalize w2.alloc (.cells #[(.slice a5 ps.length c5)] 73) = ww3 at *
          refine wpAnyH_ready (rs := [10]) (by kernel_rfl) (by simp) (AllReadyH.cons (by simp only [List.getElem?_toArray, List.getElem?_cons_succ, List.getElem?_cons_zero]; exact rfl) (fun K hK => ?_) AllReadyH.nil)
          refine wp_append_at (.tmp 16) (.tmp 24) 29 rfl W1.heap.size 73 iR (.slice none 0 0) 1 24 Try.underlying29 hiR hR0 hR1 hR2 rfl (by decide) (.slice va vs.length vc) vs.length vs rfl RR.own ⟨zA, 0, none⟩ 1 _ [(.slice a5 ps.length c5)] rfl rfl NW (by intro x hx; simp at hx; subst hx; rfl) (by unfold maxLen; have := hvl.out; omega) (by have := hvl.out; omega) (by omega) ?_
          intro v7 w7 R7 G7 A7
          have nv7 : v7.ownBlock ≠ some (w.heap.size + 2) := fun e => by have := (World.ownsRow.lt R7 _ e).1; omega
          have RN := RR.snoc R2 (fun k hk => ⟨fun e => by have := nq k e; have := uo k hk; omega, fun e => by
            have q2 := ulo k hk
            have q1 := uo k hk
            rcases A7 with e7 | e7
            · rw [e7] at e; have := nq k e; omega
            · rw [e7] at e; injection e with e; omega, fun x hx e => by have := nr x hx k e; have := uo k hk; omega⟩) R7 G7 A7
          have vb : ∀ i, i < W1.heap.size → some i ≠ (Value.slice va vs.length vc).ownBlock := fun i hi e => by have := (World.ownsRow.lt RR.own i e.symm).1; omega
          have VN := Ext2.box G7 VV (fun e => vb (w.heap.size + 2) (by omega) e.symm)
          replace G : W1.grownBy w7 (some (w.heap.size + 2)) := ⟨G7.os.trans G.os, G7.tape.trans G.tape, G7.output.trans G.output, Nat.le_trans G.size G7.size, fun i hi hr => (G7.block i (Nat.lt_of_lt_of_le hi G.size) (vb i hi)).trans (G.block i hi hr)⟩
          have N7 : _ ∧ _ := ⟨(World.cell?_of_block (a := ⟨w.heap.size, 1, none⟩) (G7.block w.heap.size (by omega) (vb w.heap.size (by omega)))).trans N3.1, (World.cell?_of_block (a := ⟨b, off + j, none⟩) (G7.block b (by omega) (vb b (by omega)))).trans N3.2⟩
          obtain ⟨a7, c7, rfl, _, _⟩ := RN.shape
          rw [List.length_append, List.length_singleton] at RN
          refine hK.out _ _ N7 (fun hHeld => ?_)
          clear hK K hHeld G7 A7 R7 RR VV N3 R2 NW
          try simp only [Act.put, List.setIfInBounds_toArray, List.set_cons_zero, List.set_cons_succ]
          refine takeW (i := 11) (by simp only [List.getElem?_toArray, List.getElem?_cons_succ, List.getElem?_cons_zero]; exact rfl) (by kernel_rfl) (by kernel_rfl) (by kernel_rfl) (by exact fun _ _ _ h => h) (by rfl) (by intro wq hSw; go_simp <;> with_reducible rfl) (by assumption) ?_
          try simp only [Act.put, List.setIfInBounds_toArray, List.set_cons_zero, List.set_cons_succ]
          refine wpAnyH_ready (rs := [12]) (by kernel_rfl) (by simp) (AllReadyH.cons (by simp only [List.getElem?_toArray, List.getElem?_cons_succ, List.getElem?_cons_zero]; exact rfl) (fun K hK => ?_) AllReadyH.nil)
          have yf := VN.fr 1
          have yc := VN.c1
          go_simp
          have gq : w7.grownBy (w7.setCell ⟨w.heap.size + 2, 1, none⟩ (.slice a7 (vs.length + 1) c7)) (some (w.heap.size + 2)) := grownBy_setCell (p := ⟨w.heap.size + 2, 1, none⟩) (grownBy_refl _ _) rfl _
          have RS := RN.drawn gq (by omega)
          have VS := VN.set1 (.slice a7 (vs.length + 1) c7)
          have GS := grownBy_trans G gq
          have N9 : _ ∧ _ := ⟨cell_drawn gq N7.1 (by omega), cell_drawn gq N7.2 (by omega)⟩
          refine hK.out _ _ N9 (fun hHeld => ?_)
          clear hK K hHeld gq RN VN G N7 yf yc
          try simp only [Act.put, List.setIfInBounds_toArray, List.set_cons_zero, List.set_cons_succ]
          refine wpAnyH_done (by kernel_rfl) ?_ _
          go_wp2
          go_roundw
          case rel => exact ⟨j + 1, _, _, by omega, by go_num, (by rw [TK.out]; exact RS), VS, GS⟩
          case measure => simp [intOf]; omega
        · refine wp_append_at (.tmp 17) (.tmp 22) 73 rfl W1.heap.size 76 iP (.agg #[.int .i64 0, .int .i64 0]) 2 16 Try.underlying73 hiP hP0 hP1 hP2 rfl (by decide) (.slice (some ⟨z9, 0, none⟩) 0 0) 0 [] rfl RE ad ps.length _ (ptC ps) rfl (ptC_len _) P3.newsA (ptC_ones _) (by unfold maxLen; omega) (by omega) (by omega) ?_
          intro u2 w2 R2 G2 A2
          rw [Nat.zero_add, List.nil_append] at R2
          replace R2 : RowPt W1.heap.size w2 u2 ps := R2
          obtain ⟨a5, c5, e5, _, _⟩ := R2.shape
          subst e5
          have G2' : ww1.grownBy w2 (some z9) := G2
          replace RR := RR.kept G2' (fun k hk e => by have := nq k hk; injection e with e; omega) (fun x hx k hk e => by have := nr x hx k hk; injection e with e; omega)
          replace VV := VV.grown G2' (by omega)
          have N2 : _ ∧ _ := ⟨cell_drawn G2' N1.1 (by omega), cell_drawn G2' N1.2 (by omega)⟩
          replace G : W1.grownBy w2 (some (w.heap.size + 2)) := ⟨G2'.os.trans G.os, G2'.tape.trans G.tape, G2'.output.trans G.output, Nat.le_trans G.size G2'.size, fun i hi hr => (G2'.block i (Nat.lt_of_lt_of_le hi G.size) (fun e => by injection e with e; omega)).trans (G.block i hi hr)⟩
          have uo : ∀ k, (Value.slice a5 ps.length c5).ownBlock = some k → z9 ≤ k := fun k hk => by
            rcases A2 with e | e
            · rw [e] at hk; injection hk with hk; show z9 ≤ k; rw [← hk]; exact Nat.le_refl _
            · rw [e] at hk; injection hk with hk; omega
          have hz2 := G2'.size
          refine hK.out _ _ N2 (fun hHeld => ?_)
          clear hK K hHeld G2 A2 N1 RE P3
          try simp only [Act.put, List.setIfInBounds_toArray, List.set_cons_zero, List.set_cons_succ]
          refine wpAnyH_ready (rs := [1, 9]) (by kernel_rfl) (by simp) (AllReadyH.cons (by simp only [List.getElem?_toArray, List.getElem?_cons_succ, List.getElem?_cons_zero]; exact rfl) (fun K hK => ?_) (AllReadyH.cons (by simp only [List.getElem?_toArray, List.getElem?_cons_succ, List.getElem?_cons_zero]; exact rfl) (fun K hK => ?_) AllReadyH.nil))
          · have y1 := VV.c1
            go_simp
            refine hK.out _ _ N2 (fun hHeld => ?_)
            clear hK K hHeld y1
            try simp only [Act.put, List.setIfInBounds_toArray, List.set_cons_zero, List.set_cons_succ]
            refine wpAnyH_ready (rs := [9]) (by kernel_rfl) (by simp) (AllReadyH.cons (by simp only [List.getElem?_toArray, List.getElem?_cons_succ, List.getElem?_cons_zero]; exact rfl) (fun K hK => ?_) AllReadyH.nil)
            go_simp
            have bn := below1 w2 (.cells #[(.slice a5 ps.length c5)] 73)
            have NW := slice_newR w2 73 (.slice a5 ps.length c5)
            have N3 : _ ∧ _ := ⟨bat bn N2.1, bat bn N2.2⟩
            have ulo : ∀ k, (Value.slice a5 ps.length c5).ownBlock = some k → k < w2.heap.size := fun k hk => (World.ownsRow.lt R2 k hk).2
            replace RR := RR.below bn
            replace VV := VV.below bn
            replace R2 := R2.below bn
            replace G := grown_alloc G (.cells #[(.slice a5 ps.length c5)] 73)
            have hz3 := bn.size
            refine hK.out _ _ N3 (fun hHeld => ?_)
            clear hK K hHeld bn N2
            try simp only [Act.put, List.setIfInBounds_toArray, List.set_cons_zero, List.set_cons_succ]
            generalize hzA : w2.heap.size = zA at *
            generalize w2.alloc (.cells #[(.slice a5 ps.length c5)] 73) = ww3 at *
            refine wpAnyH_ready (rs := [10]) (by kernel_rfl) (by simp) (AllReadyH.cons (by simp only [List.getElem?_toArray, List.getElem?_cons_succ, List.getElem?_cons_zero]; exact rfl) (fun K hK => ?_) AllReadyH.nil)
            refine wp_append_at (.tmp 16) (.tmp 24) 29 rfl W1.heap.size 73 iR (.slice none 0 0) 1 24 Try.underlying29 hiR hR0 hR1 hR2 rfl (by decide) (.slice va vs.length vc) vs.length vs rfl RR.own ⟨zA, 0, none⟩ 1 _ [(.slice a5 ps.length c5)] rfl rfl NW (by intro x hx; simp at hx; subst hx; rfl) (by unfold maxLen; have := hvl.out; omega) (by have := hvl.out; omega) (by omega) ?_
            intro v7 w7 R7 G7 A7
            have nv7 : v7.ownBlock ≠ some (w.heap.size + 2) := fun e => by have := (World.ownsRow.lt R7 _ e).1; omega
            have RN := RR.snoc R2 (fun k hk => ⟨fun e => by have := nq k e; have := uo k hk; omega, fun e => by
              have q2 := ulo k hk
              have q1 := uo k hk
              rcases A7 with e7 | e7
              · rw [e7] at e; have := nq k e; omega
              · rw [e7] at e; injection e with e; omega, fun x hx e => by have := nr x hx k e; have := uo k hk; omega⟩) R7 G7 A7
            have vb : ∀ i, i < W1.heap.size → some i ≠ (Value.slice va vs.length vc).ownBlock := fun i hi e => by have := (World.ownsRow.lt RR.own i e.symm).1; omega
            have VN := Ext2.box G7 VV (fun e => vb (w.heap.size + 2) (by omega) e.symm)
            replace G : W1.grownBy w7 (some (w.heap.size + 2)) := ⟨G7.os.trans G.os, G7.tape.trans G.tape, G7.output.trans G.output, Nat.le_trans G.size G7.size, fun i hi hr => (G7.block i (Nat.lt_of_lt_of_le hi G.size) (vb i hi)).trans (G.block i hi hr)⟩
            have N7 : _ ∧ _ := ⟨(World.cell?_of_block (a := ⟨w.heap.size, 1, none⟩) (G7.block w.heap.size (by omega) (vb w.heap.size (by omega)))).trans N3.1, (World.cell?_of_block (a := ⟨b, off + j, none⟩) (G7.block b (by omega) (vb b (by omega)))).trans N3.2⟩
            obtain ⟨a7, c7, rfl, _, _⟩ := RN.shape
            rw [List.length_append, List.length_singleton] at RN
            refine hK.out _ _ N7 (fun hHeld => ?_)
            clear hK K hHeld G7 A7 R7 RR VV N3 R2 NW
            try simp only [Act.put, List.setIfInBounds_toArray, List.set_cons_zero, List.set_cons_succ]
            refine takeW (i := 11) (by simp only [List.getElem?_toArray, List.getElem?_cons_succ, List.getElem?_cons_zero]; exact rfl) (by kernel_rfl) (by kernel_rfl) (by kernel_rfl) (by exact fun _ _ _ h => h) (by rfl) (by intro wq hSw; go_simp <;> with_reducible rfl) (by assumption) ?_
            try simp only [Act.put, List.setIfInBounds_toArray, List.set_cons_zero, List.set_cons_succ]
            refine wpAnyH_ready (rs := [12]) (by kernel_rfl) (by simp) (AllReadyH.cons (by simp only [List.getElem?_toArray, List.getElem?_cons_succ, List.getElem?_cons_zero]; exact rfl) (fun K hK => ?_) AllReadyH.nil)
            have yf := VN.fr 1
            have yc := VN.c1
            go_simp
            have gq : w7.grownBy (w7.setCell ⟨w.heap.size + 2, 1, none⟩ (.slice a7 (vs.length + 1) c7)) (some (w.heap.size + 2)) := grownBy_setCell (p := ⟨w.heap.size + 2, 1, none⟩) (grownBy_refl _ _) rfl _
            have RS := RN.drawn gq (by omega)
            have VS := VN.set1 (.slice a7 (vs.length + 1) c7)
            have GS := grownBy_trans G gq
            have N9 : _ ∧ _ := ⟨cell_drawn gq N7.1 (by omega), cell_drawn gq N7.2 (by omega)⟩
            refine hK.out _ _ N9 (fun hHeld => ?_)
            clear hK K hHeld gq RN VN G N7 yf yc
            try simp only [Act.put, List.setIfInBounds_toArray, List.set_cons_zero, List.set_cons_succ]
            refine wpAnyH_done (by kernel_rfl) ?_ _
            go_wp2
            go_roundw
            case rel => exact ⟨j + 1, _, _, by omega, by go_num, (by rw [TK.out]; exact RS), VS, GS⟩
            case measure => simp [intOf]; omega
          · go_simp
            have bn := below1 w2 (.cells #[(.slice a5 ps.length c5)] 73)
            have NW := slice_newR w2 73 (.slice a5 ps.length c5)
            have N3 : _ ∧ _ := ⟨bat bn N2.1, bat bn N2.2⟩
            have ulo : ∀ k, (Value.slice a5 ps.length c5).ownBlock = some k → k < w2.heap.size := fun k hk => (World.ownsRow.lt R2 k hk).2
            replace RR := RR.below bn
            replace VV := VV.below bn
            replace R2 := R2.below bn
            replace G := grown_alloc G (.cells #[(.slice a5 ps.length c5)] 73)
            have hz3 := bn.size
            refine hK.out _ _ N3 (fun hHeld => ?_)
            clear hK K hHeld bn N2
            try simp only [Act.put, List.setIfInBounds_toArray, List.set_cons_zero, List.set_cons_succ]
            generalize hzA : w2.heap.size = zA at *
            generalize w2.alloc (.cells #[(.slice a5 ps.length c5)] 73) = ww3 at *
            refine wpAnyH_ready (rs := [1]) (by kernel_rfl) (by simp) (AllReadyH.cons (by simp only [List.getElem?_toArray, List.getElem?_cons_succ, List.getElem?_cons_zero]; exact rfl) (fun K hK => ?_) AllReadyH.nil)
            have y1 := VV.c1
            go_simp
            refine hK.out _ _ N3 (fun hHeld => ?_)
            clear hK K hHeld y1
            try simp only [Act.put, List.setIfInBounds_toArray, List.set_cons_zero, List.set_cons_succ]
            refine wpAnyH_ready (rs := [10]) (by kernel_rfl) (by simp) (AllReadyH.cons (by simp only [List.getElem?_toArray, List.getElem?_cons_succ, List.getElem?_cons_zero]; exact rfl) (fun K hK => ?_) AllReadyH.nil)
            refine wp_append_at (.tmp 16) (.tmp 24) 29 rfl W1.heap.size 73 iR (.slice none 0 0) 1 24 Try.underlying29 hiR hR0 hR1 hR2 rfl (by decide) (.slice va vs.length vc) vs.length vs rfl RR.own ⟨zA, 0, none⟩ 1 _ [(.slice a5 ps.length c5)] rfl rfl NW (by intro x hx; simp at hx; subst hx; rfl) (by unfold maxLen; have := hvl.out; omega) (by have := hvl.out; omega) (by omega) ?_
            intro v7 w7 R7 G7 A7
            have nv7 : v7.ownBlock ≠ some (w.heap.size + 2) := fun e => by have := (World.ownsRow.lt R7 _ e).1; omega
            have RN := RR.snoc R2 (fun k hk => ⟨fun e => by have := nq k e; have := uo k hk; omega, fun e => by
              have q2 := ulo k hk
              have q1 := uo k hk
              rcases A7 with e7 | e7
              · rw [e7] at e; have := nq k e; omega
              · rw [e7] at e; injection e with e; omega, fun x hx e => by have := nr x hx k e; have := uo k hk; omega⟩) R7 G7 A7
            have vb : ∀ i, i < W1.heap.size → some i ≠ (Value.slice va vs.length vc).ownBlock := fun i hi e => by have := (World.ownsRow.lt RR.own i e.symm).1; omega
            have VN := Ext2.box G7 VV (fun e => vb (w.heap.size + 2) (by omega) e.symm)
            replace G : W1.grownBy w7 (some (w.heap.size + 2)) := ⟨G7.os.trans G.os, G7.tape.trans G.tape, G7.output.trans G.output, Nat.le_trans G.size G7.size, fun i hi hr => (G7.block i (Nat.lt_of_lt_of_le hi G.size) (vb i hi)).trans (G.block i hi hr)⟩
            have N7 : _ ∧ _ := ⟨(World.cell?_of_block (a := ⟨w.heap.size, 1, none⟩) (G7.block w.heap.size (by omega) (vb w.heap.size (by omega)))).trans N3.1, (World.cell?_of_block (a := ⟨b, off + j, none⟩) (G7.block b (by omega) (vb b (by omega)))).trans N3.2⟩
            obtain ⟨a7, c7, rfl, _, _⟩ := RN.shape
            rw [List.length_append, List.length_singleton] at RN
            refine hK.out _ _ N7 (fun hHeld => ?_)
            clear hK K hHeld G7 A7 R7 RR VV N3 R2 NW
            try simp only [Act.put, List.setIfInBounds_toArray, List.set_cons_zero, List.set_cons_succ]
            refine takeW (i := 11) (by simp only [List.getElem?_toArray, List.getElem?_cons_succ, List.getElem?_cons_zero]; exact rfl) (by kernel_rfl) (by kernel_rfl) (by kernel_rfl) (by exact fun _ _ _ h => h) (by rfl) (by intro wq hSw; go_simp <;> with_reducible rfl) (by assumption) ?_
            try simp only [Act.put, List.setIfInBounds_toArray, List.set_cons_zero, List.set_cons_succ]
            refine wpAnyH_ready (rs := [12]) (by kernel_rfl) (by simp) (AllReadyH.cons (by simp only [List.getElem?_toArray, List.getElem?_cons_succ, List.getElem?_cons_zero]; exact rfl) (fun K hK => ?_) AllReadyH.nil)
            have yf := VN.fr 1
            have yc := VN.c1
            go_simp
            have gq : w7.grownBy (w7.setCell ⟨w.heap.size + 2, 1, none⟩ (.slice a7 (vs.length + 1) c7)) (some (w.heap.size + 2)) := grownBy_setCell (p := ⟨w.heap.size + 2, 1, none⟩) (grownBy_refl _ _) rfl _
            have RS := RN.drawn gq (by omega)
            have VS := VN.set1 (.slice a7 (vs.length + 1) c7)
            have GS := grownBy_trans G gq
            have N9 : _ ∧ _ := ⟨cell_drawn gq N7.1 (by omega), cell_drawn gq N7.2 (by omega)⟩
            refine hK.out _ _ N9 (fun hHeld => ?_)
            clear hK K hHeld gq RN VN G N7 yf yc
            try simp only [Act.put, List.setIfInBounds_toArray, List.set_cons_zero, List.set_cons_succ]
            refine wpAnyH_done (by kernel_rfl) ?_ _
            go_wp2
            go_roundw
            case rel => exact ⟨j + 1, _, _, by omega, by go_num, (by rw [TK.out]; exact RS), VS, GS⟩
            case measure => simp [intOf]; omega
    · obtain rfl : j = rs.length := by omega
      obtain ⟨y0, y1, _, _⟩ := id VV
      have q0 := (V2.grown G (by omega)).c0
      have q1 := (V2.grown G (by omega)).c1
      have f0 := (V2.grown G (by omega)).fr 0
      have f1 := (V2.grown G (by omega)).fr 1
      obtain ⟨va, vc, rfl, vf, vm⟩ := RR.shape
      have VR := V2.grown G (by omega)
      have BF : Below w.heap.size w wr := B3.grown G (by omega) (fun k hk => by injection hk with hk; omega)
      have RC := Box2.chain BF VR (.int .i64 k) (.slice va vs.length vc)
      have gq : wr.grownBy ((wr.setCell ⟨w.heap.size + 1, 0, none⟩ (.int .i64 k)).setCell ⟨w.heap.size + 1, 1, none⟩ (.slice va vs.length vc)) (some (w.heap.size + 1)) := grownBy_setCell (p := ⟨w.heap.size + 1, 1, none⟩) (grownBy_setCell (p := ⟨w.heap.size + 1, 0, none⟩) (grownBy_refl _ _) rfl _) rfl _
      have RS := RR.drawn gq (by omega)
      have r0 : (wr.setCell ⟨w.heap.size + 1, 0, none⟩ (.int .i64 k)).cell? ⟨w.heap.size + 1, 0, none⟩ = some (.int .i64 k) := cell_same VR.c0 _
      have r1 := (VR.put (.int .i64 k) (.slice va vs.length vc)).c1
      clear RR VV G gq VR BF
      go_wp2
      refine bodyPost_ret (v := .agg #[.int .i64 k, .slice va vs.length vc]) (by simp [results, Try.results33, go_sem, r0, r1]) rfl ?_
      rw [List.take_length] at RS
      exact ⟨_, vs, rfl, RS.base (by omega), RC⟩
end Go.Proofs.Ytakfjpenpnjlhaa
