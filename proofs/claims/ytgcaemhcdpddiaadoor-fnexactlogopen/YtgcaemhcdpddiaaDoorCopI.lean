/- The program's copies of bytes, of a write, of a disk. -/
import Derived.Test.YtgcaemhcdpddiaaDoorDkU
import Derived.Lib.SliceRun
namespace Go.Proofs.YtgcaemhcdpddiaaDoor
open Go.RowKit

theorem grown_belowD {w w1 w2 : World} {r : Option Nat} {n : Nat} (g : w.grownBy w1 r) (hb : Below n w1 w2) (hn : w.heap.size ≤ n) : w.grownBy w2 r :=
  ⟨hb.os.trans g.os, hb.tape.trans g.tape, hb.output.trans g.output, Nat.le_trans g.size hb.size, fun i hi hr => (hb.block i (by omega)).trans (g.block i hi hr)⟩
set_option maxHeartbeats 1000000 in
theorem cloneBy (ad : Addr) (c : Nat) (bs : List Int) (w : World) (h : SeesB w (some ad) c bs) (hl : bs.length ≤ 2000000) :
    Calls Tryd.prog 55 #[.slice (some ad) bs.length c] w fun e w' => ∃ g' c', e = .returned (.slice (some ⟨g', 0, none⟩) bs.length c') ∧ RowB w.heap.size w' (.slice (some ⟨g', 0, none⟩) bs.length c') bs ∧ Below w.heap.size w w' := by
  obtain ⟨i8, hi8, hy0, hy1, hy2⟩ := info_parts infoB
  have he := fun w n => Lib.run_eql_slice_nil (P := Tryd.prog) w 22 5 (some ad) n c 0 0 Tryd.underlying22
  have hm := h.max
  have hf := h.fits
  unfold maxLen at hm
  have RE := RowB.empty w (base := w.heap.size) (Nat.le_refl _)
  have bn := below1 w (.cells #[] 5)
  have S := h.below bn
  have NW := S.newsA
  have HB : w.heap.size ≤ (w.alloc (.cells #[] 5)).heap.size := bn.size
  clear h
  go_enter Tryd.func55, Tryd.ntmps55
  go_wp2_with (at_builtin; refine wpList_append_own_at _ rfl (.tmp 5) (.tmp 6) 22 rfl w.heap.size 5 i8 (.int .u8 0) 1 1 Tryd.underlying22 hi8 hy0 hy1 hy2 rfl (by decide) (.slice (some ⟨w.heap.size, 0, none⟩) 0 0) 0 [] rfl RE ad bs.length _ (bs.map (Value.int .u8)) rfl (by simp) NW (ones8 _) (by unfold maxLen; omega) (by omega) HB ?_; intro v7 w7 R7 G7 _ A7; rw [Nat.zero_add, List.nil_append] at R7; obtain ⟨g7, hg7, hgl⟩ : ∃ g, v7.ownBlock = some g ∧ w.heap.size ≤ g := (A7.elim (fun e => ⟨_, e, Nat.le_refl _⟩) (fun e => ⟨_, e, HB⟩)); obtain ⟨c7, rfl⟩ := RowB.someOf (bs := bs) R7 hg7)
  go_ret
  exact ⟨_, _, rfl, R7, (Below.refl w.heap.size w).trans (bn.trans ((Below.refl w.heap.size _).grown G7 HB (fun k hk => by injection hk with hk; exact Nat.le_of_eq hk)))⟩

set_option maxRecDepth 20000 in
set_option maxHeartbeats 4000000 in
theorem wcopied_any (x : Int) (ad : Addr) (c : Nat) (ds : List Int) (w : World) (h : SeesB w (some ad) c ds) (hl : ds.length ≤ 2000000) :
    Calls Tryd.prog 63 #[.agg #[.int .i64 x, .slice (some ad) ds.length c]] w fun e w' => ∃ g' c', e = .returned (.agg #[.int .i64 x, .slice (some ⟨g', 0, none⟩) ds.length c']) ∧ RowB w.heap.size w' (.slice (some ⟨g', 0, none⟩) ds.length c') ds ∧ Below w.heap.size w w' := by
  have b1 := below1 w (.cells #[.int .i64 x, .slice (some ad) ds.length c] 67)
  have V1 := Box2.new w (lo := w.heap.size) (Nat.le_refl _) (.int .i64 x) (.slice (some ad) ds.length c) 67
  have b2 := below1 (w.alloc (.cells #[.int .i64 x, .slice (some ad) ds.length c] 67)) (.cells #[.int .i64 0, .slice none 0 0] 67)
  have V2 := Box2.new (w.alloc (.cells #[.int .i64 x, .slice (some ad) ds.length c] 67)) (lo := w.heap.size) (by simp) (.int .i64 0) (.slice none 0 0) 67
  rw [World.size_alloc] at V2
  have z2 : ((w.alloc (.cells #[.int .i64 x, .slice (some ad) ds.length c] 67)).alloc (.cells #[.int .i64 0, .slice none 0 0] 67)).heap.size = w.heap.size + 2 := by simp
  have B := b1.trans (b2.mono b1.size)
  replace V1 := V1.below b2
  have HS : Hid (SeesB w (some ad) c ds) := h
  clear b1 b2 h
  go_enter Tryd.func63, Tryd.ntmps63
  go_upto_region 1 with fail
  generalize (w.alloc (.cells #[.int .i64 x, .slice (some ad) ds.length c] 67)).alloc (.cells #[.int .i64 0, .slice none 0 0] 67) = W0 at *
  have bd := ((Below.refl W0.heap.size W0).drew : Below W0.heap.size W0 _)
  have N : W0.drew.cell? ⟨w.heap.size, 0, none⟩ = some (.int .i64 x) ∧ W0.drew.cell? ⟨w.heap.size, 1, none⟩ = some (.slice (some ad) ds.length c) := ⟨V1.c0, V1.c1⟩
  have z3 : W0.drew.heap.size = w.heap.size + 2 := z2
  replace V2 := V2.below bd
  replace B := B.trans (bd.mono B.size)
  clear bd V1 z2
  refine wp_region_held_drew (S := fun W => W.cell? ⟨w.heap.size, 0, none⟩ = some (.int .i64 x) ∧ W.cell? ⟨w.heap.size, 1, none⟩ = some (.slice (some ad) ds.length c)) (by kernel_rfl) N (fun hHeld => ?_)
  clear hHeld
  revert N z3 V2 B
  generalize W0.drew = ww0
  intro N z3 V2 B
  refine takeW (i := 0) (by simp only [List.getElem?_toArray, List.getElem?_cons_zero]; exact rfl) (by kernel_rfl) (by kernel_rfl) (by kernel_rfl) (by exact fun _ _ _ h => h) (by rfl) (by intro wq hSw; go_simp <;> with_reducible rfl) (by assumption) ?_
  try simp only [Act.put, List.setIfInBounds_toArray, List.set_cons_zero, List.set_cons_succ]
  refine takeW (i := 1) (by simp only [List.getElem?_toArray, List.getElem?_cons_succ, List.getElem?_cons_zero]; exact rfl) (by kernel_rfl) (by kernel_rfl) (by kernel_rfl) (by exact fun _ _ _ h => h) (by rfl) (by intro wq hSw; obtain ⟨p1, p2⟩ := hSw; go_simp <;> with_reducible rfl) (by assumption) ?_
  try simp only [Act.put, List.setIfInBounds_toArray, List.set_cons_zero, List.set_cons_succ]
  refine takeW (i := 2) (by simp only [List.getElem?_toArray, List.getElem?_cons_succ, List.getElem?_cons_zero]; exact rfl) (by kernel_rfl) (by kernel_rfl) (by kernel_rfl) (by exact fun _ _ _ h => h) (by rfl) (by intro wq hSw; go_simp <;> with_reducible rfl) (by assumption) ?_
  try simp only [Act.put, List.setIfInBounds_toArray, List.set_cons_zero, List.set_cons_succ]
  refine takeW (i := 3) (by simp only [List.getElem?_toArray, List.getElem?_cons_succ, List.getElem?_cons_zero]; exact rfl) (by kernel_rfl) (by kernel_rfl) (by kernel_rfl) (by exact fun _ _ _ h => h) (by rfl) (by intro wq hSw; obtain ⟨p1, p2⟩ := hSw; go_simp <;> with_reducible rfl) (by assumption) ?_
  try simp only [Act.put, List.setIfInBounds_toArray, List.set_cons_zero, List.set_cons_succ]
  refine wpAnyH_ready (rs := [4]) (by kernel_rfl) (by simp) (AllReadyH.cons (by simp only [List.getElem?_toArray, List.getElem?_cons_succ, List.getElem?_cons_zero]; exact rfl) (fun K hK => ?_) AllReadyH.nil)
  go_simp
  refine (cloneBy ad c ds _ (HS.out.below B) hl).mono ?_
  rintro e w2 ⟨k2, c5, rfl, R2, hb⟩
  rw [z3] at R2
  have N2 : _ ∧ _ := ⟨bat hb N.1, bat hb N.2⟩
  replace V2 := V2.below hb
  replace B := B.trans (hb.mono B.size)
  have gl := (World.ownsRow.lt R2 k2 rfl).1
  refine hK.out _ _ N2 (fun hHeld => ?_)
  clear hK K hHeld N hb
  try simp only [Act.put, List.setIfInBounds_toArray, List.set_cons_zero, List.set_cons_succ]
  refine takeW (i := 5) (by simp only [List.getElem?_toArray, List.getElem?_cons_succ, List.getElem?_cons_zero]; exact rfl) (by kernel_rfl) (by kernel_rfl) (by kernel_rfl) (by exact fun _ _ _ h => h) (by rfl) (by intro wq hSw; go_simp <;> with_reducible rfl) (by assumption) ?_
  try simp only [Act.put, List.setIfInBounds_toArray, List.set_cons_zero, List.set_cons_succ]
  refine wpAnyH_ready (rs := [6]) (by kernel_rfl) (by simp) (AllReadyH.cons (by simp only [List.getElem?_toArray, List.getElem?_cons_succ, List.getElem?_cons_zero]; exact rfl) (fun K hK => ?_) AllReadyH.nil)
  have q0 := V2.c0
  have q1 := V2.c1
  have f0 := V2.fr 0
  have f1 := V2.fr 1
  go_simp
  have gq : w2.grownBy ((w2.setCell ⟨w.heap.size + 1, 0, none⟩ (.int .i64 x)).setCell ⟨w.heap.size + 1, 1, none⟩ (.slice (some ⟨k2, 0, none⟩) ds.length c5)) (some (w.heap.size + 1)) := grownBy_setCell (p := ⟨w.heap.size + 1, 1, none⟩) (grownBy_setCell (p := ⟨w.heap.size + 1, 0, none⟩) (grownBy_refl _ _) rfl _) rfl _
  have N9 : _ ∧ _ := ⟨cell_drawnD gq N2.1 (by omega), cell_drawnD gq N2.2 (by omega)⟩
  have RC := Box2.chain B V2 (.int .i64 x) (.slice (some ⟨k2, 0, none⟩) ds.length c5)
  have R9 := row_base (base' := w.heap.size) (owns_kept' R2 gq (fun k hk e => by injection e with e; injection hk with hk; dsimp only at hk; omega)) (by omega)
  have r0 := (V2.put (.int .i64 x) (.slice (some ⟨k2, 0, none⟩) ds.length c5)).c0
  have r1 := (V2.put (.int .i64 x) (.slice (some ⟨k2, 0, none⟩) ds.length c5)).c1
  refine hK.out _ _ N9 (fun hHeld => ?_)
  clear hK K hHeld gq N2 V2 R2 q0 q1 f0 f1
  try simp only [Act.put]
  refine wpAnyH_done (by kernel_rfl) ?_ _
  go_wp2
  exact bodyPost_ret (v := .agg #[.int .i64 x, (.slice (some ⟨k2, 0, none⟩) ds.length c5)]) (by simp [results, Tryd.results63, go_sem, r0, r1]) rfl ⟨_, _, rfl, R9, RC⟩

set_option maxRecDepth 20000 in
set_option maxHeartbeats 4000000 in
theorem dcopied_any {lo : Nat} (ad : Addr) (a2 : Option Addr) (c c2 : Nat) (vs0 : List Value) (bs : List Int) (qs : List Wr) (w : World) (h : DkR lo w (.slice (some ad) bs.length c) (.slice a2 qs.length c2) vs0 bs qs) (hv0 : SomeV vs0) (hb0 : bs.length ≤ 2000000) (hs : uptoQ qs qs.length ≤ 2000000) :
    Calls Tryd.prog 54 #[.agg #[.slice (some ad) bs.length c, .slice a2 qs.length c2]] w fun e w' => ∃ ad' c' b' d' vs, e = .returned (.agg #[.slice (some ad') bs.length c', .slice b' qs.length d']) ∧ DkR w.heap.size w' (.slice (some ad') bs.length c') (.slice b' qs.length d') vs bs qs ∧ SomeV vs ∧ Below w.heap.size w w' := by
  obtain ⟨iW, hiW, hW0, hW1, hW2⟩ := info_parts infoW
  obtain ⟨hf, hm⟩ := h.row.caps
  obtain ⟨-, hf2, hm2⟩ := h.que.caps
  unfold maxLen at hm hm2
  have hn : qs.length ≤ 2000000 := by have := uptoQ_mono qs (Nat.zero_le qs.length); simp only [uptoQ] at this; omega
  have HS : Hid (uptoQ qs qs.length ≤ 2000000) := hs
  have HM : Hid (SomeV vs0) := hv0
  have HQ : Hid (QuR lo w (.slice a2 qs.length c2) vs0 qs) := h.que
  have HR : Hid (RowB lo w (.slice (some ad) bs.length c) bs) := h.row
  have b1 := below1 w (.cells #[.slice (some ad) bs.length c, .slice a2 qs.length c2] 34)
  have V1 := Box2.new w (lo := w.heap.size) (Nat.le_refl _) (.slice (some ad) bs.length c) (.slice a2 qs.length c2) 34
  have b2 := below1 (w.alloc (.cells #[.slice (some ad) bs.length c, .slice a2 qs.length c2] 34)) (.cells #[.slice none 0 0, .slice none 0 0] 34)
  have V2 := Box2.new (w.alloc (.cells #[.slice (some ad) bs.length c, .slice a2 qs.length c2] 34)) (lo := w.heap.size) (by simp) (.slice none 0 0) (.slice none 0 0) 34
  rw [World.size_alloc] at V2
  have z2 : ((w.alloc (.cells #[.slice (some ad) bs.length c, .slice a2 qs.length c2] 34)).alloc (.cells #[.slice none 0 0, .slice none 0 0] 34)).heap.size = w.heap.size + 2 := by simp
  have B2 := b1.trans (b2.mono b1.size)
  replace V1 := V1.below b2
  clear b1 b2 hs hv0 h
  go_enter Tryd.func54, Tryd.ntmps54
  go_upto_region 1 with fail
  generalize (w.alloc (.cells #[.slice (some ad) bs.length c, .slice a2 qs.length c2] 34)).alloc (.cells #[.slice none 0 0, .slice none 0 0] 34) = W0 at *
  obtain ⟨t0, t1, _, _⟩ := id V1
  go_wp2_with fail
  refine (cloneBy ad c bs _ (HR.out.below B2).seesB hb0).mono ?_
  rintro e w7 ⟨g7, c7, rfl, R8, hb⟩
  rw [z2] at R8
  have gl7 : w.heap.size + 2 ≤ g7 ∧ g7 < w7.heap.size := World.ownsRow.lt R8 g7 rfl
  obtain ⟨hgl, g7l⟩ := gl7
  have V3 := Box2.new w7 (lo := w.heap.size) (Nat.le_trans B2.size hb.size) (.slice (some ⟨g7, 0, none⟩) bs.length c7) (.slice none 0 0) 34
  have b8 := below1 w7 (.cells #[.slice (some ⟨g7, 0, none⟩) bs.length c7, .slice none 0 0] 34)
  replace V1 := (V1.below hb).below b8
  replace V2 := (V2.below hb).below b8
  replace R8 := R8.below b8
  have hp3 : w.heap.size + 2 ≤ w7.heap.size := by rw [← z2]; exact hb.size
  have B4 := (B2.trans (hb.mono B2.size)).trans (b8.mono (Nat.le_trans B2.size hb.size))
  have z3 : (w7.alloc (.cells #[.slice (some ⟨g7, 0, none⟩) bs.length c7, .slice none 0 0] 34)).heap.size = w7.heap.size + 1 := by simp
  clear b8 hb t0 t1 B2 z2
  go_upto_region 2 with fail
  generalize hp : w7.heap.size = p3 at *
  generalize w7.alloc (.cells #[.slice (some ⟨g7, 0, none⟩) bs.length c7, .slice none 0 0] 34) = W1 at *
  obtain ⟨t0, t1, _, _⟩ := id V1
  go_wp2
  have R0 := QuR.nil W1.heap.size W1
  have HV : Hid (SomeV []) := fun u hu => by cases hu
  go_loopw [13] (fun s4 wr => ∃ (j : Nat) (v : Value) (vs : List Value), j ≤ qs.length ∧ s4 = .int .i64 j ∧ QuR W1.heap.size wr v vs (qs.take j) ∧ Hid (SomeV vs) ∧ Box2 w.heap.size wr p3 (.slice (some ⟨g7, 0, none⟩) bs.length c7) v ∧ W1.grownBy wr (some p3)) (fun s4 _ => qs.length - (intOf s4).toNat)
  case atStart => exact ⟨0, _, [], Nat.zero_le _, rfl, R0, HV, V3, grownBy_refl _ _⟩
  case round =>
    clear R0 V3 HV t0 t1
    obtain ⟨j, v, vs, hj, rfl, RR, SV, VV, G⟩ := hrel
    rename World => wr
    have t1 := cell_drawnD G V1.c1 (by omega)
    have hzr : W1.heap.size ≤ wr.heap.size := G.size
    by_cases hlt : j < qs.length
    · obtain ⟨b, cq, a', c', e, hvj, g0, g1, PP, _⟩ := HQ.out.at' hlt
      injection e with e1 e2 e3
      subst e1
      obtain ⟨ad3, e8⟩ : ∃ ad, a' = some ad := by
        obtain ⟨ad', l, c9, q⟩ := HM.out _ (List.mem_of_getElem? hvj)
        injection q with q
        exact ⟨ad', q⟩
      subst e8
      have hvl : Hid (vs.length = j) := by have := RR.len.out; rw [List.length_take] at this; show _ = _; omega
      have hle := uptoQ_row qs hlt
      have l1 : (wrN qs j).2.length ≤ 2000000 := by have := HS.out; omega
      have TK : Hid (qs.take (j + 1) = qs.take j ++ [wrN qs j]) := wrN_take hlt
      have hbl : b < w.heap.size := World.block_lt_of_cell? w ⟨b, j * 2, none⟩ g0
      have t2 := cell_drawnD G (bat B4 g0) (by omega)
      have t3 := cell_drawnD G (bat B4 g1) (by omega)
      have P3 : RowB lo wr (.slice (some ad3) (wrN qs j).2.length c') (wrN qs j).2 := owns_kept' (PP.below B4) G (fun k hk e => by have := (World.ownsRow.lt PP k hk).2; injection e with e; omega)
      obtain ⟨va, vc, rfl, vf, vm⟩ := RR.shape
      have hlq : Hid ((qs.take j).length = j) := by show _ = _; rw [List.length_take]; omega
      rw [hlq.out] at RR VV vf
      clear hvj PP g0 g1 hle e2 e3
      generalize wrN qs j = q9 at *
      obtain ⟨x, ds⟩ := q9
      dsimp only at t2 t3 P3 l1
      have bn := below1 wr (.cells #[.int .i64 x, .slice (some ad3) ds.length c'] 67)
      have Vw := Box2.new wr (lo := w.heap.size) (by omega) (.int .i64 x) (.slice (some ad3) ds.length c') 67
      have npw : Hid (∀ k, (Value.slice va j vc).ownBlock = some k → k ≠ wr.heap.size) := fun k hk e => by have := (RR.lts.1 k hk).2; omega
      replace RR := RR.below bn
      have p3l : p3 < wr.heap.size := VV.lt
      replace VV := VV.below bn
      replace P3 := P3.below bn
      replace G := grown_alloc G (.cells #[.int .i64 x, .slice (some ad3) ds.length c'] 67)
      go_upto_region 5 with fail
      clear t1 t2 t3 bn
      generalize hpw : wr.heap.size = pw at *
      generalize wr.alloc (.cells #[.int .i64 x, .slice (some ad3) ds.length c'] 67) = wr1 at *
      have bd := ((Below.refl wr1.heap.size wr1).drew : Below wr1.heap.size wr1 _)
      have N : wr1.drew.cell? ⟨pw, 0, none⟩ = some (.int .i64 x) ∧ wr1.drew.cell? ⟨pw, 1, none⟩ = some (.slice (some ad3) ds.length c') := ⟨Vw.c0, Vw.c1⟩
      replace RR := RR.below bd
      replace VV := VV.below bd
      replace P3 := P3.below bd
      replace G := grownBy_drew G
      clear bd Vw
      refine wp_region_held_drew (S := fun W => W.cell? ⟨pw, 0, none⟩ = some (.int .i64 x) ∧ W.cell? ⟨pw, 1, none⟩ = some (.slice (some ad3) ds.length c')) (by kernel_rfl) N (fun hHeld => ?_)
      clear hHeld
      have hzd : W1.heap.size ≤ wr1.drew.heap.size := G.size
      revert N RR VV P3 G hzd
      generalize wr1.drew = ww0
      intro N RR VV P3 G hzd
      refine takeW (i := 0) (by simp only [List.getElem?_toArray, List.getElem?_cons_zero]; exact rfl) (by kernel_rfl) (by kernel_rfl) (by kernel_rfl) (by exact fun _ _ _ h => h) (by rfl) (by intro wq hSw; go_simp <;> with_reducible rfl) (by assumption) ?_
      try simp only [Act.put, List.setIfInBounds_toArray, List.set_cons_zero, List.set_cons_succ]
      refine takeW (i := 2) (by simp only [List.getElem?_toArray, List.getElem?_cons_succ, List.getElem?_cons_zero]; exact rfl) (by kernel_rfl) (by kernel_rfl) (by kernel_rfl) (by exact fun _ _ _ h => h) (by rfl) (by intro wq hSw; obtain ⟨p1, p2⟩ := hSw; go_simp <;> with_reducible rfl) (by assumption) ?_
      try simp only [Act.put, List.setIfInBounds_toArray, List.set_cons_zero, List.set_cons_succ]
      refine wpAnyH_ready (rs := [1, 3]) (by kernel_rfl) (by simp) (AllReadyH.cons (by simp only [List.getElem?_toArray, List.getElem?_cons_succ, List.getElem?_cons_zero]; exact rfl) (fun K hK => ?_) (AllReadyH.cons (by simp only [List.getElem?_toArray, List.getElem?_cons_succ, List.getElem?_cons_zero]; exact rfl) (fun K hK => ?_) AllReadyH.nil))
      · have y1 := VV.c1
        go_simp
        refine hK.out _ _ N (fun hHeld => ?_)
        clear hK K hHeld y1
        try simp only [Act.put, List.setIfInBounds_toArray, List.set_cons_zero, List.set_cons_succ]
        refine wpAnyH_ready (rs := [3]) (by kernel_rfl) (by simp) (AllReadyH.cons (by simp only [List.getElem?_toArray, List.getElem?_cons_succ, List.getElem?_cons_zero]; exact rfl) (fun K hK => ?_) AllReadyH.nil)
        go_simp
        refine (wcopied_any x ad3 c' ds _ P3.seesB l1).mono ?_
        rintro e w2 ⟨k2, c5, rfl, R2, hb⟩
        have kz2 := (World.ownsRow.lt R2 k2 rfl).1
        have nq : ∀ k, (Value.slice va j vc).ownBlock = some k → k < ww0.heap.size := fun k hk => (RR.lts.1 k hk).2
        have nr : ∀ x ∈ vs, ∀ k, x.ownBlock = some k → k < ww0.heap.size := fun x hx k hk => (RR.lts.2 x hx k hk).2
        have N2 : _ ∧ _ := ⟨bat hb N.1, bat hb N.2⟩
        replace RR := RR.below hb
        replace VV := VV.below hb
        replace R2 : RowB W1.heap.size w2 (.slice (some ⟨k2, 0, none⟩) ds.length c5) ds := row_base R2 hzd
        replace G := grown_belowD G hb hzd
        have hz2 := hb.size
        refine hK.out _ _ N2 (fun hHeld => ?_)
        clear hK K hHeld hb N P3
        try simp only [Act.put, List.setIfInBounds_toArray, List.set_cons_zero, List.set_cons_succ]
        refine wpAnyH_ready (rs := [4]) (by kernel_rfl) (by simp) (AllReadyH.cons (by simp only [List.getElem?_toArray, List.getElem?_cons_succ, List.getElem?_cons_zero]; exact rfl) (fun K hK => ?_) AllReadyH.nil)
        go_simp
        have bn := below1 w2 (.cells #[.int .i64 x, (.slice (some ⟨k2, 0, none⟩) ds.length c5)] 67)
        have NW := two_newW w2 67 (.int .i64 x) (.slice (some ⟨k2, 0, none⟩) ds.length c5)
        have N3 : _ ∧ _ := ⟨bat bn N2.1, bat bn N2.2⟩
        have ulo : k2 < w2.heap.size := (World.ownsRow.lt R2 k2 rfl).2
        replace RR := RR.below bn
        replace VV := VV.below bn
        replace R2 := R2.below bn
        replace G := grown_alloc G (.cells #[.int .i64 x, (.slice (some ⟨k2, 0, none⟩) ds.length c5)] 67)
        have hz3 := bn.size
        refine hK.out _ _ N3 (fun hHeld => ?_)
        clear hK K hHeld bn N2
        try simp only [Act.put, List.setIfInBounds_toArray, List.set_cons_zero, List.set_cons_succ]
        generalize hzA : w2.heap.size = zA at *
        generalize w2.alloc (.cells #[.int .i64 x, (.slice (some ⟨k2, 0, none⟩) ds.length c5)] 67) = ww3 at *
        refine wpAnyH_ready (rs := [5]) (by kernel_rfl) (by simp) (AllReadyH.cons (by simp only [List.getElem?_toArray, List.getElem?_cons_succ, List.getElem?_cons_zero]; exact rfl) (fun K hK => ?_) AllReadyH.nil)
        refine wp_append_at (.tmp 18) (.tmp 21) 32 rfl W1.heap.size 67 iW (.agg #[.int .i64 0, .slice none 0 0]) 2 32 Tryd.underlying32 hiW hW0 hW1 hW2 rfl (by decide) (.slice va j vc) vs.length (wrC (qs.take j) vs) rfl RR.own ⟨zA, 0, none⟩ 1 _ [.int .i64 x, (.slice (some ⟨k2, 0, none⟩) ds.length c5)] rfl rfl NW (by intro y hy; simp at hy; rcases hy with rfl | rfl <;> rfl) (by unfold maxLen; have := hvl.out; omega) (by have := hvl.out; omega) (by omega) ?_
        intro v7 w8 R7 G7 A7
        have nv7 : v7.ownBlock ≠ some p3 := fun e => by have := (World.ownsRow.lt R7 _ e).1; omega
        have RN := QuR.snoc (q := (x, ds)) RR R2 (fun k hk => ⟨fun e => by have := nq k e; injection hk with hk; dsimp only at hk; omega, fun e => by
          injection hk with hk
          dsimp only at hk
          rcases A7 with e7 | e7
          · rw [e7] at e; have := nq k e; omega
          · rw [e7] at e; injection e with e; omega, fun y hy e => by have := nr y hy k e; injection hk with hk; dsimp only at hk; omega⟩) R7 G7 A7
        have vb : ∀ i, i < W1.heap.size → some i ≠ (Value.slice va j vc).ownBlock := fun i hi e => by have := (RR.lts.1 i e.symm).1; omega
        have vp : some pw ≠ (Value.slice va j vc).ownBlock := fun e => npw.out pw e.symm rfl
        have VN := Ext2.boxD G7 VV (fun e => vb p3 (by omega) e.symm)
        replace G : W1.grownBy w8 (some p3) := ⟨G7.os.trans G.os, G7.tape.trans G.tape, G7.output.trans G.output, Nat.le_trans G.size G7.size, fun i hi hr => (G7.block i (Nat.lt_of_lt_of_le hi G.size) (vb i hi)).trans (G.block i hi hr)⟩
        have pwl : pw < ww3.heap.size := World.block_lt_of_cell? _ _ N3.1
        have N7 : _ ∧ _ := ⟨(World.cell?_of_block (a := ⟨pw, 0, none⟩) (G7.block pw pwl vp)).trans N3.1, (World.cell?_of_block (a := ⟨pw, 1, none⟩) (G7.block pw pwl vp)).trans N3.2⟩
        obtain ⟨a7, c9, rfl, _, _⟩ := RN.shape
        rw [List.length_append, List.length_singleton, hlq.out] at RN
        have lv : (List.take j qs ++ [(x, ds)]).length = j + 1 := by rw [List.length_append, List.length_singleton, hlq.out]
        rw [lv] at nv7 ⊢
        refine hK.out _ _ N7 (fun hHeld => ?_)
        clear hK K hHeld G7 A7 R7 RR VV N3 R2 NW lv
        try simp only [Act.put, List.setIfInBounds_toArray, List.set_cons_zero, List.set_cons_succ]
        refine takeW (i := 6) (by simp only [List.getElem?_toArray, List.getElem?_cons_succ, List.getElem?_cons_zero]; exact rfl) (by kernel_rfl) (by kernel_rfl) (by kernel_rfl) (by exact fun _ _ _ h => h) (by rfl) (by intro wq hSw; go_simp <;> with_reducible rfl) (by assumption) ?_
        try simp only [Act.put, List.setIfInBounds_toArray, List.set_cons_zero, List.set_cons_succ]
        refine wpAnyH_ready (rs := [7]) (by kernel_rfl) (by simp) (AllReadyH.cons (by simp only [List.getElem?_toArray, List.getElem?_cons_succ, List.getElem?_cons_zero]; exact rfl) (fun K hK => ?_) AllReadyH.nil)
        have yf := VN.fr 1
        have yc := VN.c1
        go_simp
        have gq : w8.grownBy (w8.setCell ⟨p3, 1, none⟩ (.slice a7 (j + 1) c9)) (some p3) := grownBy_setCell (p := ⟨p3, 1, none⟩) (grownBy_refl _ _) rfl _
        have RS := RN.kept gq (fun k hk e => by have := (RN.lts.1 k hk).1; injection e with e; omega) (fun y hy k hk e => by have := (RN.lts.2 y hy k hk).1; injection e with e; omega)
        have VS := VN.set1D (.slice a7 (j + 1) c9)
        have GS := grownBy_trans G gq
        have SS : Hid (SomeV (vs ++ [(.slice (some ⟨k2, 0, none⟩) ds.length c5)])) := SV.out.snoc ⟨_, _, _, rfl⟩
        have N9 : _ ∧ _ := ⟨cell_drawnD gq N7.1 (by omega), cell_drawnD gq N7.2 (by omega)⟩
        refine hK.out _ _ N9 (fun hHeld => ?_)
        clear hK K hHeld gq RN VN G N7 yf yc
        try simp only [Act.put]
        refine wpAnyH_done (by kernel_rfl) ?_ _
        go_wp2
        go_roundw
        case rel => exact ⟨j + 1, _, _, by omega, by go_num, (by rw [TK.out]; exact RS), SS, VS, GS⟩
        case measure => simp [intOf]; omega
      · go_simp
        refine (wcopied_any x ad3 c' ds _ P3.seesB l1).mono ?_
        rintro e w2 ⟨k2, c5, rfl, R2, hb⟩
        have kz2 := (World.ownsRow.lt R2 k2 rfl).1
        have nq : ∀ k, (Value.slice va j vc).ownBlock = some k → k < ww0.heap.size := fun k hk => (RR.lts.1 k hk).2
        have nr : ∀ x ∈ vs, ∀ k, x.ownBlock = some k → k < ww0.heap.size := fun x hx k hk => (RR.lts.2 x hx k hk).2
        have N2 : _ ∧ _ := ⟨bat hb N.1, bat hb N.2⟩
        replace RR := RR.below hb
        replace VV := VV.below hb
        replace R2 : RowB W1.heap.size w2 (.slice (some ⟨k2, 0, none⟩) ds.length c5) ds := row_base R2 hzd
        replace G := grown_belowD G hb hzd
        have hz2 := hb.size
        refine hK.out _ _ N2 (fun hHeld => ?_)
        clear hK K hHeld hb N P3
        try simp only [Act.put, List.setIfInBounds_toArray, List.set_cons_zero, List.set_cons_succ]
        refine wpAnyH_ready (rs := [1, 4]) (by kernel_rfl) (by simp) (AllReadyH.cons (by simp only [List.getElem?_toArray, List.getElem?_cons_succ, List.getElem?_cons_zero]; exact rfl) (fun K hK => ?_) (AllReadyH.cons (by simp only [List.getElem?_toArray, List.getElem?_cons_succ, List.getElem?_cons_zero]; exact rfl) (fun K hK => ?_) AllReadyH.nil))
        · have y1 := VV.c1
          go_simp
          refine hK.out _ _ N2 (fun hHeld => ?_)
          clear hK K hHeld y1
          try simp only [Act.put, List.setIfInBounds_toArray, List.set_cons_zero, List.set_cons_succ]
          refine wpAnyH_ready (rs := [4]) (by kernel_rfl) (by simp) (AllReadyH.cons (by simp only [List.getElem?_toArray, List.getElem?_cons_succ, List.getElem?_cons_zero]; exact rfl) (fun K hK => ?_) AllReadyH.nil)
          go_simp
          have bn := below1 w2 (.cells #[.int .i64 x, (.slice (some ⟨k2, 0, none⟩) ds.length c5)] 67)
          have NW := two_newW w2 67 (.int .i64 x) (.slice (some ⟨k2, 0, none⟩) ds.length c5)
          have N3 : _ ∧ _ := ⟨bat bn N2.1, bat bn N2.2⟩
          have ulo : k2 < w2.heap.size := (World.ownsRow.lt R2 k2 rfl).2
          replace RR := RR.below bn
          replace VV := VV.below bn
          replace R2 := R2.below bn
          replace G := grown_alloc G (.cells #[.int .i64 x, (.slice (some ⟨k2, 0, none⟩) ds.length c5)] 67)
          have hz3 := bn.size
          refine hK.out _ _ N3 (fun hHeld => ?_)
          clear hK K hHeld bn N2
          try simp only [Act.put, List.setIfInBounds_toArray, List.set_cons_zero, List.set_cons_succ]
          generalize hzA : w2.heap.size = zA at *
          generalize w2.alloc (.cells #[.int .i64 x, (.slice (some ⟨k2, 0, none⟩) ds.length c5)] 67) = ww3 at *
          refine wpAnyH_ready (rs := [5]) (by kernel_rfl) (by simp) (AllReadyH.cons (by simp only [List.getElem?_toArray, List.getElem?_cons_succ, List.getElem?_cons_zero]; exact rfl) (fun K hK => ?_) AllReadyH.nil)
          refine wp_append_at (.tmp 18) (.tmp 21) 32 rfl W1.heap.size 67 iW (.agg #[.int .i64 0, .slice none 0 0]) 2 32 Tryd.underlying32 hiW hW0 hW1 hW2 rfl (by decide) (.slice va j vc) vs.length (wrC (qs.take j) vs) rfl RR.own ⟨zA, 0, none⟩ 1 _ [.int .i64 x, (.slice (some ⟨k2, 0, none⟩) ds.length c5)] rfl rfl NW (by intro y hy; simp at hy; rcases hy with rfl | rfl <;> rfl) (by unfold maxLen; have := hvl.out; omega) (by have := hvl.out; omega) (by omega) ?_
          intro v7 w8 R7 G7 A7
          have nv7 : v7.ownBlock ≠ some p3 := fun e => by have := (World.ownsRow.lt R7 _ e).1; omega
          have RN := QuR.snoc (q := (x, ds)) RR R2 (fun k hk => ⟨fun e => by have := nq k e; injection hk with hk; dsimp only at hk; omega, fun e => by
            injection hk with hk
            dsimp only at hk
            rcases A7 with e7 | e7
            · rw [e7] at e; have := nq k e; omega
            · rw [e7] at e; injection e with e; omega, fun y hy e => by have := nr y hy k e; injection hk with hk; dsimp only at hk; omega⟩) R7 G7 A7
          have vb : ∀ i, i < W1.heap.size → some i ≠ (Value.slice va j vc).ownBlock := fun i hi e => by have := (RR.lts.1 i e.symm).1; omega
          have vp : some pw ≠ (Value.slice va j vc).ownBlock := fun e => npw.out pw e.symm rfl
          have VN := Ext2.boxD G7 VV (fun e => vb p3 (by omega) e.symm)
          replace G : W1.grownBy w8 (some p3) := ⟨G7.os.trans G.os, G7.tape.trans G.tape, G7.output.trans G.output, Nat.le_trans G.size G7.size, fun i hi hr => (G7.block i (Nat.lt_of_lt_of_le hi G.size) (vb i hi)).trans (G.block i hi hr)⟩
          have pwl : pw < ww3.heap.size := World.block_lt_of_cell? _ _ N3.1
          have N7 : _ ∧ _ := ⟨(World.cell?_of_block (a := ⟨pw, 0, none⟩) (G7.block pw pwl vp)).trans N3.1, (World.cell?_of_block (a := ⟨pw, 1, none⟩) (G7.block pw pwl vp)).trans N3.2⟩
          obtain ⟨a7, c9, rfl, _, _⟩ := RN.shape
          rw [List.length_append, List.length_singleton, hlq.out] at RN
          have lv : (List.take j qs ++ [(x, ds)]).length = j + 1 := by rw [List.length_append, List.length_singleton, hlq.out]
          rw [lv] at nv7 ⊢
          refine hK.out _ _ N7 (fun hHeld => ?_)
          clear hK K hHeld G7 A7 R7 RR VV N3 R2 NW lv
          try simp only [Act.put, List.setIfInBounds_toArray, List.set_cons_zero, List.set_cons_succ]
          refine takeW (i := 6) (by simp only [List.getElem?_toArray, List.getElem?_cons_succ, List.getElem?_cons_zero]; exact rfl) (by kernel_rfl) (by kernel_rfl) (by kernel_rfl) (by exact fun _ _ _ h => h) (by rfl) (by intro wq hSw; go_simp <;> with_reducible rfl) (by assumption) ?_
          try simp only [Act.put, List.setIfInBounds_toArray, List.set_cons_zero, List.set_cons_succ]
          refine wpAnyH_ready (rs := [7]) (by kernel_rfl) (by simp) (AllReadyH.cons (by simp only [List.getElem?_toArray, List.getElem?_cons_succ, List.getElem?_cons_zero]; exact rfl) (fun K hK => ?_) AllReadyH.nil)
          have yf := VN.fr 1
          have yc := VN.c1
          go_simp
          have gq : w8.grownBy (w8.setCell ⟨p3, 1, none⟩ (.slice a7 (j + 1) c9)) (some p3) := grownBy_setCell (p := ⟨p3, 1, none⟩) (grownBy_refl _ _) rfl _
          have RS := RN.kept gq (fun k hk e => by have := (RN.lts.1 k hk).1; injection e with e; omega) (fun y hy k hk e => by have := (RN.lts.2 y hy k hk).1; injection e with e; omega)
          have VS := VN.set1D (.slice a7 (j + 1) c9)
          have GS := grownBy_trans G gq
          have SS : Hid (SomeV (vs ++ [(.slice (some ⟨k2, 0, none⟩) ds.length c5)])) := SV.out.snoc ⟨_, _, _, rfl⟩
          have N9 : _ ∧ _ := ⟨cell_drawnD gq N7.1 (by omega), cell_drawnD gq N7.2 (by omega)⟩
          refine hK.out _ _ N9 (fun hHeld => ?_)
          clear hK K hHeld gq RN VN G N7 yf yc
          try simp only [Act.put]
          refine wpAnyH_done (by kernel_rfl) ?_ _
          go_wp2
          go_roundw
          case rel => exact ⟨j + 1, _, _, by omega, by go_num, (by rw [TK.out]; exact RS), SS, VS, GS⟩
          case measure => simp [intOf]; omega
        · go_simp
          have bn := below1 w2 (.cells #[.int .i64 x, (.slice (some ⟨k2, 0, none⟩) ds.length c5)] 67)
          have NW := two_newW w2 67 (.int .i64 x) (.slice (some ⟨k2, 0, none⟩) ds.length c5)
          have N3 : _ ∧ _ := ⟨bat bn N2.1, bat bn N2.2⟩
          have ulo : k2 < w2.heap.size := (World.ownsRow.lt R2 k2 rfl).2
          replace RR := RR.below bn
          replace VV := VV.below bn
          replace R2 := R2.below bn
          replace G := grown_alloc G (.cells #[.int .i64 x, (.slice (some ⟨k2, 0, none⟩) ds.length c5)] 67)
          have hz3 := bn.size
          refine hK.out _ _ N3 (fun hHeld => ?_)
          clear hK K hHeld bn N2
          try simp only [Act.put, List.setIfInBounds_toArray, List.set_cons_zero, List.set_cons_succ]
          generalize hzA : w2.heap.size = zA at *
          generalize w2.alloc (.cells #[.int .i64 x, (.slice (some ⟨k2, 0, none⟩) ds.length c5)] 67) = ww3 at *
          refine wpAnyH_ready (rs := [1]) (by kernel_rfl) (by simp) (AllReadyH.cons (by simp only [List.getElem?_toArray, List.getElem?_cons_succ, List.getElem?_cons_zero]; exact rfl) (fun K hK => ?_) AllReadyH.nil)
          have y1 := VV.c1
          go_simp
          refine hK.out _ _ N3 (fun hHeld => ?_)
          clear hK K hHeld y1
          try simp only [Act.put, List.setIfInBounds_toArray, List.set_cons_zero, List.set_cons_succ]
          refine wpAnyH_ready (rs := [5]) (by kernel_rfl) (by simp) (AllReadyH.cons (by simp only [List.getElem?_toArray, List.getElem?_cons_succ, List.getElem?_cons_zero]; exact rfl) (fun K hK => ?_) AllReadyH.nil)
          refine wp_append_at (.tmp 18) (.tmp 21) 32 rfl W1.heap.size 67 iW (.agg #[.int .i64 0, .slice none 0 0]) 2 32 Tryd.underlying32 hiW hW0 hW1 hW2 rfl (by decide) (.slice va j vc) vs.length (wrC (qs.take j) vs) rfl RR.own ⟨zA, 0, none⟩ 1 _ [.int .i64 x, (.slice (some ⟨k2, 0, none⟩) ds.length c5)] rfl rfl NW (by intro y hy; simp at hy; rcases hy with rfl | rfl <;> rfl) (by unfold maxLen; have := hvl.out; omega) (by have := hvl.out; omega) (by omega) ?_
          intro v7 w8 R7 G7 A7
          have nv7 : v7.ownBlock ≠ some p3 := fun e => by have := (World.ownsRow.lt R7 _ e).1; omega
          have RN := QuR.snoc (q := (x, ds)) RR R2 (fun k hk => ⟨fun e => by have := nq k e; injection hk with hk; dsimp only at hk; omega, fun e => by
            injection hk with hk
            dsimp only at hk
            rcases A7 with e7 | e7
            · rw [e7] at e; have := nq k e; omega
            · rw [e7] at e; injection e with e; omega, fun y hy e => by have := nr y hy k e; injection hk with hk; dsimp only at hk; omega⟩) R7 G7 A7
          have vb : ∀ i, i < W1.heap.size → some i ≠ (Value.slice va j vc).ownBlock := fun i hi e => by have := (RR.lts.1 i e.symm).1; omega
          have vp : some pw ≠ (Value.slice va j vc).ownBlock := fun e => npw.out pw e.symm rfl
          have VN := Ext2.boxD G7 VV (fun e => vb p3 (by omega) e.symm)
          replace G : W1.grownBy w8 (some p3) := ⟨G7.os.trans G.os, G7.tape.trans G.tape, G7.output.trans G.output, Nat.le_trans G.size G7.size, fun i hi hr => (G7.block i (Nat.lt_of_lt_of_le hi G.size) (vb i hi)).trans (G.block i hi hr)⟩
          have pwl : pw < ww3.heap.size := World.block_lt_of_cell? _ _ N3.1
          have N7 : _ ∧ _ := ⟨(World.cell?_of_block (a := ⟨pw, 0, none⟩) (G7.block pw pwl vp)).trans N3.1, (World.cell?_of_block (a := ⟨pw, 1, none⟩) (G7.block pw pwl vp)).trans N3.2⟩
          obtain ⟨a7, c9, rfl, _, _⟩ := RN.shape
          rw [List.length_append, List.length_singleton, hlq.out] at RN
          have lv : (List.take j qs ++ [(x, ds)]).length = j + 1 := by rw [List.length_append, List.length_singleton, hlq.out]
          rw [lv] at nv7 ⊢
          refine hK.out _ _ N7 (fun hHeld => ?_)
          clear hK K hHeld G7 A7 R7 RR VV N3 R2 NW lv
          try simp only [Act.put, List.setIfInBounds_toArray, List.set_cons_zero, List.set_cons_succ]
          refine takeW (i := 6) (by simp only [List.getElem?_toArray, List.getElem?_cons_succ, List.getElem?_cons_zero]; exact rfl) (by kernel_rfl) (by kernel_rfl) (by kernel_rfl) (by exact fun _ _ _ h => h) (by rfl) (by intro wq hSw; go_simp <;> with_reducible rfl) (by assumption) ?_
          try simp only [Act.put, List.setIfInBounds_toArray, List.set_cons_zero, List.set_cons_succ]
          refine wpAnyH_ready (rs := [7]) (by kernel_rfl) (by simp) (AllReadyH.cons (by simp only [List.getElem?_toArray, List.getElem?_cons_succ, List.getElem?_cons_zero]; exact rfl) (fun K hK => ?_) AllReadyH.nil)
          have yf := VN.fr 1
          have yc := VN.c1
          go_simp
          have gq : w8.grownBy (w8.setCell ⟨p3, 1, none⟩ (.slice a7 (j + 1) c9)) (some p3) := grownBy_setCell (p := ⟨p3, 1, none⟩) (grownBy_refl _ _) rfl _
          have RS := RN.kept gq (fun k hk e => by have := (RN.lts.1 k hk).1; injection e with e; omega) (fun y hy k hk e => by have := (RN.lts.2 y hy k hk).1; injection e with e; omega)
          have VS := VN.set1D (.slice a7 (j + 1) c9)
          have GS := grownBy_trans G gq
          have SS : Hid (SomeV (vs ++ [(.slice (some ⟨k2, 0, none⟩) ds.length c5)])) := SV.out.snoc ⟨_, _, _, rfl⟩
          have N9 : _ ∧ _ := ⟨cell_drawnD gq N7.1 (by omega), cell_drawnD gq N7.2 (by omega)⟩
          refine hK.out _ _ N9 (fun hHeld => ?_)
          clear hK K hHeld gq RN VN G N7 yf yc
          try simp only [Act.put]
          refine wpAnyH_done (by kernel_rfl) ?_ _
          go_wp2
          go_roundw
          case rel => exact ⟨j + 1, _, _, by omega, by go_num, (by rw [TK.out]; exact RS), SS, VS, GS⟩
          case measure => simp [intOf]; omega
    · obtain rfl : j = qs.length := by omega
      obtain ⟨y0, y1, _, _⟩ := id VV
      have VR := V2.grown G (by omega)
      have q0 := VR.c0
      have q1 := VR.c1
      have f0 := VR.fr 0
      have f1 := VR.fr 1
      obtain ⟨va, vc, rfl, vf, vm⟩ := RR.shape
      rw [List.take_length] at RR y1 vf
      have BF : Below w.heap.size w wr := B4.grown G B4.size (fun k hk => by injection hk with hk; omega)
      have RC := Box2.chain BF VR (.slice (some ⟨g7, 0, none⟩) bs.length c7) (.slice va qs.length vc)
      have gq : wr.grownBy ((wr.setCell ⟨w.heap.size + 1, 0, none⟩ (.slice (some ⟨g7, 0, none⟩) bs.length c7)).setCell ⟨w.heap.size + 1, 1, none⟩ (.slice va qs.length vc)) (some (w.heap.size + 1)) := grownBy_setCell (p := ⟨w.heap.size + 1, 1, none⟩) (grownBy_setCell (p := ⟨w.heap.size + 1, 0, none⟩) (grownBy_refl _ _) rfl _) rfl _
      have RS := RR.kept gq (fun k hk e => by have := (RR.lts.1 k hk).1; injection e with e; omega) (fun y hy k hk e => by have := (RR.lts.2 y hy k hk).1; injection e with e; omega)
      have R9 : RowB (w.heap.size + 2) wr (.slice (some ⟨g7, 0, none⟩) bs.length c7) bs := owns_kept' R8 G (fun k hk e => by injection e with e; injection hk with hk; dsimp only at hk; omega)
      have R10 := owns_kept' R9 gq (fun k hk e => by injection e with e; injection hk with hk; dsimp only at hk; omega)
      have DD : Hid (DkR w.heap.size _ (.slice (some ⟨g7, 0, none⟩) bs.length c7) (.slice va qs.length vc) vs bs qs) := ⟨row_base R10 (by omega), RS.base (by omega), fun k hk => by
        injection hk with hk
        dsimp only at hk
        exact ⟨fun e => by have := (RS.lts.1 k e).1; omega, fun u hu e => by have := (RS.lts.2 u hu k e).1; omega⟩⟩
      have r0 := (VR.put (.slice (some ⟨g7, 0, none⟩) bs.length c7) (.slice va qs.length vc)).c0
      have r1 := (VR.put (.slice (some ⟨g7, 0, none⟩) bs.length c7) (.slice va qs.length vc)).c1
      clear RR VV G gq VR BF RS R9 R10
      go_wp2
      exact bodyPost_ret (v := .agg #[.slice (some ⟨g7, 0, none⟩) bs.length c7, .slice va qs.length vc]) (by simp [results, Tryd.results54, go_sem, r0, r1]) rfl ⟨_, _, _, _, vs, rfl, DD.out, SV.out, RC⟩
end Go.Proofs.YtgcaemhcdpddiaaDoor
