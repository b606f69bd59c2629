/- The specification's WriteSector. -/
import Derived.Test.YtfdfcgjdigpofaaDoorDkC
namespace Go.Proofs.YtfdfcgjdigpofaaDoor
open Go.RowKit

def WsOk (bs : List Int) (qs : List Wr) (at' : Int) (ds : List Int) : Prop := DkOk bs qs ∧ 0 ≤ at' ∧ at' < ((bs.length / 64 : Nat) : Int) ∧ ds.length = 64
/-- What WriteSector answers. -/
def WsRes (bs : List Int) (qs : List Wr) (at' : Int) (ds : List Int) (qs' : List Wr) (r : Bool) : Prop := (WsOk bs qs at' ds ∧ qs' = qs ++ [(at', ds)] ∧ r = true) ∨ (¬WsOk bs qs at' ds ∧ qs' = qs ∧ r = false)
theorem WsRes.one {bs : List Int} {qs : List Wr} {at' : Int} {ds : List Int} {q1 q2 : List Wr} {r1 r2 : Bool} (h : WsRes bs qs at' ds q1 r1) (k : WsRes bs qs at' ds q2 r2) : q1 = q2 ∧ r1 = r2 := by
  rcases h with ⟨a, b, c⟩ | ⟨a, b, c⟩
  · rcases k with ⟨a', b', c'⟩ | ⟨a', b', c'⟩
    · exact ⟨b.trans b'.symm, c.trans c'.symm⟩
    · exact absurd a a'
  · rcases k with ⟨a', b', c'⟩ | ⟨a', b', c'⟩
    · exact absurd a' a
    · exact ⟨b.trans b'.symm, c.trans c'.symm⟩

set_option maxRecDepth 20000 in
set_option maxHeartbeats 4000000 in
theorem specWriteSector {lo lo2 : Nat} (ad : Addr) (a2 : Option Addr) (c c2 : Nat) (vs0 : List Value) (bs : List Int) (qs : List Wr) (at' : Int) (ad3 : Addr) (c3 : Nat) (ds : List Int) (w : World) (h : DkR lo w (.slice (some ad) bs.length c) (.slice a2 qs.length c2) vs0 bs qs) (hv0 : SomeV vs0) (hd : RowB lo2 w (.slice (some ad3) ds.length c3) ds) (hb0 : bs.length ≤ 2000000) (hs : uptoQ qs qs.length ≤ 2000000) (hds : ds.length ≤ 2000000) :
    Calls Tryd.prog 27 #[.agg #[.slice (some ad) bs.length c, .slice a2 qs.length c2], .int .i64 at', .slice (some ad3) ds.length c3] w fun e w' => ∃ ad' c' b' d' vs qs' r, e = .returned (.tuple #[.agg #[.slice (some ad') bs.length c', .slice b' qs'.length d'], .bool r]) ∧ WsRes bs qs at' ds qs' r ∧ DkR w.heap.size w' (.slice (some ad') bs.length c') (.slice b' qs'.length d') vs bs qs' ∧ SomeV vs ∧ Below w.heap.size w w' := by
  obtain ⟨i8, hi8, hy0, hy1, hy2⟩ := info_parts infoB
  obtain ⟨iW, hiW, hW0, hW1, hW2⟩ := info_parts infoW
  obtain ⟨hf3, hm3⟩ := hd.caps
  obtain ⟨hf0, hm0⟩ := h.row.caps
  unfold maxLen at hm3 hm0
  have hn : qs.length ≤ 2000000 := by have := uptoQ_mono qs (Nat.zero_le qs.length); simp only [uptoQ] at this; omega
  have HS : Hid (uptoQ qs qs.length ≤ 2000000) := hs
  have HM : Hid (SomeV vs0) := hv0
  have HD : Hid (DkR lo w (.slice (some ad) bs.length c) (.slice a2 qs.length c2) vs0 bs qs) := h
  have HP : Hid (RowB lo2 w (.slice (some ad3) ds.length c3) ds) := hd
  have b1 := below1 w (.cells #[.slice (some ad) bs.length c, .slice a2 qs.length c2] 26)
  have V1 := Box2.new w (lo := w.heap.size) (Nat.le_refl _) (.slice (some ad) bs.length c) (.slice a2 qs.length c2) 26
  have b2 := below1 (w.alloc (.cells #[.slice (some ad) bs.length c, .slice a2 qs.length c2] 26)) (.cells #[.slice none 0 0, .slice none 0 0] 26)
  have V2 := Box2.new (w.alloc (.cells #[.slice (some ad) bs.length c, .slice a2 qs.length c2] 26)) (lo := w.heap.size) (by simp) (.slice none 0 0) (.slice none 0 0) 26
  rw [World.size_alloc] at V2
  have z2 : ((w.alloc (.cells #[.slice (some ad) bs.length c, .slice a2 qs.length c2] 26)).alloc (.cells #[.slice none 0 0, .slice none 0 0] 26)).heap.size = w.heap.size + 2 := by simp
  have B := b1.trans (b2.mono b1.size)
  replace V1 := V1.below b2
  clear b1 b2 hs hv0 h hd
  go_enter Tryd.func27, Tryd.ntmps27
  go_upto_region 1 with fail
  generalize (w.alloc (.cells #[.slice (some ad) bs.length c, .slice a2 qs.length c2] 26)).alloc (.cells #[.slice none 0 0, .slice none 0 0] 26) = W0 at *
  obtain ⟨t0, t1, tf, _⟩ := id V1
  go_wp2_with fail
  refine (l11CopyR ad a2 c c2 vs0 bs qs _ (HD.out.below B) HM.out hb0 HS.out).mono ?_
  rintro e w3 ⟨ad8, c8, b8, d8, vs, rfl, D, SV0, hb⟩
  have SV : Hid (SomeV vs) := SV0
  rw [z2] at D
  replace V1 := V1.below hb
  replace V2 := V2.below hb
  have sz3 : w.heap.size + 2 ≤ w3.heap.size := by rw [← z2]; exact hb.size
  replace B := B.trans (hb.mono B.size)
  clear hb t0 t1 tf z2 SV0
  have V8 := Box2.new w3 (lo := w.heap.size) (by omega) (.slice (some ad8) bs.length c8) (.slice b8 qs.length d8) 26
  have hb := below1 w3 (.cells #[(.slice (some ad8) bs.length c8), (.slice b8 qs.length d8)] 26)
  have N8 : Hid (∀ u ∈ ((Value.slice (some ad8) bs.length c8) :: (Value.slice b8 qs.length d8) :: vs), u.ownBlock ≠ some w3.heap.size) := D.nots (.inl (Nat.le_refl _))
  replace V1 := V1.below hb
  replace V2 := V2.below hb
  replace D := D.below hb
  replace B := B.trans (hb.mono B.size)
  have szp : w3.heap.size < (w3.alloc (.cells #[(.slice (some ad8) bs.length c8), (.slice b8 qs.length d8)] 26)).heap.size := V8.lt
  clear hb
  go_upto_region 2 with fail
  generalize hp8 : w3.heap.size = p8 at *
  generalize w3.alloc (.cells #[(.slice (some ad8) bs.length c8), (.slice b8 qs.length d8)] 26) = W1 at *
  obtain ⟨t0, t1, tf, _⟩ := id V1
  go_wp2_with fail
  refine (specDiskOk (some ad) a2 c c2 vs0 bs qs _ (HD.out.below B)).mono ?_
  rintro e w4 ⟨r, rfl, hr, hb⟩
  have HRr : Hid (r = true ↔ DkOk bs qs) := hr
  replace V1 := V1.below hb
  replace V2 := V2.below hb
  replace V8 := V8.below hb
  replace D := D.below hb
  have sz4 : p8 < w4.heap.size := V8.lt
  replace B := B.trans (hb.mono B.size)
  clear hb t0 t1 tf hr szp
  cases r with
  | false =>
    have HN : Hid (WsRes bs qs at' ds qs false) := .inr ⟨(fun q => by have := HRr.out.2 q.1; cases this), rfl, rfl⟩
    clear V1
    have RC := Box2.chain B V2 (.slice (some ad8) bs.length c8) (.slice b8 qs.length d8)
    have gq : w4.grownBy ((w4.setCell ⟨w.heap.size + 1, 0, none⟩ (.slice (some ad8) bs.length c8)).setCell ⟨w.heap.size + 1, 1, none⟩ (.slice b8 qs.length d8)) (some (w.heap.size + 1)) := grownBy_setCell (p := ⟨w.heap.size + 1, 1, none⟩) (grownBy_setCell (p := ⟨w.heap.size + 1, 0, none⟩) (grownBy_refl _ _) rfl _) rfl _
    have DS : Hid (DkR w.heap.size ((w4.setCell ⟨w.heap.size + 1, 0, none⟩ (.slice (some ad8) bs.length c8)).setCell ⟨w.heap.size + 1, 1, none⟩ (.slice b8 qs.length d8)) (.slice (some ad8) bs.length c8) (.slice b8 qs.length d8) vs bs qs) := (D.kept gq (fun k hk e => by have := (D.lts.1 k hk).1; injection e with e; omega) (fun k hk e => by have := (D.lts.2.1 k hk).1; injection e with e; omega) (fun y hy k hk e => by have := (D.lts.2.2 y hy k hk).1; injection e with e; omega)).base (by omega)
    obtain ⟨y0, y1, yf, _⟩ := id V8
    obtain ⟨q0, q1, qf, _⟩ := id V2
    have r0 := (V2.put (.slice (some ad8) bs.length c8) (.slice b8 qs.length d8)).c0
    have r1 := (V2.put (.slice (some ad8) bs.length c8) (.slice b8 qs.length d8)).c1
    clear gq D V2 V8 B
    go_wp2
    exact bodyPost_ret (v := .tuple #[.agg #[(.slice (some ad8) bs.length c8), (.slice b8 qs.length d8)], .bool false]) (by simp [results, Tryd.results27, go_sem, r0, r1]) rfl ⟨_, _, _, _, vs, qs, false, rfl, HN.out, DS.out, SV.out, RC⟩
  | true =>
    have HOk : Hid (DkOk bs qs) := HRr.out.1 rfl
    clear HRr
    obtain ⟨m, hnm⟩ : ∃ m, Hid (bs.length / 64 = m) := ⟨_, rfl⟩
    have hmb : m ≤ 2000000 := by rw [← hnm.out]; omega
    have hwm : IntKind.i64.wrap ((m : Int) - 1) = (m : Int) - 1 := by rw [IntKind.wrap_i64]; omega
    obtain ⟨t0, t1, tf, _⟩ := id V1
    go_wp2_with fail
    refine (l11Many_any (some ad) a2 c bs.length c2 qs.length m _ hnm.out (by omega)).mono ?_
    rintro e w5 ⟨rfl, hb⟩
    replace V2 := V2.below hb
    replace V8 := V8.below hb
    replace D := D.below hb
    have sz5 : p8 < w5.heap.size := V8.lt
    replace B := B.trans (hb.mono B.size)
    clear hb t0 t1 tf V1
    go_wp2_with fail
    refine (l1InD _ _ _ _).mono ?_
    rintro e w6 ⟨rfl, rfl⟩
    by_cases hx : 0 ≤ at' ∧ at' < (m : Int)
    · have hd2 : (decide ((0 : Int) ≤ at') && decide (at' ≤ (m : Int) - 1)) = true := by rw [decide_eq_true (by omega), decide_eq_true (by omega)]; rfl
      rw [hd2]
      by_cases h64 : ds.length = 64
      · have HN : Hid (WsRes bs qs at' ds (qs ++ [(at', ds)]) true) := .inl ⟨⟨HOk.out, hx.1, by rw [hnm.out]; exact hx.2, h64⟩, rfl, rfl⟩
        have hne : ((ds.length : Int) != 64) = false := by simp; omega
        clear hd2 hx h64
        go_upto_region 4 with fail
        have P3 : RowB lo2 w6 (.slice (some ad3) ds.length c3) ds := HP.out.below B
        have P3l : ∀ k, (Value.slice (some ad3) ds.length c3).ownBlock = some k → k < w.heap.size := fun k hk => (World.ownsRow.lt HP.out k hk).2
        have bd := ((Below.refl w6.heap.size w6).drew : Below w6.heap.size w6 _)
        replace V2 := V2.below bd
        replace V8 := V8.below bd
        replace P3 := P3.below bd
        replace D := D.below bd
        replace B := B.trans (bd.mono B.size)
        have sz6 : p8 < w6.drew.heap.size := V8.lt
        have hvl : Hid (vs.length = qs.length) := D.que.len
        clear bd sz5 sz4
        refine wp_region_held_drew (S := fun _ => True) (by kernel_rfl) trivial (fun hHeld => ?_)
        clear hHeld
        revert V2 V8 P3 D B sz6
        generalize w6.drew = ww0
        intro V2 V8 P3 D B sz6
        refine takeW (i := 0) (by simp only [List.getElem?_toArray, List.getElem?_cons_zero]; exact rfl) (by kernel_rfl) (by kernel_rfl) (by kernel_rfl) (by exact fun _ _ _ h => h) (by rfl) (by intro wq hSw; go_simp <;> with_reducible rfl) (by exact trivial) ?_
        try simp only [Act.put, List.setIfInBounds_toArray, List.set_cons_zero, List.set_cons_succ]
        refine takeW (i := 2) (by simp only [List.getElem?_toArray, List.getElem?_cons_succ, List.getElem?_cons_zero]; exact rfl) (by kernel_rfl) (by kernel_rfl) (by kernel_rfl) (by exact fun _ _ _ h => h) (by rfl) (by intro wq hSw; go_simp <;> with_reducible rfl) (by exact trivial) ?_
        try simp only [Act.put, List.setIfInBounds_toArray, List.set_cons_zero, List.set_cons_succ]
        refine takeW (i := 4) (by simp only [List.getElem?_toArray, List.getElem?_cons_succ, List.getElem?_cons_zero]; exact rfl) (by kernel_rfl) (by kernel_rfl) (by kernel_rfl) (by exact fun _ _ _ h => h) (by rfl) (by intro wq hSw; go_simp <;> with_reducible rfl) (by exact trivial) ?_
        try simp only [Act.put, List.setIfInBounds_toArray, List.set_cons_zero, List.set_cons_succ]
        refine wpAnyH_ready (rs := [1, 3]) (by kernel_rfl) (by simp) (AllReadyH.cons (by simp only [List.getElem?_toArray, List.getElem?_cons_succ, List.getElem?_cons_zero]; exact rfl) (fun K hK => ?_) (AllReadyH.cons (by simp only [List.getElem?_toArray, List.getElem?_cons_succ, List.getElem?_cons_zero]; exact rfl) (fun K hK => ?_) AllReadyH.nil))
        · have y1 := V8.c1
          go_simp
          refine hK.out _ _ trivial (fun hHeld => ?_)
          clear hK K hHeld y1
          try simp only [Act.put, List.setIfInBounds_toArray, List.set_cons_zero, List.set_cons_succ]
          refine wpAnyH_ready (rs := [3]) (by kernel_rfl) (by simp) (AllReadyH.cons (by simp only [List.getElem?_toArray, List.getElem?_cons_succ, List.getElem?_cons_zero]; exact rfl) (fun K hK => ?_) AllReadyH.nil)
          go_simp
          have bn := below1 ww0 (.cells #[] 5)
          have RE := RowB.empty ww0 (base := w.heap.size + 2) (by omega)
          have nq : ∀ k, (Value.slice b8 qs.length d8).ownBlock = some k → k < ww0.heap.size := fun k hk => (D.lts.2.1 k hk).2
          have nr : ∀ x ∈ vs, ∀ k, x.ownBlock = some k → k < ww0.heap.size := fun x hx k hk => (D.lts.2.2 x hx k hk).2
          have na : ∀ k, (Value.slice (some ad8) bs.length c8).ownBlock = some k → k < ww0.heap.size := fun k hk => (D.lts.1 k hk).2
          replace V2 := V2.below bn
          replace V8 := V8.below bn
          replace P3 := P3.below bn
          replace D := D.below bn
          replace B := B.trans (bn.mono B.size)
          have hz1 := bn.size
          refine hK.out _ _ trivial (fun hHeld => ?_)
          clear hK K hHeld bn
          try simp only [Act.put, List.setIfInBounds_toArray, List.set_cons_zero, List.set_cons_succ]
          generalize hz9 : ww0.heap.size = z9 at *
          generalize ww0.alloc (.cells #[] 5) = ww1 at *
          refine wpAnyH_ready (rs := [5]) (by kernel_rfl) (by simp) (AllReadyH.cons (by simp only [List.getElem?_toArray, List.getElem?_cons_succ, List.getElem?_cons_zero]; exact rfl) (fun K hK => ?_) AllReadyH.nil)
          refine wp_append_at (.tmp 31) (.tmp 32) 22 rfl (w.heap.size + 2) 5 i8 (.int .u8 0) 1 1 Tryd.underlying22 hi8 hy0 hy1 hy2 rfl (by decide) (.slice (some ⟨z9, 0, none⟩) 0 0) 0 [] rfl RE ad3 ds.length _ (ds.map (Value.int .u8)) rfl (by simp) P3.seesB.newsA (ones8 _) (by unfold maxLen; omega) (by omega) (by omega) ?_
          intro u2 w2 R2 G2 A2
          rw [Nat.zero_add, List.nil_append] at R2
          obtain ⟨k2, hk2, kz2⟩ : ∃ k, u2.ownBlock = some k ∧ z9 ≤ k := A2.elim (fun e => ⟨_, e, Nat.le_refl _⟩) (fun e => ⟨_, e, by omega⟩)
          obtain ⟨c5, rfl⟩ := RowB.someOf (bs := ds) R2 hk2
          replace R2 : RowB (w.heap.size + 2) w2 (.slice (some ⟨k2, 0, none⟩) ds.length c5) ds := R2
          have G2' : ww1.grownBy w2 (some z9) := G2
          replace D := D.kept G2' (fun k hk e => by have := na k hk; injection e with e; omega) (fun k hk e => by have := nq k hk; injection e with e; omega) (fun x hx k hk e => by have := nr x hx k hk; injection e with e; omega)
          replace V2 := V2.grown G2' (by omega)
          replace V8 := V8.grown G2' (by omega)
          replace B := B.grown G2' B.size (fun k hk => by injection hk with hk; omega)
          have hz2 := G2'.size
          refine hK.out _ _ trivial (fun hHeld => ?_)
          clear hK K hHeld G2 A2 RE P3 hk2
          try simp only [Act.put, List.setIfInBounds_toArray, List.set_cons_zero, List.set_cons_succ]
          refine takeW (i := 6) (by simp only [List.getElem?_toArray, List.getElem?_cons_succ, List.getElem?_cons_zero]; exact rfl) (by kernel_rfl) (by kernel_rfl) (by kernel_rfl) (by exact fun _ _ _ h => h) (by rfl) (by intro wq hSw; go_simp <;> with_reducible rfl) (by exact trivial) ?_
          try simp only [Act.put, List.setIfInBounds_toArray, List.set_cons_zero, List.set_cons_succ]
          refine wpAnyH_ready (rs := [7]) (by kernel_rfl) (by simp) (AllReadyH.cons (by simp only [List.getElem?_toArray, List.getElem?_cons_succ, List.getElem?_cons_zero]; exact rfl) (fun K hK => ?_) AllReadyH.nil)
          go_simp
          have bn := below1 w2 (.cells #[.int .i64 at', (.slice (some ⟨k2, 0, none⟩) ds.length c5)] 34)
          have NW := two_newW w2 34 (.int .i64 at') (.slice (some ⟨k2, 0, none⟩) ds.length c5)
          have ulo : k2 < w2.heap.size := (World.ownsRow.lt R2 k2 rfl).2
          replace D := D.below bn
          replace V2 := V2.below bn
          replace V8 := V8.below bn
          replace R2 := R2.below bn
          replace B := B.trans (bn.mono B.size)
          have hz3 := bn.size
          refine hK.out _ _ trivial (fun hHeld => ?_)
          clear hK K hHeld bn
          try simp only [Act.put, List.setIfInBounds_toArray, List.set_cons_zero, List.set_cons_succ]
          generalize hzA : w2.heap.size = zA at *
          generalize w2.alloc (.cells #[.int .i64 at', (.slice (some ⟨k2, 0, none⟩) ds.length c5)] 34) = ww3 at *
          refine wpAnyH_ready (rs := [8]) (by kernel_rfl) (by simp) (AllReadyH.cons (by simp only [List.getElem?_toArray, List.getElem?_cons_succ, List.getElem?_cons_zero]; exact rfl) (fun K hK => ?_) AllReadyH.nil)
          refine wp_append_at (.tmp 29) (.tmp 35) 24 rfl (w.heap.size + 2) 34 iW (.agg #[.int .i64 0, .slice none 0 0]) 2 32 Tryd.underlying24 hiW hW0 hW1 hW2 rfl (by decide) (.slice b8 qs.length d8) vs.length (wrC qs vs) rfl D.que.own ⟨zA, 0, none⟩ 1 _ [.int .i64 at', (.slice (some ⟨k2, 0, none⟩) ds.length c5)] rfl rfl NW (by intro y hy; simp at hy; rcases hy with rfl | rfl <;> rfl) (by unfold maxLen; have := hvl.out; omega) (by have := hvl.out; omega) (by omega) ?_
          intro v7 w8 R7 G7 A7
          have RN := QuR.snoc (q := (at', ds)) D.que R2 (fun k hk => ⟨fun e => by have := nq k e; injection hk with hk; dsimp only at hk; omega, fun e => by
            injection hk with hk
            dsimp only at hk
            rcases A7 with e7 | e7
            · rw [e7] at e; have := nq k e; omega
            · rw [e7] at e; injection e with e; omega, fun y hy e => by have := nr y hy k e; injection hk with hk; dsimp only at hk; omega⟩) R7 G7 A7
          have RB : RowB (w.heap.size + 2) w8 (.slice (some ad8) bs.length c8) bs := owns_kept' D.row G7 (fun k hk e => (D.ap k hk).1 e)
          have DN : DkR (w.heap.size + 2) w8 (.slice (some ad8) bs.length c8) v7 (vs ++ [(.slice (some ⟨k2, 0, none⟩) ds.length c5)]) bs (qs ++ [(at', ds)]) := ⟨RB, RN, fun k hk => ⟨fun e => by
            rcases A7 with e7 | e7
            · rw [e7] at e; exact (D.ap k hk).1 e
            · rw [e7] at e; have := na k hk; injection e with e; omega, fun u hu e => by
            rcases List.mem_append.1 hu with hu | hu
            · exact (D.ap k hk).2 u hu e
            · simp at hu; subst hu; have := na k hk; injection e with e; dsimp only at e; omega⟩⟩
          have nq2 : ∀ i, (i = w.heap.size + 1 ∨ i = p8) → (Value.slice b8 qs.length d8).ownBlock ≠ some i := fun i hi e => by
            rcases hi with rfl | rfl
            · have := (D.lts.2.1 _ e).1; omega
            · exact N8.out _ (List.mem_cons_of_mem _ (List.mem_cons_self ..)) e
          replace V2 := Ext2.boxD G7 V2 (nq2 _ (.inl rfl))
          replace V8 := Ext2.boxD G7 V8 (nq2 _ (.inr rfl))
          replace B := B.grown G7 B.size (fun k hk => by have := (D.lts.2.1 k hk).1; omega)
          have N9 : ∀ u ∈ (Value.slice (some ad8) bs.length c8 :: v7 :: (vs ++ [(.slice (some ⟨k2, 0, none⟩) ds.length c5)])), u.ownBlock ≠ some p8 := fun u hu e => by
            rcases List.mem_cons.1 hu with rfl | hu
            · exact N8.out _ (List.mem_cons_self ..) e
            · rcases List.mem_cons.1 hu with rfl | hu
              · rcases A7 with e7 | e7
                · rw [e7] at e; exact N8.out _ (List.mem_cons_of_mem _ (List.mem_cons_self ..)) e
                · rw [e7] at e; injection e with e; omega
              · rcases List.mem_append.1 hu with hu | hu
                · exact N8.out _ (List.mem_cons_of_mem _ (List.mem_cons_of_mem _ hu)) e
                · simp at hu; subst hu; injection e with e; dsimp only at e; omega
          obtain ⟨a7, c9, rfl, _, _⟩ := RN.shape
          have lv : (qs ++ [(at', ds)]).length = qs.length + 1 := by rw [List.length_append, List.length_singleton]
          have LV : Hid ((qs ++ [(at', ds)]).length = qs.length + 1) := lv
          rw [lv] at DN N9 ⊢
          have sz8 := G7.size
          refine hK.out _ _ trivial (fun hHeld => ?_)
          clear hK K hHeld G7 A7 R7 D R2 NW RN RB nq2 nq nr na lv
          try simp only [Act.put, List.setIfInBounds_toArray, List.set_cons_zero, List.set_cons_succ]
          refine takeW (i := 9) (by simp only [List.getElem?_toArray, List.getElem?_cons_succ, List.getElem?_cons_zero]; exact rfl) (by kernel_rfl) (by kernel_rfl) (by kernel_rfl) (by exact fun _ _ _ h => h) (by rfl) (by intro wq hSw; go_simp <;> with_reducible rfl) (by exact trivial) ?_
          try simp only [Act.put, List.setIfInBounds_toArray, List.set_cons_zero, List.set_cons_succ]
          refine wpAnyH_ready (rs := [10]) (by kernel_rfl) (by simp) (AllReadyH.cons (by simp only [List.getElem?_toArray, List.getElem?_cons_succ, List.getElem?_cons_zero]; exact rfl) (fun K hK => ?_) AllReadyH.nil)
          have yf := V8.fr 1
          have yc := V8.c1
          go_simp
          have gq : w8.grownBy (w8.setCell ⟨p8, 1, none⟩ (.slice a7 (qs.length + 1) c9)) (some p8) := grownBy_setCell (p := ⟨p8, 1, none⟩) (grownBy_refl _ _) rfl _
          have n8 : ∀ u ∈ (Value.slice (some ad8) bs.length c8 :: (Value.slice a7 (qs.length + 1) c9) :: (vs ++ [(.slice (some ⟨k2, 0, none⟩) ds.length c5)])), u.ownBlock ≠ some p8 := N9
          have D := DN.kept gq (fun k hk e => n8 _ (List.mem_cons_self ..) (hk.trans e.symm)) (fun k hk e => n8 _ (List.mem_cons_of_mem _ (List.mem_cons_self ..)) (hk.trans e.symm)) (fun y hy k hk e => n8 y (List.mem_cons_of_mem _ (List.mem_cons_of_mem _ hy)) (hk.trans e.symm))
          replace V8 := V8.set1D (.slice a7 (qs.length + 1) c9)
          replace V2 := V2.grown gq (by omega)
          replace B := B.grown gq B.size (fun k hk => by injection hk with hk; omega)
          have SS : Hid (SomeV (vs ++ [(.slice (some ⟨k2, 0, none⟩) ds.length c5)])) := SV.out.snoc ⟨_, _, _, rfl⟩
          refine hK.out _ _ trivial (fun hHeld => ?_)
          clear hK K hHeld gq DN yf yc n8 N9
          try simp only [Act.put, List.setIfInBounds_toArray, List.set_cons_zero, List.set_cons_succ]
          refine wpAnyH_done (by kernel_rfl) ?_ _
          generalize w8.setCell ⟨p8, 1, none⟩ (.slice a7 (qs.length + 1) c9) = WX at *
          have RC := Box2.chain B V2 (.slice (some ad8) bs.length c8) (.slice a7 (qs.length + 1) c9)
          have gq : WX.grownBy ((WX.setCell ⟨w.heap.size + 1, 0, none⟩ (.slice (some ad8) bs.length c8)).setCell ⟨w.heap.size + 1, 1, none⟩ (.slice a7 (qs.length + 1) c9)) (some (w.heap.size + 1)) := grownBy_setCell (p := ⟨w.heap.size + 1, 1, none⟩) (grownBy_setCell (p := ⟨w.heap.size + 1, 0, none⟩) (grownBy_refl _ _) rfl _) rfl _
          have DS : Hid (DkR w.heap.size ((WX.setCell ⟨w.heap.size + 1, 0, none⟩ (.slice (some ad8) bs.length c8)).setCell ⟨w.heap.size + 1, 1, none⟩ (.slice a7 (qs.length + 1) c9)) (.slice (some ad8) bs.length c8) (.slice a7 (qs.length + 1) c9) (vs ++ [(.slice (some ⟨k2, 0, none⟩) ds.length c5)]) bs (qs ++ [(at', ds)])) := (D.kept gq (fun k hk e => by have := (D.lts.1 k hk).1; injection e with e; omega) (fun k hk e => by have := (D.lts.2.1 k hk).1; injection e with e; omega) (fun y hy k hk e => by have := (D.lts.2.2 y hy k hk).1; injection e with e; omega)).base (by omega)
          obtain ⟨y0, y1, yf, _⟩ := id V8
          obtain ⟨q0, q1, qf, _⟩ := id V2
          have r0 := (V2.put (.slice (some ad8) bs.length c8) (.slice a7 (qs.length + 1) c9)).c0
          have r1 := (V2.put (.slice (some ad8) bs.length c8) (.slice a7 (qs.length + 1) c9)).c1
          clear gq D V2 V8 B
          go_wp2
          exact bodyPost_ret (v := .tuple #[.agg #[(.slice (some ad8) bs.length c8), (.slice a7 (qs.length + 1) c9)], .bool true]) (by simp [results, Tryd.results27, go_sem, r0, r1]) rfl ⟨_, _, a7, c9, _, qs ++ [(at', ds)], true, by rw [LV.out], HN.out, by rw [LV.out]; exact DS.out, SS.out, RC⟩
        · go_simp
          have bn := below1 ww0 (.cells #[] 5)
          have RE := RowB.empty ww0 (base := w.heap.size + 2) (by omega)
          have nq : ∀ k, (Value.slice b8 qs.length d8).ownBlock = some k → k < ww0.heap.size := fun k hk => (D.lts.2.1 k hk).2
          have nr : ∀ x ∈ vs, ∀ k, x.ownBlock = some k → k < ww0.heap.size := fun x hx k hk => (D.lts.2.2 x hx k hk).2
          have na : ∀ k, (Value.slice (some ad8) bs.length c8).ownBlock = some k → k < ww0.heap.size := fun k hk => (D.lts.1 k hk).2
          replace V2 := V2.below bn
          replace V8 := V8.below bn
          replace P3 := P3.below bn
          replace D := D.below bn
          replace B := B.trans (bn.mono B.size)
          have hz1 := bn.size
          refine hK.out _ _ trivial (fun hHeld => ?_)
          clear hK K hHeld bn
          try simp only [Act.put, List.setIfInBounds_toArray, List.set_cons_zero, List.set_cons_succ]
          generalize hz9 : ww0.heap.size = z9 at *
          generalize ww0.alloc (.cells #[] 5) = ww1 at *
          refine wpAnyH_ready (rs := [1, 5]) (by kernel_rfl) (by simp) (AllReadyH.cons (by simp only [List.getElem?_toArray, List.getElem?_cons_succ, List.getElem?_cons_zero]; exact rfl) (fun K hK => ?_) (AllReadyH.cons (by simp only [List.getElem?_toArray, List.getElem?_cons_succ, List.getElem?_cons_zero]; exact rfl) (fun K hK => ?_) AllReadyH.nil))
          · have y1 := V8.c1
            go_simp
            refine hK.out _ _ trivial (fun hHeld => ?_)
            clear hK K hHeld y1
            try simp only [Act.put, List.setIfInBounds_toArray, List.set_cons_zero, List.set_cons_succ]
            refine wpAnyH_ready (rs := [5]) (by kernel_rfl) (by simp) (AllReadyH.cons (by simp only [List.getElem?_toArray, List.getElem?_cons_succ, List.getElem?_cons_zero]; exact rfl) (fun K hK => ?_) AllReadyH.nil)
            refine wp_append_at (.tmp 31) (.tmp 32) 22 rfl (w.heap.size + 2) 5 i8 (.int .u8 0) 1 1 Tryd.underlying22 hi8 hy0 hy1 hy2 rfl (by decide) (.slice (some ⟨z9, 0, none⟩) 0 0) 0 [] rfl RE ad3 ds.length _ (ds.map (Value.int .u8)) rfl (by simp) P3.seesB.newsA (ones8 _) (by unfold maxLen; omega) (by omega) (by omega) ?_
            intro u2 w2 R2 G2 A2
            rw [Nat.zero_add, List.nil_append] at R2
            obtain ⟨k2, hk2, kz2⟩ : ∃ k, u2.ownBlock = some k ∧ z9 ≤ k := A2.elim (fun e => ⟨_, e, Nat.le_refl _⟩) (fun e => ⟨_, e, by omega⟩)
            obtain ⟨c5, rfl⟩ := RowB.someOf (bs := ds) R2 hk2
            replace R2 : RowB (w.heap.size + 2) w2 (.slice (some ⟨k2, 0, none⟩) ds.length c5) ds := R2
            have G2' : ww1.grownBy w2 (some z9) := G2
            replace D := D.kept G2' (fun k hk e => by have := na k hk; injection e with e; omega) (fun k hk e => by have := nq k hk; injection e with e; omega) (fun x hx k hk e => by have := nr x hx k hk; injection e with e; omega)
            replace V2 := V2.grown G2' (by omega)
            replace V8 := V8.grown G2' (by omega)
            replace B := B.grown G2' B.size (fun k hk => by injection hk with hk; omega)
            have hz2 := G2'.size
            refine hK.out _ _ trivial (fun hHeld => ?_)
            clear hK K hHeld G2 A2 RE P3 hk2
            try simp only [Act.put, List.setIfInBounds_toArray, List.set_cons_zero, List.set_cons_succ]
            refine takeW (i := 6) (by simp only [List.getElem?_toArray, List.getElem?_cons_succ, List.getElem?_cons_zero]; exact rfl) (by kernel_rfl) (by kernel_rfl) (by kernel_rfl) (by exact fun _ _ _ h => h) (by rfl) (by intro wq hSw; go_simp <;> with_reducible rfl) (by exact trivial) ?_
            try simp only [Act.put, List.setIfInBounds_toArray, List.set_cons_zero, List.set_cons_succ]
            refine wpAnyH_ready (rs := [7]) (by kernel_rfl) (by simp) (AllReadyH.cons (by simp only [List.getElem?_toArray, List.getElem?_cons_succ, List.getElem?_cons_zero]; exact rfl) (fun K hK => ?_) AllReadyH.nil)
            go_simp
            have bn := below1 w2 (.cells #[.int .i64 at', (.slice (some ⟨k2, 0, none⟩) ds.length c5)] 34)
            have NW := two_newW w2 34 (.int .i64 at') (.slice (some ⟨k2, 0, none⟩) ds.length c5)
            have ulo : k2 < w2.heap.size := (World.ownsRow.lt R2 k2 rfl).2
            replace D := D.below bn
            replace V2 := V2.below bn
            replace V8 := V8.below bn
            replace R2 := R2.below bn
            replace B := B.trans (bn.mono B.size)
            have hz3 := bn.size
            refine hK.out _ _ trivial (fun hHeld => ?_)
            clear hK K hHeld bn
            try simp only [Act.put, List.setIfInBounds_toArray, List.set_cons_zero, List.set_cons_succ]
            generalize hzA : w2.heap.size = zA at *
            generalize w2.alloc (.cells #[.int .i64 at', (.slice (some ⟨k2, 0, none⟩) ds.length c5)] 34) = ww3 at *
            refine wpAnyH_ready (rs := [8]) (by kernel_rfl) (by simp) (AllReadyH.cons (by simp only [List.getElem?_toArray, List.getElem?_cons_succ, List.getElem?_cons_zero]; exact rfl) (fun K hK => ?_) AllReadyH.nil)
            refine wp_append_at (.tmp 29) (.tmp 35) 24 rfl (w.heap.size + 2) 34 iW (.agg #[.int .i64 0, .slice none 0 0]) 2 32 Tryd.underlying24 hiW hW0 hW1 hW2 rfl (by decide) (.slice b8 qs.length d8) vs.length (wrC qs vs) rfl D.que.own ⟨zA, 0, none⟩ 1 _ [.int .i64 at', (.slice (some ⟨k2, 0, none⟩) ds.length c5)] rfl rfl NW (by intro y hy; simp at hy; rcases hy with rfl | rfl <;> rfl) (by unfold maxLen; have := hvl.out; omega) (by have := hvl.out; omega) (by omega) ?_
            intro v7 w8 R7 G7 A7
            have RN := QuR.snoc (q := (at', ds)) D.que R2 (fun k hk => ⟨fun e => by have := nq k e; injection hk with hk; dsimp only at hk; omega, fun e => by
              injection hk with hk
              dsimp only at hk
              rcases A7 with e7 | e7
              · rw [e7] at e; have := nq k e; omega
              · rw [e7] at e; injection e with e; omega, fun y hy e => by have := nr y hy k e; injection hk with hk; dsimp only at hk; omega⟩) R7 G7 A7
            have RB : RowB (w.heap.size + 2) w8 (.slice (some ad8) bs.length c8) bs := owns_kept' D.row G7 (fun k hk e => (D.ap k hk).1 e)
            have DN : DkR (w.heap.size + 2) w8 (.slice (some ad8) bs.length c8) v7 (vs ++ [(.slice (some ⟨k2, 0, none⟩) ds.length c5)]) bs (qs ++ [(at', ds)]) := ⟨RB, RN, fun k hk => ⟨fun e => by
              rcases A7 with e7 | e7
              · rw [e7] at e; exact (D.ap k hk).1 e
              · rw [e7] at e; have := na k hk; injection e with e; omega, fun u hu e => by
              rcases List.mem_append.1 hu with hu | hu
              · exact (D.ap k hk).2 u hu e
              · simp at hu; subst hu; have := na k hk; injection e with e; dsimp only at e; omega⟩⟩
            have nq2 : ∀ i, (i = w.heap.size + 1 ∨ i = p8) → (Value.slice b8 qs.length d8).ownBlock ≠ some i := fun i hi e => by
              rcases hi with rfl | rfl
              · have := (D.lts.2.1 _ e).1; omega
              · exact N8.out _ (List.mem_cons_of_mem _ (List.mem_cons_self ..)) e
            replace V2 := Ext2.boxD G7 V2 (nq2 _ (.inl rfl))
            replace V8 := Ext2.boxD G7 V8 (nq2 _ (.inr rfl))
            replace B := B.grown G7 B.size (fun k hk => by have := (D.lts.2.1 k hk).1; omega)
            have N9 : ∀ u ∈ (Value.slice (some ad8) bs.length c8 :: v7 :: (vs ++ [(.slice (some ⟨k2, 0, none⟩) ds.length c5)])), u.ownBlock ≠ some p8 := fun u hu e => by
              rcases List.mem_cons.1 hu with rfl | hu
              · exact N8.out _ (List.mem_cons_self ..) e
              · rcases List.mem_cons.1 hu with rfl | hu
                · rcases A7 with e7 | e7
                  · rw [e7] at e; exact N8.out _ (List.mem_cons_of_mem _ (List.mem_cons_self ..)) e
                  · rw [e7] at e; injection e with e; omega
                · rcases List.mem_append.1 hu with hu | hu
                  · exact N8.out _ (List.mem_cons_of_mem _ (List.mem_cons_of_mem _ hu)) e
                  · simp at hu; subst hu; injection e with e; dsimp only at e; omega
            obtain ⟨a7, c9, rfl, _, _⟩ := RN.shape
            have lv : (qs ++ [(at', ds)]).length = qs.length + 1 := by rw [List.length_append, List.length_singleton]
            have LV : Hid ((qs ++ [(at', ds)]).length = qs.length + 1) := lv
            rw [lv] at DN N9 ⊢
            have sz8 := G7.size
            refine hK.out _ _ trivial (fun hHeld => ?_)
            clear hK K hHeld G7 A7 R7 D R2 NW RN RB nq2 nq nr na lv
            try simp only [Act.put, List.setIfInBounds_toArray, List.set_cons_zero, List.set_cons_succ]
            refine takeW (i := 9) (by simp only [List.getElem?_toArray, List.getElem?_cons_succ, List.getElem?_cons_zero]; exact rfl) (by kernel_rfl) (by kernel_rfl) (by kernel_rfl) (by exact fun _ _ _ h => h) (by rfl) (by intro wq hSw; go_simp <;> with_reducible rfl) (by exact trivial) ?_
            try simp only [Act.put, List.setIfInBounds_toArray, List.set_cons_zero, List.set_cons_succ]
            refine wpAnyH_ready (rs := [10]) (by kernel_rfl) (by simp) (AllReadyH.cons (by simp only [List.getElem?_toArray, List.getElem?_cons_succ, List.getElem?_cons_zero]; exact rfl) (fun K hK => ?_) AllReadyH.nil)
            have yf := V8.fr 1
            have yc := V8.c1
            go_simp
            have gq : w8.grownBy (w8.setCell ⟨p8, 1, none⟩ (.slice a7 (qs.length + 1) c9)) (some p8) := grownBy_setCell (p := ⟨p8, 1, none⟩) (grownBy_refl _ _) rfl _
            have n8 : ∀ u ∈ (Value.slice (some ad8) bs.length c8 :: (Value.slice a7 (qs.length + 1) c9) :: (vs ++ [(.slice (some ⟨k2, 0, none⟩) ds.length c5)])), u.ownBlock ≠ some p8 := N9
            have D := DN.kept gq (fun k hk e => n8 _ (List.mem_cons_self ..) (hk.trans e.symm)) (fun k hk e => n8 _ (List.mem_cons_of_mem _ (List.mem_cons_self ..)) (hk.trans e.symm)) (fun y hy k hk e => n8 y (List.mem_cons_of_mem _ (List.mem_cons_of_mem _ hy)) (hk.trans e.symm))
            replace V8 := V8.set1D (.slice a7 (qs.length + 1) c9)
            replace V2 := V2.grown gq (by omega)
            replace B := B.grown gq B.size (fun k hk => by injection hk with hk; omega)
            have SS : Hid (SomeV (vs ++ [(.slice (some ⟨k2, 0, none⟩) ds.length c5)])) := SV.out.snoc ⟨_, _, _, rfl⟩
            refine hK.out _ _ trivial (fun hHeld => ?_)
            clear hK K hHeld gq DN yf yc n8 N9
            try simp only [Act.put, List.setIfInBounds_toArray, List.set_cons_zero, List.set_cons_succ]
            refine wpAnyH_done (by kernel_rfl) ?_ _
            generalize w8.setCell ⟨p8, 1, none⟩ (.slice a7 (qs.length + 1) c9) = WX at *
            have RC := Box2.chain B V2 (.slice (some ad8) bs.length c8) (.slice a7 (qs.length + 1) c9)
            have gq : WX.grownBy ((WX.setCell ⟨w.heap.size + 1, 0, none⟩ (.slice (some ad8) bs.length c8)).setCell ⟨w.heap.size + 1, 1, none⟩ (.slice a7 (qs.length + 1) c9)) (some (w.heap.size + 1)) := grownBy_setCell (p := ⟨w.heap.size + 1, 1, none⟩) (grownBy_setCell (p := ⟨w.heap.size + 1, 0, none⟩) (grownBy_refl _ _) rfl _) rfl _
            have DS : Hid (DkR w.heap.size ((WX.setCell ⟨w.heap.size + 1, 0, none⟩ (.slice (some ad8) bs.length c8)).setCell ⟨w.heap.size + 1, 1, none⟩ (.slice a7 (qs.length + 1) c9)) (.slice (some ad8) bs.length c8) (.slice a7 (qs.length + 1) c9) (vs ++ [(.slice (some ⟨k2, 0, none⟩) ds.length c5)]) bs (qs ++ [(at', ds)])) := (D.kept gq (fun k hk e => by have := (D.lts.1 k hk).1; injection e with e; omega) (fun k hk e => by have := (D.lts.2.1 k hk).1; injection e with e; omega) (fun y hy k hk e => by have := (D.lts.2.2 y hy k hk).1; injection e with e; omega)).base (by omega)
            obtain ⟨y0, y1, yf, _⟩ := id V8
            obtain ⟨q0, q1, qf, _⟩ := id V2
            have r0 := (V2.put (.slice (some ad8) bs.length c8) (.slice a7 (qs.length + 1) c9)).c0
            have r1 := (V2.put (.slice (some ad8) bs.length c8) (.slice a7 (qs.length + 1) c9)).c1
            clear gq D V2 V8 B
            go_wp2
            exact bodyPost_ret (v := .tuple #[.agg #[(.slice (some ad8) bs.length c8), (.slice a7 (qs.length + 1) c9)], .bool true]) (by simp [results, Tryd.results27, go_sem, r0, r1]) rfl ⟨_, _, a7, c9, _, qs ++ [(at', ds)], true, by rw [LV.out], HN.out, by rw [LV.out]; exact DS.out, SS.out, RC⟩
          · refine wp_append_at (.tmp 31) (.tmp 32) 22 rfl (w.heap.size + 2) 5 i8 (.int .u8 0) 1 1 Tryd.underlying22 hi8 hy0 hy1 hy2 rfl (by decide) (.slice (some ⟨z9, 0, none⟩) 0 0) 0 [] rfl RE ad3 ds.length _ (ds.map (Value.int .u8)) rfl (by simp) P3.seesB.newsA (ones8 _) (by unfold maxLen; omega) (by omega) (by omega) ?_
            intro u2 w2 R2 G2 A2
            rw [Nat.zero_add, List.nil_append] at R2
            obtain ⟨k2, hk2, kz2⟩ : ∃ k, u2.ownBlock = some k ∧ z9 ≤ k := A2.elim (fun e => ⟨_, e, Nat.le_refl _⟩) (fun e => ⟨_, e, by omega⟩)
            obtain ⟨c5, rfl⟩ := RowB.someOf (bs := ds) R2 hk2
            replace R2 : RowB (w.heap.size + 2) w2 (.slice (some ⟨k2, 0, none⟩) ds.length c5) ds := R2
            have G2' : ww1.grownBy w2 (some z9) := G2
            replace D := D.kept G2' (fun k hk e => by have := na k hk; injection e with e; omega) (fun k hk e => by have := nq k hk; injection e with e; omega) (fun x hx k hk e => by have := nr x hx k hk; injection e with e; omega)
            replace V2 := V2.grown G2' (by omega)
            replace V8 := V8.grown G2' (by omega)
            replace B := B.grown G2' B.size (fun k hk => by injection hk with hk; omega)
            have hz2 := G2'.size
            refine hK.out _ _ trivial (fun hHeld => ?_)
            clear hK K hHeld G2 A2 RE P3 hk2
            try simp only [Act.put, List.setIfInBounds_toArray, List.set_cons_zero, List.set_cons_succ]
            refine takeW (i := 6) (by simp only [List.getElem?_toArray, List.getElem?_cons_succ, List.getElem?_cons_zero]; exact rfl) (by kernel_rfl) (by kernel_rfl) (by kernel_rfl) (by exact fun _ _ _ h => h) (by rfl) (by intro wq hSw; go_simp <;> with_reducible rfl) (by exact trivial) ?_
            try simp only [Act.put, List.setIfInBounds_toArray, List.set_cons_zero, List.set_cons_succ]
            refine wpAnyH_ready (rs := [1, 7]) (by kernel_rfl) (by simp) (AllReadyH.cons (by simp only [List.getElem?_toArray, List.getElem?_cons_succ, List.getElem?_cons_zero]; exact rfl) (fun K hK => ?_) (AllReadyH.cons (by simp only [List.getElem?_toArray, List.getElem?_cons_succ, List.getElem?_cons_zero]; exact rfl) (fun K hK => ?_) AllReadyH.nil))
            · have y1 := V8.c1
              go_simp
              refine hK.out _ _ trivial (fun hHeld => ?_)
              clear hK K hHeld y1
              try simp only [Act.put, List.setIfInBounds_toArray, List.set_cons_zero, List.set_cons_succ]
              refine wpAnyH_ready (rs := [7]) (by kernel_rfl) (by simp) (AllReadyH.cons (by simp only [List.getElem?_toArray, List.getElem?_cons_succ, List.getElem?_cons_zero]; exact rfl) (fun K hK => ?_) AllReadyH.nil)
              go_simp
              have bn := below1 w2 (.cells #[.int .i64 at', (.slice (some ⟨k2, 0, none⟩) ds.length c5)] 34)
              have NW := two_newW w2 34 (.int .i64 at') (.slice (some ⟨k2, 0, none⟩) ds.length c5)
              have ulo : k2 < w2.heap.size := (World.ownsRow.lt R2 k2 rfl).2
              replace D := D.below bn
              replace V2 := V2.below bn
              replace V8 := V8.below bn
              replace R2 := R2.below bn
              replace B := B.trans (bn.mono B.size)
              have hz3 := bn.size
              refine hK.out _ _ trivial (fun hHeld => ?_)
              clear hK K hHeld bn
              try simp only [Act.put, List.setIfInBounds_toArray, List.set_cons_zero, List.set_cons_succ]
              generalize hzA : w2.heap.size = zA at *
              generalize w2.alloc (.cells #[.int .i64 at', (.slice (some ⟨k2, 0, none⟩) ds.length c5)] 34) = ww3 at *
              refine wpAnyH_ready (rs := [8]) (by kernel_rfl) (by simp) (AllReadyH.cons (by simp only [List.getElem?_toArray, List.getElem?_cons_succ, List.getElem?_cons_zero]; exact rfl) (fun K hK => ?_) AllReadyH.nil)
              refine wp_append_at (.tmp 29) (.tmp 35) 24 rfl (w.heap.size + 2) 34 iW (.agg #[.int .i64 0, .slice none 0 0]) 2 32 Tryd.underlying24 hiW hW0 hW1 hW2 rfl (by decide) (.slice b8 qs.length d8) vs.length (wrC qs vs) rfl D.que.own ⟨zA, 0, none⟩ 1 _ [.int .i64 at', (.slice (some ⟨k2, 0, none⟩) ds.length c5)] rfl rfl NW (by intro y hy; simp at hy; rcases hy with rfl | rfl <;> rfl) (by unfold maxLen; have := hvl.out; omega) (by have := hvl.out; omega) (by omega) ?_
              intro v7 w8 R7 G7 A7
              have RN := QuR.snoc (q := (at', ds)) D.que R2 (fun k hk => ⟨fun e => by have := nq k e; injection hk with hk; dsimp only at hk; omega, fun e => by
                injection hk with hk
                dsimp only at hk
                rcases A7 with e7 | e7
                · rw [e7] at e; have := nq k e; omega
                · rw [e7] at e; injection e with e; omega, fun y hy e => by have := nr y hy k e; injection hk with hk; dsimp only at hk; omega⟩) R7 G7 A7
              have RB : RowB (w.heap.size + 2) w8 (.slice (some ad8) bs.length c8) bs := owns_kept' D.row G7 (fun k hk e => (D.ap k hk).1 e)
              have DN : DkR (w.heap.size + 2) w8 (.slice (some ad8) bs.length c8) v7 (vs ++ [(.slice (some ⟨k2, 0, none⟩) ds.length c5)]) bs (qs ++ [(at', ds)]) := ⟨RB, RN, fun k hk => ⟨fun e => by
                rcases A7 with e7 | e7
                · rw [e7] at e; exact (D.ap k hk).1 e
                · rw [e7] at e; have := na k hk; injection e with e; omega, fun u hu e => by
                rcases List.mem_append.1 hu with hu | hu
                · exact (D.ap k hk).2 u hu e
                · simp at hu; subst hu; have := na k hk; injection e with e; dsimp only at e; omega⟩⟩
              have nq2 : ∀ i, (i = w.heap.size + 1 ∨ i = p8) → (Value.slice b8 qs.length d8).ownBlock ≠ some i := fun i hi e => by
                rcases hi with rfl | rfl
                · have := (D.lts.2.1 _ e).1; omega
                · exact N8.out _ (List.mem_cons_of_mem _ (List.mem_cons_self ..)) e
              replace V2 := Ext2.boxD G7 V2 (nq2 _ (.inl rfl))
              replace V8 := Ext2.boxD G7 V8 (nq2 _ (.inr rfl))
              replace B := B.grown G7 B.size (fun k hk => by have := (D.lts.2.1 k hk).1; omega)
              have N9 : ∀ u ∈ (Value.slice (some ad8) bs.length c8 :: v7 :: (vs ++ [(.slice (some ⟨k2, 0, none⟩) ds.length c5)])), u.ownBlock ≠ some p8 := fun u hu e => by
                rcases List.mem_cons.1 hu with rfl | hu
                · exact N8.out _ (List.mem_cons_self ..) e
                · rcases List.mem_cons.1 hu with rfl | hu
                  · rcases A7 with e7 | e7
                    · rw [e7] at e; exact N8.out _ (List.mem_cons_of_mem _ (List.mem_cons_self ..)) e
                    · rw [e7] at e; injection e with e; omega
                  · rcases List.mem_append.1 hu with hu | hu
                    · exact N8.out _ (List.mem_cons_of_mem _ (List.mem_cons_of_mem _ hu)) e
                    · simp at hu; subst hu; injection e with e; dsimp only at e; omega
              obtain ⟨a7, c9, rfl, _, _⟩ := RN.shape
              have lv : (qs ++ [(at', ds)]).length = qs.length + 1 := by rw [List.length_append, List.length_singleton]
              have LV : Hid ((qs ++ [(at', ds)]).length = qs.length + 1) := lv
              rw [lv] at DN N9 ⊢
              have sz8 := G7.size
              refine hK.out _ _ trivial (fun hHeld => ?_)
              clear hK K hHeld G7 A7 R7 D R2 NW RN RB nq2 nq nr na lv
              try simp only [Act.put, List.setIfInBounds_toArray, List.set_cons_zero, List.set_cons_succ]
              refine takeW (i := 9) (by simp only [List.getElem?_toArray, List.getElem?_cons_succ, List.getElem?_cons_zero]; exact rfl) (by kernel_rfl) (by kernel_rfl) (by kernel_rfl) (by exact fun _ _ _ h => h) (by rfl) (by intro wq hSw; go_simp <;> with_reducible rfl) (by exact trivial) ?_
              try simp only [Act.put, List.setIfInBounds_toArray, List.set_cons_zero, List.set_cons_succ]
              refine wpAnyH_ready (rs := [10]) (by kernel_rfl) (by simp) (AllReadyH.cons (by simp only [List.getElem?_toArray, List.getElem?_cons_succ, List.getElem?_cons_zero]; exact rfl) (fun K hK => ?_) AllReadyH.nil)
              have yf := V8.fr 1
              have yc := V8.c1
              go_simp
              have gq : w8.grownBy (w8.setCell ⟨p8, 1, none⟩ (.slice a7 (qs.length + 1) c9)) (some p8) := grownBy_setCell (p := ⟨p8, 1, none⟩) (grownBy_refl _ _) rfl _
              have n8 : ∀ u ∈ (Value.slice (some ad8) bs.length c8 :: (Value.slice a7 (qs.length + 1) c9) :: (vs ++ [(.slice (some ⟨k2, 0, none⟩) ds.length c5)])), u.ownBlock ≠ some p8 := N9
              have D := DN.kept gq (fun k hk e => n8 _ (List.mem_cons_self ..) (hk.trans e.symm)) (fun k hk e => n8 _ (List.mem_cons_of_mem _ (List.mem_cons_self ..)) (hk.trans e.symm)) (fun y hy k hk e => n8 y (List.mem_cons_of_mem _ (List.mem_cons_of_mem _ hy)) (hk.trans e.symm))
              replace V8 := V8.set1D (.slice a7 (qs.length + 1) c9)
              replace V2 := V2.grown gq (by omega)
              replace B := B.grown gq B.size (fun k hk => by injection hk with hk; omega)
              have SS : Hid (SomeV (vs ++ [(.slice (some ⟨k2, 0, none⟩) ds.length c5)])) := SV.out.snoc ⟨_, _, _, rfl⟩
              refine hK.out _ _ trivial (fun hHeld => ?_)
              clear hK K hHeld gq DN yf yc n8 N9
              try simp only [Act.put, List.setIfInBounds_toArray, List.set_cons_zero, List.set_cons_succ]
              refine wpAnyH_done (by kernel_rfl) ?_ _
              generalize w8.setCell ⟨p8, 1, none⟩ (.slice a7 (qs.length + 1) c9) = WX at *
              have RC := Box2.chain B V2 (.slice (some ad8) bs.length c8) (.slice a7 (qs.length + 1) c9)
              have gq : WX.grownBy ((WX.setCell ⟨w.heap.size + 1, 0, none⟩ (.slice (some ad8) bs.length c8)).setCell ⟨w.heap.size + 1, 1, none⟩ (.slice a7 (qs.length + 1) c9)) (some (w.heap.size + 1)) := grownBy_setCell (p := ⟨w.heap.size + 1, 1, none⟩) (grownBy_setCell (p := ⟨w.heap.size + 1, 0, none⟩) (grownBy_refl _ _) rfl _) rfl _
              have DS : Hid (DkR w.heap.size ((WX.setCell ⟨w.heap.size + 1, 0, none⟩ (.slice (some ad8) bs.length c8)).setCell ⟨w.heap.size + 1, 1, none⟩ (.slice a7 (qs.length + 1) c9)) (.slice (some ad8) bs.length c8) (.slice a7 (qs.length + 1) c9) (vs ++ [(.slice (some ⟨k2, 0, none⟩) ds.length c5)]) bs (qs ++ [(at', ds)])) := (D.kept gq (fun k hk e => by have := (D.lts.1 k hk).1; injection e with e; omega) (fun k hk e => by have := (D.lts.2.1 k hk).1; injection e with e; omega) (fun y hy k hk e => by have := (D.lts.2.2 y hy k hk).1; injection e with e; omega)).base (by omega)
              obtain ⟨y0, y1, yf, _⟩ := id V8
              obtain ⟨q0, q1, qf, _⟩ := id V2
              have r0 := (V2.put (.slice (some ad8) bs.length c8) (.slice a7 (qs.length + 1) c9)).c0
              have r1 := (V2.put (.slice (some ad8) bs.length c8) (.slice a7 (qs.length + 1) c9)).c1
              clear gq D V2 V8 B
              go_wp2
              exact bodyPost_ret (v := .tuple #[.agg #[(.slice (some ad8) bs.length c8), (.slice a7 (qs.length + 1) c9)], .bool true]) (by simp [results, Tryd.results27, go_sem, r0, r1]) rfl ⟨_, _, a7, c9, _, qs ++ [(at', ds)], true, by rw [LV.out], HN.out, by rw [LV.out]; exact DS.out, SS.out, RC⟩
            · go_simp
              have bn := below1 w2 (.cells #[.int .i64 at', (.slice (some ⟨k2, 0, none⟩) ds.length c5)] 34)
              have NW := two_newW w2 34 (.int .i64 at') (.slice (some ⟨k2, 0, none⟩) ds.length c5)
              have ulo : k2 < w2.heap.size := (World.ownsRow.lt R2 k2 rfl).2
              replace D := D.below bn
              replace V2 := V2.below bn
              replace V8 := V8.below bn
              replace R2 := R2.below bn
              replace B := B.trans (bn.mono B.size)
              have hz3 := bn.size
              refine hK.out _ _ trivial (fun hHeld => ?_)
              clear hK K hHeld bn
              try simp only [Act.put, List.setIfInBounds_toArray, List.set_cons_zero, List.set_cons_succ]
              generalize hzA : w2.heap.size = zA at *
              generalize w2.alloc (.cells #[.int .i64 at', (.slice (some ⟨k2, 0, none⟩) ds.length c5)] 34) = ww3 at *
              refine wpAnyH_ready (rs := [1]) (by kernel_rfl) (by simp) (AllReadyH.cons (by simp only [List.getElem?_toArray, List.getElem?_cons_succ, List.getElem?_cons_zero]; exact rfl) (fun K hK => ?_) AllReadyH.nil)
              have y1 := V8.c1
              go_simp
              refine hK.out _ _ trivial (fun hHeld => ?_)
              clear hK K hHeld y1
              try simp only [Act.put, List.setIfInBounds_toArray, List.set_cons_zero, List.set_cons_succ]
              refine wpAnyH_ready (rs := [8]) (by kernel_rfl) (by simp) (AllReadyH.cons (by simp only [List.getElem?_toArray, List.getElem?_cons_succ, List.getElem?_cons_zero]; exact rfl) (fun K hK => ?_) AllReadyH.nil)
              refine wp_append_at (.tmp 29) (.tmp 35) 24 rfl (w.heap.size + 2) 34 iW (.agg #[.int .i64 0, .slice none 0 0]) 2 32 Tryd.underlying24 hiW hW0 hW1 hW2 rfl (by decide) (.slice b8 qs.length d8) vs.length (wrC qs vs) rfl D.que.own ⟨zA, 0, none⟩ 1 _ [.int .i64 at', (.slice (some ⟨k2, 0, none⟩) ds.length c5)] rfl rfl NW (by intro y hy; simp at hy; rcases hy with rfl | rfl <;> rfl) (by unfold maxLen; have := hvl.out; omega) (by have := hvl.out; omega) (by omega) ?_
              intro v7 w8 R7 G7 A7
              have RN := QuR.snoc (q := (at', ds)) D.que R2 (fun k hk => ⟨fun e => by have := nq k e; injection hk with hk; dsimp only at hk; omega, fun e => by
                injection hk with hk
                dsimp only at hk
                rcases A7 with e7 | e7
                · rw [e7] at e; have := nq k e; omega
                · rw [e7] at e; injection e with e; omega, fun y hy e => by have := nr y hy k e; injection hk with hk; dsimp only at hk; omega⟩) R7 G7 A7
              have RB : RowB (w.heap.size + 2) w8 (.slice (some ad8) bs.length c8) bs := owns_kept' D.row G7 (fun k hk e => (D.ap k hk).1 e)
              have DN : DkR (w.heap.size + 2) w8 (.slice (some ad8) bs.length c8) v7 (vs ++ [(.slice (some ⟨k2, 0, none⟩) ds.length c5)]) bs (qs ++ [(at', ds)]) := ⟨RB, RN, fun k hk => ⟨fun e => by
                rcases A7 with e7 | e7
                · rw [e7] at e; exact (D.ap k hk).1 e
                · rw [e7] at e; have := na k hk; injection e with e; omega, fun u hu e => by
                rcases List.mem_append.1 hu with hu | hu
                · exact (D.ap k hk).2 u hu e
                · simp at hu; subst hu; have := na k hk; injection e with e; dsimp only at e; omega⟩⟩
              have nq2 : ∀ i, (i = w.heap.size + 1 ∨ i = p8) → (Value.slice b8 qs.length d8).ownBlock ≠ some i := fun i hi e => by
                rcases hi with rfl | rfl
                · have := (D.lts.2.1 _ e).1; omega
                · exact N8.out _ (List.mem_cons_of_mem _ (List.mem_cons_self ..)) e
              replace V2 := Ext2.boxD G7 V2 (nq2 _ (.inl rfl))
              replace V8 := Ext2.boxD G7 V8 (nq2 _ (.inr rfl))
              replace B := B.grown G7 B.size (fun k hk => by have := (D.lts.2.1 k hk).1; omega)
              have N9 : ∀ u ∈ (Value.slice (some ad8) bs.length c8 :: v7 :: (vs ++ [(.slice (some ⟨k2, 0, none⟩) ds.length c5)])), u.ownBlock ≠ some p8 := fun u hu e => by
                rcases List.mem_cons.1 hu with rfl | hu
                · exact N8.out _ (List.mem_cons_self ..) e
                · rcases List.mem_cons.1 hu with rfl | hu
                  · rcases A7 with e7 | e7
                    · rw [e7] at e; exact N8.out _ (List.mem_cons_of_mem _ (List.mem_cons_self ..)) e
                    · rw [e7] at e; injection e with e; omega
                  · rcases List.mem_append.1 hu with hu | hu
                    · exact N8.out _ (List.mem_cons_of_mem _ (List.mem_cons_of_mem _ hu)) e
                    · simp at hu; subst hu; injection e with e; dsimp only at e; omega
              obtain ⟨a7, c9, rfl, _, _⟩ := RN.shape
              have lv : (qs ++ [(at', ds)]).length = qs.length + 1 := by rw [List.length_append, List.length_singleton]
              have LV : Hid ((qs ++ [(at', ds)]).length = qs.length + 1) := lv
              rw [lv] at DN N9 ⊢
              have sz8 := G7.size
              refine hK.out _ _ trivial (fun hHeld => ?_)
              clear hK K hHeld G7 A7 R7 D R2 NW RN RB nq2 nq nr na lv
              try simp only [Act.put, List.setIfInBounds_toArray, List.set_cons_zero, List.set_cons_succ]
              refine takeW (i := 9) (by simp only [List.getElem?_toArray, List.getElem?_cons_succ, List.getElem?_cons_zero]; exact rfl) (by kernel_rfl) (by kernel_rfl) (by kernel_rfl) (by exact fun _ _ _ h => h) (by rfl) (by intro wq hSw; go_simp <;> with_reducible rfl) (by exact trivial) ?_
              try simp only [Act.put, List.setIfInBounds_toArray, List.set_cons_zero, List.set_cons_succ]
              refine wpAnyH_ready (rs := [10]) (by kernel_rfl) (by simp) (AllReadyH.cons (by simp only [List.getElem?_toArray, List.getElem?_cons_succ, List.getElem?_cons_zero]; exact rfl) (fun K hK => ?_) AllReadyH.nil)
              have yf := V8.fr 1
              have yc := V8.c1
              go_simp
              have gq : w8.grownBy (w8.setCell ⟨p8, 1, none⟩ (.slice a7 (qs.length + 1) c9)) (some p8) := grownBy_setCell (p := ⟨p8, 1, none⟩) (grownBy_refl _ _) rfl _
              have n8 : ∀ u ∈ (Value.slice (some ad8) bs.length c8 :: (Value.slice a7 (qs.length + 1) c9) :: (vs ++ [(.slice (some ⟨k2, 0, none⟩) ds.length c5)])), u.ownBlock ≠ some p8 := N9
              have D := DN.kept gq (fun k hk e => n8 _ (List.mem_cons_self ..) (hk.trans e.symm)) (fun k hk e => n8 _ (List.mem_cons_of_mem _ (List.mem_cons_self ..)) (hk.trans e.symm)) (fun y hy k hk e => n8 y (List.mem_cons_of_mem _ (List.mem_cons_of_mem _ hy)) (hk.trans e.symm))
              replace V8 := V8.set1D (.slice a7 (qs.length + 1) c9)
              replace V2 := V2.grown gq (by omega)
              replace B := B.grown gq B.size (fun k hk => by injection hk with hk; omega)
              have SS : Hid (SomeV (vs ++ [(.slice (some ⟨k2, 0, none⟩) ds.length c5)])) := SV.out.snoc ⟨_, _, _, rfl⟩
              refine hK.out _ _ trivial (fun hHeld => ?_)
              clear hK K hHeld gq DN yf yc n8 N9
              try simp only [Act.put, List.setIfInBounds_toArray, List.set_cons_zero, List.set_cons_succ]
              refine wpAnyH_done (by kernel_rfl) ?_ _
              generalize w8.setCell ⟨p8, 1, none⟩ (.slice a7 (qs.length + 1) c9) = WX at *
              have RC := Box2.chain B V2 (.slice (some ad8) bs.length c8) (.slice a7 (qs.length + 1) c9)
              have gq : WX.grownBy ((WX.setCell ⟨w.heap.size + 1, 0, none⟩ (.slice (some ad8) bs.length c8)).setCell ⟨w.heap.size + 1, 1, none⟩ (.slice a7 (qs.length + 1) c9)) (some (w.heap.size + 1)) := grownBy_setCell (p := ⟨w.heap.size + 1, 1, none⟩) (grownBy_setCell (p := ⟨w.heap.size + 1, 0, none⟩) (grownBy_refl _ _) rfl _) rfl _
              have DS : Hid (DkR w.heap.size ((WX.setCell ⟨w.heap.size + 1, 0, none⟩ (.slice (some ad8) bs.length c8)).setCell ⟨w.heap.size + 1, 1, none⟩ (.slice a7 (qs.length + 1) c9)) (.slice (some ad8) bs.length c8) (.slice a7 (qs.length + 1) c9) (vs ++ [(.slice (some ⟨k2, 0, none⟩) ds.length c5)]) bs (qs ++ [(at', ds)])) := (D.kept gq (fun k hk e => by have := (D.lts.1 k hk).1; injection e with e; omega) (fun k hk e => by have := (D.lts.2.1 k hk).1; injection e with e; omega) (fun y hy k hk e => by have := (D.lts.2.2 y hy k hk).1; injection e with e; omega)).base (by omega)
              obtain ⟨y0, y1, yf, _⟩ := id V8
              obtain ⟨q0, q1, qf, _⟩ := id V2
              have r0 := (V2.put (.slice (some ad8) bs.length c8) (.slice a7 (qs.length + 1) c9)).c0
              have r1 := (V2.put (.slice (some ad8) bs.length c8) (.slice a7 (qs.length + 1) c9)).c1
              clear gq D V2 V8 B
              go_wp2
              exact bodyPost_ret (v := .tuple #[.agg #[(.slice (some ad8) bs.length c8), (.slice a7 (qs.length + 1) c9)], .bool true]) (by simp [results, Tryd.results27, go_sem, r0, r1]) rfl ⟨_, _, a7, c9, _, qs ++ [(at', ds)], true, by rw [LV.out], HN.out, by rw [LV.out]; exact DS.out, SS.out, RC⟩
      · have HN : Hid (WsRes bs qs at' ds qs false) := .inr ⟨fun q => h64 q.2.2.2, rfl, rfl⟩
        have hne : ((ds.length : Int) != 64) = true := by simp; omega
        have RC := Box2.chain B V2 (.slice (some ad8) bs.length c8) (.slice b8 qs.length d8)
        have gq : w6.grownBy ((w6.setCell ⟨w.heap.size + 1, 0, none⟩ (.slice (some ad8) bs.length c8)).setCell ⟨w.heap.size + 1, 1, none⟩ (.slice b8 qs.length d8)) (some (w.heap.size + 1)) := grownBy_setCell (p := ⟨w.heap.size + 1, 1, none⟩) (grownBy_setCell (p := ⟨w.heap.size + 1, 0, none⟩) (grownBy_refl _ _) rfl _) rfl _
        have DS : Hid (DkR w.heap.size ((w6.setCell ⟨w.heap.size + 1, 0, none⟩ (.slice (some ad8) bs.length c8)).setCell ⟨w.heap.size + 1, 1, none⟩ (.slice b8 qs.length d8)) (.slice (some ad8) bs.length c8) (.slice b8 qs.length d8) vs bs qs) := (D.kept gq (fun k hk e => by have := (D.lts.1 k hk).1; injection e with e; omega) (fun k hk e => by have := (D.lts.2.1 k hk).1; injection e with e; omega) (fun y hy k hk e => by have := (D.lts.2.2 y hy k hk).1; injection e with e; omega)).base (by omega)
        obtain ⟨y0, y1, yf, _⟩ := id V8
        obtain ⟨q0, q1, qf, _⟩ := id V2
        have r0 := (V2.put (.slice (some ad8) bs.length c8) (.slice b8 qs.length d8)).c0
        have r1 := (V2.put (.slice (some ad8) bs.length c8) (.slice b8 qs.length d8)).c1
        clear gq D V2 V8 B
        go_wp2
        exact bodyPost_ret (v := .tuple #[.agg #[(.slice (some ad8) bs.length c8), (.slice b8 qs.length d8)], .bool false]) (by simp [results, Tryd.results27, go_sem, r0, r1]) rfl ⟨_, _, _, _, vs, qs, false, rfl, HN.out, DS.out, SV.out, RC⟩
    · have hd2 : (decide ((0 : Int) ≤ at') && decide (at' ≤ (m : Int) - 1)) = false := by
        rcases Classical.not_and_iff_not_or_not.1 hx with q | q
        · rw [decide_eq_false q]; rfl
        · rw [decide_eq_false (show ¬ at' ≤ (m : Int) - 1 by omega), Bool.and_false]
      have HN : Hid (WsRes bs qs at' ds qs false) := .inr ⟨fun q => hx ⟨q.2.1, by rw [← hnm.out]; exact q.2.2.1⟩, rfl, rfl⟩
      rw [hd2]
      clear hx
      have RC := Box2.chain B V2 (.slice (some ad8) bs.length c8) (.slice b8 qs.length d8)
      have gq : w6.grownBy ((w6.setCell ⟨w.heap.size + 1, 0, none⟩ (.slice (some ad8) bs.length c8)).setCell ⟨w.heap.size + 1, 1, none⟩ (.slice b8 qs.length d8)) (some (w.heap.size + 1)) := grownBy_setCell (p := ⟨w.heap.size + 1, 1, none⟩) (grownBy_setCell (p := ⟨w.heap.size + 1, 0, none⟩) (grownBy_refl _ _) rfl _) rfl _
      have DS : Hid (DkR w.heap.size ((w6.setCell ⟨w.heap.size + 1, 0, none⟩ (.slice (some ad8) bs.length c8)).setCell ⟨w.heap.size + 1, 1, none⟩ (.slice b8 qs.length d8)) (.slice (some ad8) bs.length c8) (.slice b8 qs.length d8) vs bs qs) := (D.kept gq (fun k hk e => by have := (D.lts.1 k hk).1; injection e with e; omega) (fun k hk e => by have := (D.lts.2.1 k hk).1; injection e with e; omega) (fun y hy k hk e => by have := (D.lts.2.2 y hy k hk).1; injection e with e; omega)).base (by omega)
      obtain ⟨y0, y1, yf, _⟩ := id V8
      obtain ⟨q0, q1, qf, _⟩ := id V2
      have r0 := (V2.put (.slice (some ad8) bs.length c8) (.slice b8 qs.length d8)).c0
      have r1 := (V2.put (.slice (some ad8) bs.length c8) (.slice b8 qs.length d8)).c1
      clear gq D V2 V8 B
      go_wp2
      exact bodyPost_ret (v := .tuple #[.agg #[(.slice (some ad8) bs.length c8), (.slice b8 qs.length d8)], .bool false]) (by simp [results, Tryd.results27, go_sem, r0, r1]) rfl ⟨_, _, _, _, vs, qs, false, rfl, HN.out, DS.out, SV.out, RC⟩
end Go.Proofs.YtfdfcgjdigpofaaDoor
