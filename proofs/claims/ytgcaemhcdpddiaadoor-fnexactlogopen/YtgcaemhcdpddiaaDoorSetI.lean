/- The program's disk behind its queue: a sector put, the writes that are kept done; Sync. -/
import Derived.Test.YtgcaemhcdpddiaaDoorTakI
import Derived.Test.YtgcaemhcdpddiaaDoorCopI
import Derived.Test.YtgcaemhcdpddiaaDoorDkK
namespace Go.Proofs.YtgcaemhcdpddiaaDoor
open Go.RowKit

set_option maxRecDepth 20000 in
set_option maxHeartbeats 4000000 in
theorem put_any {lo : Nat} (g c t : Nat) (qv : Value) (bs ds : List Int) (w : World) (h : RowB lo w (.slice (some ⟨g, 0, none⟩) bs.length c) bs) (hl : ds.length = 64) (ht : (t + 1) * 64 ≤ bs.length) (hb0 : bs.length ≤ 2000000) :
    Calls Tryd.prog 56 #[.agg #[.slice (some ⟨g, 0, none⟩) bs.length c, qv], .int .i64 (t : Int), .agg (secA ds)] w fun e w' => e = .returned (.tuple #[]) ∧ RowB lo w' (.slice (some ⟨g, 0, none⟩) bs.length c) (over bs (t * 64) ds) ∧ w.grownBy w' (some g) := by
  obtain ⟨hf, hm⟩ := h.caps
  unfold maxLen at hm
  have b1 := below1 w (.cells #[.slice (some ⟨g, 0, none⟩) bs.length c, qv] 34)
  have V1 := Box2.new w (lo := w.heap.size) (Nat.le_refl _) (.slice (some ⟨g, 0, none⟩) bs.length c) qv 34
  have b2 := below1 (w.alloc (.cells #[.slice (some ⟨g, 0, none⟩) bs.length c, qv] 34)) (.cells (secA ds) 81)
  have g1 : Hid (((w.alloc (.cells #[.slice (some ⟨g, 0, none⟩) bs.length c, qv] 34)).alloc (.cells (secA ds) 81)).heap[w.heap.size + 1]? = some (.cells (secA ds) 81 (0, 0))) := (by have := heap_alloc_new (w.alloc (.cells #[.slice (some ⟨g, 0, none⟩) bs.length c, qv] 34)) (.cells (secA ds) 81); rw [show (w.alloc (.cells #[.slice (some ⟨g, 0, none⟩) bs.length c, qv] 34)).heap.size = w.heap.size + 1 by simp] at this; exact this)
  have B := b1.trans (b2.mono b1.size)
  replace V1 := V1.below b2
  have gl : g < w.heap.size := (World.ownsRow.lt h g rfl).2
  have HR : Hid (RowB lo ((w.alloc (.cells #[.slice (some ⟨g, 0, none⟩) bs.length c, qv] 34)).alloc (.cells (secA ds) 81)) (.slice (some ⟨g, 0, none⟩) bs.length c) bs) := h.below B
  have HG : Hid (w.grownBy ((w.alloc (.cells #[.slice (some ⟨g, 0, none⟩) bs.length c, qv] 34)).alloc (.cells (secA ds) 81)) (some g)) := ⟨B.os, B.tape, B.output, B.size, fun i hi _ => B.block i hi⟩
  clear b1 b2 h B
  go_enter Tryd.func56, Tryd.ntmps56
  go_upto_region 1 with fail
  generalize (w.alloc (.cells #[.slice (some ⟨g, 0, none⟩) bs.length c, qv] 34)).alloc (.cells (secA ds) 81) = W0 at *
  have hw64 : IntKind.i64.wrap ((t : Int) * 64) = (t : Int) * 64 := by rw [IntKind.wrap_i64]; omega
  have HIF : Hid (0 ≤ (t : Int) * 64 ∧ (t : Int) * 64 ≤ (bs.length : Int)) := ⟨by omega, by omega⟩
  have HTN : Hid (((t : Int) * 64).toNat = t * 64) := by show _ = _; omega
  have HNE : Hid (¬ c = t * 64) := by show ¬ _; omega
  have bd := ((Below.refl W0.heap.size W0).drew : Below W0.heap.size W0 _)
  have N : W0.drew.cell? ⟨w.heap.size, 0, none⟩ = some (.slice (some ⟨g, 0, none⟩) bs.length c) ∧ W0.drew.heap[w.heap.size + 1]? = some (.cells (secA ds) 81 (0, 0)) := ⟨V1.c0, g1.out⟩
  have R9 : RowB lo W0.drew (.slice (some ⟨g, 0, none⟩) bs.length c) bs := HR.out.below bd
  have G9 : w.grownBy W0.drew (some g) := grownBy_drew HG.out
  clear bd V1 g1 HR HG
  refine wp_region_held_drew (S := fun W => W.cell? ⟨w.heap.size, 0, none⟩ = some (.slice (some ⟨g, 0, none⟩) bs.length c) ∧ W.heap[w.heap.size + 1]? = some (.cells (secA ds) 81 (0, 0))) (by kernel_rfl) N (fun hHeld => ?_)
  clear hHeld
  revert N R9 G9
  generalize W0.drew = ww0
  intro N R9 G9
  refine takeW (i := 0) (by simp only [List.getElem?_toArray, List.getElem?_cons_zero]; exact rfl) (by kernel_rfl) (by kernel_rfl) (by kernel_rfl) (by exact fun _ _ _ h => h) (by rfl) (by intro wq hSw; go_simp <;> with_reducible rfl) (by assumption) ?_
  try simp only [Act.put, List.setIfInBounds_toArray, List.set_cons_zero, List.set_cons_succ]
  refine takeW (i := 1) (by simp only [List.getElem?_toArray, List.getElem?_cons_succ, List.getElem?_cons_zero]; exact rfl) (by kernel_rfl) (by kernel_rfl) (by kernel_rfl) (by exact fun _ _ _ h => h) (by rfl) (by intro wq hSw; obtain ⟨p1, p2⟩ := hSw; go_simp <;> with_reducible rfl) (by assumption) ?_
  try simp only [Act.put, List.setIfInBounds_toArray, List.set_cons_zero, List.set_cons_succ]
  refine takeW (i := 2) (by simp only [List.getElem?_toArray, List.getElem?_cons_succ, List.getElem?_cons_zero]; exact rfl) (by kernel_rfl) (by kernel_rfl) (by kernel_rfl) (by exact fun _ _ _ h => h) (by rfl) (by intro wq hSw; go_simp <;> with_reducible rfl) (by assumption) ?_
  try simp only [Act.put, List.setIfInBounds_toArray, List.set_cons_zero, List.set_cons_succ]
  refine takeW (i := 3) (by simp only [List.getElem?_toArray, List.getElem?_cons_succ, List.getElem?_cons_zero]; exact rfl) (by kernel_rfl) (by kernel_rfl) (by kernel_rfl) (by exact fun _ _ _ h => h) (by rfl) (by intro wq hSw; go_simp <;> with_reducible rfl) (by assumption) ?_
  try simp only [Act.put, List.setIfInBounds_toArray, List.set_cons_zero, List.set_cons_succ]
  refine takeW (i := 4) (v := .slice (some ⟨g, t * 64, none⟩) (bs.length - t * 64) (c - t * 64)) (by simp only [List.getElem?_toArray, List.getElem?_cons_succ, List.getElem?_cons_zero]; exact rfl) (by kernel_rfl) (by kernel_rfl) (by kernel_rfl) (by exact fun _ _ _ h => h) (by rfl) (by intro wq hSw; go_simp; rw [if_pos HIF.out, HTN.out, if_neg HNE.out]) (by assumption) ?_
  try simp only [Act.put, List.setIfInBounds_toArray, List.set_cons_zero, List.set_cons_succ]
  refine takeW (i := 5) (by simp only [List.getElem?_toArray, List.getElem?_cons_succ, List.getElem?_cons_zero]; exact rfl) (by kernel_rfl) (by kernel_rfl) (by kernel_rfl) (by exact fun _ _ _ h => h) (by rfl) (by intro wq hSw; go_simp <;> with_reducible rfl) (by assumption) ?_
  try simp only [Act.put, List.setIfInBounds_toArray, List.set_cons_zero, List.set_cons_succ]
  refine wpAnyH_ready (rs := [6]) (by kernel_rfl) (by simp) (AllReadyH.cons (by simp only [List.getElem?_toArray, List.getElem?_cons_succ, List.getElem?_cons_zero]; exact rfl) (fun K9 hK => ?_) AllReadyH.nil)
  obtain ⟨cur, hcur, fit, RO⟩ := RowB.over R9 (t * 64) ds (by rw [hl]; omega)
  have hcl : (ds.map (Value.int .u8)).length = 64 := by rw [List.length_map]; exact hl
  have gq := grownBy_setRow ww0 g (cur.toList.take (t * 64) ++ ds.map (Value.int .u8) ++ cur.toList.drop (t * 64 + (ds.map (Value.int .u8)).length)).toArray
  refine wp_copy_at (.tmp 10) (.tmp 11) 22 22 rfl 5 Tryd.underlying22 infoU8 g (t * 64) _ _ ⟨w.heap.size + 1, 0, none⟩ 64 _ rfl rfl cur 5 hcur (ds.map (Value.int .u8)) (by rw [hcl]; exact (Nat.min_eq_left (by omega)).symm) (fun j v hj => by rw [Addr.add_lit, Nat.zero_add, cell_of_row _ _ j _ _ _ N.2]; simpa [secA] using hj) fit (ones8 _) ?_
  have G8 := grownBy_trans G9 gq
  have N9 := And.intro (cell_drawnD gq N.1 (by omega)) ((setRow_other ww0 g (w.heap.size + 1) (cur.toList.take (t * 64) ++ ds.map (Value.int .u8) ++ cur.toList.drop (t * 64 + (ds.map (Value.int .u8)).length)).toArray (by omega)).trans N.2)
  generalize ww0.setRow g (cur.toList.take (t * 64) ++ ds.map (Value.int .u8) ++ cur.toList.drop (t * 64 + (ds.map (Value.int .u8)).length)).toArray = ww9 at *
  refine hK.out _ _ N9 (fun hHeld => ?_)
  clear hK K9 hHeld gq R9 N hcur fit
  try simp only [Act.put, List.setIfInBounds_toArray, List.set_cons_zero, List.set_cons_succ]
  refine wpAnyH_done (by kernel_rfl) ?_ _
  try go_wp2
  exact bodyPost_end (results_none Tryd.results56 _ _ _) rfl ⟨rfl, RO, G8⟩

set_option maxRecDepth 20000 in
set_option maxHeartbeats 4000000 in
theorem settled_any {lo : Nat} (F : Nat) (cap : List Value) (K : Nat → Bool) (b0 : Addr) (ad : Addr) (a2 : Option Addr) (c c2 : Nat) (vs0 : List Value) (bs : List Int) (qs : List Wr) (w : World) (h : DkR lo w (.slice (some ad) bs.length c) (.slice a2 qs.length c2) vs0 bs qs) (hv0 : SomeV vs0) (hb0 : bs.length ≤ 2000000) (hs : uptoQ qs qs.length ≤ 2000000) (E : Er b0 w)
    (hE : ∀ args W, Sem.run Tryd.prog (callFunc F args) W = .ok (.enter F args) W)
    (hF : ∀ W (j : Nat), j < qs.length → Below w.heap.size w W → Calls Tryd.prog F (.int .i64 (j : Int) :: cap).toArray W fun e w' => e = .returned (.bool (K j)) ∧ Below W.heap.size W w') :
    Calls Tryd.prog 47 #[.agg #[.slice (some ad) bs.length c, .slice a2 qs.length c2], .func (.func F) #[] cap.toArray] w fun e w' => ∃ ad' c' b' d' vs bs' qs', e = .returned (.agg #[.slice (some ad') bs.length c', .slice b' qs'.length d']) ∧ SkRes K bs qs bs' qs' ∧ DkR w.heap.size w' (.slice (some ad') bs.length c') (.slice b' qs'.length d') vs bs' qs' ∧ SomeV vs ∧ Below w.heap.size w w' := by
  obtain ⟨hf0, hm0⟩ := h.row.caps
  obtain ⟨-, hf2, hm2⟩ := h.que.caps
  unfold maxLen at hm0 hm2
  have hn : qs.length ≤ 2000000 := by have := uptoQ_mono qs (Nat.zero_le qs.length); simp only [uptoQ] at this; omega
  have HS : Hid (uptoQ qs qs.length ≤ 2000000) := hs
  have HM : Hid (SomeV vs0) := hv0
  have HD : Hid (DkR lo w (.slice (some ad) bs.length c) (.slice a2 qs.length c2) vs0 bs qs) := h
  have HR : Hid (Er b0 w) := E
  have wp := E.pos
  have HF : Hid (∀ W (j : Nat), j < qs.length → Below w.heap.size w W → Calls Tryd.prog F (.int .i64 (j : Int) :: cap).toArray W fun e w' => e = .returned (.bool (K j)) ∧ Below W.heap.size W w') := hF
  have HE : Hid (∀ args W, Sem.run Tryd.prog (callFunc F args) W = .ok (.enter F args) W) := hE
  have b1 := below1 w (.cells #[.slice (some ad) bs.length c, .slice a2 qs.length c2] 34)
  have V1 := Box2.new w (lo := w.heap.size) (Nat.le_refl _) (.slice (some ad) bs.length c) (.slice a2 qs.length c2) 34
  have b2 := below1 (w.alloc (.cells #[.slice (some ad) bs.length c, .slice a2 qs.length c2] 34)) (.cells #[.slice none 0 0, .slice none 0 0] 34)
  have V2 := Box2.new (w.alloc (.cells #[.slice (some ad) bs.length c, .slice a2 qs.length c2] 34)) (lo := w.heap.size) (by simp) (.slice none 0 0) (.slice none 0 0) 34
  rw [World.size_alloc] at V2
  have z2 : ((w.alloc (.cells #[.slice (some ad) bs.length c, .slice a2 qs.length c2] 34)).alloc (.cells #[.slice none 0 0, .slice none 0 0] 34)).heap.size = w.heap.size + 2 := by simp
  have B := b1.trans (b2.mono b1.size)
  replace V1 := V1.below b2
  clear b1 b2 hs hv0 h E hE hF
  go_enter Tryd.func47, Tryd.ntmps47
  go_upto_region 1 with fail
  generalize (w.alloc (.cells #[.slice (some ad) bs.length c, .slice a2 qs.length c2] 34)).alloc (.cells #[.slice none 0 0, .slice none 0 0] 34) = W0 at *
  obtain ⟨t0, t1, tf, _⟩ := id V1
  go_wp2_with fail
  refine (implDiskOk b0 (some ad) a2 c c2 vs0 bs qs _ (HD.out.below B) (HR.out.below B wp)).mono ?_
  rintro e w4 ⟨r, rfl, hr, hb⟩
  have HRr : Hid (r = true ↔ DkOk bs qs) := hr
  replace V1 := V1.below hb
  replace V2 := V2.below hb
  have sz4 : w.heap.size + 2 ≤ w4.heap.size := by rw [← z2]; exact hb.size
  replace B := B.trans (hb.mono B.size)
  clear hb t0 t1 tf hr z2
  cases r with
  | false =>
    have HN : Hid (SkRes K bs qs bs qs) := .inr ⟨(fun q => by have := HRr.out.2 q; cases this), rfl, rfl⟩
    obtain ⟨t0, t1, tf, _⟩ := id V1
    go_wp2_with fail
    refine (dcopied_any ad a2 c c2 vs0 bs qs _ (HD.out.below B) HM.out hb0 HS.out).mono ?_
    rintro e w5 ⟨ad8, c8, b8, d8, vs, rfl, D, SV0, hb⟩
    have SV : Hid (SomeV vs) := SV0
    replace V2 := V2.below hb
    replace B := B.trans (hb.mono B.size)
    clear hb t0 t1 tf V1 SV0
    have RC := Box2.chain B V2 (.slice (some ad8) bs.length c8) (.slice b8 qs.length d8)
    have gq : w5.grownBy ((w5.setCell ⟨w.heap.size + 1, 0, none⟩ (.slice (some ad8) bs.length c8)).setCell ⟨w.heap.size + 1, 1, none⟩ (.slice b8 qs.length d8)) (some (w.heap.size + 1)) := grownBy_setCell (p := ⟨w.heap.size + 1, 1, none⟩) (grownBy_setCell (p := ⟨w.heap.size + 1, 0, none⟩) (grownBy_refl _ _) rfl _) rfl _
    have DS : Hid (DkR w.heap.size ((w5.setCell ⟨w.heap.size + 1, 0, none⟩ (.slice (some ad8) bs.length c8)).setCell ⟨w.heap.size + 1, 1, none⟩ (.slice b8 qs.length d8)) (.slice (some ad8) bs.length c8) (.slice b8 qs.length d8) vs bs qs) := (D.kept gq (fun k hk e => by have := (D.lts.1 k hk).1; injection e with e; omega) (fun k hk e => by have := (D.lts.2.1 k hk).1; injection e with e; omega) (fun y hy k hk e => by have := (D.lts.2.2 y hy k hk).1; injection e with e; omega)).base (by omega)
    obtain ⟨q0, q1, qf, _⟩ := id V2
    have r0 := (V2.put (.slice (some ad8) bs.length c8) (.slice b8 qs.length d8)).c0
    have r1 := (V2.put (.slice (some ad8) bs.length c8) (.slice b8 qs.length d8)).c1
    clear gq D V2 B
    go_wp2
    exact bodyPost_ret (v := .agg #[(.slice (some ad8) bs.length c8), (.slice b8 qs.length d8)]) (by simp [results, Tryd.results47, go_sem, r0, r1]) rfl ⟨_, _, _, _, vs, bs, qs, rfl, HN.out, DS.out, SV.out, RC⟩
  | true =>
    have HOk : Hid (DkOk bs qs) := HRr.out.1 rfl
    clear HRr
    have hok1 := HOk.out.1
    have hok2 := HOk.out.2.1
    have hok3 := HOk.out.2.2.1
    have hbp : 64 ≤ bs.length ∧ bs.length ≤ 25600 := by omega
    obtain ⟨hbp1, hbp2⟩ := hbp
    clear hok1 hok2 hok3
    obtain ⟨t0, t1, tf, _⟩ := id V1
    go_wp2_with fail
    refine (cloneBy ad c bs _ (HD.out.row.below B).seesB hb0).mono ?_
    rintro e w5 ⟨g8, c8, rfl, R8, hb⟩
    have gl8 : w.heap.size + 2 ≤ g8 := Nat.le_trans sz4 (World.ownsRow.lt R8 g8 rfl).1
    have gn8 : g8 < w5.heap.size := (World.ownsRow.lt R8 g8 rfl).2
    replace R8 : RowB (w.heap.size + 2) w5 (.slice (some ⟨g8, 0, none⟩) bs.length c8) bs := row_base R8 sz4
    have sz5 : w.heap.size + 2 ≤ w5.heap.size := Nat.le_trans sz4 hb.size
    have V8 := Box2.new w5 (lo := w.heap.size) (by omega) (.slice (some ⟨g8, 0, none⟩) bs.length c8) (.slice none 0 0) 34
    have b8 := below1 w5 (.cells #[.slice (some ⟨g8, 0, none⟩) bs.length c8, .slice none 0 0] 34)
    replace V1 := (V1.below hb).below b8
    replace V2 := (V2.below hb).below b8
    replace R8 := R8.below b8
    replace B := (B.trans (hb.mono B.size)).trans (b8.mono (by omega))
    clear hb b8 t0 t1 tf
    go_upto_region 4 with fail
    generalize hp8 : w5.heap.size = p8 at *
    generalize w5.alloc (.cells #[.slice (some ⟨g8, 0, none⟩) bs.length c8, .slice none 0 0] 34) = W1 at *
    obtain ⟨cf8, cm8⟩ := R8.caps
    unfold maxLen at cm8
    have RW : Hid (RowB (w.heap.size + 2) W1 (.slice (some ⟨g8, 0, none⟩) bs.length c8) (skN K bs qs 0)) := R8
    clear R8
    obtain ⟨t0, t1, tf, _⟩ := id V1
    go_wp2
    clear t0 t1 tf
    go_loopw [20] (fun s4 wr => ∃ j : Nat, j ≤ qs.length ∧ s4 = .int .i64 j ∧ Hid (RowB (w.heap.size + 2) wr (.slice (some ⟨g8, 0, none⟩) bs.length c8) (skN K bs qs j)) ∧ Box2 w.heap.size wr w.heap.size (.slice (some ad) bs.length c) (.slice a2 qs.length c2) ∧ Box2 w.heap.size wr (w.heap.size + 1) (.slice none 0 0) (.slice none 0 0) ∧ Box2 w.heap.size wr p8 (.slice (some ⟨g8, 0, none⟩) bs.length c8) (.slice none 0 0) ∧ Below w.heap.size w wr) (fun s4 _ => qs.length - (intOf s4).toNat)
    case atStart => exact ⟨0, Nat.zero_le _, rfl, RW, V1, V2, V8, B⟩
    case round =>
      clear RW V1 V2 V8 B
      obtain ⟨j, hj, rfl, RW, V1, V2, V8, B⟩ := hrel
      rename World => wr
      by_cases hlt : j < qs.length
      · obtain ⟨b, cq, a', c', e, hvj, g1, g2, PP, _⟩ := HD.out.que.at' hlt
        injection e with e1 e2 e3
        subst e1
        have hbl : b < w.heap.size := World.block_lt_of_cell? w ⟨b, j * 2, none⟩ g1
        have ok := HOk.out.2.2.2 j hlt
        have SJ : Hid (skN K bs qs (j + 1) = if K j = true then over (skN K bs qs j) ((wrN qs j).1.toNat * 64) (wrN qs j).2 else skN K bs qs j) := rfl
        have SL : Hid ((skN K bs qs j).length = bs.length) := skN_len HOk.out j hj
        replace g1 := bat B g1
        replace g2 := bat B g2
        have P3 := PP.below B
        clear hvj e2 e3 PP
        generalize wrN qs j = q9 at *
        obtain ⟨x, ds⟩ := q9
        obtain ⟨x0, x1, lq⟩ := ok
        dsimp only at g1 g2 P3 x0 x1 lq SJ
        obtain ⟨t, rfl⟩ : ∃ t : Nat, x = t := ⟨x.toNat, by omega⟩
        rw [Int.toNat_natCast] at SJ
        have htm : (t + 1) * 64 ≤ bs.length := by omega
        have HLQ : Hid (ds.length = 64) := lq
        rw [lq] at g2
        clear lq x0 x1
        have bn := below1 wr (.cells #[.int .i64 (t : Int), .slice a' 64 c'] 67)
        have Vw := Box2.new wr (lo := w.heap.size) B.size (.int .i64 (t : Int)) (.slice a' 64 c') 67
        have R2 := RW.out.below bn
        have p8l : p8 < wr.heap.size := V8.lt
        have g8l : g8 < wr.heap.size := (World.ownsRow.lt RW.out g8 rfl).2
        obtain ⟨t0, t1, tf, _⟩ := id V1
        go_upto_region 7 with fail
        clear t0 t1 tf g1 g2 RW
        replace V1 := V1.below bn
        replace V2 := V2.below bn
        replace V8 := V8.below bn
        replace P3 := P3.below bn
        replace B := B.trans (bn.mono B.size)
        clear bn
        generalize hpw : wr.heap.size = pw at *
        generalize wr.alloc (.cells #[.int .i64 (t : Int), .slice a' 64 c'] 67) = W2 at *
        go_wp2_with fail
        rw [HE.out, Oper.upon_enter]
        refine (HF.out _ j hlt B).mono ?_
        rintro e w6 ⟨rfl, hb⟩
        replace V1 := V1.below hb
        replace V2 := V2.below hb
        replace V8 := V8.below hb
        replace Vw := Vw.below hb
        replace P3 := P3.below hb
        replace R2 := R2.below hb
        replace B := B.trans (hb.mono B.size)
        clear hb
        cases hKj : K j with
        | true =>
          have SJ2 : Hid (skN K bs qs (j + 1) = over (skN K bs qs j) (t * 64) ds) := SJ.out.trans (if_pos hKj)
          clear SJ hKj
          go_upto_region 8 with fail
          have bd := ((Below.refl w6.heap.size w6).drew : Below w6.heap.size w6 _)
          have N : w6.drew.cell? ⟨p8, 0, none⟩ = some (.slice (some ⟨g8, 0, none⟩) bs.length c8) ∧ w6.drew.cell? ⟨p8, 1, none⟩ = some (.slice none 0 0) ∧ w6.drew.cell? ⟨pw, 0, none⟩ = some (.int .i64 (t : Int)) ∧ w6.drew.cell? ⟨pw, 1, none⟩ = some (.slice a' 64 c') := ⟨V8.c0, V8.c1, Vw.c0, Vw.c1⟩
          replace V1 := V1.below bd
          replace V2 := V2.below bd
          replace V8 := V8.below bd
          replace P3 := P3.below bd
          have R3 : RowB (w.heap.size + 2) w6.drew (.slice (some ⟨g8, 0, none⟩) (skN K bs qs j).length c8) (skN K bs qs j) := by rw [SL.out]; exact RowB.below R2 bd
          replace B := B.trans (bd.mono B.size)
          clear bd Vw R2
          refine wp_region_held_drew (S := fun W => W.cell? ⟨p8, 0, none⟩ = some (.slice (some ⟨g8, 0, none⟩) bs.length c8) ∧ W.cell? ⟨p8, 1, none⟩ = some (.slice none 0 0) ∧ W.cell? ⟨pw, 0, none⟩ = some (.int .i64 (t : Int)) ∧ W.cell? ⟨pw, 1, none⟩ = some (.slice a' 64 c')) (by kernel_rfl) N (fun hHeld => ?_)
          clear hHeld
          revert N V1 V2 V8 P3 R3 B
          generalize w6.drew = ww0
          intro N V1 V2 V8 P3 R3 B
          refine takeW (i := 0) (by simp only [List.getElem?_toArray, List.getElem?_cons_zero]; exact rfl) (by kernel_rfl) (by kernel_rfl) (by kernel_rfl) (by exact fun _ _ _ h => h) (by rfl) (by intro wq hSw; obtain ⟨p1, p2, p4, p5⟩ := hSw; go_simp <;> with_reducible rfl) (by assumption) ?_
          try simp only [Act.put, List.setIfInBounds_toArray, List.set_cons_zero, List.set_cons_succ]
          refine takeW (i := 1) (by simp only [List.getElem?_toArray, List.getElem?_cons_succ, List.getElem?_cons_zero]; exact rfl) (by kernel_rfl) (by kernel_rfl) (by kernel_rfl) (by exact fun _ _ _ h => h) (by rfl) (by intro wq hSw; go_simp <;> with_reducible rfl) (by assumption) ?_
          try simp only [Act.put, List.setIfInBounds_toArray, List.set_cons_zero, List.set_cons_succ]
          refine takeW (i := 2) (by simp only [List.getElem?_toArray, List.getElem?_cons_succ, List.getElem?_cons_zero]; exact rfl) (by kernel_rfl) (by kernel_rfl) (by kernel_rfl) (by exact fun _ _ _ h => h) (by rfl) (by intro wq hSw; obtain ⟨p1, p2, p4, p5⟩ := hSw; go_simp <;> with_reducible rfl) (by assumption) ?_
          try simp only [Act.put, List.setIfInBounds_toArray, List.set_cons_zero, List.set_cons_succ]
          refine takeW (i := 3) (by simp only [List.getElem?_toArray, List.getElem?_cons_succ, List.getElem?_cons_zero]; exact rfl) (by kernel_rfl) (by kernel_rfl) (by kernel_rfl) (by exact fun _ _ _ h => h) (by rfl) (by intro wq hSw; go_simp <;> with_reducible rfl) (by assumption) ?_
          try simp only [Act.put, List.setIfInBounds_toArray, List.set_cons_zero, List.set_cons_succ]
          refine takeW (i := 4) (by simp only [List.getElem?_toArray, List.getElem?_cons_succ, List.getElem?_cons_zero]; exact rfl) (by kernel_rfl) (by kernel_rfl) (by kernel_rfl) (by exact fun _ _ _ h => h) (by rfl) (by intro wq hSw; obtain ⟨p1, p2, p4, p5⟩ := hSw; go_simp <;> with_reducible rfl) (by assumption) ?_
          try simp only [Act.put, List.setIfInBounds_toArray, List.set_cons_zero, List.set_cons_succ]
          refine wpAnyH_ready (rs := [5]) (by kernel_rfl) (by simp) (AllReadyH.cons (by simp only [List.getElem?_toArray, List.getElem?_cons_succ, List.getElem?_cons_zero]; exact rfl) (fun K9 hK => ?_) AllReadyH.nil)
          go_simp
          have P4 : SeesB ww0 a' c' ds := RowB.seesB P3
          refine (sectorOf_any a' c' ds _ P4 HLQ.out).mono ?_
          rintro e w7 ⟨rfl, hb⟩
          have N7 : _ ∧ _ ∧ _ ∧ _ := ⟨bat hb N.1, bat hb N.2.1, bat hb N.2.2.1, bat hb N.2.2.2⟩
          replace V1 := V1.below hb
          replace V2 := V2.below hb
          replace V8 := V8.below hb
          replace R3 := R3.below hb
          replace B := B.trans (hb.mono B.size)
          refine hK.out _ _ N7 (fun hHeld => ?_)
          clear hK K9 hHeld N P3 P4 hb
          try simp only [Act.put, List.setIfInBounds_toArray, List.set_cons_zero, List.set_cons_succ]
          refine wpAnyH_ready (rs := [6]) (by kernel_rfl) (by simp) (AllReadyH.cons (by simp only [List.getElem?_toArray, List.getElem?_cons_succ, List.getElem?_cons_zero]; exact rfl) (fun K9 hK => ?_) AllReadyH.nil)
          go_simp
          have PA := put_any g8 c8 t (.slice none 0 0) (skN K bs qs j) ds w7 R3 HLQ.out (by rw [SL.out]; exact htm) (by rw [SL.out]; exact hb0)
          rw [SL.out] at PA
          refine PA.mono ?_
          rintro e w8 ⟨rfl, R4, G4⟩
          have RN : Hid (RowB (w.heap.size + 2) w8 (.slice (some ⟨g8, 0, none⟩) bs.length c8) (skN K bs qs (j + 1))) := by show RowB _ _ _ _; rw [SJ2.out]; exact R4
          have N8 : _ ∧ _ ∧ _ ∧ _ := ⟨cell_drawnD G4 N7.1 (by omega), cell_drawnD G4 N7.2.1 (by omega), cell_drawnD G4 N7.2.2.1 (by omega), cell_drawnD G4 N7.2.2.2 (by omega)⟩
          replace V1 := V1.grown G4 (by omega)
          replace V2 := V2.grown G4 (by omega)
          replace V8 := V8.grown G4 (by omega)
          replace B := B.grown G4 B.size (fun k hk => by injection hk with hk; omega)
          refine hK.out _ _ N8 (fun hHeld => ?_)
          clear hK K9 hHeld N7 R3 R4 G4 PA
          try simp only [Act.put, List.setIfInBounds_toArray, List.set_cons_zero, List.set_cons_succ]
          refine wpAnyH_done (by kernel_rfl) ?_ _
          go_wp2
          go_roundw
          case rel => exact ⟨j + 1, by omega, by go_num, RN, V1, V2, V8, B⟩
          case measure => simp [intOf]; omega
        | false =>
          have SJ2 : Hid (skN K bs qs (j + 1) = skN K bs qs j) := SJ.out.trans (if_neg (by rw [hKj]; decide))
          have RN : Hid (RowB (w.heap.size + 2) w6 (.slice (some ⟨g8, 0, none⟩) bs.length c8) (skN K bs qs (j + 1))) := by show RowB _ _ _ _; rw [SJ2.out]; exact R2
          clear R2
          go_wp2_with fail
          go_roundw
          case rel => exact ⟨j + 1, by omega, by go_num, RN, V1, V2, V8, B⟩
          case measure => simp [intOf]; omega
      · obtain rfl : j = qs.length := by omega
        have HN : Hid (SkRes K bs qs (skN K bs qs qs.length) []) := .inl ⟨HOk.out, rfl, rfl⟩
        clear V1
        obtain ⟨y0, y1, yf, _⟩ := id V8
        have gq : wr.grownBy ((wr.setCell ⟨w.heap.size + 1, 0, none⟩ (.slice (some ⟨g8, 0, none⟩) bs.length c8)).setCell ⟨w.heap.size + 1, 1, none⟩ (.slice none 0 0)) (some (w.heap.size + 1)) := grownBy_setCell (p := ⟨w.heap.size + 1, 1, none⟩) (grownBy_setCell (p := ⟨w.heap.size + 1, 0, none⟩) (grownBy_refl _ _) rfl _) rfl _
        have RC := Box2.chain B V2 (.slice (some ⟨g8, 0, none⟩) bs.length c8) (.slice none 0 0)
        have R7 := owns_kept' RW.out gq (fun k hk e => by injection e with e; injection hk with hk; dsimp only at hk; omega)
        have DS : Hid (DkR w.heap.size ((wr.setCell ⟨w.heap.size + 1, 0, none⟩ (.slice (some ⟨g8, 0, none⟩) bs.length c8)).setCell ⟨w.heap.size + 1, 1, none⟩ (.slice none 0 0)) (.slice (some ⟨g8, 0, none⟩) bs.length c8) (.slice none 0 0) [] (skN K bs qs qs.length) []) := ⟨row_base R7 (by omega), QuR.nil _ _, fun k hk => ⟨(fun e => by cases e), (fun u hu => by cases hu)⟩⟩
        obtain ⟨q0, q1, qf, _⟩ := id V2
        have r0 := (V2.put (.slice (some ⟨g8, 0, none⟩) bs.length c8) (.slice none 0 0)).c0
        have r1 := (V2.put (.slice (some ⟨g8, 0, none⟩) bs.length c8) (.slice none 0 0)).c1
        have SV9 : Hid (SomeV []) := fun u hu => by cases hu
        clear gq R7 V8 V2 B RW
        go_wp2
        refine bodyPost_ret (v := .agg #[(.slice (some ⟨g8, 0, none⟩) bs.length c8), (.slice none 0 0)]) (by simp [results, Tryd.results47, go_sem, r0, r1]) rfl ?_
        exact ⟨_, _, _, _, [], skN K bs qs qs.length, [], rfl, HN.out, DS.out, SV9.out, RC⟩

theorem enter_sync1 (args : Array Value) (W : World) : Sem.run Tryd.prog (callFunc 48 args) W = .ok (.enter 48 args) W := by kernel_rfl
theorem sync1_any (j : Int) (w : World) : Calls Tryd.prog 48 #[.int .i64 j] w fun e w' => e = .returned (.bool true) ∧ Below w.heap.size w w' := by
  go_enter Tryd.func48, Tryd.ntmps48
  go_wp2
  go_ret
  exact ⟨rfl, Below.refl _ _⟩
set_option maxRecDepth 20000 in
set_option maxHeartbeats 4000000 in
theorem implSync {lo : Nat} (b0 : Addr) (ad : Addr) (a2 : Option Addr) (c c2 : Nat) (vs0 : List Value) (bs : List Int) (qs : List Wr) (w : World) (h : DkR lo w (.slice (some ad) bs.length c) (.slice a2 qs.length c2) vs0 bs qs) (hv0 : SomeV vs0) (hb0 : bs.length ≤ 2000000) (hs : uptoQ qs qs.length ≤ 2000000) (E : Er b0 w) :
    Calls Tryd.prog 38 #[.agg #[.slice (some ad) bs.length c, .slice a2 qs.length c2]] w fun e w' => ∃ ad' c' b' d' vs bs' qs', e = .returned (.agg #[.slice (some ad') bs.length c', .slice b' qs'.length d']) ∧ SyRes bs qs bs' qs' ∧ DkR w.heap.size w' (.slice (some ad') bs.length c') (.slice b' qs'.length d') vs bs' qs' ∧ SomeV vs ∧ Below w.heap.size w w' := by
  have b1 := below1 w (.cells #[.slice (some ad) bs.length c, .slice a2 qs.length c2] 34)
  have V1 := Box2.new w (lo := w.heap.size) (Nat.le_refl _) (.slice (some ad) bs.length c) (.slice a2 qs.length c2) 34
  have b2 := below1 (w.alloc (.cells #[.slice (some ad) bs.length c, .slice a2 qs.length c2] 34)) (.cells #[.slice none 0 0, .slice none 0 0] 34)
  have V2 := Box2.new (w.alloc (.cells #[.slice (some ad) bs.length c, .slice a2 qs.length c2] 34)) (lo := w.heap.size) (by simp) (.slice none 0 0) (.slice none 0 0) 34
  rw [World.size_alloc] at V2
  have z2 : ((w.alloc (.cells #[.slice (some ad) bs.length c, .slice a2 qs.length c2] 34)).alloc (.cells #[.slice none 0 0, .slice none 0 0] 34)).heap.size = w.heap.size + 2 := by simp
  have B := b1.trans (b2.mono b1.size)
  replace V1 := V1.below b2
  have HD : Hid (DkR lo w (.slice (some ad) bs.length c) (.slice a2 qs.length c2) vs0 bs qs) := h
  have HM : Hid (SomeV vs0) := hv0
  have HS : Hid (uptoQ qs qs.length ≤ 2000000) := hs
  have HR : Hid (Er b0 w) := E
  have wp := E.pos
  clear b1 b2 h hv0 hs E
  go_enter Tryd.func38, Tryd.ntmps38
  go_upto_region 1 with fail
  generalize (w.alloc (.cells #[.slice (some ad) bs.length c, .slice a2 qs.length c2] 34)).alloc (.cells #[.slice none 0 0, .slice none 0 0] 34) = W0 at *
  obtain ⟨t0, t1, tf, _⟩ := id V1
  go_wp2_with fail
  refine (settled_any 48 [] (fun _ => true) b0 ad a2 c c2 vs0 bs qs _ (HD.out.below B) HM.out hb0 HS.out (HR.out.below B wp) enter_sync1 (fun W j _ _ => sync1_any j W)).mono ?_
  rintro e w5 ⟨ad8, c8, b8, d8, vs, bs', qs', rfl, SR0, D, SV0, hb⟩
  have SR : Hid (SyRes bs qs bs' qs') := SR0.sync
  have SV : Hid (SomeV vs) := SV0
  rw [z2] at D
  replace V2 := V2.below hb
  replace B := B.trans (hb.mono B.size)
  clear hb t0 t1 tf V1 SV0 SR0 z2
  have RC := Box2.chain B V2 (.slice (some ad8) bs.length c8) (.slice b8 qs'.length d8)
  have gq : w5.grownBy ((w5.setCell ⟨w.heap.size + 1, 0, none⟩ (.slice (some ad8) bs.length c8)).setCell ⟨w.heap.size + 1, 1, none⟩ (.slice b8 qs'.length d8)) (some (w.heap.size + 1)) := grownBy_setCell (p := ⟨w.heap.size + 1, 1, none⟩) (grownBy_setCell (p := ⟨w.heap.size + 1, 0, none⟩) (grownBy_refl _ _) rfl _) rfl _
  have DS : Hid (DkR w.heap.size ((w5.setCell ⟨w.heap.size + 1, 0, none⟩ (.slice (some ad8) bs.length c8)).setCell ⟨w.heap.size + 1, 1, none⟩ (.slice b8 qs'.length d8)) (.slice (some ad8) bs.length c8) (.slice b8 qs'.length d8) vs bs' qs') := (D.kept gq (fun k hk e => by have := (D.lts.1 k hk).1; injection e with e; omega) (fun k hk e => by have := (D.lts.2.1 k hk).1; injection e with e; omega) (fun y hy k hk e => by have := (D.lts.2.2 y hy k hk).1; injection e with e; omega)).base (by omega)
  obtain ⟨q0, q1, qf, _⟩ := id V2
  have r0 := (V2.put (.slice (some ad8) bs.length c8) (.slice b8 qs'.length d8)).c0
  have r1 := (V2.put (.slice (some ad8) bs.length c8) (.slice b8 qs'.length d8)).c1
  clear gq D V2 B
  go_wp2
  exact bodyPost_ret (v := .agg #[(.slice (some ad8) bs.length c8), (.slice b8 qs'.length d8)]) (by simp [results, Tryd.results38, go_sem, r0, r1]) rfl ⟨_, _, _, _, vs, bs', qs', rfl, SR.out, DS.out, SV.out, RC⟩
end Go.Proofs.YtgcaemhcdpddiaaDoor
