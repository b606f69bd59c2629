/- The specification's Sync. -/
import Derived.Test.YtonbmeepfgejmaaGreatDoorDkU
import Derived.Laws.CopyRow
namespace Go.Proofs.YtonbmeepfgejmaaGreatDoor
open Go.RowKit

theorem wp_copy_at {P : Program} {w : World} {o : Oper} {a : Act} {K : Act → World → Prop} {Q : Exit → Act → World → Prop} (d s : Operand) (dT sT : TypeId)
    (ho : o.op = .call { callee := .builtin .copy, args := #[d, s], argTypes := #[dT, sT] }) (elem : TypeId) (hu : P.underlying dT = some (.slice elem)) (hsz : (P.info? elem).map (·.size) = some 1)
    (g off dLen dCap : Nat) (ad : Addr) (sLen sCap : Nat) (hd : a.eval d = .slice (some ⟨g, off, none⟩) dLen dCap) (hs : a.eval s = .slice (some ad) sLen sCap)
    (cur : Array Value) (t : TypeId) (hg : w.heap[g]? = some (.cells cur t (0, 0))) (cs : List Value) (hn : cs.length = Nat.min sLen dLen)
    (hsrc : ∀ j v, cs[j]? = some v → w.cell? (ad.add j) = some v) (hfit : off + cs.length ≤ cur.size) (h1 : ∀ v ∈ cs, v.oneCell' = true)
    (h : K (a.put o.dst (goInt cs.length)) (w.setRow g (cur.toList.take off ++ cs ++ cur.toList.drop (off + cs.length)).toArray)) : o.wp P a w K Q := by
  have hr := run_copy_row (P := P) w dT sT o.type elem g off dLen dCap ad sLen sCap cur t cs hu hsz hg hn hsrc hfit h1
  unfold Oper.wp execOp
  simp only [ho, resolve, invoke, builtin, Sem.run_bind, Sem.run_pure, Result.andThen_ok, List.map_toArray, List.map_cons, List.map_nil, hd, hs, hr]
  exact h
/-- Bytes that others are laid over. -/
def over (bs : List Int) (k : Nat) (ds : List Int) : List Int := bs.take k ++ ds ++ bs.drop (k + ds.length)
theorem over_len {bs : List Int} {k : Nat} {ds : List Int} (h : k + ds.length ≤ bs.length) : (over bs k ds).length = bs.length := by simp [over]; omega
theorem take_over {α : Type} (L : List α) (k n : Nat) (cs : List α) (h : k + cs.length ≤ n) (hn : n ≤ L.length) : (L.take k ++ cs ++ L.drop (k + cs.length)).take n = (L.take n).take k ++ cs ++ (L.take n).drop (k + cs.length) := by
  rw [List.take_append, List.take_of_length_le (by simp; omega), List.take_take, Nat.min_eq_left (by omega), List.drop_take]
  congr 2
  simp
  omega
theorem grownBy_setRow (w : World) (g : Nat) (cs : Array Value) : w.grownBy (w.setRow g cs) (some g) :=
  ⟨rfl, rfl, rfl, by simp [World.setRow], fun i _ hr => setRow_other w g i cs (fun e => hr (by rw [e]))⟩
/-- A copy into a row of the call's own. -/
theorem RowB.over {lo g c : Nat} {w : World} {bs : List Int} (h : RowB lo w (.slice (some ⟨g, 0, none⟩) bs.length c) bs) (k : Nat) (ds : List Int) (hk : k + ds.length ≤ bs.length) :
    ∃ cur : Array Value, w.heap[g]? = some (.cells cur 5 (0, 0)) ∧ k + (ds.map (Value.int .u8)).length ≤ cur.size ∧ RowB lo (w.setRow g (cur.toList.take k ++ ds.map (Value.int .u8) ++ cur.toList.drop (k + (ds.map (Value.int .u8)).length)).toArray) (.slice (some ⟨g, 0, none⟩) bs.length c) (over bs k ds) := by
  rcases h.2 with ⟨hv, _⟩ | ⟨q, cap, cur, hv, q3, q4, q5, q6, q7, q8⟩
  · cases hv
  · injection hv with e1 e2 e3
    injection e1 with e1
    injection e1 with e1
    subst e1 e3
    rw [Nat.mul_one] at q7 q8
    have fit : k + (ds.map (Value.int .u8)).length ≤ cur.size := by rw [List.length_map]; omega
    have hcl : bs.length ≤ cur.toList.length := by have e : cur.toList.length = cur.size := Array.length_toList; omega
    refine ⟨cur, q4, fit, ?_⟩
    have L : (cur.toList.take k ++ ds.map (Value.int .u8) ++ cur.toList.drop (k + (ds.map (Value.int .u8)).length)).length = cur.size := by simp at fit ⊢; omega
    unfold RowB
    rw [over_len hk]
    refine ⟨by rw [List.length_map, over_len hk, Nat.mul_one], .inr ⟨g, c, _, rfl, q3, setRow_heap w g _ _ _ _ q4, q5, q6, by rw [Nat.mul_one]; show List.length _ = _; rw [L]; exact q7, ?_⟩⟩
    rw [Nat.mul_one]
    show List.take _ (_ ++ _ ++ _) = _
    rw [take_over cur.toList k bs.length (ds.map (Value.int .u8)) (by rw [List.length_map]; exact hk) hcl, q8]
    simp [Go.Proofs.YtonbmeepfgejmaaGreatDoor.over, List.map_take, List.map_drop]
/-- The bytes, when the first j writes are done. -/
def syN (bs : List Int) (qs : List Wr) : Nat → List Int
  | 0 => bs
  | j + 1 => over (syN bs qs j) ((wrN qs j).1.toNat * 64) (wrN qs j).2
theorem syN_len {bs : List Int} {qs : List Wr} (h : DkOk bs qs) : ∀ j, j ≤ qs.length → (syN bs qs j).length = bs.length
  | 0, _ => rfl
  | j + 1, hj => by
    have ih := syN_len h j (by omega)
    have ok := h.2.2.2 j (by omega)
    unfold syN
    rw [over_len, ih]
    rw [ih, ok.2.2]
    have := ok.1
    have := ok.2.1
    have := h.1
    omega
/-- What Sync answers. -/
def SyRes (bs : List Int) (qs : List Wr) (bs' : List Int) (qs' : List Wr) : Prop := (DkOk bs qs ∧ bs' = syN bs qs qs.length ∧ qs' = []) ∨ (¬DkOk bs qs ∧ bs' = bs ∧ qs' = qs)
theorem SyRes.one {bs : List Int} {qs : List Wr} {b1 b2 : List Int} {q1 q2 : List Wr} (h : SyRes bs qs b1 q1) (k : SyRes bs qs b2 q2) : b1 = b2 ∧ q1 = q2 := by
  rcases h with ⟨a, b, c⟩ | ⟨a, b, c⟩
  · rcases k with ⟨a', b', c'⟩ | ⟨a', b', c'⟩
    · exact ⟨b.trans b'.symm, c.trans c'.symm⟩
    · exact absurd a a'
  · rcases k with ⟨a', b', c'⟩ | ⟨a', b', c'⟩
    · exact absurd a' a
    · exact ⟨b.trans b'.symm, c.trans c'.symm⟩
theorem SyRes.len {bs : List Int} {qs : List Wr} {b1 : List Int} {q1 : List Wr} (h : SyRes bs qs b1 q1) : b1.length = bs.length := by
  rcases h with ⟨a, b, _⟩ | ⟨_, b, _⟩
  · rw [b, syN_len a _ (Nat.le_refl _)]
  · rw [b]

set_option maxRecDepth 20000 in
set_option maxHeartbeats 4000000 in
theorem specSync {lo : Nat} (ad : Addr) (a2 : Option Addr) (c c2 : Nat) (vs0 : List Value) (bs : List Int) (qs : List Wr) (w : World) (h : DkR lo w (.slice (some ad) bs.length c) (.slice a2 qs.length c2) vs0 bs qs) (hv0 : SomeV vs0) (hb0 : bs.length ≤ 2000000) (hs : uptoQ qs qs.length ≤ 2000000) :
    Calls Tryz.prog 21 #[.agg #[.slice (some ad) bs.length c, .slice a2 qs.length c2]] w fun e w' => ∃ ad' c' b' d' vs bs' qs', e = .returned (.agg #[.slice (some ad') bs.length c', .slice b' qs'.length d']) ∧ SyRes bs qs bs' qs' ∧ DkR w.heap.size w' (.slice (some ad') bs.length c') (.slice b' qs'.length d') vs bs' qs' ∧ SomeV vs ∧ Below w.heap.size w w' := by
  obtain ⟨i8, hi8, hy0, hy1, hy2⟩ := info_parts infoB
  obtain ⟨hf0, hm0⟩ := h.row.caps
  obtain ⟨-, hf2, hm2⟩ := h.que.caps
  unfold maxLen at hm0 hm2
  have hn : qs.length ≤ 2000000 := by have := uptoQ_mono qs (Nat.zero_le qs.length); simp only [uptoQ] at this; omega
  have HS : Hid (uptoQ qs qs.length ≤ 2000000) := hs
  have HM : Hid (SomeV vs0) := hv0
  have HD : Hid (DkR lo w (.slice (some ad) bs.length c) (.slice a2 qs.length c2) vs0 bs qs) := h
  have b1 := below1 w (.cells #[.slice (some ad) bs.length c, .slice a2 qs.length c2] 31)
  have V1 := Box2.new w (lo := w.heap.size) (Nat.le_refl _) (.slice (some ad) bs.length c) (.slice a2 qs.length c2) 31
  have b2 := below1 (w.alloc (.cells #[.slice (some ad) bs.length c, .slice a2 qs.length c2] 31)) (.cells #[.slice none 0 0, .slice none 0 0] 31)
  have V2 := Box2.new (w.alloc (.cells #[.slice (some ad) bs.length c, .slice a2 qs.length c2] 31)) (lo := w.heap.size) (by simp) (.slice none 0 0) (.slice none 0 0) 31
  rw [World.size_alloc] at V2
  have z2 : ((w.alloc (.cells #[.slice (some ad) bs.length c, .slice a2 qs.length c2] 31)).alloc (.cells #[.slice none 0 0, .slice none 0 0] 31)).heap.size = w.heap.size + 2 := by simp
  have B := b1.trans (b2.mono b1.size)
  replace V1 := V1.below b2
  clear b1 b2 hs hv0 h
  go_enter Tryz.func21, Tryz.ntmps21
  go_upto_region 1 with fail
  generalize (w.alloc (.cells #[.slice (some ad) bs.length c, .slice a2 qs.length c2] 31)).alloc (.cells #[.slice none 0 0, .slice none 0 0] 31) = W0 at *
  obtain ⟨t0, t1, tf, _⟩ := id V1
  go_wp2_with fail
  refine (l11CopyR ad a2 c c2 vs0 bs qs _ (HD.out.below B) HM.out hb0 HS.out).mono ?_
  rintro e w3 ⟨ad8, c8, b8, d8, vs, rfl, D, SV0, hb⟩
  have SV : Hid (SomeV vs) := SV0
  rw [z2] at D
  replace V1 := V1.below hb
  replace V2 := V2.below hb
  have sz3 : w.heap.size + 2 ≤ w3.heap.size := by rw [← z2]; exact hb.size
  replace B := B.trans (hb.mono B.size)
  clear hb t0 t1 tf z2 SV0
  have V8 := Box2.new w3 (lo := w.heap.size) (by omega) (.slice (some ad8) bs.length c8) (.slice b8 qs.length d8) 31
  have hb := below1 w3 (.cells #[(.slice (some ad8) bs.length c8), (.slice b8 qs.length d8)] 31)
  have N8 : Hid (∀ u ∈ ((Value.slice (some ad8) bs.length c8) :: (Value.slice b8 qs.length d8) :: vs), u.ownBlock ≠ some w3.heap.size) := D.nots (.inl (Nat.le_refl _))
  replace V1 := V1.below hb
  replace V2 := V2.below hb
  replace D := D.below hb
  replace B := B.trans (hb.mono B.size)
  clear hb
  go_upto_region 2 with fail
  generalize hp8 : w3.heap.size = p8 at *
  generalize w3.alloc (.cells #[(.slice (some ad8) bs.length c8), (.slice b8 qs.length d8)] 31) = W1 at *
  obtain ⟨t0, t1, tf, _⟩ := id V1
  go_wp2_with fail
  refine (specDiskOk (some ad) a2 c c2 vs0 bs qs _ (HD.out.below B)).mono ?_
  rintro e w4 ⟨r, rfl, hr, hb⟩
  have HRr : Hid (r = true ↔ DkOk bs qs) := hr
  replace V1 := V1.below hb
  replace V2 := V2.below hb
  replace V8 := V8.below hb
  replace D := D.below hb
  replace B := B.trans (hb.mono B.size)
  clear hb t0 t1 tf hr
  cases r with
  | false =>
    have HN : Hid (SyRes bs qs bs qs) := .inr ⟨(fun q => by have := HRr.out.2 q; cases this), rfl, rfl⟩
    clear V1
    have RC := Box2.chain B V2 (.slice (some ad8) bs.length c8) (.slice b8 qs.length d8)
    have gq : w4.grownBy ((w4.setCell ⟨w.heap.size + 1, 0, none⟩ (.slice (some ad8) bs.length c8)).setCell ⟨w.heap.size + 1, 1, none⟩ (.slice b8 qs.length d8)) (some (w.heap.size + 1)) := grownBy_setCell (p := ⟨w.heap.size + 1, 1, none⟩) (grownBy_setCell (p := ⟨w.heap.size + 1, 0, none⟩) (grownBy_refl _ _) rfl _) rfl _
    have DS : Hid (DkR w.heap.size ((w4.setCell ⟨w.heap.size + 1, 0, none⟩ (.slice (some ad8) bs.length c8)).setCell ⟨w.heap.size + 1, 1, none⟩ (.slice b8 qs.length d8)) (.slice (some ad8) bs.length c8) (.slice b8 qs.length d8) vs bs qs) := (D.kept gq (fun k hk e => by have := (D.lts.1 k hk).1; injection e with e; omega) (fun k hk e => by have := (D.lts.2.1 k hk).1; injection e with e; omega) (fun y hy k hk e => by have := (D.lts.2.2 y hy k hk).1; injection e with e; omega)).base (by omega)
    obtain ⟨y0, y1, yf, _⟩ := id V8
    obtain ⟨q0, q1, qf, _⟩ := id V2
    have r0 := (V2.put (.slice (some ad8) bs.length c8) (.slice b8 qs.length d8)).c0
    have r1 := (V2.put (.slice (some ad8) bs.length c8) (.slice b8 qs.length d8)).c1
    clear gq D V2 V8 B
    go_wp2
    exact bodyPost_ret (v := .agg #[(.slice (some ad8) bs.length c8), (.slice b8 qs.length d8)]) (by simp [results, Tryz.results21, go_sem, r0, r1]) rfl ⟨_, _, _, _, vs, bs, qs, rfl, HN.out, DS.out, SV.out, RC⟩
  | true =>
    have HOk : Hid (DkOk bs qs) := HRr.out.1 rfl
    clear HRr
    have hok1 := HOk.out.1
    have hok2 := HOk.out.2.1
    have hok3 := HOk.out.2.2.1
    have hbp : 64 ≤ bs.length ∧ bs.length ≤ 25600 := by omega
    obtain ⟨hbp1, hbp2⟩ := hbp
    clear hok1 hok2 hok3
    obtain ⟨g8, ead, _, _⟩ := D.row.at2 (j := 0) (by omega)
    injection ead with ead
    subst ead
    have gl8 : w.heap.size + 2 ≤ g8 := (D.lts.1 g8 rfl).1
    have gn8 : g8 ≠ p8 := fun e => N8.out _ (List.mem_cons_self ..) (by rw [← e]; rfl)
    have RW : Hid (RowB (w.heap.size + 2) w4 (.slice (some ⟨g8, 0, none⟩) bs.length c8) (syN bs qs 0)) := D.row
    obtain ⟨cf8, cm8⟩ := D.row.caps
    unfold maxLen at cm8
    clear D N8
    go_upto_region 4 with fail
    go_wp2
    go_loopw [4] (fun s4 wr => ∃ j : Nat, j ≤ qs.length ∧ s4 = .int .i64 j ∧ Hid (RowB (w.heap.size + 2) wr (.slice (some ⟨g8, 0, none⟩) bs.length c8) (syN bs qs j)) ∧ Box2 w.heap.size wr w.heap.size (.slice (some ad) bs.length c) (.slice a2 qs.length c2) ∧ Box2 w.heap.size wr (w.heap.size + 1) (.slice none 0 0) (.slice none 0 0) ∧ Box2 w.heap.size wr p8 (.slice (some ⟨g8, 0, none⟩) bs.length c8) (.slice b8 qs.length d8) ∧ Below w.heap.size w wr) (fun s4 _ => qs.length - (intOf s4).toNat)
    case atStart => exact ⟨0, Nat.zero_le _, rfl, RW, V1, V2, V8, B⟩
    case round =>
      clear RW V1 V2 V8 B
      obtain ⟨j, hj, rfl, RW, V1, V2, V8, B⟩ := hrel
      rename World => wr
      obtain ⟨t0, t1, tf, _⟩ := id V1
      by_cases hlt : j < qs.length
      · obtain ⟨b, cq, a', c', e, hvj, g1, g2, PP, _⟩ := HD.out.que.at' hlt
        injection e with e1 e2 e3
        subst e1
        obtain ⟨ad3, e8⟩ : ∃ ad, a' = some ad := by
          obtain ⟨ad', l, c9, q⟩ := HM.out _ (List.mem_of_getElem? hvj)
          injection q with q
          exact ⟨ad', q⟩
        subst e8
        have hbl : b < w.heap.size := World.block_lt_of_cell? w ⟨b, j * 2, none⟩ g1
        have ok := HOk.out.2.2.2 j hlt
        have SJ : Hid (syN bs qs (j + 1) = over (syN bs qs j) ((wrN qs j).1.toNat * 64) (wrN qs j).2) := rfl
        have SL : Hid ((syN bs qs j).length = bs.length) := syN_len HOk.out j hj
        replace g1 := bat B g1
        replace g2 := bat B g2
        have P3 := PP.below B
        clear hvj e2 e3 PP
        generalize wrN qs j = q9 at *
        obtain ⟨x, ds⟩ := q9
        obtain ⟨x0, x1, lq⟩ := ok
        dsimp only at g1 g2 P3 x0 x1 lq SJ
        obtain ⟨t, rfl⟩ : ∃ t : Nat, x = t := ⟨x.toNat, by omega⟩
        rw [Int.toNat_natCast] at SJ
        have htm : (t + 1) * 64 ≤ bs.length := by omega
        have HLQ : Hid (ds.length = 64) := lq
        rw [lq] at g2
        clear lq x0 x1
        have hw64 : IntKind.i64.wrap ((t : Int) * 64) = (t : Int) * 64 := by rw [IntKind.wrap_i64]; omega
        have HIF : Hid (0 ≤ (t : Int) * 64 ∧ (t : Int) * 64 ≤ (bs.length : Int)) := ⟨by omega, by omega⟩
        have HTN : Hid (((t : Int) * 64).toNat = t * 64) := by show _ = _; omega
        have HNE : Hid (¬ c8 = t * 64) := by show ¬ _; omega
        obtain ⟨y0, y1, yf, _⟩ := id V8
        go_wp2_with fail
        have bd := ((Below.refl wr.heap.size wr).drew : Below wr.heap.size wr _)
        have N : wr.drew.cell? ⟨p8, 0, none⟩ = some (.slice (some ⟨g8, 0, none⟩) bs.length c8) ∧ wr.drew.cell? ⟨w.heap.size, 1, none⟩ = some (.slice (some ⟨b, 0, none⟩) qs.length c2) ∧ wr.drew.cell? ⟨b, j * 2, none⟩ = some (.int .i64 (t : Int)) ∧ wr.drew.cell? ⟨b, j * 2 + 1, none⟩ = some (.slice (some ad3) 64 c') := ⟨y0, t1, g1, g2⟩
        have R9 : RowB (w.heap.size + 2) wr.drew (.slice (some ⟨g8, 0, none⟩) (syN bs qs j).length c8) (syN bs qs j) := by rw [SL.out]; exact RW.out.below bd
        replace V1 := V1.below bd
        replace V2 := V2.below bd
        replace V8 := V8.below bd
        replace P3 := P3.below bd
        replace B := B.trans (bd.mono B.size)
        clear bd y0 y1 yf t0 t1 tf g1 g2 RW
        refine wp_region_held_drew (S := fun W => W.cell? ⟨p8, 0, none⟩ = some (.slice (some ⟨g8, 0, none⟩) bs.length c8) ∧ W.cell? ⟨w.heap.size, 1, none⟩ = some (.slice (some ⟨b, 0, none⟩) qs.length c2) ∧ W.cell? ⟨b, j * 2, none⟩ = some (.int .i64 (t : Int)) ∧ W.cell? ⟨b, j * 2 + 1, none⟩ = some (.slice (some ad3) 64 c')) (by kernel_rfl) N (fun hHeld => ?_)
        clear hHeld
        revert N R9 V1 V2 V8 P3 B
        generalize wr.drew = ww0
        intro N R9 V1 V2 V8 P3 B
        refine takeW (i := 0) (by simp only [List.getElem?_toArray, List.getElem?_cons_zero]; exact rfl) (by kernel_rfl) (by kernel_rfl) (by kernel_rfl) (by exact fun _ _ _ h => h) (by rfl) (by intro wq hSw; go_simp <;> with_reducible rfl) (by assumption) ?_
        try simp only [Act.put, List.setIfInBounds_toArray, List.set_cons_zero, List.set_cons_succ]
        refine takeW (i := 1) (by simp only [List.getElem?_toArray, List.getElem?_cons_succ, List.getElem?_cons_zero]; exact rfl) (by kernel_rfl) (by kernel_rfl) (by kernel_rfl) (by exact fun _ _ _ h => h) (by rfl) (by intro wq hSw; obtain ⟨p1, p2, p4, p5⟩ := hSw; go_simp <;> with_reducible rfl) (by assumption) ?_
        try simp only [Act.put, List.setIfInBounds_toArray, List.set_cons_zero, List.set_cons_succ]
        refine takeW (i := 2) (by simp only [List.getElem?_toArray, List.getElem?_cons_succ, List.getElem?_cons_zero]; exact rfl) (by kernel_rfl) (by kernel_rfl) (by kernel_rfl) (by exact fun _ _ _ h => h) (by rfl) (by intro wq hSw; go_simp <;> with_reducible rfl) (by assumption) ?_
        try simp only [Act.put, List.setIfInBounds_toArray, List.set_cons_zero, List.set_cons_succ]
        refine takeW (i := 3) (by simp only [List.getElem?_toArray, List.getElem?_cons_succ, List.getElem?_cons_zero]; exact rfl) (by kernel_rfl) (by kernel_rfl) (by kernel_rfl) (by exact fun _ _ _ h => h) (by rfl) (by intro wq hSw; obtain ⟨p1, p2, p4, p5⟩ := hSw; go_simp <;> with_reducible rfl) (by assumption) ?_
        try simp only [Act.put, List.setIfInBounds_toArray, List.set_cons_zero, List.set_cons_succ]
        refine takeW (i := 4) (by simp only [List.getElem?_toArray, List.getElem?_cons_succ, List.getElem?_cons_zero]; exact rfl) (by kernel_rfl) (by kernel_rfl) (by kernel_rfl) (by exact fun _ _ _ h => h) (by rfl) (by intro wq hSw; go_simp <;> with_reducible rfl) (by assumption) ?_
        try simp only [Act.put, List.setIfInBounds_toArray, List.set_cons_zero, List.set_cons_succ]
        refine takeW (i := 5) (by simp only [List.getElem?_toArray, List.getElem?_cons_succ, List.getElem?_cons_zero]; exact rfl) (by kernel_rfl) (by kernel_rfl) (by kernel_rfl) (by exact fun _ _ _ h => h) (by rfl) (by intro wq hSw; go_simp <;> with_reducible rfl) (by assumption) ?_
        try simp only [Act.put, List.setIfInBounds_toArray, List.set_cons_zero, List.set_cons_succ]
        refine takeW (i := 6) (by simp only [List.getElem?_toArray, List.getElem?_cons_succ, List.getElem?_cons_zero]; exact rfl) (by kernel_rfl) (by kernel_rfl) (by kernel_rfl) (by exact fun _ _ _ h => h) (by rfl) (by intro wq hSw; go_simp <;> with_reducible rfl) (by assumption) ?_
        try simp only [Act.put, List.setIfInBounds_toArray, List.set_cons_zero, List.set_cons_succ]
        refine takeW (i := 7) (by simp only [List.getElem?_toArray, List.getElem?_cons_succ, List.getElem?_cons_zero]; exact rfl) (by kernel_rfl) (by kernel_rfl) (by kernel_rfl) (by exact fun _ _ _ h => h) (by rfl) (by intro wq hSw; obtain ⟨p1, p2, p4, p5⟩ := hSw; go_simp <;> with_reducible rfl) (by assumption) ?_
        try simp only [Act.put, List.setIfInBounds_toArray, List.set_cons_zero, List.set_cons_succ]
        refine takeW (i := 8) (by simp only [List.getElem?_toArray, List.getElem?_cons_succ, List.getElem?_cons_zero]; exact rfl) (by kernel_rfl) (by kernel_rfl) (by kernel_rfl) (by exact fun _ _ _ h => h) (by rfl) (by intro wq hSw; go_simp <;> with_reducible rfl) (by assumption) ?_
        try simp only [Act.put, List.setIfInBounds_toArray, List.set_cons_zero, List.set_cons_succ]
        refine takeW (i := 9) (v := .slice (some ⟨g8, t * 64, none⟩) (bs.length - t * 64) (c8 - t * 64)) (by simp only [List.getElem?_toArray, List.getElem?_cons_succ, List.getElem?_cons_zero]; exact rfl) (by kernel_rfl) (by kernel_rfl) (by kernel_rfl) (by exact fun _ _ _ h => h) (by rfl) (by intro wq hSw; go_simp; rw [if_pos HIF.out, HTN.out, if_neg HNE.out]) (by assumption) ?_
        try simp only [Act.put, List.setIfInBounds_toArray, List.set_cons_zero, List.set_cons_succ]
        refine takeW (i := 10) (by simp only [List.getElem?_toArray, List.getElem?_cons_succ, List.getElem?_cons_zero]; exact rfl) (by kernel_rfl) (by kernel_rfl) (by kernel_rfl) (by exact fun _ _ _ h => h) (by rfl) (by intro wq hSw; go_simp <;> with_reducible rfl) (by assumption) ?_
        try simp only [Act.put, List.setIfInBounds_toArray, List.set_cons_zero, List.set_cons_succ]
        refine takeW (i := 11) (by simp only [List.getElem?_toArray, List.getElem?_cons_succ, List.getElem?_cons_zero]; exact rfl) (by kernel_rfl) (by kernel_rfl) (by kernel_rfl) (by exact fun _ _ _ h => h) (by rfl) (by intro wq hSw; obtain ⟨p1, p2, p4, p5⟩ := hSw; go_simp <;> with_reducible rfl) (by assumption) ?_
        try simp only [Act.put, List.setIfInBounds_toArray, List.set_cons_zero, List.set_cons_succ]
        refine takeW (i := 12) (by simp only [List.getElem?_toArray, List.getElem?_cons_succ, List.getElem?_cons_zero]; exact rfl) (by kernel_rfl) (by kernel_rfl) (by kernel_rfl) (by exact fun _ _ _ h => h) (by rfl) (by intro wq hSw; go_simp <;> with_reducible rfl) (by assumption) ?_
        try simp only [Act.put, List.setIfInBounds_toArray, List.set_cons_zero, List.set_cons_succ]
        refine takeW (i := 13) (by simp only [List.getElem?_toArray, List.getElem?_cons_succ, List.getElem?_cons_zero]; exact rfl) (by kernel_rfl) (by kernel_rfl) (by kernel_rfl) (by exact fun _ _ _ h => h) (by rfl) (by intro wq hSw; go_simp <;> with_reducible rfl) (by assumption) ?_
        try simp only [Act.put, List.setIfInBounds_toArray, List.set_cons_zero, List.set_cons_succ]
        refine takeW (i := 14) (by simp only [List.getElem?_toArray, List.getElem?_cons_succ, List.getElem?_cons_zero]; exact rfl) (by kernel_rfl) (by kernel_rfl) (by kernel_rfl) (by exact fun _ _ _ h => h) (by rfl) (by intro wq hSw; go_simp <;> with_reducible rfl) (by assumption) ?_
        try simp only [Act.put, List.setIfInBounds_toArray, List.set_cons_zero, List.set_cons_succ]
        refine takeW (i := 15) (by simp only [List.getElem?_toArray, List.getElem?_cons_succ, List.getElem?_cons_zero]; exact rfl) (by kernel_rfl) (by kernel_rfl) (by kernel_rfl) (by exact fun _ _ _ h => h) (by rfl) (by intro wq hSw; obtain ⟨p1, p2, p4, p5⟩ := hSw; go_simp <;> with_reducible rfl) (by assumption) ?_
        try simp only [Act.put, List.setIfInBounds_toArray, List.set_cons_zero, List.set_cons_succ]
        refine wpAnyH_ready (rs := [16]) (by kernel_rfl) (by simp) (AllReadyH.cons (by simp only [List.getElem?_toArray, List.getElem?_cons_succ, List.getElem?_cons_zero]; exact rfl) (fun K hK => ?_) AllReadyH.nil)
        obtain ⟨cur, hcur, fit, RO⟩ := RowB.over R9 (t * 64) ds (by rw [SL.out, HLQ.out]; omega)
        have hcl : (ds.map (Value.int .u8)).length = 64 := by rw [List.length_map]; exact HLQ.out
        have gq := grownBy_setRow ww0 g8 (cur.toList.take (t * 64) ++ ds.map (Value.int .u8) ++ cur.toList.drop (t * 64 + (ds.map (Value.int .u8)).length)).toArray
        refine wp_copy_at (.tmp 27) (.tmp 33) 22 22 rfl 5 Tryz.underlying22 (by rw [hi8]; simp [hy1]) g8 (t * 64) _ _ ad3 64 _ rfl rfl cur 5 hcur (ds.map (Value.int .u8)) (by rw [hcl]; exact (Nat.min_eq_left (by omega)).symm) P3.seesB.newsA fit (ones8 _) ?_
        have RN : Hid (RowB (w.heap.size + 2) (ww0.setRow g8 (cur.toList.take (t * 64) ++ ds.map (Value.int .u8) ++ cur.toList.drop (t * 64 + (ds.map (Value.int .u8)).length)).toArray) (.slice (some ⟨g8, 0, none⟩) bs.length c8) (syN bs qs (j + 1))) := by
          show RowB _ _ _ _
          rw [SJ.out]
          rw [SL.out] at RO
          exact RO
        replace V1 := V1.grown gq (by omega)
        replace V2 := V2.grown gq (by omega)
        replace V8 := V8.grown gq (by omega)
        replace B := B.grown gq B.size (fun k hk => by injection hk with hk; omega)
        have N9 : _ ∧ _ ∧ _ ∧ _ := ⟨cell_drawnD gq N.1 (by omega), cell_drawnD gq N.2.1 (by omega), cell_drawnD gq N.2.2.1 (by omega), cell_drawnD gq N.2.2.2 (by omega)⟩
        generalize ww0.setRow g8 (cur.toList.take (t * 64) ++ ds.map (Value.int .u8) ++ cur.toList.drop (t * 64 + (ds.map (Value.int .u8)).length)).toArray = ww9 at *
        refine hK.out _ _ N9 (fun hHeld => ?_)
        clear hK K hHeld gq RO R9 P3 N hcur fit
        try simp only [Act.put, List.setIfInBounds_toArray, List.set_cons_zero, List.set_cons_succ]
        refine wpAnyH_done (by kernel_rfl) ?_ _
        go_wp2
        go_roundw
        case rel => exact ⟨j + 1, by omega, by go_num, RN, V1, V2, V8, B⟩
        case measure => simp [intOf]; omega
      · obtain rfl : j = qs.length := by omega
        have HN : Hid (SyRes bs qs (syN bs qs qs.length) []) := .inl ⟨HOk.out, rfl, rfl⟩
        have bn := below1 wr (.cells #[] 55)
        have QE := QuR.empty wr (lo := w.heap.size) B.size
        have R5 := RW.out.below bn
        have p8l := V8.lt
        have g8l := (World.ownsRow.lt RW.out g8 rfl).2
        replace V2 := V2.below bn
        replace V8 := V8.below bn
        replace B := B.trans (bn.mono B.size)
        clear bn V1 RW
        obtain ⟨y0, y1, yf, _⟩ := id V8
        have g1 : (wr.alloc (.cells #[] 55)).grownBy ((wr.alloc (.cells #[] 55)).setCell ⟨p8, 1, none⟩ (.slice (some ⟨wr.heap.size, 0, none⟩) 0 0)) (some p8) := grownBy_setCell (p := ⟨p8, 1, none⟩) (grownBy_refl _ _) rfl _
        have V8' := V8.set1D (.slice (some ⟨wr.heap.size, 0, none⟩) 0 0)
        have V2' := V2.grown g1 (by omega)
        have B' := B.grown g1 B.size (fun k hk => by injection hk with hk; omega)
        have R6 := owns_kept' R5 g1 (fun k hk e => by injection e with e; injection hk with hk; dsimp only at hk; omega)
        have Q6 := QE.kept g1 (fun k hk e => by injection e with e; injection hk with hk; dsimp only at hk; omega) (fun u hu => by cases hu)
        obtain ⟨s0, s1, sf, _⟩ := id V8'
        obtain ⟨q0, q1, qf, _⟩ := id V2'
        have g2 : ((wr.alloc (.cells #[] 55)).setCell ⟨p8, 1, none⟩ (.slice (some ⟨wr.heap.size, 0, none⟩) 0 0)).grownBy ((((wr.alloc (.cells #[] 55)).setCell ⟨p8, 1, none⟩ (.slice (some ⟨wr.heap.size, 0, none⟩) 0 0)).setCell ⟨w.heap.size + 1, 0, none⟩ (.slice (some ⟨g8, 0, none⟩) bs.length c8)).setCell ⟨w.heap.size + 1, 1, none⟩ (.slice (some ⟨wr.heap.size, 0, none⟩) 0 0)) (some (w.heap.size + 1)) := grownBy_setCell (p := ⟨w.heap.size + 1, 1, none⟩) (grownBy_setCell (p := ⟨w.heap.size + 1, 0, none⟩) (grownBy_refl _ _) rfl _) rfl _
        have RC := Box2.chain B' V2' (.slice (some ⟨g8, 0, none⟩) bs.length c8) (.slice (some ⟨wr.heap.size, 0, none⟩) 0 0)
        have R7 := owns_kept' R6 g2 (fun k hk e => by injection e with e; injection hk with hk; dsimp only at hk; omega)
        have Q7 := Q6.kept g2 (fun k hk e => by injection e with e; injection hk with hk; dsimp only at hk; omega) (fun u hu => by cases hu)
        have DS : Hid (DkR w.heap.size ((((wr.alloc (.cells #[] 55)).setCell ⟨p8, 1, none⟩ (.slice (some ⟨wr.heap.size, 0, none⟩) 0 0)).setCell ⟨w.heap.size + 1, 0, none⟩ (.slice (some ⟨g8, 0, none⟩) bs.length c8)).setCell ⟨w.heap.size + 1, 1, none⟩ (.slice (some ⟨wr.heap.size, 0, none⟩) 0 0)) (.slice (some ⟨g8, 0, none⟩) bs.length c8) (.slice (some ⟨wr.heap.size, 0, none⟩) 0 0) [] (syN bs qs qs.length) []) := ⟨row_base R7 (by omega), Q7, fun k hk => ⟨fun e => by injection e with e; injection hk with hk; dsimp only at hk e; omega, fun u hu => by cases hu⟩⟩
        have r0 := (V2'.put (.slice (some ⟨g8, 0, none⟩) bs.length c8) (.slice (some ⟨wr.heap.size, 0, none⟩) 0 0)).c0
        have r1 := (V2'.put (.slice (some ⟨g8, 0, none⟩) bs.length c8) (.slice (some ⟨wr.heap.size, 0, none⟩) 0 0)).c1
        have SV9 : Hid (SomeV []) := fun u hu => by cases hu
        clear g1 g2 R5 R6 R7 QE Q6 Q7 V8 V8' V2 V2' B B' p8l g8l
        go_wp2
        refine bodyPost_ret (v := .agg #[(.slice (some ⟨g8, 0, none⟩) bs.length c8), (.slice (some ⟨wr.heap.size, 0, none⟩) 0 0)]) (by simp [results, Tryz.results21, go_sem, r0, r1]) rfl ?_
        exact ⟨_, _, _, _, [], syN bs qs qs.length, [], rfl, HN.out, DS.out, SV9.out, RC⟩
end Go.Proofs.YtonbmeepfgejmaaGreatDoor
