/- The specification's LogAdd. -/
import Derived.Test.YtonbmeepfgejmaaGreatDoorLaA
import Derived.Test.YtonbmeepfgejmaaGreatDoorDkY
import Derived.Test.YtonbmeepfgejmaaGreatDoorLoS
namespace Go.Proofs.YtonbmeepfgejmaaGreatDoor
open Go.RowKit

theorem uptoQ_appL (qs ws : List Wr) : ∀ j, j ≤ qs.length → uptoQ (qs ++ ws) j = uptoQ qs j
  | 0, _ => rfl
  | j + 1, h => by simp only [uptoQ]; rw [uptoQ_appL qs ws j (by omega), wrN_appL (by omega)]
theorem uptoQ_appR (qs ws : List Wr) : ∀ j, uptoQ (qs ++ ws) (qs.length + j) = uptoQ qs qs.length + uptoQ ws j
  | 0 => uptoQ_appL qs ws _ (Nat.le_refl _)
  | j + 1 => by
    rw [show qs.length + (j + 1) = qs.length + j + 1 by omega]
    simp only [uptoQ]
    rw [uptoQ_appR qs ws j, wrN_appR (by omega), show qs.length + j - qs.length = j by omega]
    omega
theorem lgP_le (rs : List Int) (i : Nat) : (lgP rs i).length ≤ 44 := by unfold lgP; rw [List.length_take]; omega
theorem wrN_lgWs (F N E : Int) (rs : List Int) {i j : Nat} (h : i < j) : (wrN (lgWs F N E rs j) i).2.length = 64 := by
  unfold wrN lgWs
  rw [List.getElem?_map, List.getElem?_range h]
  exact lgSec_len (lgP_le rs i)
theorem uptoQ_lgWs (F N E : Int) (rs : List Int) (m : Nat) : ∀ j, j ≤ m → uptoQ (lgWs F N E rs m) j = j * 65
  | 0, _ => rfl
  | j + 1, h => by simp only [uptoQ]; rw [uptoQ_lgWs F N E rs m j (by omega), wrN_lgWs F N E rs (by omega)]; omega
/-- Rows that are not empty lie somewhere. -/
theorem QuR.some {lo : Nat} {w : World} {v : Value} {vs : List Value} {qs : List Wr} (h : QuR lo w v vs qs) (hq : ∀ i, i < qs.length → 0 < (wrN qs i).2.length) : SomeV vs := by
  intro u hu
  obtain ⟨i, hi, e⟩ := List.mem_iff_getElem.1 hu
  have hl := h.len.out
  have R := h.rows i u (by rw [List.getElem?_eq_getElem hi, e])
  have h0 := hq i (by omega)
  rcases R.2 with ⟨_, e0⟩ | ⟨g, cap, cur, hv, _⟩
  · omega
  · exact ⟨_, _, _, hv⟩
theorem SomeV.app {vs us : List Value} (h : SomeV vs) (k : SomeV us) : SomeV (vs ++ us) := fun u hu => by
  rcases List.mem_append.1 hu with q | q
  · exact h u q
  · exact k u q
theorem wrC_ones : ∀ (qs : List Wr) (vs : List Value), SomeV vs → ∀ u ∈ wrC qs vs, u.oneCell' = true
  | [], _, _, u, hu => by simp [wrC] at hu
  | _ :: _, [], _, u, hu => by simp [wrC] at hu
  | p :: qs, x :: vs, h, u, hu => by
    simp only [wrC, List.mem_cons] at hu
    rcases hu with rfl | rfl | hu
    · rfl
    · obtain ⟨ad, l, c, rfl⟩ := h u (List.mem_cons_self ..)
      rfl
    · exact wrC_ones qs vs (fun y hy => h y (List.mem_cons_of_mem _ hy)) u hu

/-- A disk whose queue is longer. -/
theorem DkR.app {lo top : Nat} {w w' : World} {bv qv v2 v' : Value} {vs us : List Value} {bs : List Int} {qs ws : List Wr} (h : DkR lo w bv qv vs bs qs) (kq : QuR lo w v2 us ws) (tp : Hid ((∀ k, bv.ownBlock = some k → k < top) ∧ (∀ k, qv.ownBlock = some k → k < top) ∧ ∀ u ∈ vs, ∀ k, u.ownBlock = some k → k < top)) (ku : ∀ u ∈ us, ∀ k, u.ownBlock = some k → top ≤ k)
    (own : w'.ownsRow lo 55 2 v' (vs.length + us.length) (wrC qs vs ++ wrC ws us)) (g : w.grownBy w' qv.ownBlock) (at' : v'.ownBlock = qv.ownBlock ∨ v'.ownBlock = some w.heap.size) : DkR lo w' bv v' (vs ++ us) bs (qs ++ ws) := by
  obtain ⟨t1, t2, t3⟩ := tp.out
  refine ⟨owns_kept' h.row g (fun k hk => (h.ap k hk).1), h.que.app kq (fun u hu k hk => ⟨fun e => ?_, fun x hx e => ?_⟩) own g at', fun k hk => ⟨fun e => ?_, fun u hu e => ?_⟩⟩
  · have := t2 k e; have := ku u hu k hk; omega
  · have := t3 x hx k e; have := ku u hu k hk; omega
  · rcases at' with q | q
    · rw [q] at e; exact (h.ap k hk).1 e
    · rw [q] at e; injection e with e; have := (h.lts.1 k hk).2; omega
  · rcases List.mem_append.1 hu with hu | hu
    · exact (h.ap k hk).2 u hu e
    · have := ku u hu k e; have := t1 k hk; omega

theorem la_app {lo top p : Nat} {w w' : World} {bv v2 v' : Value} {b8 : Option Addr} {d8 : Nat} {vs us : List Value} {bs : List Int} {qs ws zs : List Wr} (h : DkR lo w bv (.slice b8 qs.length d8) vs bs qs) (kq : QuR lo w v2 us ws) (tp : Hid ((∀ k, bv.ownBlock = some k → k < top) ∧ (∀ k, (Value.slice b8 qs.length d8).ownBlock = some k → k < top) ∧ ∀ u ∈ vs, ∀ k, u.ownBlock = some k → k < top)) (ku : Hid (∀ u ∈ us, ∀ k, u.ownBlock = some k → top ≤ k)) (wu : Hid (us.length = ws.length)) (hz : Hid (qs ++ ws = zs)) (n8 : Hid (∀ u ∈ (bv :: (Value.slice b8 qs.length d8) :: vs), u.ownBlock ≠ some p)) (hp : p < top) (ht : p < w.heap.size)
    (own : w'.ownsRow lo 55 2 v' (vs.length + ws.length) (wrC qs vs ++ wrC ws us)) (g : w.grownBy w' (Value.slice b8 qs.length d8).ownBlock) (at' : v'.ownBlock = (Value.slice b8 qs.length d8).ownBlock ∨ v'.ownBlock = some w.heap.size) :
    ∃ a7 c7, v' = .slice a7 zs.length c7 ∧ DkR lo w' bv (.slice a7 zs.length c7) (vs ++ us) bs zs ∧ Hid (∀ u ∈ (bv :: (Value.slice a7 zs.length c7) :: (vs ++ us)), u.ownBlock ≠ some p) := by
  have DN := DkR.app h kq tp ku.out (by rw [wu.out]; exact own) g at'
  rw [hz.out] at DN
  obtain ⟨a7, c7, rfl, _, _⟩ := DN.que.shape
  refine ⟨a7, c7, rfl, DN, fun u hu e => ?_⟩
  rcases List.mem_cons.1 hu with rfl | hu
  · exact n8.out _ (List.mem_cons_self ..) e
  · rcases List.mem_cons.1 hu with rfl | hu
    · rcases at' with q | q
      · rw [q] at e; exact n8.out _ (List.mem_cons_of_mem _ (List.mem_cons_self ..)) e
      · rw [q] at e; injection e with e; omega
    · rcases List.mem_append.1 hu with hu | hu
      · exact n8.out u (List.mem_cons_of_mem _ (List.mem_cons_of_mem _ hu)) e
      · have := ku.out u hu _ e; omega

/-- What LogAdd answers. -/
def LaRes (bs : List Int) (qs : List Wr) (F L N E : Int) (rs : List Int) (bs' : List Int) (qs' : List Wr) (N' : Int) (r : Bool) : Prop :=
  ((LaFine bs qs F L N E ∧ LwOk F L N E rs.length) ∧ SyRes bs (qs ++ lgWs F N E rs (lgMany rs.length)) bs' qs' ∧ N' = N + (lgMany rs.length : Int) ∧ r = true) ∨ (¬(LaFine bs qs F L N E ∧ LwOk F L N E rs.length) ∧ bs' = bs ∧ qs' = qs ∧ N' = N ∧ r = false)
theorem LaRes.one {bs : List Int} {qs : List Wr} {F L N E : Int} {rs : List Int} {b1 b2 : List Int} {q1 q2 : List Wr} {n1 n2 : Int} {r1 r2 : Bool} (h : LaRes bs qs F L N E rs b1 q1 n1 r1) (k : LaRes bs qs F L N E rs b2 q2 n2 r2) : b1 = b2 ∧ q1 = q2 ∧ n1 = n2 ∧ r1 = r2 := by
  rcases h with ⟨a, b, c, d⟩ | ⟨a, b, c, d, e⟩
  · rcases k with ⟨a', b', c', d'⟩ | ⟨a', b', c', d', e'⟩
    · obtain ⟨e1, e2⟩ := b.one b'
      exact ⟨e1, e2, c.trans c'.symm, d.trans d'.symm⟩
    · exact absurd a a'
  · rcases k with ⟨a', b', c', d'⟩ | ⟨a', b', c', d', e'⟩
    · exact absurd a' a
    · exact ⟨b.trans b'.symm, c.trans c'.symm, d.trans d'.symm, e.trans e'.symm⟩
/-- What LogAdd answers, and where it lies. -/
def LaPost (base : Nat) (bs : List Int) (qs : List Wr) (F L N E : Int) (rs : List Int) (e : Ending) (w' : World) : Prop := ∃ (ad' : Addr) (c' : Nat) (b' : Option Addr) (d' : Nat) (vs : List Value) (bs' : List Int) (qs' : List Wr) (N' : Int) (r : Bool), e = .returned (.tuple #[.agg #[.slice (some ad') bs.length c', .slice b' qs'.length d'], .agg #[.int .i64 F, .int .i64 L, .int .i64 N', .int .i64 E], .bool r]) ∧ LaRes bs qs F L N E rs bs' qs' N' r ∧ DkR base w' (.slice (some ad') bs.length c') (.slice b' qs'.length d') vs bs' qs' ∧ SomeV vs

set_option maxRecDepth 20000 in
set_option maxHeartbeats 8000000 in
theorem specLogAdd {lo : Nat} (ad : Addr) (a2 : Option Addr) (c c2 : Nat) (vs0 : List Value) (bs : List Int) (qs : List Wr) (F L X E : Int) (b off c3 : Nat) (rs : List Int) (w : World) (h : DkR lo w (.slice (some ad) bs.length c) (.slice a2 qs.length c2) vs0 bs qs) (hv0 : SomeV vs0) (hr : SeesB w (some ⟨b, off, none⟩) c3 rs) (hl : rs.length ≤ 1048576) (h8 : ∀ x ∈ rs, 0 ≤ x ∧ x < 256) (hb0 : bs.length ≤ 1900000) (hs : uptoQ qs qs.length ≤ 1900000) :
    Calls Tryz.prog 5 #[.agg #[.slice (some ad) bs.length c, .slice a2 qs.length c2], .agg #[.int .i64 F, .int .i64 L, .int .i64 X, .int .i64 E], .slice (some ⟨b, off, none⟩) rs.length c3] w fun e w' => LaPost w.heap.size bs qs F L X E rs e w' ∧ Below w.heap.size w w' := by
  obtain ⟨iW, hiW, hW0, hW1, hW2⟩ := info_parts infoW
  have hn : qs.length ≤ 1900000 := by have := uptoQ_mono qs (Nat.zero_le qs.length); simp only [uptoQ] at this; omega
  have HS : Hid (uptoQ qs qs.length ≤ 1900000) := hs
  have HM : Hid (SomeV vs0) := hv0
  have HD : Hid (DkR lo w (.slice (some ad) bs.length c) (.slice a2 qs.length c2) vs0 bs qs) := h
  have HP : Hid (SeesB w (some ⟨b, off, none⟩) c3 rs) := hr
  have H8 : Hid (∀ x ∈ rs, 0 ≤ x ∧ x < 256) := h8
  have NR : Hid (¬(LaFine bs qs F L X E ∧ LwOk F L X E rs.length) → LaRes bs qs F L X E rs bs qs X false) := fun q => .inr ⟨q, rfl, rfl, rfl, rfl⟩
  have V1 := Box2.new w (lo := w.heap.size) (Nat.le_refl _) (.slice (some ad) bs.length c) (.slice a2 qs.length c2) 31
  have B := below1 w (.cells #[.slice (some ad) bs.length c, .slice a2 qs.length c2] 31)
  generalize hWa : w.alloc (.cells #[.slice (some ad) bs.length c, .slice a2 qs.length c2] 31) = Wa at *
  have za : Wa.heap.size = w.heap.size + 1 := by rw [← hWa]; simp
  have V4 := Box4.new Wa (lo := w.heap.size) B.size (.int .i64 F) (.int .i64 L) (.int .i64 X) (.int .i64 E) 32
  have b2 := below1 Wa (.cells #[.int .i64 F, .int .i64 L, .int .i64 X, .int .i64 E] 32)
  replace V1 := V1.below b2
  replace B := B.trans (b2.mono B.size)
  rw [za] at V4
  generalize hWb : Wa.alloc (.cells #[.int .i64 F, .int .i64 L, .int .i64 X, .int .i64 E] 32) = Wb at *
  have zb : Wb.heap.size = w.heap.size + 2 := by rw [← hWb]; simp [za]
  have VD := Box2.new Wb (lo := w.heap.size) B.size (.slice none 0 0) (.slice none 0 0) 31
  have b3 := below1 Wb (.cells #[.slice none 0 0, .slice none 0 0] 31)
  replace V1 := V1.below b3
  replace V4 := V4.below b3
  replace B := B.trans (b3.mono B.size)
  rw [zb] at VD
  generalize hWc : Wb.alloc (.cells #[.slice none 0 0, .slice none 0 0] 31) = Wc at *
  have zc : Wc.heap.size = w.heap.size + 3 := by rw [← hWc]; simp [zb]
  have VL := Box4.new Wc (lo := w.heap.size) B.size (.int .i64 0) (.int .i64 0) (.int .i64 0) (.int .i64 0) 32
  have b4 := below1 Wc (.cells #[.int .i64 0, .int .i64 0, .int .i64 0, .int .i64 0] 32)
  replace V1 := V1.below b4
  replace V4 := V4.below b4
  replace VD := VD.below b4
  replace B := B.trans (b4.mono B.size)
  rw [zc] at VL
  have zd : (Wc.alloc (.cells #[.int .i64 0, .int .i64 0, .int .i64 0, .int .i64 0] 32)).heap.size = w.heap.size + 4 := by simp [zc]
  clear b2 b3 b4 hs hv0 h hr h8
  go_enter Tryz.func5, Tryz.ntmps5
  go_upto_region 1 with fail
  try rw [za]
  try rw [zb]
  try rw [zc]
  generalize Wc.alloc (.cells #[.int .i64 0, .int .i64 0, .int .i64 0, .int .i64 0] 32) = W0 at *
  clear hWa hWb hWc za zb zc
  obtain ⟨t0, t1, tf, _⟩ := id V1
  go_wp2_with fail
  refine (l11CopyR ad a2 c c2 vs0 bs qs _ (HD.out.below B) HM.out (by omega) (by have := HS.out; omega)).mono ?_
  rintro e w3 ⟨ad8, c8, b8, d8, vs, rfl, D, SV0, hb⟩
  have SV : Hid (SomeV vs) := SV0
  rw [zd] at D
  replace V1 := V1.below hb
  replace V4 := V4.below hb
  replace VD := VD.below hb
  replace VL := VL.below hb
  have sz3 : w.heap.size + 4 ≤ w3.heap.size := by rw [← zd]; exact hb.size
  replace B := B.trans (hb.mono B.size)
  clear hb t0 t1 tf zd SV0
  have V8 := Box2.new w3 (lo := w.heap.size) (by omega) (.slice (some ad8) bs.length c8) (.slice b8 qs.length d8) 31
  have hb := below1 w3 (.cells #[(.slice (some ad8) bs.length c8), (.slice b8 qs.length d8)] 31)
  have N8 : Hid (∀ u ∈ ((Value.slice (some ad8) bs.length c8) :: (Value.slice b8 qs.length d8) :: vs), u.ownBlock ≠ some w3.heap.size) := D.nots (.inl (Nat.le_refl _))
  replace V1 := V1.below hb
  replace V4 := V4.below hb
  replace VD := VD.below hb
  replace VL := VL.below hb
  replace D := D.below hb
  replace B := B.trans (hb.mono B.size)
  have szp : w3.heap.size < (w3.alloc (.cells #[(.slice (some ad8) bs.length c8), (.slice b8 qs.length d8)] 31)).heap.size := V8.lt
  clear hb
  go_upto_region 2 with fail
  generalize hp8 : w3.heap.size = p8 at *
  generalize w3.alloc (.cells #[(.slice (some ad8) bs.length c8), (.slice b8 qs.length d8)] 31) = W1 at *
  clear hp8
  obtain ⟨l0, l1, l2, l3, lf, _⟩ := id V4
  go_wp2_with fail
  refine (specLogWrites F L X E b off c3 rs _ (HP.out.below B) hl H8.out).mono ?_
  rintro e w4 ⟨v4, us, ws, rfl, LW, QW, hb⟩
  have szW : p8 < W1.heap.size := szp
  have HW : Hid (LwRes F L X E rs ws) := LW
  have DT := D.tops (Nat.le_refl W1.heap.size)
  replace V1 := V1.below hb
  replace V4 := V4.below hb
  replace VD := VD.below hb
  replace VL := VL.below hb
  replace V8 := V8.below hb
  replace D := D.below hb
  replace B := B.trans (hb.mono B.size)
  have sz4 := hb.size
  obtain ⟨a4, c4, rfl, hc4, hm4⟩ := QW.shape
  clear hb l0 l1 l2 l3 lf LW szp
  obtain ⟨t0, t1, tf, _⟩ := id V1
  obtain ⟨l0, l1, l2, l3, lf, _⟩ := id V4
  go_wp2_with fail
  refine (l12Log_any ad a2 c c2 vs0 bs qs F L X E _ (HD.out.below B) (by omega)).mono ?_
  rintro e w5 ⟨r, rfl, hr, hb⟩
  have HR : Hid (r = true ↔ LaFine bs qs F L X E) := hr
  have sz5 := hb.size
  have QL := QW.lts
  replace V4 := V4.below hb
  replace VD := VD.below hb
  replace VL := VL.below hb
  replace V8 := V8.below hb
  replace D := D.below hb
  replace QW := QW.below hb
  replace B := B.trans (hb.mono B.size)
  clear hb hr t0 t1 tf l0 l1 l2 l3 lf V1
  cases r with
  | false =>
    have NO : Hid (LaRes bs qs F L X E rs bs qs X false) := NR.out (fun q => by have := HR.out.2 q.1; cases this)
    clear NR HR QW QL
    go_upto_region 4 with fail
    have bd := ((Below.refl w5.heap.size w5).drew : Below w5.heap.size w5 _)
    replace V4 := V4.below bd
    replace VD := VD.below bd
    replace VL := VL.below bd
    replace V8 := V8.below bd
    replace D := D.below bd
    replace B := B.trans (bd.mono B.size)
    clear bd
    have N : Box2 w.heap.size w5.drew p8 (.slice (some ad8) bs.length c8) (.slice b8 qs.length d8) ∧ Box4 w.heap.size w5.drew (w.heap.size + 1) (.int .i64 F) (.int .i64 L) (.int .i64 X) (.int .i64 E) := ⟨V8, V4⟩
    refine wp_region_held_drew (S := fun W => Box2 w.heap.size W p8 (.slice (some ad8) bs.length c8) (.slice b8 qs.length d8) ∧ Box4 w.heap.size W (w.heap.size + 1) (.int .i64 F) (.int .i64 L) (.int .i64 X) (.int .i64 E)) (by kernel_rfl) N (fun hHeld => ?_)
    clear hHeld
    generalize w5.drew = ww0 at *
    refine takeW (i := 0) (by simp only [List.getElem?_toArray, List.getElem?_cons_zero]; exact rfl) (by kernel_rfl) (by kernel_rfl) (by kernel_rfl) (by exact fun _ _ _ h => h) (by rfl) (by intro wq hSw; obtain ⟨⟨y0, y1, _, _⟩, ⟨l0, l1, l2, l3, _, _⟩⟩ := hSw; go_simp <;> with_reducible rfl) (by assumption) ?_
    try simp only [Act.put, List.setIfInBounds_toArray, List.set_cons_zero, List.set_cons_succ]
    refine takeW (i := 1) (by simp only [List.getElem?_toArray, List.getElem?_cons_succ, List.getElem?_cons_zero]; exact rfl) (by kernel_rfl) (by kernel_rfl) (by kernel_rfl) (by exact fun _ _ _ h => h) (by rfl) (by intro wq hSw; obtain ⟨⟨y0, y1, _, _⟩, ⟨l0, l1, l2, l3, _, _⟩⟩ := hSw; go_simp <;> with_reducible rfl) (by assumption) ?_
    try simp only [Act.put, List.setIfInBounds_toArray, List.set_cons_zero, List.set_cons_succ]
    refine wpAnyH_ready (rs := [2]) (by kernel_rfl) (by simp) (AllReadyH.cons (by simp only [List.getElem?_toArray, List.getElem?_cons_succ, List.getElem?_cons_zero]; exact rfl) (fun K hK => ?_) AllReadyH.nil)
    obtain ⟨q0, q1, qf, _⟩ := id VD
    go_simp
    have gq : ww0.grownBy ((ww0.setCell ⟨w.heap.size + 2, 0, none⟩ (.slice (some ad8) bs.length c8)).setCell ⟨w.heap.size + 2, 1, none⟩ (.slice b8 qs.length d8)) (some (w.heap.size + 2)) := grownBy_setCell (p := ⟨w.heap.size + 2, 1, none⟩) (grownBy_setCell (p := ⟨w.heap.size + 2, 0, none⟩) (grownBy_refl _ _) rfl _) rfl _
    replace B := Box2.chain B VD (.slice (some ad8) bs.length c8) (.slice b8 qs.length d8)
    replace VD := VD.put (.slice (some ad8) bs.length c8) (.slice b8 qs.length d8)
    replace V8 := V8.grownO gq (by intro e; injection e with e; omega)
    replace V4 := V4.grownW gq (by intro e; injection e with e; omega)
    replace VL := VL.grownW gq (by intro e; injection e with e; omega)
    replace D := D.kept gq (fun k hk e => by have := (D.lts.1 k hk).1; injection e with e; omega) (fun k hk e => by have := (D.lts.2.1 k hk).1; injection e with e; omega) (fun y hy k hk e => by have := (D.lts.2.2 y hy k hk).1; injection e with e; omega)
    replace N := And.intro V8 V4
    refine hK.out _ _ N (fun hHeld => ?_)
    clear hK K hHeld
    try simp only [Act.put, List.setIfInBounds_toArray, List.set_cons_zero, List.set_cons_succ]
    clear q0 q1 qf gq
    generalize (ww0.setCell ⟨w.heap.size + 2, 0, none⟩ (.slice (some ad8) bs.length c8)).setCell ⟨w.heap.size + 2, 1, none⟩ (.slice b8 qs.length d8) = ww1 at *
    refine wpAnyH_ready (rs := [3]) (by kernel_rfl) (by simp) (AllReadyH.cons (by simp only [List.getElem?_toArray, List.getElem?_cons_succ, List.getElem?_cons_zero]; exact rfl) (fun K hK => ?_) AllReadyH.nil)
    obtain ⟨q0, q1, q2, q3, qf, _⟩ := id VL
    go_simp
    have gq := grownBy_setCell (grownBy_setCell (grownBy_setCell (grownBy_setCell (grownBy_refl ww1 (some (w.heap.size + 3))) (p := ⟨w.heap.size + 3, 0, none⟩) rfl (.int .i64 F)) (p := ⟨w.heap.size + 3, 1, none⟩) rfl (.int .i64 L)) (p := ⟨w.heap.size + 3, 2, none⟩) rfl (.int .i64 X)) (p := ⟨w.heap.size + 3, 3, none⟩) rfl (.int .i64 E)
    replace B := Box4.chain B VL (.int .i64 F) (.int .i64 L) (.int .i64 X) (.int .i64 E)
    replace VL := VL.put (.int .i64 F) (.int .i64 L) (.int .i64 X) (.int .i64 E)
    replace V8 := V8.grownO gq (by intro e; injection e with e; omega)
    replace V4 := V4.grownW gq (by intro e; injection e with e; omega)
    replace VD := VD.grownO gq (by intro e; injection e with e; omega)
    replace D := D.kept gq (fun k hk e => by have := (D.lts.1 k hk).1; injection e with e; omega) (fun k hk e => by have := (D.lts.2.1 k hk).1; injection e with e; omega) (fun y hy k hk e => by have := (D.lts.2.2 y hy k hk).1; injection e with e; omega)
    replace N := And.intro V8 V4
    refine hK.out _ _ N (fun hHeld => ?_)
    clear hK K hHeld
    try simp only [Act.put, List.setIfInBounds_toArray, List.set_cons_zero, List.set_cons_succ]
    clear q0 q1 q2 q3 qf gq
    generalize ((((ww1.setCell ⟨w.heap.size + 3, 0, none⟩ (.int .i64 F)).setCell ⟨w.heap.size + 3, 1, none⟩ (.int .i64 L)).setCell ⟨w.heap.size + 3, 2, none⟩ (.int .i64 X)).setCell ⟨w.heap.size + 3, 3, none⟩ (.int .i64 E)) = ww2 at *
    refine takeW (i := 4) (by simp only [List.getElem?_toArray, List.getElem?_cons_succ, List.getElem?_cons_zero]; exact rfl) (by kernel_rfl) (by kernel_rfl) (by kernel_rfl) (by exact fun _ _ _ h => h) (by rfl) (by intro wq hSw; go_simp <;> with_reducible rfl) (by assumption) ?_
    try simp only [Act.put, List.setIfInBounds_toArray, List.set_cons_zero, List.set_cons_succ]
    refine wpAnyH_done (by kernel_rfl) ?_ _
    clear N
    have r0 := VD.c0
    have r1 := VD.c1
    obtain ⟨s0, s1, s2, s3, _, _⟩ := id VL
    have DS := D.base (lo' := w.heap.size) (by omega)
    clear V4 V8 VL VD D
    go_wp2
    exact bodyPost_ret (v := .tuple #[.agg #[(.slice (some ad8) bs.length c8), (.slice b8 qs.length d8)], .agg #[.int .i64 F, .int .i64 L, .int .i64 X, .int .i64 E], .bool false]) (by simp [results, Tryz.results5, go_sem, r0, r1, s0, s1, s2, s3]) rfl ⟨⟨_, _, _, _, vs, bs, qs, X, false, rfl, NO.out, DS, SV.out⟩, B⟩
  | true =>
    have LF : Hid (LaFine bs qs F L X E) := HR.out.1 rfl
    rcases HW.out with ⟨ok, hws⟩ | ⟨nok, rfl⟩
    · have OK : Hid (LwOk F L X E rs.length) := ok
      clear NR HR ok
      obtain ⟨m, hm0⟩ : ∃ m : Nat, Hid (lgMany rs.length = m) := ⟨_, rfl⟩
      have hmb : 1 ≤ m ∧ m ≤ 91 := by
        have o4 := OK.out.2.1
        rw [← hm0.out]
        refine ⟨lgMany_pos _, ?_⟩
        unfold lgMany
        split <;> omega
      have wl : Hid (ws.length = m) := by show _ = _; rw [hws, lgWs_len, hm0.out]
      have xb : 0 ≤ X ∧ X ≤ 400 := by
        have q := LF.out
        unfold LaFine OpIn at q
        have k4 := q.1.1.2.2.1
        omega
      have HWS : Hid (ws = lgWs F X E rs m) := by show _ = _; rw [hws, hm0.out]
      have SU : Hid (SomeV us) := QW.some (fun i hi => by rw [wl.out] at hi; rw [HWS.out, wrN_lgWs F X E rs hi]; omega)
      have WU : Hid (us.length = ws.length) := QW.len
      have hq0 : ((ws.length : Int) == 0) = false := beq_eq_false_iff_ne.2 (by have := wl.out; omega)
      have UZ : Hid (uptoQ (qs ++ ws) (qs ++ ws).length ≤ 2000000) := by
        show _ ≤ _
        rw [List.length_append, uptoQ_appR, wl.out, HWS.out, uptoQ_lgWs F X E rs m m (Nat.le_refl _)]
        have := HS.out
        omega
      obtain ⟨g4, rfl⟩ : ∃ g, a4 = some ⟨g, 0, none⟩ := by
        rcases QW.own.2 with ⟨_, e0⟩ | ⟨g, cap, cur, hv, _⟩
        · have := wl.out; have := WU.out; omega
        · injection hv with hv _ _
          exact ⟨g, hv⟩
      have NW : ∀ j u, (wrC ws us)[j]? = some u → w5.cell? ((⟨g4, 0, none⟩ : Addr).add j) = some u := World.ownsRow.cells QW.own rfl
      have szB : w.heap.size + 4 ≤ w5.heap.size := by omega
      have KU : Hid (∀ u ∈ us, ∀ k, u.ownBlock = some k → W1.heap.size ≤ k) := fun u hu k hk => (QL.2 u hu k hk).1
      have QB := QW.base (lo' := w.heap.size + 4) (by omega)
      have wlb : ws.length ≤ 91 := by have := wl.out; omega
      have vl : Hid (vs.length = qs.length) := D.que.len
      clear hws QW QL HW
      obtain ⟨y0, y1, yf, _⟩ := id V8
      have qlo : ∀ k, (Value.slice b8 qs.length d8).ownBlock = some k → w.heap.size + 4 ≤ k := fun k hk => (D.lts.2.1 k hk).1
      have nq8 : (Value.slice b8 qs.length d8).ownBlock ≠ some p8 := N8.out _ (List.mem_cons_of_mem _ (List.mem_cons_self ..))
      obtain ⟨zs, hzs⟩ : ∃ zs, Hid (qs ++ ws = zs) := ⟨_, rfl⟩
      rw [hzs.out] at UZ
      have zl : zs.length ≤ 1900091 := by rw [← hzs.out, List.length_append]; omega
      have sp5 : p8 < w5.heap.size := V8.lt
      go_upto_region 5 with fail
      go_upto_region 6 with (at_builtin; refine wpList_append_own_at _ rfl (.tmp 29) (.tmp 30) 29 rfl (w.heap.size + 4) 55 iW (.agg #[.int .i64 0, .slice none 0 0]) 2 32 Tryz.underlying29 hiW hW0 hW1 hW2 rfl (by decide) (.slice b8 qs.length d8) vs.length (wrC qs vs) rfl D.que.own ⟨g4, 0, none⟩ ws.length _ (wrC ws us) rfl (wrC_len _ _ WU.out) NW (wrC_ones _ _ SU.out) (by unfold maxLen; have := vl.out; omega) (by have := vl.out; omega) szB ?_; intro v7 w7 R7 G7 _ A7; obtain ⟨a7, c7, rfl, DN, PN⟩ := la_app D QB DT KU WU hzs N8 szW sp5 R7 G7 A7; replace V8 := V8.grownO G7 nq8; clear y0 y1 yf; obtain ⟨y0, y1, yf, _⟩ := id V8)
      replace V4 := V4.grownW G7 (fun e => by have := qlo _ e; omega)
      replace VD := VD.grownO G7 (fun e => by have := qlo _ e; omega)
      replace VL := VL.grownW G7 (fun e => by have := qlo _ e; omega)
      replace B : Below w.heap.size w w7 := B.grown G7 B.size (fun k hk => by have := qlo k hk; omega)
      have sz7 : p8 < w7.heap.size := V8.lt
      clear R7 G7 A7 D QB NW y0 y1 yf szB
      have gq : w7.grownBy (w7.setCell ⟨p8, 1, none⟩ (.slice a7 zs.length c7)) (some p8) := grownBy_setCell (p := ⟨p8, 1, none⟩) (grownBy_refl _ _) rfl _
      replace V4 := V4.grownW gq (by intro e; injection e with e; omega)
      replace VD := VD.grownO gq (by intro e; injection e with e; omega)
      replace VL := VL.grownW gq (by intro e; injection e with e; omega)
      replace V8 := V8.set1D (.slice a7 zs.length c7)
      replace DN := DN.kept gq (fun k hk e => by injection e with e; subst e; exact PN.out _ (List.mem_cons_self ..) hk) (fun k hk e => by injection e with e; subst e; exact PN.out _ (List.mem_cons_of_mem _ (List.mem_cons_self ..)) hk) (fun u hu k hk e => by injection e with e; subst e; exact PN.out u (List.mem_cons_of_mem _ (List.mem_cons_of_mem _ hu)) hk)
      replace B := B.grown gq B.size (fun k hk => by injection hk with hk; omega)
      clear gq
      generalize w7.setCell ⟨p8, 1, none⟩ (.slice a7 zs.length c7) = W7 at *
      obtain ⟨l0, l1, l2, l3, lf, _⟩ := id V4
      have V9 := Box4.new W7 (lo := w.heap.size) B.size (.int .i64 F) (.int .i64 L) (.int .i64 X) (.int .i64 E) 32
      have b9 := below1 W7 (.cells #[.int .i64 F, .int .i64 L, .int .i64 X, .int .i64 E] 32)
      have sW7 := V8.lt
      replace V4 := V4.below b9
      replace VD := VD.below b9
      replace VL := VL.below b9
      replace V8 := V8.below b9
      have N9 := (DN.nots (p := W7.heap.size) (.inl (Nat.le_refl _)))
      replace DN := DN.below b9
      replace B := B.trans (b9.mono B.size)
      clear b9
      go_upto_region 7 with fail
      clear l0 l1 l2 l3 lf
      generalize hp9 : W7.heap.size = p9 at *
      generalize W7.alloc (.cells #[.int .i64 F, .int .i64 L, .int .i64 X, .int .i64 E] 32) = W8 at *
      have XN : Hid (X + (ws.length : Int) = X + (m : Int)) := by show _ = _; rw [wl.out]
      obtain ⟨l0, l1, l2, l3, lf, _⟩ := id V4
      obtain ⟨k0, k1, k2, k3, kf, _⟩ := id V9
      have s9 := V9.lt
      have gq : W8.grownBy (W8.setCell ⟨p9, 2, none⟩ (.int .i64 (X + (ws.length : Int)))) (some p9) := grownBy_setCell (p := ⟨p9, 2, none⟩) (grownBy_refl _ _) rfl _
      go_upto_region 8 with fail
      clear l0 l1 l2 l3 lf k0 k1 k2 k3 kf
      replace VD := VD.grownO gq (by intro e; injection e with e; omega)
      replace VL := VL.grownW gq (by intro e; injection e with e; omega)
      replace V8 := V8.grownO gq (by intro e; injection e with e; omega)
      replace V9 := V9.put2W (.int .i64 (X + (ws.length : Int)))
      replace DN := DN.kept gq (fun k hk e => by injection e with e; subst e; exact N9.out _ (List.mem_cons_self ..) hk) (fun k hk e => by injection e with e; subst e; exact N9.out _ (List.mem_cons_of_mem _ (List.mem_cons_self ..)) hk) (fun u hu k hk e => by injection e with e; subst e; exact N9.out u (List.mem_cons_of_mem _ (List.mem_cons_of_mem _ hu)) hk)
      replace B := B.grown gq B.size (fun k hk => by injection hk with hk; omega)
      clear gq V4
      generalize W8.setCell ⟨p9, 2, none⟩ (.int .i64 (X + (ws.length : Int))) = W9 at *
      have bd := ((Below.refl W9.heap.size W9).drew : Below W9.heap.size W9 _)
      replace VD := VD.below bd
      replace VL := VL.below bd
      replace V8 := V8.below bd
      replace V9 := V9.below bd
      replace DN := DN.below bd
      replace B := B.trans (bd.mono B.size)
      clear bd
      have N : Box2 w.heap.size W9.drew p8 (.slice (some ad8) bs.length c8) (.slice a7 zs.length c7) ∧ Box4 w.heap.size W9.drew p9 (.int .i64 F) (.int .i64 L) (.int .i64 (X + (ws.length : Int))) (.int .i64 E) := And.intro V8 V9
      refine wp_region_held_drew (S := fun W => Box2 w.heap.size W p8 (.slice (some ad8) bs.length c8) (.slice a7 zs.length c7) ∧ Box4 w.heap.size W p9 (.int .i64 F) (.int .i64 L) (.int .i64 (X + (ws.length : Int))) (.int .i64 E)) (by kernel_rfl) N (fun hHeld => ?_)
      clear hHeld
      generalize W9.drew = ww0 at *
      have s0 : w.heap.size + 4 ≤ ww0.heap.size := by have := V8.lt; omega
      refine takeW (i := 0) (by simp only [List.getElem?_toArray, List.getElem?_cons_zero]; exact rfl) (by kernel_rfl) (by kernel_rfl) (by kernel_rfl) (by exact fun _ _ _ h => h) (by rfl) (by intro wq hSw; obtain ⟨⟨y0, y1, _, _⟩, ⟨l0, l1, l2, l3, _, _⟩⟩ := hSw; go_simp <;> with_reducible rfl) (by assumption) ?_
      try simp only [Act.put, List.setIfInBounds_toArray, List.set_cons_zero, List.set_cons_succ]
      refine takeW (i := 2) (by simp only [List.getElem?_toArray, List.getElem?_cons_succ, List.getElem?_cons_zero]; exact rfl) (by kernel_rfl) (by kernel_rfl) (by kernel_rfl) (by exact fun _ _ _ h => h) (by rfl) (by intro wq hSw; obtain ⟨⟨y0, y1, _, _⟩, ⟨l0, l1, l2, l3, _, _⟩⟩ := hSw; go_simp <;> with_reducible rfl) (by assumption) ?_
      try simp only [Act.put, List.setIfInBounds_toArray, List.set_cons_zero, List.set_cons_succ]
      refine wpAnyH_ready (rs := [1]) (by kernel_rfl) (by simp) (AllReadyH.cons (by simp only [List.getElem?_toArray, List.getElem?_cons_succ, List.getElem?_cons_zero]; exact rfl) (fun K hK => ?_) AllReadyH.nil)
      go_simp
      refine (specSync ad8 a7 c8 c7 (vs ++ us) bs zs _ DN (SV.out.app SU.out) (by omega) UZ.out).mono ?_
      rintro e ww1 ⟨ad9, c9, b9, d9, vs9, bs9, qs9, rfl, SY, D9, SV9, hb⟩
      have HY : Hid (SyRes bs zs bs9 qs9) := SY
      replace D9 := D9.base (lo' := w.heap.size + 4) s0
      replace VD := VD.below hb
      replace VL := VL.below hb
      replace V8 := V8.below hb
      replace V9 := V9.below hb
      replace B := B.trans (hb.mono B.size)
      replace N := And.intro V8 V9
      refine hK.out _ _ N (fun hHeld => ?_)
      clear hK K hHeld
      try simp only [Act.put, List.setIfInBounds_toArray, List.set_cons_zero, List.set_cons_succ]
      clear hb SY DN
      refine wpAnyH_ready (rs := [3]) (by kernel_rfl) (by simp) (AllReadyH.cons (by simp only [List.getElem?_toArray, List.getElem?_cons_succ, List.getElem?_cons_zero]; exact rfl) (fun K hK => ?_) AllReadyH.nil)
      obtain ⟨q0, q1, qf, _⟩ := id VD
      go_simp
      have gq : ww1.grownBy ((ww1.setCell ⟨w.heap.size + 2, 0, none⟩ (.slice (some ad9) bs.length c9)).setCell ⟨w.heap.size + 2, 1, none⟩ (.slice b9 qs9.length d9)) (some (w.heap.size + 2)) := grownBy_setCell (p := ⟨w.heap.size + 2, 1, none⟩) (grownBy_setCell (p := ⟨w.heap.size + 2, 0, none⟩) (grownBy_refl _ _) rfl _) rfl _
      replace B := Box2.chain B VD (.slice (some ad9) bs.length c9) (.slice b9 qs9.length d9)
      replace VD := VD.put (.slice (some ad9) bs.length c9) (.slice b9 qs9.length d9)
      replace V8 := V8.grownO gq (by intro e; injection e with e; omega)
      replace V9 := V9.grownW gq (by intro e; injection e with e; omega)
      replace VL := VL.grownW gq (by intro e; injection e with e; omega)
      replace D9 := D9.kept gq (fun k hk e => by have := (D9.lts.1 k hk).1; injection e with e; omega) (fun k hk e => by have := (D9.lts.2.1 k hk).1; injection e with e; omega) (fun y hy k hk e => by have := (D9.lts.2.2 y hy k hk).1; injection e with e; omega)
      replace N := And.intro V8 V9
      refine hK.out _ _ N (fun hHeld => ?_)
      clear hK K hHeld
      try simp only [Act.put, List.setIfInBounds_toArray, List.set_cons_zero, List.set_cons_succ]
      clear q0 q1 qf gq
      generalize (ww1.setCell ⟨w.heap.size + 2, 0, none⟩ (.slice (some ad9) bs.length c9)).setCell ⟨w.heap.size + 2, 1, none⟩ (.slice b9 qs9.length d9) = ww2 at *
      refine wpAnyH_ready (rs := [4]) (by kernel_rfl) (by simp) (AllReadyH.cons (by simp only [List.getElem?_toArray, List.getElem?_cons_succ, List.getElem?_cons_zero]; exact rfl) (fun K hK => ?_) AllReadyH.nil)
      obtain ⟨q0, q1, q2, q3, qf, _⟩ := id VL
      go_simp
      have gq := grownBy_setCell (grownBy_setCell (grownBy_setCell (grownBy_setCell (grownBy_refl ww2 (some (w.heap.size + 3))) (p := ⟨w.heap.size + 3, 0, none⟩) rfl (.int .i64 F)) (p := ⟨w.heap.size + 3, 1, none⟩) rfl (.int .i64 L)) (p := ⟨w.heap.size + 3, 2, none⟩) rfl (.int .i64 (X + (ws.length : Int)))) (p := ⟨w.heap.size + 3, 3, none⟩) rfl (.int .i64 E)
      replace B := Box4.chain B VL (.int .i64 F) (.int .i64 L) (.int .i64 (X + (ws.length : Int))) (.int .i64 E)
      replace VL := VL.put (.int .i64 F) (.int .i64 L) (.int .i64 (X + (ws.length : Int))) (.int .i64 E)
      replace V8 := V8.grownO gq (by intro e; injection e with e; omega)
      replace V9 := V9.grownW gq (by intro e; injection e with e; omega)
      replace VD := VD.grownO gq (by intro e; injection e with e; omega)
      replace D9 := D9.kept gq (fun k hk e => by have := (D9.lts.1 k hk).1; injection e with e; omega) (fun k hk e => by have := (D9.lts.2.1 k hk).1; injection e with e; omega) (fun y hy k hk e => by have := (D9.lts.2.2 y hy k hk).1; injection e with e; omega)
      replace N := And.intro V8 V9
      refine hK.out _ _ N (fun hHeld => ?_)
      clear hK K hHeld
      try simp only [Act.put, List.setIfInBounds_toArray, List.set_cons_zero, List.set_cons_succ]
      clear q0 q1 q2 q3 qf gq
      generalize ((((ww2.setCell ⟨w.heap.size + 3, 0, none⟩ (.int .i64 F)).setCell ⟨w.heap.size + 3, 1, none⟩ (.int .i64 L)).setCell ⟨w.heap.size + 3, 2, none⟩ (.int .i64 (X + (ws.length : Int)))).setCell ⟨w.heap.size + 3, 3, none⟩ (.int .i64 E)) = ww3 at *
      refine takeW (i := 5) (by simp only [List.getElem?_toArray, List.getElem?_cons_succ, List.getElem?_cons_zero]; exact rfl) (by kernel_rfl) (by kernel_rfl) (by kernel_rfl) (by exact fun _ _ _ h => h) (by rfl) (by intro wq hSw; go_simp <;> with_reducible rfl) (by assumption) ?_
      try simp only [Act.put, List.setIfInBounds_toArray, List.set_cons_zero, List.set_cons_succ]
      refine wpAnyH_done (by kernel_rfl) ?_ _
      clear N
      have r0 := VD.c0
      have r1 := VD.c1
      obtain ⟨s0, s1, s2, s3, _, _⟩ := id VL
      have DS := D9.base (lo' := w.heap.size) (by omega)
      have YR : Hid (LaRes bs qs F L X E rs bs9 qs9 (X + (ws.length : Int)) true) := .inl ⟨⟨LF.out, OK.out⟩, by rw [hm0.out, ← HWS.out, hzs.out]; exact HY.out, by rw [hm0.out]; exact XN.out, rfl⟩
      clear V9 V8 VL VD D9
      go_wp2
      exact bodyPost_ret (v := .tuple #[.agg #[(.slice (some ad9) bs.length c9), (.slice b9 qs9.length d9)], .agg #[.int .i64 F, .int .i64 L, .int .i64 (X + (ws.length : Int)), .int .i64 E], .bool true]) (by simp [results, Tryz.results5, go_sem, r0, r1, s0, s1, s2, s3]) rfl ⟨⟨_, _, _, _, vs9, bs9, qs9, _, true, rfl, YR.out, DS, SV9⟩, B⟩
    · have NO : Hid (LaRes bs qs F L X E rs bs qs X false) := NR.out (fun q => nok q.2)
      clear NR HR QW QL
      go_upto_region 4 with fail
      have bd := ((Below.refl w5.heap.size w5).drew : Below w5.heap.size w5 _)
      replace V4 := V4.below bd
      replace VD := VD.below bd
      replace VL := VL.below bd
      replace V8 := V8.below bd
      replace D := D.below bd
      replace B := B.trans (bd.mono B.size)
      clear bd
      have N : Box2 w.heap.size w5.drew p8 (.slice (some ad8) bs.length c8) (.slice b8 qs.length d8) ∧ Box4 w.heap.size w5.drew (w.heap.size + 1) (.int .i64 F) (.int .i64 L) (.int .i64 X) (.int .i64 E) := ⟨V8, V4⟩
      refine wp_region_held_drew (S := fun W => Box2 w.heap.size W p8 (.slice (some ad8) bs.length c8) (.slice b8 qs.length d8) ∧ Box4 w.heap.size W (w.heap.size + 1) (.int .i64 F) (.int .i64 L) (.int .i64 X) (.int .i64 E)) (by kernel_rfl) N (fun hHeld => ?_)
      clear hHeld
      generalize w5.drew = ww0 at *
      refine takeW (i := 0) (by simp only [List.getElem?_toArray, List.getElem?_cons_zero]; exact rfl) (by kernel_rfl) (by kernel_rfl) (by kernel_rfl) (by exact fun _ _ _ h => h) (by rfl) (by intro wq hSw; obtain ⟨⟨y0, y1, _, _⟩, ⟨l0, l1, l2, l3, _, _⟩⟩ := hSw; go_simp <;> with_reducible rfl) (by assumption) ?_
      try simp only [Act.put, List.setIfInBounds_toArray, List.set_cons_zero, List.set_cons_succ]
      refine takeW (i := 1) (by simp only [List.getElem?_toArray, List.getElem?_cons_succ, List.getElem?_cons_zero]; exact rfl) (by kernel_rfl) (by kernel_rfl) (by kernel_rfl) (by exact fun _ _ _ h => h) (by rfl) (by intro wq hSw; obtain ⟨⟨y0, y1, _, _⟩, ⟨l0, l1, l2, l3, _, _⟩⟩ := hSw; go_simp <;> with_reducible rfl) (by assumption) ?_
      try simp only [Act.put, List.setIfInBounds_toArray, List.set_cons_zero, List.set_cons_succ]
      refine wpAnyH_ready (rs := [2]) (by kernel_rfl) (by simp) (AllReadyH.cons (by simp only [List.getElem?_toArray, List.getElem?_cons_succ, List.getElem?_cons_zero]; exact rfl) (fun K hK => ?_) AllReadyH.nil)
      obtain ⟨q0, q1, qf, _⟩ := id VD
      go_simp
      have gq : ww0.grownBy ((ww0.setCell ⟨w.heap.size + 2, 0, none⟩ (.slice (some ad8) bs.length c8)).setCell ⟨w.heap.size + 2, 1, none⟩ (.slice b8 qs.length d8)) (some (w.heap.size + 2)) := grownBy_setCell (p := ⟨w.heap.size + 2, 1, none⟩) (grownBy_setCell (p := ⟨w.heap.size + 2, 0, none⟩) (grownBy_refl _ _) rfl _) rfl _
      replace B := Box2.chain B VD (.slice (some ad8) bs.length c8) (.slice b8 qs.length d8)
      replace VD := VD.put (.slice (some ad8) bs.length c8) (.slice b8 qs.length d8)
      replace V8 := V8.grownO gq (by intro e; injection e with e; omega)
      replace V4 := V4.grownW gq (by intro e; injection e with e; omega)
      replace VL := VL.grownW gq (by intro e; injection e with e; omega)
      replace D := D.kept gq (fun k hk e => by have := (D.lts.1 k hk).1; injection e with e; omega) (fun k hk e => by have := (D.lts.2.1 k hk).1; injection e with e; omega) (fun y hy k hk e => by have := (D.lts.2.2 y hy k hk).1; injection e with e; omega)
      replace N := And.intro V8 V4
      refine hK.out _ _ N (fun hHeld => ?_)
      clear hK K hHeld
      try simp only [Act.put, List.setIfInBounds_toArray, List.set_cons_zero, List.set_cons_succ]
      clear q0 q1 qf gq
      generalize (ww0.setCell ⟨w.heap.size + 2, 0, none⟩ (.slice (some ad8) bs.length c8)).setCell ⟨w.heap.size + 2, 1, none⟩ (.slice b8 qs.length d8) = ww1 at *
      refine wpAnyH_ready (rs := [3]) (by kernel_rfl) (by simp) (AllReadyH.cons (by simp only [List.getElem?_toArray, List.getElem?_cons_succ, List.getElem?_cons_zero]; exact rfl) (fun K hK => ?_) AllReadyH.nil)
      obtain ⟨q0, q1, q2, q3, qf, _⟩ := id VL
      go_simp
      have gq := grownBy_setCell (grownBy_setCell (grownBy_setCell (grownBy_setCell (grownBy_refl ww1 (some (w.heap.size + 3))) (p := ⟨w.heap.size + 3, 0, none⟩) rfl (.int .i64 F)) (p := ⟨w.heap.size + 3, 1, none⟩) rfl (.int .i64 L)) (p := ⟨w.heap.size + 3, 2, none⟩) rfl (.int .i64 X)) (p := ⟨w.heap.size + 3, 3, none⟩) rfl (.int .i64 E)
      replace B := Box4.chain B VL (.int .i64 F) (.int .i64 L) (.int .i64 X) (.int .i64 E)
      replace VL := VL.put (.int .i64 F) (.int .i64 L) (.int .i64 X) (.int .i64 E)
      replace V8 := V8.grownO gq (by intro e; injection e with e; omega)
      replace V4 := V4.grownW gq (by intro e; injection e with e; omega)
      replace VD := VD.grownO gq (by intro e; injection e with e; omega)
      replace D := D.kept gq (fun k hk e => by have := (D.lts.1 k hk).1; injection e with e; omega) (fun k hk e => by have := (D.lts.2.1 k hk).1; injection e with e; omega) (fun y hy k hk e => by have := (D.lts.2.2 y hy k hk).1; injection e with e; omega)
      replace N := And.intro V8 V4
      refine hK.out _ _ N (fun hHeld => ?_)
      clear hK K hHeld
      try simp only [Act.put, List.setIfInBounds_toArray, List.set_cons_zero, List.set_cons_succ]
      clear q0 q1 q2 q3 qf gq
      generalize ((((ww1.setCell ⟨w.heap.size + 3, 0, none⟩ (.int .i64 F)).setCell ⟨w.heap.size + 3, 1, none⟩ (.int .i64 L)).setCell ⟨w.heap.size + 3, 2, none⟩ (.int .i64 X)).setCell ⟨w.heap.size + 3, 3, none⟩ (.int .i64 E)) = ww2 at *
      refine takeW (i := 4) (by simp only [List.getElem?_toArray, List.getElem?_cons_succ, List.getElem?_cons_zero]; exact rfl) (by kernel_rfl) (by kernel_rfl) (by kernel_rfl) (by exact fun _ _ _ h => h) (by rfl) (by intro wq hSw; go_simp <;> with_reducible rfl) (by assumption) ?_
      try simp only [Act.put, List.setIfInBounds_toArray, List.set_cons_zero, List.set_cons_succ]
      refine wpAnyH_done (by kernel_rfl) ?_ _
      clear N
      have r0 := VD.c0
      have r1 := VD.c1
      obtain ⟨s0, s1, s2, s3, _, _⟩ := id VL
      have DS := D.base (lo' := w.heap.size) (by omega)
      clear V4 V8 VL VD D
      go_wp2
      exact bodyPost_ret (v := .tuple #[.agg #[(.slice (some ad8) bs.length c8), (.slice b8 qs.length d8)], .agg #[.int .i64 F, .int .i64 L, .int .i64 X, .int .i64 E], .bool false]) (by simp [results, Tryz.results5, go_sem, r0, r1, s0, s1, s2, s3]) rfl ⟨⟨_, _, _, _, vs, bs, qs, X, false, rfl, NO.out, DS, SV.out⟩, B⟩
end Go.Proofs.YtonbmeepfgejmaaGreatDoor
