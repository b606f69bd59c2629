/- The law on LogAdd: at every argument the program's LogAdd is the specification's; it writes into no argument; its answer owns its memory. -/
import Derived.Test.YtonbmeepfgejmaaGreatDoorLaI
import Derived.Test.YtonbmeepfgejmaaGreatDoorLgT
import Derived.Test.YtonbmeepfgejmaaGreatDoorDkB
namespace Go.Proofs.YtonbmeepfgejmaaGreatDoor
open Go.RowKit

theorem capture2 {P : Program} {ops : Array Oper} {Q : Exit → Act → World → Prop} {md : Region.Mode} {S : World → Prop} {fuel : Nat} {listed : Array Bool} {a : Act} {w : World}
    (h : ∀ (wp : Nat → Array Bool → Act → World → Prop) (a0 : Act), a0 = a → (∀ f l a w, wp f l a w = wpAnyH P md ops Q S f l a w) → wp fuel listed a0 w) : wpAnyH P md ops Q S fuel listed a w :=
  h (fun f l a w => wpAnyH P md ops Q S f l a w) a rfl (fun _ _ _ _ => rfl)
theorem met2 {wp : Nat → Array Bool → Act → World → Prop} {f : Nat} {l l' : Array Bool} {a a' : Act} {w : World} (h : wp f l' a' w) (e : l = l') (e2 : a = a') : wp f l a w := by subst e e2; exact h
theorem LaRes.len {bs : List Int} {qs : List Wr} {F L N E : Int} {rs bs' : List Int} {qs' : List Wr} {n' : Int} {r : Bool} (h : LaRes bs qs F L N E rs bs' qs' n' r) : bs'.length = bs.length := by
  rcases h with ⟨_, b, _⟩ | ⟨_, b, _⟩
  · exact b.len
  · rw [b]
theorem LaRes.size {bs : List Int} {qs : List Wr} {F L N E : Int} {rs bs' : List Int} {qs' : List Wr} {n' : Int} {r : Bool} (h : LaRes bs qs F L N E rs bs' qs' n' r) (hq : uptoQ qs qs.length ≤ 1048576) : uptoQ qs' qs'.length ≤ 2000000 := by
  rcases h with ⟨⟨_, o⟩, b, _⟩ | ⟨_, _, b, _⟩
  · rcases b with ⟨_, _, e⟩ | ⟨_, _, e⟩
    · rw [e]; simp [uptoQ]
    · have hl : (lgWs F N E rs (lgMany rs.length)).length = lgMany rs.length := by simp [lgWs]
      rw [e, List.length_append, uptoQ_appR, hl, uptoQ_lgWs F N E rs _ _ (Nat.le_refl _)]
      have h4 := o.2.1
      have : lgMany rs.length ≤ 100 := by unfold lgMany; split <;> omega
      omega
  · rw [b]; omega
theorem Box4.underP {lo q n : Nat} {w w' : World} {x0 x1 x2 x3 : Value} (h : Box4 lo w q x0 x1 x2 x3) (hb : Below n w w') (hq : q < n) : Box4 lo w' q x0 x1 x2 x3 := by
  have e := hb.block q hq
  exact ⟨(World.cell?_of_block (a := ⟨q, 0, none⟩) e).trans h.c0, (World.cell?_of_block (a := ⟨q, 1, none⟩) e).trans h.c1, (World.cell?_of_block (a := ⟨q, 2, none⟩) e).trans h.c2, (World.cell?_of_block (a := ⟨q, 3, none⟩) e).trans h.c3, fun o => (World.frozen?_of_block (a := ⟨q, o, none⟩) e).trans (h.fr o), h.lo⟩
theorem Box4.butP {lo q : Nat} {w w' : World} {x0 x1 x2 x3 : Value} {us : List Value} (h : Box4 lo w q x0 x1 x2 x3) (hb : ButQ us w w') (ne : ∀ u ∈ us, u.ownBlock ≠ some q) : Box4 lo w' q x0 x1 x2 x3 := by
  have e := hb.2 q h.lt ne
  exact ⟨(World.cell?_of_block (a := ⟨q, 0, none⟩) e).trans h.c0, (World.cell?_of_block (a := ⟨q, 1, none⟩) e).trans h.c1, (World.cell?_of_block (a := ⟨q, 2, none⟩) e).trans h.c2, (World.cell?_of_block (a := ⟨q, 3, none⟩) e).trans h.c3, fun o => (World.frozen?_of_block (a := ⟨q, o, none⟩) e).trans (h.fr o), h.lo⟩

/-- What a call of LogAdd leaves, and the variables that hold it. -/
structure LaOut (Ws W : World) (p8 p9 : Nat) (a0 : Addr) (c0 : Nat) (b0 : Option Addr) (d0 : Nat) (vs0 : List Value) (bs : List Int) (qs : List Wr) (F L X E : Int) (rs bs' : List Int) (qs' : List Wr) (n' : Int) (r : Bool) : Prop where
  res : LaRes bs qs F L X E rs bs' qs' n' r
  dk : DkR Ws.heap.size W (.slice (some a0) bs.length c0) (.slice b0 qs'.length d0) vs0 bs' qs'
  b8 : Box2 Ws.heap.size W p8 (.slice (some a0) bs.length c0) (.slice b0 qs'.length d0)
  b9 : Box4 Ws.heap.size W p9 (.int .i64 F) (.int .i64 L) (.int .i64 n') (.int .i64 E)
  n8 : Hid (∀ u ∈ ((Value.slice (some a0) bs.length c0) :: (Value.slice b0 qs'.length d0) :: vs0), u.ownBlock ≠ some p8)
  n9 : Hid (∀ u ∈ ((Value.slice (some a0) bs.length c0) :: (Value.slice b0 qs'.length d0) :: vs0), u.ownBlock ≠ some p9)
  bel : Below Ws.heap.size Ws W

set_option maxRecDepth 20000 in
set_option maxHeartbeats 16000000 in
theorem lawLogAdd (a a2 ay : Option Addr) (c c2 cy : Nat) (bs rs : List Int) (qs : List Wr) (F L X E : Int) (w : World) (h : SeesB w a c bs) (k : SeesQ w a2 c2 qs) (y : SeesB w ay cy rs) (h8 : ∀ x ∈ rs, 0 ≤ x ∧ x < 256) (bE : Addr) (er : Er bE w) :
    Calls Tryz.prog 3 #[.agg #[.slice a bs.length c, .slice a2 qs.length c2], .agg #[.int .i64 F, .int .i64 L, .int .i64 X, .int .i64 E], .slice ay rs.length cy] w fun e w' => e = .returned (.bool true) ∧ Below w.heap.size w w' := by
  have hm := h.max
  have hf := h.fits
  unfold maxLen at hm
  have HB : Hid (SeesB w a c bs) := h
  have HE : Hid (Er bE w) := er
  have HY : Hid (SeesB w ay cy rs) := y
  have H8 : Hid (∀ x ∈ rs, 0 ≤ x ∧ x < 256) := h8
  have hym := y.max
  have hyf := y.fits
  unfold maxLen at hym
  have wp := er.pos
  have HQ : Hid (SeesQ w a2 c2 qs) := k
  have B := below1 w (.cells #[.slice a bs.length c, .slice a2 qs.length c2] 25)
  have V := Box2.new w (lo := w.heap.size) (Nat.le_refl _) (.slice a bs.length c) (.slice a2 qs.length c2) 25
  generalize hWa : w.alloc (.cells #[.slice a bs.length c, .slice a2 qs.length c2] 25) = Wa at *
  have za : Wa.heap.size = w.heap.size + 1 := by rw [← hWa]; simp
  have VG := Box4.new Wa (lo := w.heap.size) B.size (.int .i64 F) (.int .i64 L) (.int .i64 X) (.int .i64 E) 27
  have b2 := below1 Wa (.cells #[.int .i64 F, .int .i64 L, .int .i64 X, .int .i64 E] 27)
  replace V := V.below b2
  replace B := B.trans (b2.mono B.size)
  rw [za] at VG
  clear h k y er h8 b2
  by_cases hy : 1048576 < rs.length
  · go_enter Tryz.func3, Tryz.ntmps3
    subst hWa
    go_wp2
    go_ret
    exact ⟨rfl, B⟩
  · have LY : Hid (rs.length ≤ 1048576) := by show _ ≤ _; omega
    go_enter Tryz.func3, Tryz.ntmps3
    go_upto_region 4 with fail
    try rw [za]
    generalize Wa.alloc (.cells #[.int .i64 F, .int .i64 L, .int .i64 X, .int .i64 E] 27) = W0 at *
    clear hWa za
    obtain ⟨v0, v1, vf, _⟩ := id V
    go_wp2_with fail
    refine (szDisk_any a a2 c c2 bs.length qs 1048576 _ (by omega) (HQ.out.below B) ⟨by omega, by omega⟩).mono ?_
    rintro e w1 ⟨z, rfl, hz, hb⟩
    have HZ : Hid (z = -1 ∨ (0 ≤ z ∧ z + bs.length + (uptoQ qs qs.length : Nat) = 1048576)) := hz
    replace V := V.below hb
    replace VG := VG.below hb
    replace B := B.trans (hb.mono B.size)
    clear hb hz v0 v1 vf
    by_cases h0 : z < 0
    · go_wp2
      go_ret
      exact ⟨rfl, B⟩
    · have L1 : Hid (bs.length ≤ 1048576) := by show _ ≤ _; have := HZ.out; omega
      have L2 : Hid (uptoQ qs qs.length ≤ 1048576) := by show _ ≤ _; have := HZ.out; omega
      have M1 : Hid (bs.length ≤ 1900000) := Nat.le_trans L1.out (by omega)
      have M2 : Hid (uptoQ qs qs.length ≤ 1900000) := Nat.le_trans L2.out (by omega)
      go_wp2_with fail
      go_cut [8, 9, 10] (fun s8 s9 s10 W => ∃ (p8 p9 : Nat) (a0 : Addr) (c0 : Nat) (b0 : Option Addr) (d0 : Nat) (vs0 : List Value) (bs' : List Int) (qs' : List Wr) (n' : Int) (r : Bool), s8 = .pointer (some ⟨p8, 0, none⟩) ∧ s9 = .pointer (some ⟨p9, 0, none⟩) ∧ s10 = .bool r ∧ LaOut w1 W p8 p9 a0 c0 b0 d0 vs0 bs qs F L X E rs bs' qs' n' r)
      case first =>
        as_aux_lemma =>
          rename_i hcJ hcK
          have N : Below w1.heap.size w1 w1.drew := (Below.refl _ _).drew
          refine wp_region_held_drew (S := fun w' => Below w1.heap.size w1 w') (by kernel_rfl) N (fun hHeld => ?_)
          clear hHeld
          generalize w1.drew = ww0 at *
          refine takeW (i := 0) (by simp only [List.getElem?_toArray, List.getElem?_cons_zero]; exact rfl) (by kernel_rfl) (by kernel_rfl) (by kernel_rfl) (by exact fun _ _ _ h => h) (by rfl) (by intro wq hSw; have y0 := bat hSw V.c0; have y1 := bat hSw V.c1; have l0 := bat hSw VG.c0; have l1 := bat hSw VG.c1; have l2 := bat hSw VG.c2; have l3 := bat hSw VG.c3; go_simp <;> with_reducible rfl) (by assumption) ?_
          try simp only [Act.put, List.setIfInBounds_toArray, List.set_cons_zero, List.set_cons_succ]
          refine takeW (i := 2) (by simp only [List.getElem?_toArray, List.getElem?_cons_succ, List.getElem?_cons_zero]; exact rfl) (by kernel_rfl) (by kernel_rfl) (by kernel_rfl) (by exact fun _ _ _ h => h) (by rfl) (by intro wq hSw; have y0 := bat hSw V.c0; have y1 := bat hSw V.c1; have l0 := bat hSw VG.c0; have l1 := bat hSw VG.c1; have l2 := bat hSw VG.c2; have l3 := bat hSw VG.c3; go_simp <;> with_reducible rfl) (by assumption) ?_
          try simp only [Act.put, List.setIfInBounds_toArray, List.set_cons_zero, List.set_cons_succ]
          refine takeW (i := 4) (by simp only [List.getElem?_toArray, List.getElem?_cons_succ, List.getElem?_cons_zero]; exact rfl) (by kernel_rfl) (by kernel_rfl) (by kernel_rfl) (by exact fun _ _ _ h => h) (by rfl) (by intro wq hSw; go_simp <;> with_reducible rfl) (by assumption) ?_
          try simp only [Act.put, List.setIfInBounds_toArray, List.set_cons_zero, List.set_cons_succ]
          refine capture2 (fun wpx fr0 ha0 hwp => ?_)
          revert N
          revert ww0
          have H4_p8_p9 : ∀ (a3 : Addr) (b3 : Option Addr) (us : List Value) (y : Nat) (a0 : Addr) (c0 : Nat) (b0 : Option Addr) (d0 : Nat) (vs3 : List Value) (bs' : List Int) (qs' : List Wr) (n' : Int) (r : Bool) (p8 : Nat) (p9 : Nat) (V : World), Below w1.heap.size w1 V → Hid (LaRes bs qs F L X E rs bs' qs' n' r) → DkR w1.heap.size V (.slice (some a0) bs.length c0) (.slice b0 qs'.length d0) vs3 bs' qs' → Box2 w1.heap.size V p8 (.slice none 0 0) (.slice none 0 0) → Box4 w1.heap.size V p9 (.int .i64 0) (.int .i64 0) (.int .i64 0) (.int .i64 0) → p8 ≠ p9 → Hid (∀ u ∈ ((Value.slice (some a0) bs.length c0) :: (Value.slice b0 qs'.length d0) :: vs3), u.ownBlock ≠ some p8) → Hid (∀ u ∈ ((Value.slice (some a0) bs.length c0) :: (Value.slice b0 qs'.length d0) :: vs3), u.ownBlock ≠ some p9) → wpx 3 #[true, true, true, true, true, true, true, true, true, true, true, true, true, false, false, false] ((((((((((fr0.put (some 32) (.agg #[.slice (some a3) bs.length bs.length, .slice b3 qs.length qs.length])).put (some 34) (.agg #[.int .i64 F, .int .i64 L, .int .i64 X, .int .i64 E])).put (some 36) (.slice (some ⟨y, 0, none⟩) rs.length rs.length)).put (some 37) (.tuple #[(.agg #[.slice (some a0) bs.length c0, .slice b0 qs'.length d0]), (.agg #[.int .i64 F, .int .i64 L, .int .i64 n', .int .i64 E]), .bool r])).put (some 30) (.tuple #[(.agg #[.slice (some a0) bs.length c0, .slice b0 qs'.length d0]), (.agg #[.int .i64 F, .int .i64 L, .int .i64 n', .int .i64 E]), .bool r])).put (some 38) (.agg #[.slice (some a0) bs.length c0, .slice b0 qs'.length d0])).put (some 39) (.agg #[.int .i64 F, .int .i64 L, .int .i64 n', .int .i64 E])).put (some 40) (.bool r)).put (some 8) (.pointer (some ⟨p8, 0, none⟩))).put (some 9) (.pointer (some ⟨p9, 0, none⟩))) V := by
            as_aux_lemma =>
              intro a3 b3 us y a0 c0 b0 d0 vs3 bs' qs' n' r p8 p9 V N SR D0 Y8 Y9 ne_p8_p9 n_p8 n_p9
              refine Eq.mpr (hwp _ _ _ _) ?_
              rw [ha0]
              try simp only [Act.put, List.setIfInBounds_toArray, List.set_cons_zero, List.set_cons_succ]
              refine wpAnyH_ready (rs := [13]) (by kernel_rfl) (by simp) (AllReadyH.cons (by simp only [List.getElem?_toArray, List.getElem?_cons_succ, List.getElem?_cons_zero]; exact rfl) (fun K hK => ?_) AllReadyH.nil)
              obtain ⟨q0, q1, qf, _⟩ := id Y8
              go_simp
              have gq := grownBy_setCell (grownBy_setCell (grownBy_refl V (some p8)) (p := ⟨p8, 0, none⟩) rfl (.slice (some a0) bs.length c0)) (p := ⟨p8, 1, none⟩) rfl (.slice b0 qs'.length d0)
              have N2 := ((N.setCell (p := ⟨p8, 0, none⟩) Y8.lo (.slice (some a0) bs.length c0)).setCell (p := ⟨p8, 1, none⟩) Y8.lo (.slice b0 qs'.length d0))
              replace Y8 := Y8.put (.slice (some a0) bs.length c0) (.slice b0 qs'.length d0)
              replace Y9 := Y9.grownW gq (by intro e; injection e with e; omega)
              replace D0 := D0.kept gq (fun k hk e => by injection e with e; subst e; exact n_p8.out _ (List.mem_cons_self ..) hk) (fun k hk e => by injection e with e; subst e; exact n_p8.out _ (List.mem_cons_of_mem _ (List.mem_cons_self ..)) hk) (fun u hu k hk e => by injection e with e; subst e; exact n_p8.out u (List.mem_cons_of_mem _ (List.mem_cons_of_mem _ hu)) hk)
              replace N := N2
              refine hK.out _ _ N (fun hHeld => ?_)
              clear hK K hHeld
              try simp only [List.setIfInBounds_toArray, List.set_cons_zero, List.set_cons_succ]
              clear gq N2 q0 q1 qf
              generalize ((V.setCell ⟨p8, 0, none⟩ (.slice (some a0) bs.length c0)).setCell ⟨p8, 1, none⟩ (.slice b0 qs'.length d0)) = Vs0 at *
              refine wpAnyH_ready (rs := [14]) (by kernel_rfl) (by simp) (AllReadyH.cons (by simp only [List.getElem?_toArray, List.getElem?_cons_succ, List.getElem?_cons_zero]; exact rfl) (fun K hK => ?_) AllReadyH.nil)
              obtain ⟨q0, q1, q2, q3, qf, _⟩ := id Y9
              go_simp
              have gq := grownBy_setCell (grownBy_setCell (grownBy_setCell (grownBy_setCell (grownBy_refl Vs0 (some p9)) (p := ⟨p9, 0, none⟩) rfl (.int .i64 F)) (p := ⟨p9, 1, none⟩) rfl (.int .i64 L)) (p := ⟨p9, 2, none⟩) rfl (.int .i64 n')) (p := ⟨p9, 3, none⟩) rfl (.int .i64 E)
              have N2 := ((((N.setCell (p := ⟨p9, 0, none⟩) Y9.lo (.int .i64 F)).setCell (p := ⟨p9, 1, none⟩) Y9.lo (.int .i64 L)).setCell (p := ⟨p9, 2, none⟩) Y9.lo (.int .i64 n')).setCell (p := ⟨p9, 3, none⟩) Y9.lo (.int .i64 E))
              replace Y9 := Y9.put (.int .i64 F) (.int .i64 L) (.int .i64 n') (.int .i64 E)
              replace Y8 := Y8.grownO gq (by intro e; injection e with e; omega)
              replace D0 := D0.kept gq (fun k hk e => by injection e with e; subst e; exact n_p9.out _ (List.mem_cons_self ..) hk) (fun k hk e => by injection e with e; subst e; exact n_p9.out _ (List.mem_cons_of_mem _ (List.mem_cons_self ..)) hk) (fun u hu k hk e => by injection e with e; subst e; exact n_p9.out u (List.mem_cons_of_mem _ (List.mem_cons_of_mem _ hu)) hk)
              replace N := N2
              refine hK.out _ _ N (fun hHeld => ?_)
              clear hK K hHeld
              try simp only [List.setIfInBounds_toArray, List.set_cons_zero, List.set_cons_succ]
              clear gq N2 q0 q1 qf
              generalize ((((Vs0.setCell ⟨p9, 0, none⟩ (.int .i64 F)).setCell ⟨p9, 1, none⟩ (.int .i64 L)).setCell ⟨p9, 2, none⟩ (.int .i64 n')).setCell ⟨p9, 3, none⟩ (.int .i64 E)) = Vs1 at *
              refine takeW (i := 15) (by simp only [List.getElem?_toArray, List.getElem?_cons_succ, List.getElem?_cons_zero]; exact rfl) (by kernel_rfl) (by kernel_rfl) (by kernel_rfl) (by exact fun _ _ _ h => h) (by rfl) (by intro wq hSw; go_simp <;> with_reducible rfl) (by assumption) ?_
              try simp only [Act.put, List.setIfInBounds_toArray, List.set_cons_zero, List.set_cons_succ]
              refine wpAnyH_done (by kernel_rfl) ?_ _
              have OUT : LaOut _ _ p8 p9 a0 c0 b0 d0 vs3 bs qs F L X E rs bs' qs' n' r := ⟨SR.out, D0, Y8, Y9, n_p8, n_p9, N⟩
              clear D0 Y8 Y9 n_p8 n_p9 SR
              refine hcK _ _ (Met.intro (hcJ _ _ ?_))
              (repeat apply Exists.intro)
              refine ⟨?rel, rfl⟩
              case rel => exact ⟨_, _, a0, c0, b0, d0, vs3, bs', qs', n', r, rfl, rfl, rfl, OUT⟩
          have H4_p8 : ∀ (a3 : Addr) (b3 : Option Addr) (us : List Value) (y : Nat) (a0 : Addr) (c0 : Nat) (b0 : Option Addr) (d0 : Nat) (vs3 : List Value) (bs' : List Int) (qs' : List Wr) (n' : Int) (r : Bool) (p8 : Nat) (V : World), Below w1.heap.size w1 V → Hid (LaRes bs qs F L X E rs bs' qs' n' r) → DkR w1.heap.size V (.slice (some a0) bs.length c0) (.slice b0 qs'.length d0) vs3 bs' qs' → Box2 w1.heap.size V p8 (.slice none 0 0) (.slice none 0 0) → Hid (∀ u ∈ ((Value.slice (some a0) bs.length c0) :: (Value.slice b0 qs'.length d0) :: vs3), u.ownBlock ≠ some p8) → wpx 4 #[true, true, true, true, true, true, true, true, true, true, true, true, false, false, false, false] (((((((((fr0.put (some 32) (.agg #[.slice (some a3) bs.length bs.length, .slice b3 qs.length qs.length])).put (some 34) (.agg #[.int .i64 F, .int .i64 L, .int .i64 X, .int .i64 E])).put (some 36) (.slice (some ⟨y, 0, none⟩) rs.length rs.length)).put (some 37) (.tuple #[(.agg #[.slice (some a0) bs.length c0, .slice b0 qs'.length d0]), (.agg #[.int .i64 F, .int .i64 L, .int .i64 n', .int .i64 E]), .bool r])).put (some 30) (.tuple #[(.agg #[.slice (some a0) bs.length c0, .slice b0 qs'.length d0]), (.agg #[.int .i64 F, .int .i64 L, .int .i64 n', .int .i64 E]), .bool r])).put (some 38) (.agg #[.slice (some a0) bs.length c0, .slice b0 qs'.length d0])).put (some 39) (.agg #[.int .i64 F, .int .i64 L, .int .i64 n', .int .i64 E])).put (some 40) (.bool r)).put (some 8) (.pointer (some ⟨p8, 0, none⟩))) V := by
            as_aux_lemma =>
              intro a3 b3 us y a0 c0 b0 d0 vs3 bs' qs' n' r p8 V N SR D0 Y8 n_p8
              refine Eq.mpr (hwp _ _ _ _) ?_
              rw [ha0]
              try simp only [Act.put, List.setIfInBounds_toArray, List.set_cons_zero, List.set_cons_succ]
              refine wpAnyH_ready (rs := [12]) (by kernel_rfl) (by simp) (AllReadyH.cons (by simp only [List.getElem?_toArray, List.getElem?_cons_succ, List.getElem?_cons_zero]; exact rfl) (fun K hK => ?_) AllReadyH.nil)
              · go_simp
                have Y9 := Box4.new V (lo := w1.heap.size) N.size (.int .i64 0) (.int .i64 0) (.int .i64 0) (.int .i64 0) 32
                have hb := below1 V (.cells #[.int .i64 0, .int .i64 0, .int .i64 0, .int .i64 0] 32)
                have n_p9 := D0.nots (p := V.heap.size) (.inl (Nat.le_refl _))
                have g_p8 := Nat.ne_of_lt Y8.lt
                replace D0 := D0.below hb
                replace Y8 := Y8.below hb
                replace N := N.trans (hb.mono N.size)
                refine hK.out _ _ N (fun hHeld => ?_)
                clear hK K hHeld
                try simp only [List.setIfInBounds_toArray, List.set_cons_zero, List.set_cons_succ]
                clear hb
                refine Eq.mp (hwp _ _ _ _) ?_
                exact met2 (H4_p8_p9 a3 b3 us y a0 c0 b0 d0 vs3 bs' qs' n' r p8 V.heap.size _ N SR D0 Y8 Y9 g_p8 n_p8 n_p9) (by kernel_rfl) (by rw [ha0]; simp only [Act.put, List.setIfInBounds_toArray, List.set_cons_zero, List.set_cons_succ])
          have H4_p9 : ∀ (a3 : Addr) (b3 : Option Addr) (us : List Value) (y : Nat) (a0 : Addr) (c0 : Nat) (b0 : Option Addr) (d0 : Nat) (vs3 : List Value) (bs' : List Int) (qs' : List Wr) (n' : Int) (r : Bool) (p9 : Nat) (V : World), Below w1.heap.size w1 V → Hid (LaRes bs qs F L X E rs bs' qs' n' r) → DkR w1.heap.size V (.slice (some a0) bs.length c0) (.slice b0 qs'.length d0) vs3 bs' qs' → Box4 w1.heap.size V p9 (.int .i64 0) (.int .i64 0) (.int .i64 0) (.int .i64 0) → Hid (∀ u ∈ ((Value.slice (some a0) bs.length c0) :: (Value.slice b0 qs'.length d0) :: vs3), u.ownBlock ≠ some p9) → wpx 4 #[true, true, true, true, true, true, true, true, true, true, true, false, true, false, false, false] (((((((((fr0.put (some 32) (.agg #[.slice (some a3) bs.length bs.length, .slice b3 qs.length qs.length])).put (some 34) (.agg #[.int .i64 F, .int .i64 L, .int .i64 X, .int .i64 E])).put (some 36) (.slice (some ⟨y, 0, none⟩) rs.length rs.length)).put (some 37) (.tuple #[(.agg #[.slice (some a0) bs.length c0, .slice b0 qs'.length d0]), (.agg #[.int .i64 F, .int .i64 L, .int .i64 n', .int .i64 E]), .bool r])).put (some 30) (.tuple #[(.agg #[.slice (some a0) bs.length c0, .slice b0 qs'.length d0]), (.agg #[.int .i64 F, .int .i64 L, .int .i64 n', .int .i64 E]), .bool r])).put (some 38) (.agg #[.slice (some a0) bs.length c0, .slice b0 qs'.length d0])).put (some 39) (.agg #[.int .i64 F, .int .i64 L, .int .i64 n', .int .i64 E])).put (some 40) (.bool r)).put (some 9) (.pointer (some ⟨p9, 0, none⟩))) V := by
            as_aux_lemma =>
              intro a3 b3 us y a0 c0 b0 d0 vs3 bs' qs' n' r p9 V N SR D0 Y9 n_p9
              refine Eq.mpr (hwp _ _ _ _) ?_
              rw [ha0]
              try simp only [Act.put, List.setIfInBounds_toArray, List.set_cons_zero, List.set_cons_succ]
              refine wpAnyH_ready (rs := [11]) (by kernel_rfl) (by simp) (AllReadyH.cons (by simp only [List.getElem?_toArray, List.getElem?_cons_succ, List.getElem?_cons_zero]; exact rfl) (fun K hK => ?_) AllReadyH.nil)
              · go_simp
                have Y8 := Box2.new V (lo := w1.heap.size) N.size (.slice none 0 0) (.slice none 0 0) 31
                have hb := below1 V (.cells #[.slice none 0 0, .slice none 0 0] 31)
                have n_p8 := D0.nots (p := V.heap.size) (.inl (Nat.le_refl _))
                have g_p9 := Nat.ne_of_lt Y9.lt
                replace D0 := D0.below hb
                replace Y9 := Y9.below hb
                replace N := N.trans (hb.mono N.size)
                refine hK.out _ _ N (fun hHeld => ?_)
                clear hK K hHeld
                try simp only [List.setIfInBounds_toArray, List.set_cons_zero, List.set_cons_succ]
                clear hb
                refine Eq.mp (hwp _ _ _ _) ?_
                exact met2 (H4_p8_p9 a3 b3 us y a0 c0 b0 d0 vs3 bs' qs' n' r V.heap.size p9 _ N SR D0 Y8 Y9 g_p9.symm n_p8 n_p9) (by kernel_rfl) (by rw [ha0]; simp only [Act.put, List.setIfInBounds_toArray, List.set_cons_zero, List.set_cons_succ])
          have H4 : ∀ (a3 : Addr) (b3 : Option Addr) (us : List Value) (y : Nat) (a0 : Addr) (c0 : Nat) (b0 : Option Addr) (d0 : Nat) (vs3 : List Value) (bs' : List Int) (qs' : List Wr) (n' : Int) (r : Bool) (V : World), Below w1.heap.size w1 V → Hid (LaRes bs qs F L X E rs bs' qs' n' r) → DkR w1.heap.size V (.slice (some a0) bs.length c0) (.slice b0 qs'.length d0) vs3 bs' qs' → wpx 5 #[true, true, true, true, true, true, true, true, true, true, true, false, false, false, false, false] ((((((((fr0.put (some 32) (.agg #[.slice (some a3) bs.length bs.length, .slice b3 qs.length qs.length])).put (some 34) (.agg #[.int .i64 F, .int .i64 L, .int .i64 X, .int .i64 E])).put (some 36) (.slice (some ⟨y, 0, none⟩) rs.length rs.length)).put (some 37) (.tuple #[(.agg #[.slice (some a0) bs.length c0, .slice b0 qs'.length d0]), (.agg #[.int .i64 F, .int .i64 L, .int .i64 n', .int .i64 E]), .bool r])).put (some 30) (.tuple #[(.agg #[.slice (some a0) bs.length c0, .slice b0 qs'.length d0]), (.agg #[.int .i64 F, .int .i64 L, .int .i64 n', .int .i64 E]), .bool r])).put (some 38) (.agg #[.slice (some a0) bs.length c0, .slice b0 qs'.length d0])).put (some 39) (.agg #[.int .i64 F, .int .i64 L, .int .i64 n', .int .i64 E])).put (some 40) (.bool r)) V := by
            as_aux_lemma =>
              intro a3 b3 us y a0 c0 b0 d0 vs3 bs' qs' n' r V N SR D0
              refine Eq.mpr (hwp _ _ _ _) ?_
              rw [ha0]
              try simp only [Act.put, List.setIfInBounds_toArray, List.set_cons_zero, List.set_cons_succ]
              refine wpAnyH_ready (rs := [11, 12]) (by kernel_rfl) (by simp) (AllReadyH.cons (by simp only [List.getElem?_toArray, List.getElem?_cons_succ, List.getElem?_cons_zero]; exact rfl) (fun K hK => ?_) (AllReadyH.cons (by simp only [List.getElem?_toArray, List.getElem?_cons_succ, List.getElem?_cons_zero]; exact rfl) (fun K hK => ?_) AllReadyH.nil))
              · go_simp
                have Y8 := Box2.new V (lo := w1.heap.size) N.size (.slice none 0 0) (.slice none 0 0) 31
                have hb := below1 V (.cells #[.slice none 0 0, .slice none 0 0] 31)
                have n_p8 := D0.nots (p := V.heap.size) (.inl (Nat.le_refl _))
                replace D0 := D0.below hb
                replace N := N.trans (hb.mono N.size)
                refine hK.out _ _ N (fun hHeld => ?_)
                clear hK K hHeld
                try simp only [List.setIfInBounds_toArray, List.set_cons_zero, List.set_cons_succ]
                clear hb
                refine Eq.mp (hwp _ _ _ _) ?_
                exact met2 (H4_p8 a3 b3 us y a0 c0 b0 d0 vs3 bs' qs' n' r V.heap.size _ N SR D0 Y8 n_p8) (by kernel_rfl) (by rw [ha0]; simp only [Act.put, List.setIfInBounds_toArray, List.set_cons_zero, List.set_cons_succ])
              · go_simp
                have Y9 := Box4.new V (lo := w1.heap.size) N.size (.int .i64 0) (.int .i64 0) (.int .i64 0) (.int .i64 0) 32
                have hb := below1 V (.cells #[.int .i64 0, .int .i64 0, .int .i64 0, .int .i64 0] 32)
                have n_p9 := D0.nots (p := V.heap.size) (.inl (Nat.le_refl _))
                replace D0 := D0.below hb
                replace N := N.trans (hb.mono N.size)
                refine hK.out _ _ N (fun hHeld => ?_)
                clear hK K hHeld
                try simp only [List.setIfInBounds_toArray, List.set_cons_zero, List.set_cons_succ]
                clear hb
                refine Eq.mp (hwp _ _ _ _) ?_
                exact met2 (H4_p9 a3 b3 us y a0 c0 b0 d0 vs3 bs' qs' n' r V.heap.size _ N SR D0 Y9 n_p9) (by kernel_rfl) (by rw [ha0]; simp only [Act.put, List.setIfInBounds_toArray, List.set_cons_zero, List.set_cons_succ])
          have H3_p8_p9 : ∀ (a3 : Addr) (b3 : Option Addr) (us : List Value) (y : Nat) (p8 : Nat) (p9 : Nat) (V : World), Below w1.heap.size w1 V → DkR 0 V (.slice (some a3) bs.length bs.length) (.slice b3 qs.length qs.length) us bs qs → Hid (SomeV us) → SeesB V (some ⟨y, 0, none⟩) rs.length rs → Box2 w1.heap.size V p8 (.slice none 0 0) (.slice none 0 0) → Box4 w1.heap.size V p9 (.int .i64 0) (.int .i64 0) (.int .i64 0) (.int .i64 0) → p8 ≠ p9 → wpx 8 #[true, true, true, true, true, true, false, false, false, false, false, true, true, false, false, false] (((((fr0.put (some 32) (.agg #[.slice (some a3) bs.length bs.length, .slice b3 qs.length qs.length])).put (some 34) (.agg #[.int .i64 F, .int .i64 L, .int .i64 X, .int .i64 E])).put (some 36) (.slice (some ⟨y, 0, none⟩) rs.length rs.length)).put (some 8) (.pointer (some ⟨p8, 0, none⟩))).put (some 9) (.pointer (some ⟨p9, 0, none⟩))) V := by
            as_aux_lemma =>
              intro a3 b3 us y p8 p9 V N D2 S2 RY Y8 Y9 ne_p8_p9
              refine Eq.mpr (hwp _ _ _ _) ?_
              rw [ha0]
              try simp only [Act.put, List.setIfInBounds_toArray, List.set_cons_zero, List.set_cons_succ]
              refine wpAnyH_ready (rs := [6]) (by kernel_rfl) (by simp) (AllReadyH.cons (by simp only [List.getElem?_toArray, List.getElem?_cons_succ, List.getElem?_cons_zero]; exact rfl) (fun K hK => ?_) AllReadyH.nil)
              · go_simp
                refine (specLogAdd a3 b3 bs.length qs.length us bs qs F L X E _ _ _ rs _ D2 S2.out RY LY.out H8.out M1.out M2.out).mono ?_
                rintro e V1 ⟨⟨a0, c0, b0, d0, vs3, bs', qs', n', r, rfl, SR0, D0, SV3⟩, hb⟩
                have n_p8 := D0.nots (p := p8) (.inr Y8.lt)
                have n_p9 := D0.nots (p := p9) (.inr Y9.lt)
                have SR : Hid (LaRes bs qs F L X E rs bs' qs' n' r) := SR0
                replace D0 := D0.base (lo' := w1.heap.size) N.size
                clear SR0 SV3
                replace D2 := D2.below hb
                replace RY := RY.below hb
                replace Y8 := Y8.below hb
                replace Y9 := Y9.below hb
                replace N := N.trans (hb.mono N.size)
                refine hK.out _ _ N (fun hHeld => ?_)
                clear hK K hHeld
                try simp only [List.setIfInBounds_toArray, List.set_cons_zero, List.set_cons_succ]
                clear hb
                refine takeW (i := 7) (by simp only [List.getElem?_toArray, List.getElem?_cons_succ, List.getElem?_cons_zero]; exact rfl) (by kernel_rfl) (by kernel_rfl) (by kernel_rfl) (by exact fun _ _ _ h => h) (by rfl) (by intro wq hSw; go_simp <;> with_reducible rfl) (by assumption) ?_
                try simp only [Act.put, List.setIfInBounds_toArray, List.set_cons_zero, List.set_cons_succ]
                refine takeW (i := 8) (by simp only [List.getElem?_toArray, List.getElem?_cons_succ, List.getElem?_cons_zero]; exact rfl) (by kernel_rfl) (by kernel_rfl) (by kernel_rfl) (by exact fun _ _ _ h => h) (by rfl) (by intro wq hSw; go_simp <;> with_reducible rfl) (by assumption) ?_
                try simp only [Act.put, List.setIfInBounds_toArray, List.set_cons_zero, List.set_cons_succ]
                refine takeW (i := 9) (by simp only [List.getElem?_toArray, List.getElem?_cons_succ, List.getElem?_cons_zero]; exact rfl) (by kernel_rfl) (by kernel_rfl) (by kernel_rfl) (by exact fun _ _ _ h => h) (by rfl) (by intro wq hSw; go_simp <;> with_reducible rfl) (by assumption) ?_
                try simp only [Act.put, List.setIfInBounds_toArray, List.set_cons_zero, List.set_cons_succ]
                refine takeW (i := 10) (by simp only [List.getElem?_toArray, List.getElem?_cons_succ, List.getElem?_cons_zero]; exact rfl) (by kernel_rfl) (by kernel_rfl) (by kernel_rfl) (by exact fun _ _ _ h => h) (by rfl) (by intro wq hSw; go_simp <;> with_reducible rfl) (by assumption) ?_
                try simp only [Act.put, List.setIfInBounds_toArray, List.set_cons_zero, List.set_cons_succ]
                refine Eq.mp (hwp _ _ _ _) ?_
                exact met2 (H4_p8_p9 a3 b3 us y a0 c0 b0 d0 vs3 bs' qs' n' r p8 p9 _ N SR D0 Y8 Y9 ne_p8_p9 n_p8 n_p9) (by kernel_rfl) (by rw [ha0]; simp only [Act.put, List.setIfInBounds_toArray, List.set_cons_zero, List.set_cons_succ])
          have H3_p8 : ∀ (a3 : Addr) (b3 : Option Addr) (us : List Value) (y : Nat) (p8 : Nat) (V : World), Below w1.heap.size w1 V → DkR 0 V (.slice (some a3) bs.length bs.length) (.slice b3 qs.length qs.length) us bs qs → Hid (SomeV us) → SeesB V (some ⟨y, 0, none⟩) rs.length rs → Box2 w1.heap.size V p8 (.slice none 0 0) (.slice none 0 0) → wpx 9 #[true, true, true, true, true, true, false, false, false, false, false, true, false, false, false, false] ((((fr0.put (some 32) (.agg #[.slice (some a3) bs.length bs.length, .slice b3 qs.length qs.length])).put (some 34) (.agg #[.int .i64 F, .int .i64 L, .int .i64 X, .int .i64 E])).put (some 36) (.slice (some ⟨y, 0, none⟩) rs.length rs.length)).put (some 8) (.pointer (some ⟨p8, 0, none⟩))) V := by
            as_aux_lemma =>
              intro a3 b3 us y p8 V N D2 S2 RY Y8
              refine Eq.mpr (hwp _ _ _ _) ?_
              rw [ha0]
              try simp only [Act.put, List.setIfInBounds_toArray, List.set_cons_zero, List.set_cons_succ]
              refine wpAnyH_ready (rs := [6, 12]) (by kernel_rfl) (by simp) (AllReadyH.cons (by simp only [List.getElem?_toArray, List.getElem?_cons_succ, List.getElem?_cons_zero]; exact rfl) (fun K hK => ?_) (AllReadyH.cons (by simp only [List.getElem?_toArray, List.getElem?_cons_succ, List.getElem?_cons_zero]; exact rfl) (fun K hK => ?_) AllReadyH.nil))
              · go_simp
                refine (specLogAdd a3 b3 bs.length qs.length us bs qs F L X E _ _ _ rs _ D2 S2.out RY LY.out H8.out M1.out M2.out).mono ?_
                rintro e V1 ⟨⟨a0, c0, b0, d0, vs3, bs', qs', n', r, rfl, SR0, D0, SV3⟩, hb⟩
                have n_p8 := D0.nots (p := p8) (.inr Y8.lt)
                have SR : Hid (LaRes bs qs F L X E rs bs' qs' n' r) := SR0
                replace D0 := D0.base (lo' := w1.heap.size) N.size
                clear SR0 SV3
                replace D2 := D2.below hb
                replace RY := RY.below hb
                replace Y8 := Y8.below hb
                replace N := N.trans (hb.mono N.size)
                refine hK.out _ _ N (fun hHeld => ?_)
                clear hK K hHeld
                try simp only [List.setIfInBounds_toArray, List.set_cons_zero, List.set_cons_succ]
                clear hb
                refine takeW (i := 7) (by simp only [List.getElem?_toArray, List.getElem?_cons_succ, List.getElem?_cons_zero]; exact rfl) (by kernel_rfl) (by kernel_rfl) (by kernel_rfl) (by exact fun _ _ _ h => h) (by rfl) (by intro wq hSw; go_simp <;> with_reducible rfl) (by assumption) ?_
                try simp only [Act.put, List.setIfInBounds_toArray, List.set_cons_zero, List.set_cons_succ]
                refine takeW (i := 8) (by simp only [List.getElem?_toArray, List.getElem?_cons_succ, List.getElem?_cons_zero]; exact rfl) (by kernel_rfl) (by kernel_rfl) (by kernel_rfl) (by exact fun _ _ _ h => h) (by rfl) (by intro wq hSw; go_simp <;> with_reducible rfl) (by assumption) ?_
                try simp only [Act.put, List.setIfInBounds_toArray, List.set_cons_zero, List.set_cons_succ]
                refine takeW (i := 9) (by simp only [List.getElem?_toArray, List.getElem?_cons_succ, List.getElem?_cons_zero]; exact rfl) (by kernel_rfl) (by kernel_rfl) (by kernel_rfl) (by exact fun _ _ _ h => h) (by rfl) (by intro wq hSw; go_simp <;> with_reducible rfl) (by assumption) ?_
                try simp only [Act.put, List.setIfInBounds_toArray, List.set_cons_zero, List.set_cons_succ]
                refine takeW (i := 10) (by simp only [List.getElem?_toArray, List.getElem?_cons_succ, List.getElem?_cons_zero]; exact rfl) (by kernel_rfl) (by kernel_rfl) (by kernel_rfl) (by exact fun _ _ _ h => h) (by rfl) (by intro wq hSw; go_simp <;> with_reducible rfl) (by assumption) ?_
                try simp only [Act.put, List.setIfInBounds_toArray, List.set_cons_zero, List.set_cons_succ]
                refine Eq.mp (hwp _ _ _ _) ?_
                exact met2 (H4_p8 a3 b3 us y a0 c0 b0 d0 vs3 bs' qs' n' r p8 _ N SR D0 Y8 n_p8) (by kernel_rfl) (by rw [ha0]; simp only [Act.put, List.setIfInBounds_toArray, List.set_cons_zero, List.set_cons_succ])
              · go_simp
                have Y9 := Box4.new V (lo := w1.heap.size) N.size (.int .i64 0) (.int .i64 0) (.int .i64 0) (.int .i64 0) 32
                have hb := below1 V (.cells #[.int .i64 0, .int .i64 0, .int .i64 0, .int .i64 0] 32)
                have g_p8 := Nat.ne_of_lt Y8.lt
                replace D2 := D2.below hb
                replace RY := RY.below hb
                replace Y8 := Y8.below hb
                replace N := N.trans (hb.mono N.size)
                refine hK.out _ _ N (fun hHeld => ?_)
                clear hK K hHeld
                try simp only [List.setIfInBounds_toArray, List.set_cons_zero, List.set_cons_succ]
                clear hb
                refine Eq.mp (hwp _ _ _ _) ?_
                exact met2 (H3_p8_p9 a3 b3 us y p8 V.heap.size _ N D2 S2 RY Y8 Y9 g_p8) (by kernel_rfl) (by rw [ha0]; simp only [Act.put, List.setIfInBounds_toArray, List.set_cons_zero, List.set_cons_succ])
          have H3_p9 : ∀ (a3 : Addr) (b3 : Option Addr) (us : List Value) (y : Nat) (p9 : Nat) (V : World), Below w1.heap.size w1 V → DkR 0 V (.slice (some a3) bs.length bs.length) (.slice b3 qs.length qs.length) us bs qs → Hid (SomeV us) → SeesB V (some ⟨y, 0, none⟩) rs.length rs → Box4 w1.heap.size V p9 (.int .i64 0) (.int .i64 0) (.int .i64 0) (.int .i64 0) → wpx 9 #[true, true, true, true, true, true, false, false, false, false, false, false, true, false, false, false] ((((fr0.put (some 32) (.agg #[.slice (some a3) bs.length bs.length, .slice b3 qs.length qs.length])).put (some 34) (.agg #[.int .i64 F, .int .i64 L, .int .i64 X, .int .i64 E])).put (some 36) (.slice (some ⟨y, 0, none⟩) rs.length rs.length)).put (some 9) (.pointer (some ⟨p9, 0, none⟩))) V := by
            as_aux_lemma =>
              intro a3 b3 us y p9 V N D2 S2 RY Y9
              refine Eq.mpr (hwp _ _ _ _) ?_
              rw [ha0]
              try simp only [Act.put, List.setIfInBounds_toArray, List.set_cons_zero, List.set_cons_succ]
              refine wpAnyH_ready (rs := [6, 11]) (by kernel_rfl) (by simp) (AllReadyH.cons (by simp only [List.getElem?_toArray, List.getElem?_cons_succ, List.getElem?_cons_zero]; exact rfl) (fun K hK => ?_) (AllReadyH.cons (by simp only [List.getElem?_toArray, List.getElem?_cons_succ, List.getElem?_cons_zero]; exact rfl) (fun K hK => ?_) AllReadyH.nil))
              · go_simp
                refine (specLogAdd a3 b3 bs.length qs.length us bs qs F L X E _ _ _ rs _ D2 S2.out RY LY.out H8.out M1.out M2.out).mono ?_
                rintro e V1 ⟨⟨a0, c0, b0, d0, vs3, bs', qs', n', r, rfl, SR0, D0, SV3⟩, hb⟩
                have n_p9 := D0.nots (p := p9) (.inr Y9.lt)
                have SR : Hid (LaRes bs qs F L X E rs bs' qs' n' r) := SR0
                replace D0 := D0.base (lo' := w1.heap.size) N.size
                clear SR0 SV3
                replace D2 := D2.below hb
                replace RY := RY.below hb
                replace Y9 := Y9.below hb
                replace N := N.trans (hb.mono N.size)
                refine hK.out _ _ N (fun hHeld => ?_)
                clear hK K hHeld
                try simp only [List.setIfInBounds_toArray, List.set_cons_zero, List.set_cons_succ]
                clear hb
                refine takeW (i := 7) (by simp only [List.getElem?_toArray, List.getElem?_cons_succ, List.getElem?_cons_zero]; exact rfl) (by kernel_rfl) (by kernel_rfl) (by kernel_rfl) (by exact fun _ _ _ h => h) (by rfl) (by intro wq hSw; go_simp <;> with_reducible rfl) (by assumption) ?_
                try simp only [Act.put, List.setIfInBounds_toArray, List.set_cons_zero, List.set_cons_succ]
                refine takeW (i := 8) (by simp only [List.getElem?_toArray, List.getElem?_cons_succ, List.getElem?_cons_zero]; exact rfl) (by kernel_rfl) (by kernel_rfl) (by kernel_rfl) (by exact fun _ _ _ h => h) (by rfl) (by intro wq hSw; go_simp <;> with_reducible rfl) (by assumption) ?_
                try simp only [Act.put, List.setIfInBounds_toArray, List.set_cons_zero, List.set_cons_succ]
                refine takeW (i := 9) (by simp only [List.getElem?_toArray, List.getElem?_cons_succ, List.getElem?_cons_zero]; exact rfl) (by kernel_rfl) (by kernel_rfl) (by kernel_rfl) (by exact fun _ _ _ h => h) (by rfl) (by intro wq hSw; go_simp <;> with_reducible rfl) (by assumption) ?_
                try simp only [Act.put, List.setIfInBounds_toArray, List.set_cons_zero, List.set_cons_succ]
                refine takeW (i := 10) (by simp only [List.getElem?_toArray, List.getElem?_cons_succ, List.getElem?_cons_zero]; exact rfl) (by kernel_rfl) (by kernel_rfl) (by kernel_rfl) (by exact fun _ _ _ h => h) (by rfl) (by intro wq hSw; go_simp <;> with_reducible rfl) (by assumption) ?_
                try simp only [Act.put, List.setIfInBounds_toArray, List.set_cons_zero, List.set_cons_succ]
                refine Eq.mp (hwp _ _ _ _) ?_
                exact met2 (H4_p9 a3 b3 us y a0 c0 b0 d0 vs3 bs' qs' n' r p9 _ N SR D0 Y9 n_p9) (by kernel_rfl) (by rw [ha0]; simp only [Act.put, List.setIfInBounds_toArray, List.set_cons_zero, List.set_cons_succ])
              · go_simp
                have Y8 := Box2.new V (lo := w1.heap.size) N.size (.slice none 0 0) (.slice none 0 0) 31
                have hb := below1 V (.cells #[.slice none 0 0, .slice none 0 0] 31)
                have g_p9 := Nat.ne_of_lt Y9.lt
                replace D2 := D2.below hb
                replace RY := RY.below hb
                replace Y9 := Y9.below hb
                replace N := N.trans (hb.mono N.size)
                refine hK.out _ _ N (fun hHeld => ?_)
                clear hK K hHeld
                try simp only [List.setIfInBounds_toArray, List.set_cons_zero, List.set_cons_succ]
                clear hb
                refine Eq.mp (hwp _ _ _ _) ?_
                exact met2 (H3_p8_p9 a3 b3 us y V.heap.size p9 _ N D2 S2 RY Y8 Y9 g_p9.symm) (by kernel_rfl) (by rw [ha0]; simp only [Act.put, List.setIfInBounds_toArray, List.set_cons_zero, List.set_cons_succ])
          have H3 : ∀ (a3 : Addr) (b3 : Option Addr) (us : List Value) (y : Nat) (V : World), Below w1.heap.size w1 V → DkR 0 V (.slice (some a3) bs.length bs.length) (.slice b3 qs.length qs.length) us bs qs → Hid (SomeV us) → SeesB V (some ⟨y, 0, none⟩) rs.length rs → wpx 10 #[true, true, true, true, true, true, false, false, false, false, false, false, false, false, false, false] (((fr0.put (some 32) (.agg #[.slice (some a3) bs.length bs.length, .slice b3 qs.length qs.length])).put (some 34) (.agg #[.int .i64 F, .int .i64 L, .int .i64 X, .int .i64 E])).put (some 36) (.slice (some ⟨y, 0, none⟩) rs.length rs.length)) V := by
            as_aux_lemma =>
              intro a3 b3 us y V N D2 S2 RY
              refine Eq.mpr (hwp _ _ _ _) ?_
              rw [ha0]
              try simp only [Act.put, List.setIfInBounds_toArray, List.set_cons_zero, List.set_cons_succ]
              refine wpAnyH_ready (rs := [6, 11, 12]) (by kernel_rfl) (by simp) (AllReadyH.cons (by simp only [List.getElem?_toArray, List.getElem?_cons_succ, List.getElem?_cons_zero]; exact rfl) (fun K hK => ?_) (AllReadyH.cons (by simp only [List.getElem?_toArray, List.getElem?_cons_succ, List.getElem?_cons_zero]; exact rfl) (fun K hK => ?_) (AllReadyH.cons (by simp only [List.getElem?_toArray, List.getElem?_cons_succ, List.getElem?_cons_zero]; exact rfl) (fun K hK => ?_) AllReadyH.nil)))
              · go_simp
                refine (specLogAdd a3 b3 bs.length qs.length us bs qs F L X E _ _ _ rs _ D2 S2.out RY LY.out H8.out M1.out M2.out).mono ?_
                rintro e V1 ⟨⟨a0, c0, b0, d0, vs3, bs', qs', n', r, rfl, SR0, D0, SV3⟩, hb⟩
                have SR : Hid (LaRes bs qs F L X E rs bs' qs' n' r) := SR0
                replace D0 := D0.base (lo' := w1.heap.size) N.size
                clear SR0 SV3
                replace D2 := D2.below hb
                replace RY := RY.below hb
                replace N := N.trans (hb.mono N.size)
                refine hK.out _ _ N (fun hHeld => ?_)
                clear hK K hHeld
                try simp only [List.setIfInBounds_toArray, List.set_cons_zero, List.set_cons_succ]
                clear hb
                refine takeW (i := 7) (by simp only [List.getElem?_toArray, List.getElem?_cons_succ, List.getElem?_cons_zero]; exact rfl) (by kernel_rfl) (by kernel_rfl) (by kernel_rfl) (by exact fun _ _ _ h => h) (by rfl) (by intro wq hSw; go_simp <;> with_reducible rfl) (by assumption) ?_
                try simp only [Act.put, List.setIfInBounds_toArray, List.set_cons_zero, List.set_cons_succ]
                refine takeW (i := 8) (by simp only [List.getElem?_toArray, List.getElem?_cons_succ, List.getElem?_cons_zero]; exact rfl) (by kernel_rfl) (by kernel_rfl) (by kernel_rfl) (by exact fun _ _ _ h => h) (by rfl) (by intro wq hSw; go_simp <;> with_reducible rfl) (by assumption) ?_
                try simp only [Act.put, List.setIfInBounds_toArray, List.set_cons_zero, List.set_cons_succ]
                refine takeW (i := 9) (by simp only [List.getElem?_toArray, List.getElem?_cons_succ, List.getElem?_cons_zero]; exact rfl) (by kernel_rfl) (by kernel_rfl) (by kernel_rfl) (by exact fun _ _ _ h => h) (by rfl) (by intro wq hSw; go_simp <;> with_reducible rfl) (by assumption) ?_
                try simp only [Act.put, List.setIfInBounds_toArray, List.set_cons_zero, List.set_cons_succ]
                refine takeW (i := 10) (by simp only [List.getElem?_toArray, List.getElem?_cons_succ, List.getElem?_cons_zero]; exact rfl) (by kernel_rfl) (by kernel_rfl) (by kernel_rfl) (by exact fun _ _ _ h => h) (by rfl) (by intro wq hSw; go_simp <;> with_reducible rfl) (by assumption) ?_
                try simp only [Act.put, List.setIfInBounds_toArray, List.set_cons_zero, List.set_cons_succ]
                refine Eq.mp (hwp _ _ _ _) ?_
                exact met2 (H4 a3 b3 us y a0 c0 b0 d0 vs3 bs' qs' n' r _ N SR D0) (by kernel_rfl) (by rw [ha0]; simp only [Act.put, List.setIfInBounds_toArray, List.set_cons_zero, List.set_cons_succ])
              · go_simp
                have Y8 := Box2.new V (lo := w1.heap.size) N.size (.slice none 0 0) (.slice none 0 0) 31
                have hb := below1 V (.cells #[.slice none 0 0, .slice none 0 0] 31)
                replace D2 := D2.below hb
                replace RY := RY.below hb
                replace N := N.trans (hb.mono N.size)
                refine hK.out _ _ N (fun hHeld => ?_)
                clear hK K hHeld
                try simp only [List.setIfInBounds_toArray, List.set_cons_zero, List.set_cons_succ]
                clear hb
                refine Eq.mp (hwp _ _ _ _) ?_
                exact met2 (H3_p8 a3 b3 us y V.heap.size _ N D2 S2 RY Y8) (by kernel_rfl) (by rw [ha0]; simp only [Act.put, List.setIfInBounds_toArray, List.set_cons_zero, List.set_cons_succ])
              · go_simp
                have Y9 := Box4.new V (lo := w1.heap.size) N.size (.int .i64 0) (.int .i64 0) (.int .i64 0) (.int .i64 0) 32
                have hb := below1 V (.cells #[.int .i64 0, .int .i64 0, .int .i64 0, .int .i64 0] 32)
                replace D2 := D2.below hb
                replace RY := RY.below hb
                replace N := N.trans (hb.mono N.size)
                refine hK.out _ _ N (fun hHeld => ?_)
                clear hK K hHeld
                try simp only [List.setIfInBounds_toArray, List.set_cons_zero, List.set_cons_succ]
                clear hb
                refine Eq.mp (hwp _ _ _ _) ?_
                exact met2 (H3_p9 a3 b3 us y V.heap.size _ N D2 S2 RY Y9) (by kernel_rfl) (by rw [ha0]; simp only [Act.put, List.setIfInBounds_toArray, List.set_cons_zero, List.set_cons_succ])
          have H2_p8_p9 : ∀ (a3 : Addr) (b3 : Option Addr) (us : List Value) (p8 : Nat) (p9 : Nat) (V : World), Below w1.heap.size w1 V → DkR 0 V (.slice (some a3) bs.length bs.length) (.slice b3 qs.length qs.length) us bs qs → Hid (SomeV us) → Box2 w1.heap.size V p8 (.slice none 0 0) (.slice none 0 0) → Box4 w1.heap.size V p9 (.int .i64 0) (.int .i64 0) (.int .i64 0) (.int .i64 0) → p8 ≠ p9 → wpx 9 #[true, true, true, true, true, false, false, false, false, false, false, true, true, false, false, false] ((((fr0.put (some 32) (.agg #[.slice (some a3) bs.length bs.length, .slice b3 qs.length qs.length])).put (some 34) (.agg #[.int .i64 F, .int .i64 L, .int .i64 X, .int .i64 E])).put (some 8) (.pointer (some ⟨p8, 0, none⟩))).put (some 9) (.pointer (some ⟨p9, 0, none⟩))) V := by
            as_aux_lemma =>
              intro a3 b3 us p8 p9 V N D2 S2 Y8 Y9 ne_p8_p9
              refine Eq.mpr (hwp _ _ _ _) ?_
              rw [ha0]
              try simp only [Act.put, List.setIfInBounds_toArray, List.set_cons_zero, List.set_cons_succ]
              refine wpAnyH_ready (rs := [5]) (by kernel_rfl) (by simp) (AllReadyH.cons (by simp only [List.getElem?_toArray, List.getElem?_cons_succ, List.getElem?_cons_zero]; exact rfl) (fun K hK => ?_) AllReadyH.nil)
              · go_simp
                refine (toBytes ay cy rs _ (HY.out.below (B.trans (N.mono B.size))) LY.out).mono ?_
                rintro e V1 ⟨rfl, RY0, hb⟩
                have RY := RY0.seesB
                clear RY0
                replace D2 := D2.below hb
                replace Y8 := Y8.below hb
                replace Y9 := Y9.below hb
                replace N := N.trans (hb.mono N.size)
                refine hK.out _ _ N (fun hHeld => ?_)
                clear hK K hHeld
                try simp only [List.setIfInBounds_toArray, List.set_cons_zero, List.set_cons_succ]
                clear hb
                refine Eq.mp (hwp _ _ _ _) ?_
                exact met2 (H3_p8_p9 a3 b3 us V.heap.size p8 p9 _ N D2 S2 RY Y8 Y9 ne_p8_p9) (by kernel_rfl) (by rw [ha0]; simp only [Act.put, List.setIfInBounds_toArray, List.set_cons_zero, List.set_cons_succ])
          have H2_p8 : ∀ (a3 : Addr) (b3 : Option Addr) (us : List Value) (p8 : Nat) (V : World), Below w1.heap.size w1 V → DkR 0 V (.slice (some a3) bs.length bs.length) (.slice b3 qs.length qs.length) us bs qs → Hid (SomeV us) → Box2 w1.heap.size V p8 (.slice none 0 0) (.slice none 0 0) → wpx 10 #[true, true, true, true, true, false, false, false, false, false, false, true, false, false, false, false] (((fr0.put (some 32) (.agg #[.slice (some a3) bs.length bs.length, .slice b3 qs.length qs.length])).put (some 34) (.agg #[.int .i64 F, .int .i64 L, .int .i64 X, .int .i64 E])).put (some 8) (.pointer (some ⟨p8, 0, none⟩))) V := by
            as_aux_lemma =>
              intro a3 b3 us p8 V N D2 S2 Y8
              refine Eq.mpr (hwp _ _ _ _) ?_
              rw [ha0]
              try simp only [Act.put, List.setIfInBounds_toArray, List.set_cons_zero, List.set_cons_succ]
              refine wpAnyH_ready (rs := [5, 12]) (by kernel_rfl) (by simp) (AllReadyH.cons (by simp only [List.getElem?_toArray, List.getElem?_cons_succ, List.getElem?_cons_zero]; exact rfl) (fun K hK => ?_) (AllReadyH.cons (by simp only [List.getElem?_toArray, List.getElem?_cons_succ, List.getElem?_cons_zero]; exact rfl) (fun K hK => ?_) AllReadyH.nil))
              · go_simp
                refine (toBytes ay cy rs _ (HY.out.below (B.trans (N.mono B.size))) LY.out).mono ?_
                rintro e V1 ⟨rfl, RY0, hb⟩
                have RY := RY0.seesB
                clear RY0
                replace D2 := D2.below hb
                replace Y8 := Y8.below hb
                replace N := N.trans (hb.mono N.size)
                refine hK.out _ _ N (fun hHeld => ?_)
                clear hK K hHeld
                try simp only [List.setIfInBounds_toArray, List.set_cons_zero, List.set_cons_succ]
                clear hb
                refine Eq.mp (hwp _ _ _ _) ?_
                exact met2 (H3_p8 a3 b3 us V.heap.size p8 _ N D2 S2 RY Y8) (by kernel_rfl) (by rw [ha0]; simp only [Act.put, List.setIfInBounds_toArray, List.set_cons_zero, List.set_cons_succ])
              · go_simp
                have Y9 := Box4.new V (lo := w1.heap.size) N.size (.int .i64 0) (.int .i64 0) (.int .i64 0) (.int .i64 0) 32
                have hb := below1 V (.cells #[.int .i64 0, .int .i64 0, .int .i64 0, .int .i64 0] 32)
                have g_p8 := Nat.ne_of_lt Y8.lt
                replace D2 := D2.below hb
                replace Y8 := Y8.below hb
                replace N := N.trans (hb.mono N.size)
                refine hK.out _ _ N (fun hHeld => ?_)
                clear hK K hHeld
                try simp only [List.setIfInBounds_toArray, List.set_cons_zero, List.set_cons_succ]
                clear hb
                refine Eq.mp (hwp _ _ _ _) ?_
                exact met2 (H2_p8_p9 a3 b3 us p8 V.heap.size _ N D2 S2 Y8 Y9 g_p8) (by kernel_rfl) (by rw [ha0]; simp only [Act.put, List.setIfInBounds_toArray, List.set_cons_zero, List.set_cons_succ])
          have H2_p9 : ∀ (a3 : Addr) (b3 : Option Addr) (us : List Value) (p9 : Nat) (V : World), Below w1.heap.size w1 V → DkR 0 V (.slice (some a3) bs.length bs.length) (.slice b3 qs.length qs.length) us bs qs → Hid (SomeV us) → Box4 w1.heap.size V p9 (.int .i64 0) (.int .i64 0) (.int .i64 0) (.int .i64 0) → wpx 10 #[true, true, true, true, true, false, false, false, false, false, false, false, true, false, false, false] (((fr0.put (some 32) (.agg #[.slice (some a3) bs.length bs.length, .slice b3 qs.length qs.length])).put (some 34) (.agg #[.int .i64 F, .int .i64 L, .int .i64 X, .int .i64 E])).put (some 9) (.pointer (some ⟨p9, 0, none⟩))) V := by
            as_aux_lemma =>
              intro a3 b3 us p9 V N D2 S2 Y9
              refine Eq.mpr (hwp _ _ _ _) ?_
              rw [ha0]
              try simp only [Act.put, List.setIfInBounds_toArray, List.set_cons_zero, List.set_cons_succ]
              refine wpAnyH_ready (rs := [5, 11]) (by kernel_rfl) (by simp) (AllReadyH.cons (by simp only [List.getElem?_toArray, List.getElem?_cons_succ, List.getElem?_cons_zero]; exact rfl) (fun K hK => ?_) (AllReadyH.cons (by simp only [List.getElem?_toArray, List.getElem?_cons_succ, List.getElem?_cons_zero]; exact rfl) (fun K hK => ?_) AllReadyH.nil))
              · go_simp
                refine (toBytes ay cy rs _ (HY.out.below (B.trans (N.mono B.size))) LY.out).mono ?_
                rintro e V1 ⟨rfl, RY0, hb⟩
                have RY := RY0.seesB
                clear RY0
                replace D2 := D2.below hb
                replace Y9 := Y9.below hb
                replace N := N.trans (hb.mono N.size)
                refine hK.out _ _ N (fun hHeld => ?_)
                clear hK K hHeld
                try simp only [List.setIfInBounds_toArray, List.set_cons_zero, List.set_cons_succ]
                clear hb
                refine Eq.mp (hwp _ _ _ _) ?_
                exact met2 (H3_p9 a3 b3 us V.heap.size p9 _ N D2 S2 RY Y9) (by kernel_rfl) (by rw [ha0]; simp only [Act.put, List.setIfInBounds_toArray, List.set_cons_zero, List.set_cons_succ])
              · go_simp
                have Y8 := Box2.new V (lo := w1.heap.size) N.size (.slice none 0 0) (.slice none 0 0) 31
                have hb := below1 V (.cells #[.slice none 0 0, .slice none 0 0] 31)
                have g_p9 := Nat.ne_of_lt Y9.lt
                replace D2 := D2.below hb
                replace Y9 := Y9.below hb
                replace N := N.trans (hb.mono N.size)
                refine hK.out _ _ N (fun hHeld => ?_)
                clear hK K hHeld
                try simp only [List.setIfInBounds_toArray, List.set_cons_zero, List.set_cons_succ]
                clear hb
                refine Eq.mp (hwp _ _ _ _) ?_
                exact met2 (H2_p8_p9 a3 b3 us V.heap.size p9 _ N D2 S2 Y8 Y9 g_p9.symm) (by kernel_rfl) (by rw [ha0]; simp only [Act.put, List.setIfInBounds_toArray, List.set_cons_zero, List.set_cons_succ])
          have H2 : ∀ (a3 : Addr) (b3 : Option Addr) (us : List Value) (V : World), Below w1.heap.size w1 V → DkR 0 V (.slice (some a3) bs.length bs.length) (.slice b3 qs.length qs.length) us bs qs → Hid (SomeV us) → wpx 11 #[true, true, true, true, true, false, false, false, false, false, false, false, false, false, false, false] ((fr0.put (some 32) (.agg #[.slice (some a3) bs.length bs.length, .slice b3 qs.length qs.length])).put (some 34) (.agg #[.int .i64 F, .int .i64 L, .int .i64 X, .int .i64 E])) V := by
            as_aux_lemma =>
              intro a3 b3 us V N D2 S2
              refine Eq.mpr (hwp _ _ _ _) ?_
              rw [ha0]
              try simp only [Act.put, List.setIfInBounds_toArray, List.set_cons_zero, List.set_cons_succ]
              refine wpAnyH_ready (rs := [5, 11, 12]) (by kernel_rfl) (by simp) (AllReadyH.cons (by simp only [List.getElem?_toArray, List.getElem?_cons_succ, List.getElem?_cons_zero]; exact rfl) (fun K hK => ?_) (AllReadyH.cons (by simp only [List.getElem?_toArray, List.getElem?_cons_succ, List.getElem?_cons_zero]; exact rfl) (fun K hK => ?_) (AllReadyH.cons (by simp only [List.getElem?_toArray, List.getElem?_cons_succ, List.getElem?_cons_zero]; exact rfl) (fun K hK => ?_) AllReadyH.nil)))
              · go_simp
                refine (toBytes ay cy rs _ (HY.out.below (B.trans (N.mono B.size))) LY.out).mono ?_
                rintro e V1 ⟨rfl, RY0, hb⟩
                have RY := RY0.seesB
                clear RY0
                replace D2 := D2.below hb
                replace N := N.trans (hb.mono N.size)
                refine hK.out _ _ N (fun hHeld => ?_)
                clear hK K hHeld
                try simp only [List.setIfInBounds_toArray, List.set_cons_zero, List.set_cons_succ]
                clear hb
                refine Eq.mp (hwp _ _ _ _) ?_
                exact met2 (H3 a3 b3 us V.heap.size _ N D2 S2 RY) (by kernel_rfl) (by rw [ha0]; simp only [Act.put, List.setIfInBounds_toArray, List.set_cons_zero, List.set_cons_succ])
              · go_simp
                have Y8 := Box2.new V (lo := w1.heap.size) N.size (.slice none 0 0) (.slice none 0 0) 31
                have hb := below1 V (.cells #[.slice none 0 0, .slice none 0 0] 31)
                replace D2 := D2.below hb
                replace N := N.trans (hb.mono N.size)
                refine hK.out _ _ N (fun hHeld => ?_)
                clear hK K hHeld
                try simp only [List.setIfInBounds_toArray, List.set_cons_zero, List.set_cons_succ]
                clear hb
                refine Eq.mp (hwp _ _ _ _) ?_
                exact met2 (H2_p8 a3 b3 us V.heap.size _ N D2 S2 Y8) (by kernel_rfl) (by rw [ha0]; simp only [Act.put, List.setIfInBounds_toArray, List.set_cons_zero, List.set_cons_succ])
              · go_simp
                have Y9 := Box4.new V (lo := w1.heap.size) N.size (.int .i64 0) (.int .i64 0) (.int .i64 0) (.int .i64 0) 32
                have hb := below1 V (.cells #[.int .i64 0, .int .i64 0, .int .i64 0, .int .i64 0] 32)
                replace D2 := D2.below hb
                replace N := N.trans (hb.mono N.size)
                refine hK.out _ _ N (fun hHeld => ?_)
                clear hK K hHeld
                try simp only [List.setIfInBounds_toArray, List.set_cons_zero, List.set_cons_succ]
                clear hb
                refine Eq.mp (hwp _ _ _ _) ?_
                exact met2 (H2_p9 a3 b3 us V.heap.size _ N D2 S2 Y9) (by kernel_rfl) (by rw [ha0]; simp only [Act.put, List.setIfInBounds_toArray, List.set_cons_zero, List.set_cons_succ])
          have H1_p8_p9 : ∀ (a3 : Addr) (b3 : Option Addr) (us : List Value) (p8 : Nat) (p9 : Nat) (V : World), Below w1.heap.size w1 V → DkR 0 V (.slice (some a3) bs.length bs.length) (.slice b3 qs.length qs.length) us bs qs → Hid (SomeV us) → Box2 w1.heap.size V p8 (.slice none 0 0) (.slice none 0 0) → Box4 w1.heap.size V p9 (.int .i64 0) (.int .i64 0) (.int .i64 0) (.int .i64 0) → p8 ≠ p9 → wpx 10 #[true, true, true, false, true, false, false, false, false, false, false, true, true, false, false, false] (((fr0.put (some 32) (.agg #[.slice (some a3) bs.length bs.length, .slice b3 qs.length qs.length])).put (some 8) (.pointer (some ⟨p8, 0, none⟩))).put (some 9) (.pointer (some ⟨p9, 0, none⟩))) V := by
            as_aux_lemma =>
              intro a3 b3 us p8 p9 V N D2 S2 Y8 Y9 ne_p8_p9
              refine Eq.mpr (hwp _ _ _ _) ?_
              rw [ha0]
              try simp only [Act.put, List.setIfInBounds_toArray, List.set_cons_zero, List.set_cons_succ]
              refine wpAnyH_ready (rs := [3]) (by kernel_rfl) (by simp) (AllReadyH.cons (by simp only [List.getElem?_toArray, List.getElem?_cons_succ, List.getElem?_cons_zero]; exact rfl) (fun K hK => ?_) AllReadyH.nil)
              · go_simp
                refine (toLog_any F L X E _).mono ?_
                rintro e V1 ⟨rfl, hb⟩
                replace D2 := D2.below hb
                replace Y8 := Y8.below hb
                replace Y9 := Y9.below hb
                replace N := N.trans (hb.mono N.size)
                refine hK.out _ _ N (fun hHeld => ?_)
                clear hK K hHeld
                try simp only [List.setIfInBounds_toArray, List.set_cons_zero, List.set_cons_succ]
                clear hb
                refine Eq.mp (hwp _ _ _ _) ?_
                exact met2 (H2_p8_p9 a3 b3 us p8 p9 _ N D2 S2 Y8 Y9 ne_p8_p9) (by kernel_rfl) (by rw [ha0]; simp only [Act.put, List.setIfInBounds_toArray, List.set_cons_zero, List.set_cons_succ])
          have H1_p8 : ∀ (a3 : Addr) (b3 : Option Addr) (us : List Value) (p8 : Nat) (V : World), Below w1.heap.size w1 V → DkR 0 V (.slice (some a3) bs.length bs.length) (.slice b3 qs.length qs.length) us bs qs → Hid (SomeV us) → Box2 w1.heap.size V p8 (.slice none 0 0) (.slice none 0 0) → wpx 11 #[true, true, true, false, true, false, false, false, false, false, false, true, false, false, false, false] ((fr0.put (some 32) (.agg #[.slice (some a3) bs.length bs.length, .slice b3 qs.length qs.length])).put (some 8) (.pointer (some ⟨p8, 0, none⟩))) V := by
            as_aux_lemma =>
              intro a3 b3 us p8 V N D2 S2 Y8
              refine Eq.mpr (hwp _ _ _ _) ?_
              rw [ha0]
              try simp only [Act.put, List.setIfInBounds_toArray, List.set_cons_zero, List.set_cons_succ]
              refine wpAnyH_ready (rs := [3, 12]) (by kernel_rfl) (by simp) (AllReadyH.cons (by simp only [List.getElem?_toArray, List.getElem?_cons_succ, List.getElem?_cons_zero]; exact rfl) (fun K hK => ?_) (AllReadyH.cons (by simp only [List.getElem?_toArray, List.getElem?_cons_succ, List.getElem?_cons_zero]; exact rfl) (fun K hK => ?_) AllReadyH.nil))
              · go_simp
                refine (toLog_any F L X E _).mono ?_
                rintro e V1 ⟨rfl, hb⟩
                replace D2 := D2.below hb
                replace Y8 := Y8.below hb
                replace N := N.trans (hb.mono N.size)
                refine hK.out _ _ N (fun hHeld => ?_)
                clear hK K hHeld
                try simp only [List.setIfInBounds_toArray, List.set_cons_zero, List.set_cons_succ]
                clear hb
                refine Eq.mp (hwp _ _ _ _) ?_
                exact met2 (H2_p8 a3 b3 us p8 _ N D2 S2 Y8) (by kernel_rfl) (by rw [ha0]; simp only [Act.put, List.setIfInBounds_toArray, List.set_cons_zero, List.set_cons_succ])
              · go_simp
                have Y9 := Box4.new V (lo := w1.heap.size) N.size (.int .i64 0) (.int .i64 0) (.int .i64 0) (.int .i64 0) 32
                have hb := below1 V (.cells #[.int .i64 0, .int .i64 0, .int .i64 0, .int .i64 0] 32)
                have g_p8 := Nat.ne_of_lt Y8.lt
                replace D2 := D2.below hb
                replace Y8 := Y8.below hb
                replace N := N.trans (hb.mono N.size)
                refine hK.out _ _ N (fun hHeld => ?_)
                clear hK K hHeld
                try simp only [List.setIfInBounds_toArray, List.set_cons_zero, List.set_cons_succ]
                clear hb
                refine Eq.mp (hwp _ _ _ _) ?_
                exact met2 (H1_p8_p9 a3 b3 us p8 V.heap.size _ N D2 S2 Y8 Y9 g_p8) (by kernel_rfl) (by rw [ha0]; simp only [Act.put, List.setIfInBounds_toArray, List.set_cons_zero, List.set_cons_succ])
          have H1_p9 : ∀ (a3 : Addr) (b3 : Option Addr) (us : List Value) (p9 : Nat) (V : World), Below w1.heap.size w1 V → DkR 0 V (.slice (some a3) bs.length bs.length) (.slice b3 qs.length qs.length) us bs qs → Hid (SomeV us) → Box4 w1.heap.size V p9 (.int .i64 0) (.int .i64 0) (.int .i64 0) (.int .i64 0) → wpx 11 #[true, true, true, false, true, false, false, false, false, false, false, false, true, false, false, false] ((fr0.put (some 32) (.agg #[.slice (some a3) bs.length bs.length, .slice b3 qs.length qs.length])).put (some 9) (.pointer (some ⟨p9, 0, none⟩))) V := by
            as_aux_lemma =>
              intro a3 b3 us p9 V N D2 S2 Y9
              refine Eq.mpr (hwp _ _ _ _) ?_
              rw [ha0]
              try simp only [Act.put, List.setIfInBounds_toArray, List.set_cons_zero, List.set_cons_succ]
              refine wpAnyH_ready (rs := [3, 11]) (by kernel_rfl) (by simp) (AllReadyH.cons (by simp only [List.getElem?_toArray, List.getElem?_cons_succ, List.getElem?_cons_zero]; exact rfl) (fun K hK => ?_) (AllReadyH.cons (by simp only [List.getElem?_toArray, List.getElem?_cons_succ, List.getElem?_cons_zero]; exact rfl) (fun K hK => ?_) AllReadyH.nil))
              · go_simp
                refine (toLog_any F L X E _).mono ?_
                rintro e V1 ⟨rfl, hb⟩
                replace D2 := D2.below hb
                replace Y9 := Y9.below hb
                replace N := N.trans (hb.mono N.size)
                refine hK.out _ _ N (fun hHeld => ?_)
                clear hK K hHeld
                try simp only [List.setIfInBounds_toArray, List.set_cons_zero, List.set_cons_succ]
                clear hb
                refine Eq.mp (hwp _ _ _ _) ?_
                exact met2 (H2_p9 a3 b3 us p9 _ N D2 S2 Y9) (by kernel_rfl) (by rw [ha0]; simp only [Act.put, List.setIfInBounds_toArray, List.set_cons_zero, List.set_cons_succ])
              · go_simp
                have Y8 := Box2.new V (lo := w1.heap.size) N.size (.slice none 0 0) (.slice none 0 0) 31
                have hb := below1 V (.cells #[.slice none 0 0, .slice none 0 0] 31)
                have g_p9 := Nat.ne_of_lt Y9.lt
                replace D2 := D2.below hb
                replace Y9 := Y9.below hb
                replace N := N.trans (hb.mono N.size)
                refine hK.out _ _ N (fun hHeld => ?_)
                clear hK K hHeld
                try simp only [List.setIfInBounds_toArray, List.set_cons_zero, List.set_cons_succ]
                clear hb
                refine Eq.mp (hwp _ _ _ _) ?_
                exact met2 (H1_p8_p9 a3 b3 us V.heap.size p9 _ N D2 S2 Y8 Y9 g_p9.symm) (by kernel_rfl) (by rw [ha0]; simp only [Act.put, List.setIfInBounds_toArray, List.set_cons_zero, List.set_cons_succ])
          have H1 : ∀ (a3 : Addr) (b3 : Option Addr) (us : List Value) (V : World), Below w1.heap.size w1 V → DkR 0 V (.slice (some a3) bs.length bs.length) (.slice b3 qs.length qs.length) us bs qs → Hid (SomeV us) → wpx 12 #[true, true, true, false, true, false, false, false, false, false, false, false, false, false, false, false] (fr0.put (some 32) (.agg #[.slice (some a3) bs.length bs.length, .slice b3 qs.length qs.length])) V := by
            as_aux_lemma =>
              intro a3 b3 us V N D2 S2
              refine Eq.mpr (hwp _ _ _ _) ?_
              rw [ha0]
              try simp only [Act.put, List.setIfInBounds_toArray, List.set_cons_zero, List.set_cons_succ]
              refine wpAnyH_ready (rs := [3, 11, 12]) (by kernel_rfl) (by simp) (AllReadyH.cons (by simp only [List.getElem?_toArray, List.getElem?_cons_succ, List.getElem?_cons_zero]; exact rfl) (fun K hK => ?_) (AllReadyH.cons (by simp only [List.getElem?_toArray, List.getElem?_cons_succ, List.getElem?_cons_zero]; exact rfl) (fun K hK => ?_) (AllReadyH.cons (by simp only [List.getElem?_toArray, List.getElem?_cons_succ, List.getElem?_cons_zero]; exact rfl) (fun K hK => ?_) AllReadyH.nil)))
              · go_simp
                refine (toLog_any F L X E _).mono ?_
                rintro e V1 ⟨rfl, hb⟩
                replace D2 := D2.below hb
                replace N := N.trans (hb.mono N.size)
                refine hK.out _ _ N (fun hHeld => ?_)
                clear hK K hHeld
                try simp only [List.setIfInBounds_toArray, List.set_cons_zero, List.set_cons_succ]
                clear hb
                refine Eq.mp (hwp _ _ _ _) ?_
                exact met2 (H2 a3 b3 us _ N D2 S2) (by kernel_rfl) (by rw [ha0]; simp only [Act.put, List.setIfInBounds_toArray, List.set_cons_zero, List.set_cons_succ])
              · go_simp
                have Y8 := Box2.new V (lo := w1.heap.size) N.size (.slice none 0 0) (.slice none 0 0) 31
                have hb := below1 V (.cells #[.slice none 0 0, .slice none 0 0] 31)
                replace D2 := D2.below hb
                replace N := N.trans (hb.mono N.size)
                refine hK.out _ _ N (fun hHeld => ?_)
                clear hK K hHeld
                try simp only [List.setIfInBounds_toArray, List.set_cons_zero, List.set_cons_succ]
                clear hb
                refine Eq.mp (hwp _ _ _ _) ?_
                exact met2 (H1_p8 a3 b3 us V.heap.size _ N D2 S2 Y8) (by kernel_rfl) (by rw [ha0]; simp only [Act.put, List.setIfInBounds_toArray, List.set_cons_zero, List.set_cons_succ])
              · go_simp
                have Y9 := Box4.new V (lo := w1.heap.size) N.size (.int .i64 0) (.int .i64 0) (.int .i64 0) (.int .i64 0) 32
                have hb := below1 V (.cells #[.int .i64 0, .int .i64 0, .int .i64 0, .int .i64 0] 32)
                replace D2 := D2.below hb
                replace N := N.trans (hb.mono N.size)
                refine hK.out _ _ N (fun hHeld => ?_)
                clear hK K hHeld
                try simp only [List.setIfInBounds_toArray, List.set_cons_zero, List.set_cons_succ]
                clear hb
                refine Eq.mp (hwp _ _ _ _) ?_
                exact met2 (H1_p9 a3 b3 us V.heap.size _ N D2 S2 Y9) (by kernel_rfl) (by rw [ha0]; simp only [Act.put, List.setIfInBounds_toArray, List.set_cons_zero, List.set_cons_succ])
          have H0_p8_p9 : ∀ (p8 : Nat) (p9 : Nat) (V : World), Below w1.heap.size w1 V → Box2 w1.heap.size V p8 (.slice none 0 0) (.slice none 0 0) → Box4 w1.heap.size V p9 (.int .i64 0) (.int .i64 0) (.int .i64 0) (.int .i64 0) → p8 ≠ p9 → wpx 11 #[true, false, true, false, true, false, false, false, false, false, false, true, true, false, false, false] ((fr0.put (some 8) (.pointer (some ⟨p8, 0, none⟩))).put (some 9) (.pointer (some ⟨p9, 0, none⟩))) V := by
            as_aux_lemma =>
              intro p8 p9 V N Y8 Y9 ne_p8_p9
              refine Eq.mpr (hwp _ _ _ _) ?_
              rw [ha0]
              try simp only [Act.put, List.setIfInBounds_toArray, List.set_cons_zero, List.set_cons_succ]
              refine wpAnyH_ready (rs := [1]) (by kernel_rfl) (by simp) (AllReadyH.cons (by simp only [List.getElem?_toArray, List.getElem?_cons_succ, List.getElem?_cons_zero]; exact rfl) (fun K hK => ?_) AllReadyH.nil)
              · go_simp
                refine (toDisk_any a a2 c c2 bs qs _ (HB.out.below (B.trans (N.mono B.size))) (HQ.out.below (B.trans (N.mono B.size))) L1.out L2.out).mono ?_
                rintro e V1 ⟨a3, b3, us, rfl, D2, S20, hb⟩
                have S2 : Hid (SomeV us) := S20
                replace D2 := D2.base (lo' := 0) (Nat.zero_le _)
                clear S20
                replace Y8 := Y8.below hb
                replace Y9 := Y9.below hb
                replace N := N.trans (hb.mono N.size)
                refine hK.out _ _ N (fun hHeld => ?_)
                clear hK K hHeld
                try simp only [List.setIfInBounds_toArray, List.set_cons_zero, List.set_cons_succ]
                clear hb
                refine Eq.mp (hwp _ _ _ _) ?_
                exact met2 (H1_p8_p9 a3 b3 us p8 p9 _ N D2 S2 Y8 Y9 ne_p8_p9) (by kernel_rfl) (by rw [ha0]; simp only [Act.put, List.setIfInBounds_toArray, List.set_cons_zero, List.set_cons_succ])
          have H0_p8 : ∀ (p8 : Nat) (V : World), Below w1.heap.size w1 V → Box2 w1.heap.size V p8 (.slice none 0 0) (.slice none 0 0) → wpx 12 #[true, false, true, false, true, false, false, false, false, false, false, true, false, false, false, false] (fr0.put (some 8) (.pointer (some ⟨p8, 0, none⟩))) V := by
            as_aux_lemma =>
              intro p8 V N Y8
              refine Eq.mpr (hwp _ _ _ _) ?_
              rw [ha0]
              try simp only [Act.put, List.setIfInBounds_toArray, List.set_cons_zero, List.set_cons_succ]
              refine wpAnyH_ready (rs := [1, 12]) (by kernel_rfl) (by simp) (AllReadyH.cons (by simp only [List.getElem?_toArray, List.getElem?_cons_succ, List.getElem?_cons_zero]; exact rfl) (fun K hK => ?_) (AllReadyH.cons (by simp only [List.getElem?_toArray, List.getElem?_cons_succ, List.getElem?_cons_zero]; exact rfl) (fun K hK => ?_) AllReadyH.nil))
              · go_simp
                refine (toDisk_any a a2 c c2 bs qs _ (HB.out.below (B.trans (N.mono B.size))) (HQ.out.below (B.trans (N.mono B.size))) L1.out L2.out).mono ?_
                rintro e V1 ⟨a3, b3, us, rfl, D2, S20, hb⟩
                have S2 : Hid (SomeV us) := S20
                replace D2 := D2.base (lo' := 0) (Nat.zero_le _)
                clear S20
                replace Y8 := Y8.below hb
                replace N := N.trans (hb.mono N.size)
                refine hK.out _ _ N (fun hHeld => ?_)
                clear hK K hHeld
                try simp only [List.setIfInBounds_toArray, List.set_cons_zero, List.set_cons_succ]
                clear hb
                refine Eq.mp (hwp _ _ _ _) ?_
                exact met2 (H1_p8 a3 b3 us p8 _ N D2 S2 Y8) (by kernel_rfl) (by rw [ha0]; simp only [Act.put, List.setIfInBounds_toArray, List.set_cons_zero, List.set_cons_succ])
              · go_simp
                have Y9 := Box4.new V (lo := w1.heap.size) N.size (.int .i64 0) (.int .i64 0) (.int .i64 0) (.int .i64 0) 32
                have hb := below1 V (.cells #[.int .i64 0, .int .i64 0, .int .i64 0, .int .i64 0] 32)
                have g_p8 := Nat.ne_of_lt Y8.lt
                replace Y8 := Y8.below hb
                replace N := N.trans (hb.mono N.size)
                refine hK.out _ _ N (fun hHeld => ?_)
                clear hK K hHeld
                try simp only [List.setIfInBounds_toArray, List.set_cons_zero, List.set_cons_succ]
                clear hb
                refine Eq.mp (hwp _ _ _ _) ?_
                exact met2 (H0_p8_p9 p8 V.heap.size _ N Y8 Y9 g_p8) (by kernel_rfl) (by rw [ha0]; simp only [Act.put, List.setIfInBounds_toArray, List.set_cons_zero, List.set_cons_succ])
          have H0_p9 : ∀ (p9 : Nat) (V : World), Below w1.heap.size w1 V → Box4 w1.heap.size V p9 (.int .i64 0) (.int .i64 0) (.int .i64 0) (.int .i64 0) → wpx 12 #[true, false, true, false, true, false, false, false, false, false, false, false, true, false, false, false] (fr0.put (some 9) (.pointer (some ⟨p9, 0, none⟩))) V := by
            as_aux_lemma =>
              intro p9 V N Y9
              refine Eq.mpr (hwp _ _ _ _) ?_
              rw [ha0]
              try simp only [Act.put, List.setIfInBounds_toArray, List.set_cons_zero, List.set_cons_succ]
              refine wpAnyH_ready (rs := [1, 11]) (by kernel_rfl) (by simp) (AllReadyH.cons (by simp only [List.getElem?_toArray, List.getElem?_cons_succ, List.getElem?_cons_zero]; exact rfl) (fun K hK => ?_) (AllReadyH.cons (by simp only [List.getElem?_toArray, List.getElem?_cons_succ, List.getElem?_cons_zero]; exact rfl) (fun K hK => ?_) AllReadyH.nil))
              · go_simp
                refine (toDisk_any a a2 c c2 bs qs _ (HB.out.below (B.trans (N.mono B.size))) (HQ.out.below (B.trans (N.mono B.size))) L1.out L2.out).mono ?_
                rintro e V1 ⟨a3, b3, us, rfl, D2, S20, hb⟩
                have S2 : Hid (SomeV us) := S20
                replace D2 := D2.base (lo' := 0) (Nat.zero_le _)
                clear S20
                replace Y9 := Y9.below hb
                replace N := N.trans (hb.mono N.size)
                refine hK.out _ _ N (fun hHeld => ?_)
                clear hK K hHeld
                try simp only [List.setIfInBounds_toArray, List.set_cons_zero, List.set_cons_succ]
                clear hb
                refine Eq.mp (hwp _ _ _ _) ?_
                exact met2 (H1_p9 a3 b3 us p9 _ N D2 S2 Y9) (by kernel_rfl) (by rw [ha0]; simp only [Act.put, List.setIfInBounds_toArray, List.set_cons_zero, List.set_cons_succ])
              · go_simp
                have Y8 := Box2.new V (lo := w1.heap.size) N.size (.slice none 0 0) (.slice none 0 0) 31
                have hb := below1 V (.cells #[.slice none 0 0, .slice none 0 0] 31)
                have g_p9 := Nat.ne_of_lt Y9.lt
                replace Y9 := Y9.below hb
                replace N := N.trans (hb.mono N.size)
                refine hK.out _ _ N (fun hHeld => ?_)
                clear hK K hHeld
                try simp only [List.setIfInBounds_toArray, List.set_cons_zero, List.set_cons_succ]
                clear hb
                refine Eq.mp (hwp _ _ _ _) ?_
                exact met2 (H0_p8_p9 V.heap.size p9 _ N Y8 Y9 g_p9.symm) (by kernel_rfl) (by rw [ha0]; simp only [Act.put, List.setIfInBounds_toArray, List.set_cons_zero, List.set_cons_succ])
          have H0 : ∀ (V : World), Below w1.heap.size w1 V → wpx 13 #[true, false, true, false, true, false, false, false, false, false, false, false, false, false, false, false] fr0 V := by
            as_aux_lemma =>
              intro V N
              refine Eq.mpr (hwp _ _ _ _) ?_
              rw [ha0]
              try simp only [Act.put, List.setIfInBounds_toArray, List.set_cons_zero, List.set_cons_succ]
              refine wpAnyH_ready (rs := [1, 11, 12]) (by kernel_rfl) (by simp) (AllReadyH.cons (by simp only [List.getElem?_toArray, List.getElem?_cons_succ, List.getElem?_cons_zero]; exact rfl) (fun K hK => ?_) (AllReadyH.cons (by simp only [List.getElem?_toArray, List.getElem?_cons_succ, List.getElem?_cons_zero]; exact rfl) (fun K hK => ?_) (AllReadyH.cons (by simp only [List.getElem?_toArray, List.getElem?_cons_succ, List.getElem?_cons_zero]; exact rfl) (fun K hK => ?_) AllReadyH.nil)))
              · go_simp
                refine (toDisk_any a a2 c c2 bs qs _ (HB.out.below (B.trans (N.mono B.size))) (HQ.out.below (B.trans (N.mono B.size))) L1.out L2.out).mono ?_
                rintro e V1 ⟨a3, b3, us, rfl, D2, S20, hb⟩
                have S2 : Hid (SomeV us) := S20
                replace D2 := D2.base (lo' := 0) (Nat.zero_le _)
                clear S20
                replace N := N.trans (hb.mono N.size)
                refine hK.out _ _ N (fun hHeld => ?_)
                clear hK K hHeld
                try simp only [List.setIfInBounds_toArray, List.set_cons_zero, List.set_cons_succ]
                clear hb
                refine Eq.mp (hwp _ _ _ _) ?_
                exact met2 (H1 a3 b3 us _ N D2 S2) (by kernel_rfl) (by rw [ha0]; simp only [Act.put, List.setIfInBounds_toArray, List.set_cons_zero, List.set_cons_succ])
              · go_simp
                have Y8 := Box2.new V (lo := w1.heap.size) N.size (.slice none 0 0) (.slice none 0 0) 31
                have hb := below1 V (.cells #[.slice none 0 0, .slice none 0 0] 31)
                replace N := N.trans (hb.mono N.size)
                refine hK.out _ _ N (fun hHeld => ?_)
                clear hK K hHeld
                try simp only [List.setIfInBounds_toArray, List.set_cons_zero, List.set_cons_succ]
                clear hb
                refine Eq.mp (hwp _ _ _ _) ?_
                exact met2 (H0_p8 V.heap.size _ N Y8) (by kernel_rfl) (by rw [ha0]; simp only [Act.put, List.setIfInBounds_toArray, List.set_cons_zero, List.set_cons_succ])
              · go_simp
                have Y9 := Box4.new V (lo := w1.heap.size) N.size (.int .i64 0) (.int .i64 0) (.int .i64 0) (.int .i64 0) 32
                have hb := below1 V (.cells #[.int .i64 0, .int .i64 0, .int .i64 0, .int .i64 0] 32)
                replace N := N.trans (hb.mono N.size)
                refine hK.out _ _ N (fun hHeld => ?_)
                clear hK K hHeld
                try simp only [List.setIfInBounds_toArray, List.set_cons_zero, List.set_cons_succ]
                clear hb
                refine Eq.mp (hwp _ _ _ _) ?_
                exact met2 (H0_p9 V.heap.size _ N Y9) (by kernel_rfl) (by rw [ha0]; simp only [Act.put, List.setIfInBounds_toArray, List.set_cons_zero, List.set_cons_succ])
          intro ww0 N
          exact met2 (H0 ww0 N) (by kernel_rfl) rfl
      rename World => W7
      obtain ⟨p0, q0, a0, c0, b0, d0, vs0, bt, qt, nt, rt, rfl, rfl, rfl, O7⟩ := hcut
      have SR : Hid (LaRes bs qs F L X E rs bt qt nt rt) := O7.res
      have M3 : Hid (uptoQ qt qt.length ≤ 2000000) := O7.res.size L2.out
      have LB : Hid (bt.length = bs.length) := O7.res.len
      have M4 : Hid (bs.length ≤ 2000000) := Nat.le_trans L1.out (by omega)
      have M5 : Hid (uptoQ qs qs.length ≤ 2000000) := Nat.le_trans L2.out (by omega)
      have MY : Hid (rs.length ≤ 2000000) := Nat.le_trans LY.out (by omega)
      have D0 := O7.dk
      have Y0 := O7.b8
      have Z0 := O7.b9
      have T0 := D0.tops (b := W7.heap.size) (Nat.le_refl _)
      have hp0 := Y0.lt
      have hq0 := Z0.lt
      have s7 := O7.bel.size
      have hv := V.lt
      have hvg := VG.lt
      replace V := V.below O7.bel
      replace VG := VG.below O7.bel
      replace B := B.trans (O7.bel.mono B.size)
      clear O7
      obtain ⟨v0, v1, vf, _⟩ := id V
      go_wp2_with fail
      refine (toDisk_any a a2 c c2 bs qs _ (HB.out.below B) (HQ.out.below B) L1.out L2.out).mono ?_
      rintro e w4 ⟨a4, b4, vs, rfl, Dx, Sx, hb⟩
      have sz4 : W7.heap.size ≤ w4.heap.size := hb.size
      replace V := V.below hb
      replace VG := VG.below hb
      replace Y0 := Y0.below hb
      replace Z0 := Z0.below hb
      replace D0 := D0.below hb
      replace B := B.trans (hb.mono B.size)
      clear hb v0 v1 vf
      have X1 := Box2.new w4 (lo := w.heap.size) B.size (.slice (some a4) bs.length bs.length) (.slice b4 qs.length qs.length) 31
      have b5 := below1 w4 (.cells #[.slice (some a4) bs.length bs.length, .slice b4 qs.length qs.length] 31)
      have TX := Dx.tops' (b := w4.heap.size + 1) (by omega)
      replace V := V.below b5
      replace VG := VG.below b5
      replace Y0 := Y0.below b5
      replace Z0 := Z0.below b5
      replace D0 := D0.below b5
      replace Dx := Dx.below b5
      replace B := B.trans (b5.mono B.size)
      have z4 : (w4.alloc (.cells #[.slice (some a4) bs.length bs.length, .slice b4 qs.length qs.length] 31)).heap.size = w4.heap.size + 1 := by simp
      clear b5
      go_wp2_with fail
      generalize w4.alloc (.cells #[.slice (some a4) bs.length bs.length, .slice b4 qs.length qs.length] 31) = W4 at *
      generalize hq4 : w4.heap.size = p1 at *
      refine (toBytes ay cy rs _ (HY.out.below B) LY.out).mono ?_
      rintro e wz ⟨rfl, Ry, hb⟩
      rw [z4] at Ry ⊢
      have szy : p1 + 2 ≤ wz.heap.size := (World.ownsRow.lt Ry (p1 + 1) rfl).2
      replace V := V.below hb
      replace VG := VG.below hb
      replace Y0 := Y0.below hb
      replace Z0 := Z0.below hb
      replace X1 := X1.below hb
      replace D0 := D0.below hb
      replace Dx := Dx.below hb
      replace B := B.trans (hb.mono B.size)
      clear hb z4 hq4
      go_wp2_with fail
      go_cut [13, 14, 15] (fun s13 s14 s15 W => ∃ (p8 p9 : Nat) (a0 : Addr) (c0 : Nat) (b0 : Option Addr) (d0 : Nat) (vs0 : List Value) (bs' : List Int) (qs' : List Wr) (n' : Int) (r : Bool), s13 = .pointer (some ⟨p8, 0, none⟩) ∧ s14 = .pointer (some ⟨p9, 0, none⟩) ∧ s15 = .bool r ∧ LaOut wz W p8 p9 a0 c0 b0 d0 vs0 bs qs F L X E rs bs' qs' n' r)
      case first =>
        as_aux_lemma =>
          rename_i hcJ hcK
          clear SR M3 LB D0 Y0 Z0 T0
          have N : Below wz.heap.size wz wz.drew := (Below.refl _ _).drew
          refine wp_region_held_drew (S := fun w' => Below wz.heap.size wz w') (by kernel_rfl) N (fun hHeld => ?_)
          clear hHeld
          generalize wz.drew = ww0 at *
          refine takeW (i := 0) (by simp only [List.getElem?_toArray, List.getElem?_cons_zero]; exact rfl) (by kernel_rfl) (by kernel_rfl) (by kernel_rfl) (by exact fun _ _ _ h => h) (by rfl) (by intro wq hSw; have y0 := bat hSw X1.c0; have y1 := bat hSw X1.c1; have l0 := bat hSw VG.c0; have l1 := bat hSw VG.c1; have l2 := bat hSw VG.c2; have l3 := bat hSw VG.c3; go_simp <;> with_reducible rfl) (by assumption) ?_
          try simp only [Act.put, List.setIfInBounds_toArray, List.set_cons_zero, List.set_cons_succ]
          refine takeW (i := 1) (by simp only [List.getElem?_toArray, List.getElem?_cons_succ, List.getElem?_cons_zero]; exact rfl) (by kernel_rfl) (by kernel_rfl) (by kernel_rfl) (by exact fun _ _ _ h => h) (by rfl) (by intro wq hSw; have y0 := bat hSw X1.c0; have y1 := bat hSw X1.c1; have l0 := bat hSw VG.c0; have l1 := bat hSw VG.c1; have l2 := bat hSw VG.c2; have l3 := bat hSw VG.c3; go_simp <;> with_reducible rfl) (by assumption) ?_
          try simp only [Act.put, List.setIfInBounds_toArray, List.set_cons_zero, List.set_cons_succ]
          refine takeW (i := 3) (by simp only [List.getElem?_toArray, List.getElem?_cons_succ, List.getElem?_cons_zero]; exact rfl) (by kernel_rfl) (by kernel_rfl) (by kernel_rfl) (by exact fun _ _ _ h => h) (by rfl) (by intro wq hSw; go_simp <;> with_reducible rfl) (by assumption) ?_
          try simp only [Act.put, List.setIfInBounds_toArray, List.set_cons_zero, List.set_cons_succ]
          refine capture2 (fun wpx fr0 ha0 hwp => ?_)
          revert N
          revert ww0
          have H2_p8_p9 : ∀ (a0 : Addr) (c0 : Nat) (b0 : Option Addr) (d0 : Nat) (vs3 : List Value) (bs' : List Int) (qs' : List Wr) (n' : Int) (r : Bool) (p8 : Nat) (p9 : Nat) (V : World), Below wz.heap.size wz V → Hid (LaRes bs qs F L X E rs bs' qs' n' r) → DkR wz.heap.size V (.slice (some a0) bs.length c0) (.slice b0 qs'.length d0) vs3 bs' qs' → Box2 wz.heap.size V p8 (.slice none 0 0) (.slice none 0 0) → Box4 wz.heap.size V p9 (.int .i64 0) (.int .i64 0) (.int .i64 0) (.int .i64 0) → p8 ≠ p9 → Hid (∀ u ∈ ((Value.slice (some a0) bs.length c0) :: (Value.slice b0 qs'.length d0) :: vs3), u.ownBlock ≠ some p8) → Hid (∀ u ∈ ((Value.slice (some a0) bs.length c0) :: (Value.slice b0 qs'.length d0) :: vs3), u.ownBlock ≠ some p9) → wpx 3 #[true, true, true, true, true, true, true, true, true, true, true, false, false, false] ((((((((fr0.put (some 48) (.agg #[.int .i64 F, .int .i64 L, .int .i64 X, .int .i64 E])).put (some 50) (.tuple #[(.agg #[.slice (some a0) bs.length c0, .slice b0 qs'.length d0]), (.agg #[.int .i64 F, .int .i64 L, .int .i64 n', .int .i64 E]), .bool r])).put (some 45) (.tuple #[(.agg #[.slice (some a0) bs.length c0, .slice b0 qs'.length d0]), (.agg #[.int .i64 F, .int .i64 L, .int .i64 n', .int .i64 E]), .bool r])).put (some 51) (.agg #[.slice (some a0) bs.length c0, .slice b0 qs'.length d0])).put (some 52) (.agg #[.int .i64 F, .int .i64 L, .int .i64 n', .int .i64 E])).put (some 53) (.bool r)).put (some 13) (.pointer (some ⟨p8, 0, none⟩))).put (some 14) (.pointer (some ⟨p9, 0, none⟩))) V := by
            as_aux_lemma =>
              intro a0 c0 b0 d0 vs3 bs' qs' n' r p8 p9 V N SR D0 Y8 Y9 ne_p8_p9 n_p8 n_p9
              refine Eq.mpr (hwp _ _ _ _) ?_
              rw [ha0]
              try simp only [Act.put, List.setIfInBounds_toArray, List.set_cons_zero, List.set_cons_succ]
              refine wpAnyH_ready (rs := [11]) (by kernel_rfl) (by simp) (AllReadyH.cons (by simp only [List.getElem?_toArray, List.getElem?_cons_succ, List.getElem?_cons_zero]; exact rfl) (fun K hK => ?_) AllReadyH.nil)
              obtain ⟨q0, q1, qf, _⟩ := id Y8
              go_simp
              have gq := grownBy_setCell (grownBy_setCell (grownBy_refl V (some p8)) (p := ⟨p8, 0, none⟩) rfl (.slice (some a0) bs.length c0)) (p := ⟨p8, 1, none⟩) rfl (.slice b0 qs'.length d0)
              have N2 := ((N.setCell (p := ⟨p8, 0, none⟩) Y8.lo (.slice (some a0) bs.length c0)).setCell (p := ⟨p8, 1, none⟩) Y8.lo (.slice b0 qs'.length d0))
              replace Y8 := Y8.put (.slice (some a0) bs.length c0) (.slice b0 qs'.length d0)
              replace Y9 := Y9.grownW gq (by intro e; injection e with e; omega)
              replace D0 := D0.kept gq (fun k hk e => by injection e with e; subst e; exact n_p8.out _ (List.mem_cons_self ..) hk) (fun k hk e => by injection e with e; subst e; exact n_p8.out _ (List.mem_cons_of_mem _ (List.mem_cons_self ..)) hk) (fun u hu k hk e => by injection e with e; subst e; exact n_p8.out u (List.mem_cons_of_mem _ (List.mem_cons_of_mem _ hu)) hk)
              replace N := N2
              refine hK.out _ _ N (fun hHeld => ?_)
              clear hK K hHeld
              try simp only [List.setIfInBounds_toArray, List.set_cons_zero, List.set_cons_succ]
              clear gq N2 q0 q1 qf
              generalize ((V.setCell ⟨p8, 0, none⟩ (.slice (some a0) bs.length c0)).setCell ⟨p8, 1, none⟩ (.slice b0 qs'.length d0)) = Vs0 at *
              refine wpAnyH_ready (rs := [12]) (by kernel_rfl) (by simp) (AllReadyH.cons (by simp only [List.getElem?_toArray, List.getElem?_cons_succ, List.getElem?_cons_zero]; exact rfl) (fun K hK => ?_) AllReadyH.nil)
              obtain ⟨q0, q1, q2, q3, qf, _⟩ := id Y9
              go_simp
              have gq := grownBy_setCell (grownBy_setCell (grownBy_setCell (grownBy_setCell (grownBy_refl Vs0 (some p9)) (p := ⟨p9, 0, none⟩) rfl (.int .i64 F)) (p := ⟨p9, 1, none⟩) rfl (.int .i64 L)) (p := ⟨p9, 2, none⟩) rfl (.int .i64 n')) (p := ⟨p9, 3, none⟩) rfl (.int .i64 E)
              have N2 := ((((N.setCell (p := ⟨p9, 0, none⟩) Y9.lo (.int .i64 F)).setCell (p := ⟨p9, 1, none⟩) Y9.lo (.int .i64 L)).setCell (p := ⟨p9, 2, none⟩) Y9.lo (.int .i64 n')).setCell (p := ⟨p9, 3, none⟩) Y9.lo (.int .i64 E))
              replace Y9 := Y9.put (.int .i64 F) (.int .i64 L) (.int .i64 n') (.int .i64 E)
              replace Y8 := Y8.grownO gq (by intro e; injection e with e; omega)
              replace D0 := D0.kept gq (fun k hk e => by injection e with e; subst e; exact n_p9.out _ (List.mem_cons_self ..) hk) (fun k hk e => by injection e with e; subst e; exact n_p9.out _ (List.mem_cons_of_mem _ (List.mem_cons_self ..)) hk) (fun u hu k hk e => by injection e with e; subst e; exact n_p9.out u (List.mem_cons_of_mem _ (List.mem_cons_of_mem _ hu)) hk)
              replace N := N2
              refine hK.out _ _ N (fun hHeld => ?_)
              clear hK K hHeld
              try simp only [List.setIfInBounds_toArray, List.set_cons_zero, List.set_cons_succ]
              clear gq N2 q0 q1 qf
              generalize ((((Vs0.setCell ⟨p9, 0, none⟩ (.int .i64 F)).setCell ⟨p9, 1, none⟩ (.int .i64 L)).setCell ⟨p9, 2, none⟩ (.int .i64 n')).setCell ⟨p9, 3, none⟩ (.int .i64 E)) = Vs1 at *
              refine takeW (i := 13) (by simp only [List.getElem?_toArray, List.getElem?_cons_succ, List.getElem?_cons_zero]; exact rfl) (by kernel_rfl) (by kernel_rfl) (by kernel_rfl) (by exact fun _ _ _ h => h) (by rfl) (by intro wq hSw; go_simp <;> with_reducible rfl) (by assumption) ?_
              try simp only [Act.put, List.setIfInBounds_toArray, List.set_cons_zero, List.set_cons_succ]
              refine wpAnyH_done (by kernel_rfl) ?_ _
              have OUT : LaOut _ _ p8 p9 a0 c0 b0 d0 vs3 bs qs F L X E rs bs' qs' n' r := ⟨SR.out, D0, Y8, Y9, n_p8, n_p9, N⟩
              clear D0 Y8 Y9 n_p8 n_p9 SR
              refine hcK _ _ (Met.intro (hcJ _ _ ?_))
              (repeat apply Exists.intro)
              refine ⟨?rel, rfl⟩
              case rel => exact ⟨_, _, a0, c0, b0, d0, vs3, bs', qs', n', r, rfl, rfl, rfl, OUT⟩
          have H2_p8 : ∀ (a0 : Addr) (c0 : Nat) (b0 : Option Addr) (d0 : Nat) (vs3 : List Value) (bs' : List Int) (qs' : List Wr) (n' : Int) (r : Bool) (p8 : Nat) (V : World), Below wz.heap.size wz V → Hid (LaRes bs qs F L X E rs bs' qs' n' r) → DkR wz.heap.size V (.slice (some a0) bs.length c0) (.slice b0 qs'.length d0) vs3 bs' qs' → Box2 wz.heap.size V p8 (.slice none 0 0) (.slice none 0 0) → Hid (∀ u ∈ ((Value.slice (some a0) bs.length c0) :: (Value.slice b0 qs'.length d0) :: vs3), u.ownBlock ≠ some p8) → wpx 4 #[true, true, true, true, true, true, true, true, true, true, false, false, false, false] (((((((fr0.put (some 48) (.agg #[.int .i64 F, .int .i64 L, .int .i64 X, .int .i64 E])).put (some 50) (.tuple #[(.agg #[.slice (some a0) bs.length c0, .slice b0 qs'.length d0]), (.agg #[.int .i64 F, .int .i64 L, .int .i64 n', .int .i64 E]), .bool r])).put (some 45) (.tuple #[(.agg #[.slice (some a0) bs.length c0, .slice b0 qs'.length d0]), (.agg #[.int .i64 F, .int .i64 L, .int .i64 n', .int .i64 E]), .bool r])).put (some 51) (.agg #[.slice (some a0) bs.length c0, .slice b0 qs'.length d0])).put (some 52) (.agg #[.int .i64 F, .int .i64 L, .int .i64 n', .int .i64 E])).put (some 53) (.bool r)).put (some 13) (.pointer (some ⟨p8, 0, none⟩))) V := by
            as_aux_lemma =>
              intro a0 c0 b0 d0 vs3 bs' qs' n' r p8 V N SR D0 Y8 n_p8
              refine Eq.mpr (hwp _ _ _ _) ?_
              rw [ha0]
              try simp only [Act.put, List.setIfInBounds_toArray, List.set_cons_zero, List.set_cons_succ]
              refine wpAnyH_ready (rs := [10]) (by kernel_rfl) (by simp) (AllReadyH.cons (by simp only [List.getElem?_toArray, List.getElem?_cons_succ, List.getElem?_cons_zero]; exact rfl) (fun K hK => ?_) AllReadyH.nil)
              · go_simp
                have Y9 := Box4.new V (lo := wz.heap.size) N.size (.int .i64 0) (.int .i64 0) (.int .i64 0) (.int .i64 0) 32
                have hb := below1 V (.cells #[.int .i64 0, .int .i64 0, .int .i64 0, .int .i64 0] 32)
                have n_p9 := D0.nots (p := V.heap.size) (.inl (Nat.le_refl _))
                have g_p8 := Nat.ne_of_lt Y8.lt
                replace D0 := D0.below hb
                replace Y8 := Y8.below hb
                replace N := N.trans (hb.mono N.size)
                refine hK.out _ _ N (fun hHeld => ?_)
                clear hK K hHeld
                try simp only [List.setIfInBounds_toArray, List.set_cons_zero, List.set_cons_succ]
                clear hb
                refine Eq.mp (hwp _ _ _ _) ?_
                exact met2 (H2_p8_p9 a0 c0 b0 d0 vs3 bs' qs' n' r p8 V.heap.size _ N SR D0 Y8 Y9 g_p8 n_p8 n_p9) (by kernel_rfl) (by rw [ha0]; simp only [Act.put, List.setIfInBounds_toArray, List.set_cons_zero, List.set_cons_succ])
          have H2_p9 : ∀ (a0 : Addr) (c0 : Nat) (b0 : Option Addr) (d0 : Nat) (vs3 : List Value) (bs' : List Int) (qs' : List Wr) (n' : Int) (r : Bool) (p9 : Nat) (V : World), Below wz.heap.size wz V → Hid (LaRes bs qs F L X E rs bs' qs' n' r) → DkR wz.heap.size V (.slice (some a0) bs.length c0) (.slice b0 qs'.length d0) vs3 bs' qs' → Box4 wz.heap.size V p9 (.int .i64 0) (.int .i64 0) (.int .i64 0) (.int .i64 0) → Hid (∀ u ∈ ((Value.slice (some a0) bs.length c0) :: (Value.slice b0 qs'.length d0) :: vs3), u.ownBlock ≠ some p9) → wpx 4 #[true, true, true, true, true, true, true, true, true, false, true, false, false, false] (((((((fr0.put (some 48) (.agg #[.int .i64 F, .int .i64 L, .int .i64 X, .int .i64 E])).put (some 50) (.tuple #[(.agg #[.slice (some a0) bs.length c0, .slice b0 qs'.length d0]), (.agg #[.int .i64 F, .int .i64 L, .int .i64 n', .int .i64 E]), .bool r])).put (some 45) (.tuple #[(.agg #[.slice (some a0) bs.length c0, .slice b0 qs'.length d0]), (.agg #[.int .i64 F, .int .i64 L, .int .i64 n', .int .i64 E]), .bool r])).put (some 51) (.agg #[.slice (some a0) bs.length c0, .slice b0 qs'.length d0])).put (some 52) (.agg #[.int .i64 F, .int .i64 L, .int .i64 n', .int .i64 E])).put (some 53) (.bool r)).put (some 14) (.pointer (some ⟨p9, 0, none⟩))) V := by
            as_aux_lemma =>
              intro a0 c0 b0 d0 vs3 bs' qs' n' r p9 V N SR D0 Y9 n_p9
              refine Eq.mpr (hwp _ _ _ _) ?_
              rw [ha0]
              try simp only [Act.put, List.setIfInBounds_toArray, List.set_cons_zero, List.set_cons_succ]
              refine wpAnyH_ready (rs := [9]) (by kernel_rfl) (by simp) (AllReadyH.cons (by simp only [List.getElem?_toArray, List.getElem?_cons_succ, List.getElem?_cons_zero]; exact rfl) (fun K hK => ?_) AllReadyH.nil)
              · go_simp
                have Y8 := Box2.new V (lo := wz.heap.size) N.size (.slice none 0 0) (.slice none 0 0) 31
                have hb := below1 V (.cells #[.slice none 0 0, .slice none 0 0] 31)
                have n_p8 := D0.nots (p := V.heap.size) (.inl (Nat.le_refl _))
                have g_p9 := Nat.ne_of_lt Y9.lt
                replace D0 := D0.below hb
                replace Y9 := Y9.below hb
                replace N := N.trans (hb.mono N.size)
                refine hK.out _ _ N (fun hHeld => ?_)
                clear hK K hHeld
                try simp only [List.setIfInBounds_toArray, List.set_cons_zero, List.set_cons_succ]
                clear hb
                refine Eq.mp (hwp _ _ _ _) ?_
                exact met2 (H2_p8_p9 a0 c0 b0 d0 vs3 bs' qs' n' r V.heap.size p9 _ N SR D0 Y8 Y9 g_p9.symm n_p8 n_p9) (by kernel_rfl) (by rw [ha0]; simp only [Act.put, List.setIfInBounds_toArray, List.set_cons_zero, List.set_cons_succ])
          have H2 : ∀ (a0 : Addr) (c0 : Nat) (b0 : Option Addr) (d0 : Nat) (vs3 : List Value) (bs' : List Int) (qs' : List Wr) (n' : Int) (r : Bool) (V : World), Below wz.heap.size wz V → Hid (LaRes bs qs F L X E rs bs' qs' n' r) → DkR wz.heap.size V (.slice (some a0) bs.length c0) (.slice b0 qs'.length d0) vs3 bs' qs' → wpx 5 #[true, true, true, true, true, true, true, true, true, false, false, false, false, false] ((((((fr0.put (some 48) (.agg #[.int .i64 F, .int .i64 L, .int .i64 X, .int .i64 E])).put (some 50) (.tuple #[(.agg #[.slice (some a0) bs.length c0, .slice b0 qs'.length d0]), (.agg #[.int .i64 F, .int .i64 L, .int .i64 n', .int .i64 E]), .bool r])).put (some 45) (.tuple #[(.agg #[.slice (some a0) bs.length c0, .slice b0 qs'.length d0]), (.agg #[.int .i64 F, .int .i64 L, .int .i64 n', .int .i64 E]), .bool r])).put (some 51) (.agg #[.slice (some a0) bs.length c0, .slice b0 qs'.length d0])).put (some 52) (.agg #[.int .i64 F, .int .i64 L, .int .i64 n', .int .i64 E])).put (some 53) (.bool r)) V := by
            as_aux_lemma =>
              intro a0 c0 b0 d0 vs3 bs' qs' n' r V N SR D0
              refine Eq.mpr (hwp _ _ _ _) ?_
              rw [ha0]
              try simp only [Act.put, List.setIfInBounds_toArray, List.set_cons_zero, List.set_cons_succ]
              refine wpAnyH_ready (rs := [9, 10]) (by kernel_rfl) (by simp) (AllReadyH.cons (by simp only [List.getElem?_toArray, List.getElem?_cons_succ, List.getElem?_cons_zero]; exact rfl) (fun K hK => ?_) (AllReadyH.cons (by simp only [List.getElem?_toArray, List.getElem?_cons_succ, List.getElem?_cons_zero]; exact rfl) (fun K hK => ?_) AllReadyH.nil))
              · go_simp
                have Y8 := Box2.new V (lo := wz.heap.size) N.size (.slice none 0 0) (.slice none 0 0) 31
                have hb := below1 V (.cells #[.slice none 0 0, .slice none 0 0] 31)
                have n_p8 := D0.nots (p := V.heap.size) (.inl (Nat.le_refl _))
                replace D0 := D0.below hb
                replace N := N.trans (hb.mono N.size)
                refine hK.out _ _ N (fun hHeld => ?_)
                clear hK K hHeld
                try simp only [List.setIfInBounds_toArray, List.set_cons_zero, List.set_cons_succ]
                clear hb
                refine Eq.mp (hwp _ _ _ _) ?_
                exact met2 (H2_p8 a0 c0 b0 d0 vs3 bs' qs' n' r V.heap.size _ N SR D0 Y8 n_p8) (by kernel_rfl) (by rw [ha0]; simp only [Act.put, List.setIfInBounds_toArray, List.set_cons_zero, List.set_cons_succ])
              · go_simp
                have Y9 := Box4.new V (lo := wz.heap.size) N.size (.int .i64 0) (.int .i64 0) (.int .i64 0) (.int .i64 0) 32
                have hb := below1 V (.cells #[.int .i64 0, .int .i64 0, .int .i64 0, .int .i64 0] 32)
                have n_p9 := D0.nots (p := V.heap.size) (.inl (Nat.le_refl _))
                replace D0 := D0.below hb
                replace N := N.trans (hb.mono N.size)
                refine hK.out _ _ N (fun hHeld => ?_)
                clear hK K hHeld
                try simp only [List.setIfInBounds_toArray, List.set_cons_zero, List.set_cons_succ]
                clear hb
                refine Eq.mp (hwp _ _ _ _) ?_
                exact met2 (H2_p9 a0 c0 b0 d0 vs3 bs' qs' n' r V.heap.size _ N SR D0 Y9 n_p9) (by kernel_rfl) (by rw [ha0]; simp only [Act.put, List.setIfInBounds_toArray, List.set_cons_zero, List.set_cons_succ])
          have H1_p8_p9 : ∀ (p8 : Nat) (p9 : Nat) (V : World), Below wz.heap.size wz V → Box2 wz.heap.size V p8 (.slice none 0 0) (.slice none 0 0) → Box4 wz.heap.size V p9 (.int .i64 0) (.int .i64 0) (.int .i64 0) (.int .i64 0) → p8 ≠ p9 → wpx 8 #[true, true, true, true, false, false, false, false, false, true, true, false, false, false] (((fr0.put (some 48) (.agg #[.int .i64 F, .int .i64 L, .int .i64 X, .int .i64 E])).put (some 13) (.pointer (some ⟨p8, 0, none⟩))).put (some 14) (.pointer (some ⟨p9, 0, none⟩))) V := by
            as_aux_lemma =>
              intro p8 p9 V N Y8 Y9 ne_p8_p9
              refine Eq.mpr (hwp _ _ _ _) ?_
              rw [ha0]
              try simp only [Act.put, List.setIfInBounds_toArray, List.set_cons_zero, List.set_cons_succ]
              refine wpAnyH_ready (rs := [4]) (by kernel_rfl) (by simp) (AllReadyH.cons (by simp only [List.getElem?_toArray, List.getElem?_cons_succ, List.getElem?_cons_zero]; exact rfl) (fun K hK => ?_) AllReadyH.nil)
              · go_simp
                refine (implLogAdd bE a4 b4 bs.length qs.length vs bs qs F L X E _ _ _ rs _ (Dx.below N) Sx (RowB.below Ry N).seesB LY.out H8.out M1.out M2.out (HE.out.below (B.trans (N.mono B.size)) wp)).mono ?_
                rintro e V1 ⟨⟨a0, c0, b0, d0, vs3, bs', qs', n', r, rfl, SR0, D0, SV3⟩, hb⟩
                have n_p8 := D0.nots (p := p8) (.inr Y8.lt)
                have n_p9 := D0.nots (p := p9) (.inr Y9.lt)
                have SR : Hid (LaRes bs qs F L X E rs bs' qs' n' r) := SR0
                replace D0 := D0.base (lo' := wz.heap.size) N.size
                clear SR0 SV3
                replace Y8 := Y8.below hb
                replace Y9 := Y9.below hb
                replace N := N.trans (hb.mono N.size)
                refine hK.out _ _ N (fun hHeld => ?_)
                clear hK K hHeld
                try simp only [List.setIfInBounds_toArray, List.set_cons_zero, List.set_cons_succ]
                clear hb
                refine takeW (i := 5) (by simp only [List.getElem?_toArray, List.getElem?_cons_succ, List.getElem?_cons_zero]; exact rfl) (by kernel_rfl) (by kernel_rfl) (by kernel_rfl) (by exact fun _ _ _ h => h) (by rfl) (by intro wq hSw; go_simp <;> with_reducible rfl) (by assumption) ?_
                try simp only [Act.put, List.setIfInBounds_toArray, List.set_cons_zero, List.set_cons_succ]
                refine takeW (i := 6) (by simp only [List.getElem?_toArray, List.getElem?_cons_succ, List.getElem?_cons_zero]; exact rfl) (by kernel_rfl) (by kernel_rfl) (by kernel_rfl) (by exact fun _ _ _ h => h) (by rfl) (by intro wq hSw; go_simp <;> with_reducible rfl) (by assumption) ?_
                try simp only [Act.put, List.setIfInBounds_toArray, List.set_cons_zero, List.set_cons_succ]
                refine takeW (i := 7) (by simp only [List.getElem?_toArray, List.getElem?_cons_succ, List.getElem?_cons_zero]; exact rfl) (by kernel_rfl) (by kernel_rfl) (by kernel_rfl) (by exact fun _ _ _ h => h) (by rfl) (by intro wq hSw; go_simp <;> with_reducible rfl) (by assumption) ?_
                try simp only [Act.put, List.setIfInBounds_toArray, List.set_cons_zero, List.set_cons_succ]
                refine takeW (i := 8) (by simp only [List.getElem?_toArray, List.getElem?_cons_succ, List.getElem?_cons_zero]; exact rfl) (by kernel_rfl) (by kernel_rfl) (by kernel_rfl) (by exact fun _ _ _ h => h) (by rfl) (by intro wq hSw; go_simp <;> with_reducible rfl) (by assumption) ?_
                try simp only [Act.put, List.setIfInBounds_toArray, List.set_cons_zero, List.set_cons_succ]
                refine Eq.mp (hwp _ _ _ _) ?_
                exact met2 (H2_p8_p9 a0 c0 b0 d0 vs3 bs' qs' n' r p8 p9 _ N SR D0 Y8 Y9 ne_p8_p9 n_p8 n_p9) (by kernel_rfl) (by rw [ha0]; simp only [Act.put, List.setIfInBounds_toArray, List.set_cons_zero, List.set_cons_succ])
          have H1_p8 : ∀ (p8 : Nat) (V : World), Below wz.heap.size wz V → Box2 wz.heap.size V p8 (.slice none 0 0) (.slice none 0 0) → wpx 9 #[true, true, true, true, false, false, false, false, false, true, false, false, false, false] ((fr0.put (some 48) (.agg #[.int .i64 F, .int .i64 L, .int .i64 X, .int .i64 E])).put (some 13) (.pointer (some ⟨p8, 0, none⟩))) V := by
            as_aux_lemma =>
              intro p8 V N Y8
              refine Eq.mpr (hwp _ _ _ _) ?_
              rw [ha0]
              try simp only [Act.put, List.setIfInBounds_toArray, List.set_cons_zero, List.set_cons_succ]
              refine wpAnyH_ready (rs := [4, 10]) (by kernel_rfl) (by simp) (AllReadyH.cons (by simp only [List.getElem?_toArray, List.getElem?_cons_succ, List.getElem?_cons_zero]; exact rfl) (fun K hK => ?_) (AllReadyH.cons (by simp only [List.getElem?_toArray, List.getElem?_cons_succ, List.getElem?_cons_zero]; exact rfl) (fun K hK => ?_) AllReadyH.nil))
              · go_simp
                refine (implLogAdd bE a4 b4 bs.length qs.length vs bs qs F L X E _ _ _ rs _ (Dx.below N) Sx (RowB.below Ry N).seesB LY.out H8.out M1.out M2.out (HE.out.below (B.trans (N.mono B.size)) wp)).mono ?_
                rintro e V1 ⟨⟨a0, c0, b0, d0, vs3, bs', qs', n', r, rfl, SR0, D0, SV3⟩, hb⟩
                have n_p8 := D0.nots (p := p8) (.inr Y8.lt)
                have SR : Hid (LaRes bs qs F L X E rs bs' qs' n' r) := SR0
                replace D0 := D0.base (lo' := wz.heap.size) N.size
                clear SR0 SV3
                replace Y8 := Y8.below hb
                replace N := N.trans (hb.mono N.size)
                refine hK.out _ _ N (fun hHeld => ?_)
                clear hK K hHeld
                try simp only [List.setIfInBounds_toArray, List.set_cons_zero, List.set_cons_succ]
                clear hb
                refine takeW (i := 5) (by simp only [List.getElem?_toArray, List.getElem?_cons_succ, List.getElem?_cons_zero]; exact rfl) (by kernel_rfl) (by kernel_rfl) (by kernel_rfl) (by exact fun _ _ _ h => h) (by rfl) (by intro wq hSw; go_simp <;> with_reducible rfl) (by assumption) ?_
                try simp only [Act.put, List.setIfInBounds_toArray, List.set_cons_zero, List.set_cons_succ]
                refine takeW (i := 6) (by simp only [List.getElem?_toArray, List.getElem?_cons_succ, List.getElem?_cons_zero]; exact rfl) (by kernel_rfl) (by kernel_rfl) (by kernel_rfl) (by exact fun _ _ _ h => h) (by rfl) (by intro wq hSw; go_simp <;> with_reducible rfl) (by assumption) ?_
                try simp only [Act.put, List.setIfInBounds_toArray, List.set_cons_zero, List.set_cons_succ]
                refine takeW (i := 7) (by simp only [List.getElem?_toArray, List.getElem?_cons_succ, List.getElem?_cons_zero]; exact rfl) (by kernel_rfl) (by kernel_rfl) (by kernel_rfl) (by exact fun _ _ _ h => h) (by rfl) (by intro wq hSw; go_simp <;> with_reducible rfl) (by assumption) ?_
                try simp only [Act.put, List.setIfInBounds_toArray, List.set_cons_zero, List.set_cons_succ]
                refine takeW (i := 8) (by simp only [List.getElem?_toArray, List.getElem?_cons_succ, List.getElem?_cons_zero]; exact rfl) (by kernel_rfl) (by kernel_rfl) (by kernel_rfl) (by exact fun _ _ _ h => h) (by rfl) (by intro wq hSw; go_simp <;> with_reducible rfl) (by assumption) ?_
                try simp only [Act.put, List.setIfInBounds_toArray, List.set_cons_zero, List.set_cons_succ]
                refine Eq.mp (hwp _ _ _ _) ?_
                exact met2 (H2_p8 a0 c0 b0 d0 vs3 bs' qs' n' r p8 _ N SR D0 Y8 n_p8) (by kernel_rfl) (by rw [ha0]; simp only [Act.put, List.setIfInBounds_toArray, List.set_cons_zero, List.set_cons_succ])
              · go_simp
                have Y9 := Box4.new V (lo := wz.heap.size) N.size (.int .i64 0) (.int .i64 0) (.int .i64 0) (.int .i64 0) 32
                have hb := below1 V (.cells #[.int .i64 0, .int .i64 0, .int .i64 0, .int .i64 0] 32)
                have g_p8 := Nat.ne_of_lt Y8.lt
                replace Y8 := Y8.below hb
                replace N := N.trans (hb.mono N.size)
                refine hK.out _ _ N (fun hHeld => ?_)
                clear hK K hHeld
                try simp only [List.setIfInBounds_toArray, List.set_cons_zero, List.set_cons_succ]
                clear hb
                refine Eq.mp (hwp _ _ _ _) ?_
                exact met2 (H1_p8_p9 p8 V.heap.size _ N Y8 Y9 g_p8) (by kernel_rfl) (by rw [ha0]; simp only [Act.put, List.setIfInBounds_toArray, List.set_cons_zero, List.set_cons_succ])
          have H1_p9 : ∀ (p9 : Nat) (V : World), Below wz.heap.size wz V → Box4 wz.heap.size V p9 (.int .i64 0) (.int .i64 0) (.int .i64 0) (.int .i64 0) → wpx 9 #[true, true, true, true, false, false, false, false, false, false, true, false, false, false] ((fr0.put (some 48) (.agg #[.int .i64 F, .int .i64 L, .int .i64 X, .int .i64 E])).put (some 14) (.pointer (some ⟨p9, 0, none⟩))) V := by
            as_aux_lemma =>
              intro p9 V N Y9
              refine Eq.mpr (hwp _ _ _ _) ?_
              rw [ha0]
              try simp only [Act.put, List.setIfInBounds_toArray, List.set_cons_zero, List.set_cons_succ]
              refine wpAnyH_ready (rs := [4, 9]) (by kernel_rfl) (by simp) (AllReadyH.cons (by simp only [List.getElem?_toArray, List.getElem?_cons_succ, List.getElem?_cons_zero]; exact rfl) (fun K hK => ?_) (AllReadyH.cons (by simp only [List.getElem?_toArray, List.getElem?_cons_succ, List.getElem?_cons_zero]; exact rfl) (fun K hK => ?_) AllReadyH.nil))
              · go_simp
                refine (implLogAdd bE a4 b4 bs.length qs.length vs bs qs F L X E _ _ _ rs _ (Dx.below N) Sx (RowB.below Ry N).seesB LY.out H8.out M1.out M2.out (HE.out.below (B.trans (N.mono B.size)) wp)).mono ?_
                rintro e V1 ⟨⟨a0, c0, b0, d0, vs3, bs', qs', n', r, rfl, SR0, D0, SV3⟩, hb⟩
                have n_p9 := D0.nots (p := p9) (.inr Y9.lt)
                have SR : Hid (LaRes bs qs F L X E rs bs' qs' n' r) := SR0
                replace D0 := D0.base (lo' := wz.heap.size) N.size
                clear SR0 SV3
                replace Y9 := Y9.below hb
                replace N := N.trans (hb.mono N.size)
                refine hK.out _ _ N (fun hHeld => ?_)
                clear hK K hHeld
                try simp only [List.setIfInBounds_toArray, List.set_cons_zero, List.set_cons_succ]
                clear hb
                refine takeW (i := 5) (by simp only [List.getElem?_toArray, List.getElem?_cons_succ, List.getElem?_cons_zero]; exact rfl) (by kernel_rfl) (by kernel_rfl) (by kernel_rfl) (by exact fun _ _ _ h => h) (by rfl) (by intro wq hSw; go_simp <;> with_reducible rfl) (by assumption) ?_
                try simp only [Act.put, List.setIfInBounds_toArray, List.set_cons_zero, List.set_cons_succ]
                refine takeW (i := 6) (by simp only [List.getElem?_toArray, List.getElem?_cons_succ, List.getElem?_cons_zero]; exact rfl) (by kernel_rfl) (by kernel_rfl) (by kernel_rfl) (by exact fun _ _ _ h => h) (by rfl) (by intro wq hSw; go_simp <;> with_reducible rfl) (by assumption) ?_
                try simp only [Act.put, List.setIfInBounds_toArray, List.set_cons_zero, List.set_cons_succ]
                refine takeW (i := 7) (by simp only [List.getElem?_toArray, List.getElem?_cons_succ, List.getElem?_cons_zero]; exact rfl) (by kernel_rfl) (by kernel_rfl) (by kernel_rfl) (by exact fun _ _ _ h => h) (by rfl) (by intro wq hSw; go_simp <;> with_reducible rfl) (by assumption) ?_
                try simp only [Act.put, List.setIfInBounds_toArray, List.set_cons_zero, List.set_cons_succ]
                refine takeW (i := 8) (by simp only [List.getElem?_toArray, List.getElem?_cons_succ, List.getElem?_cons_zero]; exact rfl) (by kernel_rfl) (by kernel_rfl) (by kernel_rfl) (by exact fun _ _ _ h => h) (by rfl) (by intro wq hSw; go_simp <;> with_reducible rfl) (by assumption) ?_
                try simp only [Act.put, List.setIfInBounds_toArray, List.set_cons_zero, List.set_cons_succ]
                refine Eq.mp (hwp _ _ _ _) ?_
                exact met2 (H2_p9 a0 c0 b0 d0 vs3 bs' qs' n' r p9 _ N SR D0 Y9 n_p9) (by kernel_rfl) (by rw [ha0]; simp only [Act.put, List.setIfInBounds_toArray, List.set_cons_zero, List.set_cons_succ])
              · go_simp
                have Y8 := Box2.new V (lo := wz.heap.size) N.size (.slice none 0 0) (.slice none 0 0) 31
                have hb := below1 V (.cells #[.slice none 0 0, .slice none 0 0] 31)
                have g_p9 := Nat.ne_of_lt Y9.lt
                replace Y9 := Y9.below hb
                replace N := N.trans (hb.mono N.size)
                refine hK.out _ _ N (fun hHeld => ?_)
                clear hK K hHeld
                try simp only [List.setIfInBounds_toArray, List.set_cons_zero, List.set_cons_succ]
                clear hb
                refine Eq.mp (hwp _ _ _ _) ?_
                exact met2 (H1_p8_p9 V.heap.size p9 _ N Y8 Y9 g_p9.symm) (by kernel_rfl) (by rw [ha0]; simp only [Act.put, List.setIfInBounds_toArray, List.set_cons_zero, List.set_cons_succ])
          have H1 : ∀ (V : World), Below wz.heap.size wz V → wpx 10 #[true, true, true, true, false, false, false, false, false, false, false, false, false, false] (fr0.put (some 48) (.agg #[.int .i64 F, .int .i64 L, .int .i64 X, .int .i64 E])) V := by
            as_aux_lemma =>
              intro V N
              refine Eq.mpr (hwp _ _ _ _) ?_
              rw [ha0]
              try simp only [Act.put, List.setIfInBounds_toArray, List.set_cons_zero, List.set_cons_succ]
              refine wpAnyH_ready (rs := [4, 9, 10]) (by kernel_rfl) (by simp) (AllReadyH.cons (by simp only [List.getElem?_toArray, List.getElem?_cons_succ, List.getElem?_cons_zero]; exact rfl) (fun K hK => ?_) (AllReadyH.cons (by simp only [List.getElem?_toArray, List.getElem?_cons_succ, List.getElem?_cons_zero]; exact rfl) (fun K hK => ?_) (AllReadyH.cons (by simp only [List.getElem?_toArray, List.getElem?_cons_succ, List.getElem?_cons_zero]; exact rfl) (fun K hK => ?_) AllReadyH.nil)))
              · go_simp
                refine (implLogAdd bE a4 b4 bs.length qs.length vs bs qs F L X E _ _ _ rs _ (Dx.below N) Sx (RowB.below Ry N).seesB LY.out H8.out M1.out M2.out (HE.out.below (B.trans (N.mono B.size)) wp)).mono ?_
                rintro e V1 ⟨⟨a0, c0, b0, d0, vs3, bs', qs', n', r, rfl, SR0, D0, SV3⟩, hb⟩
                have SR : Hid (LaRes bs qs F L X E rs bs' qs' n' r) := SR0
                replace D0 := D0.base (lo' := wz.heap.size) N.size
                clear SR0 SV3
                replace N := N.trans (hb.mono N.size)
                refine hK.out _ _ N (fun hHeld => ?_)
                clear hK K hHeld
                try simp only [List.setIfInBounds_toArray, List.set_cons_zero, List.set_cons_succ]
                clear hb
                refine takeW (i := 5) (by simp only [List.getElem?_toArray, List.getElem?_cons_succ, List.getElem?_cons_zero]; exact rfl) (by kernel_rfl) (by kernel_rfl) (by kernel_rfl) (by exact fun _ _ _ h => h) (by rfl) (by intro wq hSw; go_simp <;> with_reducible rfl) (by assumption) ?_
                try simp only [Act.put, List.setIfInBounds_toArray, List.set_cons_zero, List.set_cons_succ]
                refine takeW (i := 6) (by simp only [List.getElem?_toArray, List.getElem?_cons_succ, List.getElem?_cons_zero]; exact rfl) (by kernel_rfl) (by kernel_rfl) (by kernel_rfl) (by exact fun _ _ _ h => h) (by rfl) (by intro wq hSw; go_simp <;> with_reducible rfl) (by assumption) ?_
                try simp only [Act.put, List.setIfInBounds_toArray, List.set_cons_zero, List.set_cons_succ]
                refine takeW (i := 7) (by simp only [List.getElem?_toArray, List.getElem?_cons_succ, List.getElem?_cons_zero]; exact rfl) (by kernel_rfl) (by kernel_rfl) (by kernel_rfl) (by exact fun _ _ _ h => h) (by rfl) (by intro wq hSw; go_simp <;> with_reducible rfl) (by assumption) ?_
                try simp only [Act.put, List.setIfInBounds_toArray, List.set_cons_zero, List.set_cons_succ]
                refine takeW (i := 8) (by simp only [List.getElem?_toArray, List.getElem?_cons_succ, List.getElem?_cons_zero]; exact rfl) (by kernel_rfl) (by kernel_rfl) (by kernel_rfl) (by exact fun _ _ _ h => h) (by rfl) (by intro wq hSw; go_simp <;> with_reducible rfl) (by assumption) ?_
                try simp only [Act.put, List.setIfInBounds_toArray, List.set_cons_zero, List.set_cons_succ]
                refine Eq.mp (hwp _ _ _ _) ?_
                exact met2 (H2 a0 c0 b0 d0 vs3 bs' qs' n' r _ N SR D0) (by kernel_rfl) (by rw [ha0]; simp only [Act.put, List.setIfInBounds_toArray, List.set_cons_zero, List.set_cons_succ])
              · go_simp
                have Y8 := Box2.new V (lo := wz.heap.size) N.size (.slice none 0 0) (.slice none 0 0) 31
                have hb := below1 V (.cells #[.slice none 0 0, .slice none 0 0] 31)
                replace N := N.trans (hb.mono N.size)
                refine hK.out _ _ N (fun hHeld => ?_)
                clear hK K hHeld
                try simp only [List.setIfInBounds_toArray, List.set_cons_zero, List.set_cons_succ]
                clear hb
                refine Eq.mp (hwp _ _ _ _) ?_
                exact met2 (H1_p8 V.heap.size _ N Y8) (by kernel_rfl) (by rw [ha0]; simp only [Act.put, List.setIfInBounds_toArray, List.set_cons_zero, List.set_cons_succ])
              · go_simp
                have Y9 := Box4.new V (lo := wz.heap.size) N.size (.int .i64 0) (.int .i64 0) (.int .i64 0) (.int .i64 0) 32
                have hb := below1 V (.cells #[.int .i64 0, .int .i64 0, .int .i64 0, .int .i64 0] 32)
                replace N := N.trans (hb.mono N.size)
                refine hK.out _ _ N (fun hHeld => ?_)
                clear hK K hHeld
                try simp only [List.setIfInBounds_toArray, List.set_cons_zero, List.set_cons_succ]
                clear hb
                refine Eq.mp (hwp _ _ _ _) ?_
                exact met2 (H1_p9 V.heap.size _ N Y9) (by kernel_rfl) (by rw [ha0]; simp only [Act.put, List.setIfInBounds_toArray, List.set_cons_zero, List.set_cons_succ])
          have H0_p8_p9 : ∀ (p8 : Nat) (p9 : Nat) (V : World), Below wz.heap.size wz V → Box2 wz.heap.size V p8 (.slice none 0 0) (.slice none 0 0) → Box4 wz.heap.size V p9 (.int .i64 0) (.int .i64 0) (.int .i64 0) (.int .i64 0) → p8 ≠ p9 → wpx 9 #[true, true, false, true, false, false, false, false, false, true, true, false, false, false] ((fr0.put (some 13) (.pointer (some ⟨p8, 0, none⟩))).put (some 14) (.pointer (some ⟨p9, 0, none⟩))) V := by
            as_aux_lemma =>
              intro p8 p9 V N Y8 Y9 ne_p8_p9
              refine Eq.mpr (hwp _ _ _ _) ?_
              rw [ha0]
              try simp only [Act.put, List.setIfInBounds_toArray, List.set_cons_zero, List.set_cons_succ]
              refine wpAnyH_ready (rs := [2]) (by kernel_rfl) (by simp) (AllReadyH.cons (by simp only [List.getElem?_toArray, List.getElem?_cons_succ, List.getElem?_cons_zero]; exact rfl) (fun K hK => ?_) AllReadyH.nil)
              · go_simp
                refine (toLog_any F L X E _).mono ?_
                rintro e V1 ⟨rfl, hb⟩
                replace Y8 := Y8.below hb
                replace Y9 := Y9.below hb
                replace N := N.trans (hb.mono N.size)
                refine hK.out _ _ N (fun hHeld => ?_)
                clear hK K hHeld
                try simp only [List.setIfInBounds_toArray, List.set_cons_zero, List.set_cons_succ]
                clear hb
                refine Eq.mp (hwp _ _ _ _) ?_
                exact met2 (H1_p8_p9 p8 p9 _ N Y8 Y9 ne_p8_p9) (by kernel_rfl) (by rw [ha0]; simp only [Act.put, List.setIfInBounds_toArray, List.set_cons_zero, List.set_cons_succ])
          have H0_p8 : ∀ (p8 : Nat) (V : World), Below wz.heap.size wz V → Box2 wz.heap.size V p8 (.slice none 0 0) (.slice none 0 0) → wpx 10 #[true, true, false, true, false, false, false, false, false, true, false, false, false, false] (fr0.put (some 13) (.pointer (some ⟨p8, 0, none⟩))) V := by
            as_aux_lemma =>
              intro p8 V N Y8
              refine Eq.mpr (hwp _ _ _ _) ?_
              rw [ha0]
              try simp only [Act.put, List.setIfInBounds_toArray, List.set_cons_zero, List.set_cons_succ]
              refine wpAnyH_ready (rs := [2, 10]) (by kernel_rfl) (by simp) (AllReadyH.cons (by simp only [List.getElem?_toArray, List.getElem?_cons_succ, List.getElem?_cons_zero]; exact rfl) (fun K hK => ?_) (AllReadyH.cons (by simp only [List.getElem?_toArray, List.getElem?_cons_succ, List.getElem?_cons_zero]; exact rfl) (fun K hK => ?_) AllReadyH.nil))
              · go_simp
                refine (toLog_any F L X E _).mono ?_
                rintro e V1 ⟨rfl, hb⟩
                replace Y8 := Y8.below hb
                replace N := N.trans (hb.mono N.size)
                refine hK.out _ _ N (fun hHeld => ?_)
                clear hK K hHeld
                try simp only [List.setIfInBounds_toArray, List.set_cons_zero, List.set_cons_succ]
                clear hb
                refine Eq.mp (hwp _ _ _ _) ?_
                exact met2 (H1_p8 p8 _ N Y8) (by kernel_rfl) (by rw [ha0]; simp only [Act.put, List.setIfInBounds_toArray, List.set_cons_zero, List.set_cons_succ])
              · go_simp
                have Y9 := Box4.new V (lo := wz.heap.size) N.size (.int .i64 0) (.int .i64 0) (.int .i64 0) (.int .i64 0) 32
                have hb := below1 V (.cells #[.int .i64 0, .int .i64 0, .int .i64 0, .int .i64 0] 32)
                have g_p8 := Nat.ne_of_lt Y8.lt
                replace Y8 := Y8.below hb
                replace N := N.trans (hb.mono N.size)
                refine hK.out _ _ N (fun hHeld => ?_)
                clear hK K hHeld
                try simp only [List.setIfInBounds_toArray, List.set_cons_zero, List.set_cons_succ]
                clear hb
                refine Eq.mp (hwp _ _ _ _) ?_
                exact met2 (H0_p8_p9 p8 V.heap.size _ N Y8 Y9 g_p8) (by kernel_rfl) (by rw [ha0]; simp only [Act.put, List.setIfInBounds_toArray, List.set_cons_zero, List.set_cons_succ])
          have H0_p9 : ∀ (p9 : Nat) (V : World), Below wz.heap.size wz V → Box4 wz.heap.size V p9 (.int .i64 0) (.int .i64 0) (.int .i64 0) (.int .i64 0) → wpx 10 #[true, true, false, true, false, false, false, false, false, false, true, false, false, false] (fr0.put (some 14) (.pointer (some ⟨p9, 0, none⟩))) V := by
            as_aux_lemma =>
              intro p9 V N Y9
              refine Eq.mpr (hwp _ _ _ _) ?_
              rw [ha0]
              try simp only [Act.put, List.setIfInBounds_toArray, List.set_cons_zero, List.set_cons_succ]
              refine wpAnyH_ready (rs := [2, 9]) (by kernel_rfl) (by simp) (AllReadyH.cons (by simp only [List.getElem?_toArray, List.getElem?_cons_succ, List.getElem?_cons_zero]; exact rfl) (fun K hK => ?_) (AllReadyH.cons (by simp only [List.getElem?_toArray, List.getElem?_cons_succ, List.getElem?_cons_zero]; exact rfl) (fun K hK => ?_) AllReadyH.nil))
              · go_simp
                refine (toLog_any F L X E _).mono ?_
                rintro e V1 ⟨rfl, hb⟩
                replace Y9 := Y9.below hb
                replace N := N.trans (hb.mono N.size)
                refine hK.out _ _ N (fun hHeld => ?_)
                clear hK K hHeld
                try simp only [List.setIfInBounds_toArray, List.set_cons_zero, List.set_cons_succ]
                clear hb
                refine Eq.mp (hwp _ _ _ _) ?_
                exact met2 (H1_p9 p9 _ N Y9) (by kernel_rfl) (by rw [ha0]; simp only [Act.put, List.setIfInBounds_toArray, List.set_cons_zero, List.set_cons_succ])
              · go_simp
                have Y8 := Box2.new V (lo := wz.heap.size) N.size (.slice none 0 0) (.slice none 0 0) 31
                have hb := below1 V (.cells #[.slice none 0 0, .slice none 0 0] 31)
                have g_p9 := Nat.ne_of_lt Y9.lt
                replace Y9 := Y9.below hb
                replace N := N.trans (hb.mono N.size)
                refine hK.out _ _ N (fun hHeld => ?_)
                clear hK K hHeld
                try simp only [List.setIfInBounds_toArray, List.set_cons_zero, List.set_cons_succ]
                clear hb
                refine Eq.mp (hwp _ _ _ _) ?_
                exact met2 (H0_p8_p9 V.heap.size p9 _ N Y8 Y9 g_p9.symm) (by kernel_rfl) (by rw [ha0]; simp only [Act.put, List.setIfInBounds_toArray, List.set_cons_zero, List.set_cons_succ])
          have H0 : ∀ (V : World), Below wz.heap.size wz V → wpx 11 #[true, true, false, true, false, false, false, false, false, false, false, false, false, false] fr0 V := by
            as_aux_lemma =>
              intro V N
              refine Eq.mpr (hwp _ _ _ _) ?_
              rw [ha0]
              try simp only [Act.put, List.setIfInBounds_toArray, List.set_cons_zero, List.set_cons_succ]
              refine wpAnyH_ready (rs := [2, 9, 10]) (by kernel_rfl) (by simp) (AllReadyH.cons (by simp only [List.getElem?_toArray, List.getElem?_cons_succ, List.getElem?_cons_zero]; exact rfl) (fun K hK => ?_) (AllReadyH.cons (by simp only [List.getElem?_toArray, List.getElem?_cons_succ, List.getElem?_cons_zero]; exact rfl) (fun K hK => ?_) (AllReadyH.cons (by simp only [List.getElem?_toArray, List.getElem?_cons_succ, List.getElem?_cons_zero]; exact rfl) (fun K hK => ?_) AllReadyH.nil)))
              · go_simp
                refine (toLog_any F L X E _).mono ?_
                rintro e V1 ⟨rfl, hb⟩
                replace N := N.trans (hb.mono N.size)
                refine hK.out _ _ N (fun hHeld => ?_)
                clear hK K hHeld
                try simp only [List.setIfInBounds_toArray, List.set_cons_zero, List.set_cons_succ]
                clear hb
                refine Eq.mp (hwp _ _ _ _) ?_
                exact met2 (H1 _ N) (by kernel_rfl) (by rw [ha0]; simp only [Act.put, List.setIfInBounds_toArray, List.set_cons_zero, List.set_cons_succ])
              · go_simp
                have Y8 := Box2.new V (lo := wz.heap.size) N.size (.slice none 0 0) (.slice none 0 0) 31
                have hb := below1 V (.cells #[.slice none 0 0, .slice none 0 0] 31)
                replace N := N.trans (hb.mono N.size)
                refine hK.out _ _ N (fun hHeld => ?_)
                clear hK K hHeld
                try simp only [List.setIfInBounds_toArray, List.set_cons_zero, List.set_cons_succ]
                clear hb
                refine Eq.mp (hwp _ _ _ _) ?_
                exact met2 (H0_p8 V.heap.size _ N Y8) (by kernel_rfl) (by rw [ha0]; simp only [Act.put, List.setIfInBounds_toArray, List.set_cons_zero, List.set_cons_succ])
              · go_simp
                have Y9 := Box4.new V (lo := wz.heap.size) N.size (.int .i64 0) (.int .i64 0) (.int .i64 0) (.int .i64 0) 32
                have hb := below1 V (.cells #[.int .i64 0, .int .i64 0, .int .i64 0, .int .i64 0] 32)
                replace N := N.trans (hb.mono N.size)
                refine hK.out _ _ N (fun hHeld => ?_)
                clear hK K hHeld
                try simp only [List.setIfInBounds_toArray, List.set_cons_zero, List.set_cons_succ]
                clear hb
                refine Eq.mp (hwp _ _ _ _) ?_
                exact met2 (H0_p9 V.heap.size _ N Y9) (by kernel_rfl) (by rw [ha0]; simp only [Act.put, List.setIfInBounds_toArray, List.set_cons_zero, List.set_cons_succ])
          intro ww0 N
          exact met2 (H0 ww0 N) (by kernel_rfl) rfl
      rename World => W10
      obtain ⟨p2, q2, a5, c5, b5, d5, vs5, bs5, qs5, n5, r5, rfl, rfl, rfl, O10⟩ := hcut
      obtain ⟨e1, e2, e3, e4⟩ := SR.out.one O10.res
      subst e1 e2 e3 e4
      have Dg := O10.dk
      have X2 := O10.b8
      have Z2 := O10.b9
      have N2 := O10.n8
      have hp2 := X2.lo
      have hq2 := Z2.lo
      replace V := V.below O10.bel
      replace VG := VG.below O10.bel
      replace Y0 := Y0.below O10.bel
      replace Z0 := Z0.below O10.bel
      replace X1 := X1.below O10.bel
      replace D0 := D0.below O10.bel
      replace Dx := Dx.below O10.bel
      replace Ry := Ry.below O10.bel
      replace B := B.trans (O10.bel.mono B.size)
      have s10 : wz.heap.size ≤ W10.heap.size := O10.bel.size
      clear O10
      have hrn : (rt != rt) = false := by simp
      obtain ⟨x0a, x0b, _, _⟩ := id Y0
      obtain ⟨x2a, x2b, _, _⟩ := id X2
      obtain ⟨l0a, l0b, l0c, l0d, _, _⟩ := id Z0
      obtain ⟨l2a, l2b, l2c, l2d, _, _⟩ := id Z2
      go_wp2_with fail
      refine (eqDiskN (some a5) b5 (some a0) b0 c5 d5 c0 d0 vs5 vs0 bt qt _ LB.out Dg D0).mono ?_
      rintro e w5 ⟨rfl, hb⟩
      replace V := V.below hb
      replace VG := VG.below hb
      replace Y0 := Y0.below hb
      replace Z0 := Z0.below hb
      replace X1 := X1.below hb
      replace X2 := X2.below hb
      replace Z2 := Z2.below hb
      replace D0 := D0.below hb
      replace Dx := Dx.below hb
      replace Dg := Dg.below hb
      replace Ry := Ry.below hb
      replace B := B.trans (hb.mono B.size)
      clear hb x0a x0b x2a x2b l0a l0b l0c l0d l2a l2b l2c l2d
      obtain ⟨l0a, l0b, l0c, l0d, _, _⟩ := id Z0
      obtain ⟨l2a, l2b, l2c, l2d, _, _⟩ := id Z2
      go_wp2_with fail
      refine (eqLog_any F L nt E _).mono ?_
      rintro e w6 ⟨rfl, hb⟩
      replace V := V.below hb
      replace VG := VG.below hb
      replace Y0 := Y0.below hb
      replace Z0 := Z0.below hb
      replace X1 := X1.below hb
      replace X2 := X2.below hb
      replace Z2 := Z2.below hb
      replace D0 := D0.below hb
      replace Dx := Dx.below hb
      replace Dg := Dg.below hb
      replace Ry := Ry.below hb
      replace B := B.trans (hb.mono B.size)
      clear hb l0a l0b l0c l0d l2a l2b l2c l2d
      go_wp2_with fail
      have k0 : w6.cell? ⟨w.heap.size, 0, none⟩ = some (.slice a bs.length c) ∧ w6.cell? ⟨w.heap.size, 1, none⟩ = some (.slice a2 qs.length c2) ∧ w6.cell? ⟨p1, 0, none⟩ = some (.slice (some a4) bs.length bs.length) ∧ w6.cell? ⟨p1, 1, none⟩ = some (.slice b4 qs.length qs.length) := ⟨V.c0, V.c1, X1.c0, X1.c1⟩
      have B1 : Below w6.heap.size w6 w6 := Below.refl _ _
      go_region_held3 (fun w' => w'.cell? ⟨w.heap.size, 0, none⟩ = some (.slice a bs.length c) ∧ w'.cell? ⟨w.heap.size, 1, none⟩ = some (.slice a2 qs.length c2) ∧ w'.cell? ⟨p1, 0, none⟩ = some (.slice (some a4) bs.length bs.length) ∧ w'.cell? ⟨p1, 1, none⟩ = some (.slice b4 qs.length qs.length))
        (first | exact k0 | exact ⟨bat B1 k0.1, bat B1 k0.2.1, bat B1 k0.2.2.1, bat B1 k0.2.2.2⟩)
        (first
          | (go_at_call 6; refine (toDisk_any a a2 c c2 bs qs _ (HB.out.below (B.trans (B1.drew.mono B.size))) (HQ.out.below (B.trans (B1.drew.mono B.size))) L1.out L2.out).mono ?_; rintro e w7 ⟨a6, b6, us6, rfl, D6, _, hb⟩; replace B1 := B1.drew.trans (hb.mono B1.drew.size))
          | (go_at_call 10; refine (eqDisk_any (some a4) b4 (some a6) b6 bs.length qs.length bs.length qs.length vs us6 bs qs _ (Dx.below B1) D6).mono ?_; rintro e w8 ⟨rfl, hb⟩; replace B1 := B1.trans (hb.mono B1.size)))
      have hb := B1
      replace V := V.below hb
      replace VG := VG.below hb
      replace Y0 := Y0.below hb
      replace Z0 := Z0.below hb
      replace X1 := X1.below hb
      replace X2 := X2.below hb
      replace Z2 := Z2.below hb
      replace D0 := D0.below hb
      replace Dx := Dx.below hb
      replace Dg := Dg.below hb
      replace Ry := Ry.below hb
      replace B := B.trans (hb.mono B.size)
      clear hb B1 k0
      go_wp2_with fail
      refine (toBytes ay cy rs _ (HY.out.below B) LY.out).mono ?_
      rintro e wu ⟨rfl, Ru, hb⟩
      replace V := V.below hb
      replace VG := VG.below hb
      replace Y0 := Y0.below hb
      replace Z0 := Z0.below hb
      replace X1 := X1.below hb
      replace X2 := X2.below hb
      replace Z2 := Z2.below hb
      replace D0 := D0.below hb
      replace Dx := Dx.below hb
      replace Dg := Dg.below hb
      replace Ry := Ry.below hb
      replace B := B.trans (hb.mono B.size)
      clear hb
      go_wp2_with fail
      refine (eqBy _ _ rs.length rs.length rs _ Ry Ru).mono ?_
      rintro e wv ⟨rfl, hb⟩
      replace V := V.below hb
      replace VG := VG.below hb
      replace Y0 := Y0.below hb
      replace Z0 := Z0.below hb
      replace X1 := X1.below hb
      replace X2 := X2.below hb
      replace Z2 := Z2.below hb
      replace D0 := D0.below hb
      replace Dx := Dx.below hb
      replace Dg := Dg.below hb
      replace Ry := Ry.below hb
      replace B := B.trans (hb.mono B.size)
      clear hb Ru
      have svv : p2 < wv.heap.size ∧ q2 < wv.heap.size := ⟨X2.lt, Z2.lt⟩
      obtain ⟨x1a, x1b, x1f, _⟩ := id X1
      go_wp2_with fail
      refine (markDisk_any (some a4) b4 bs.length qs.length vs bs qs _ Dx M4.out M5.out).mono ?_
      rintro e w9 ⟨rfl, _, K9, hbb⟩
      have hb := hbb W7.heap.size (Nat.le_refl _) (by omega)
      replace D0 := D0.under hb T0
      replace Y0 := Y0.underB hb (by omega)
      replace Z0 := Z0.underP hb (by omega)
      replace V := V.underB hb (by omega)
      replace VG := VG.underP hb (by omega)
      replace X2 := X2.butQ K9 (fun u hu e => by have := TX.out u hu _ e; omega)
      replace Z2 := Z2.butP K9 (fun u hu e => by have := TX.out u hu _ e; omega)
      replace Dg := Dg.butQ K9 (fun u hu k hk => Nat.lt_of_lt_of_le (TX.out u hu k hk) (by omega))
      replace Ry := owns_butQ Ry K9 TX.out
      replace B := B.trans (hb.mono (by omega))
      have s9 := K9.1
      obtain ⟨k8, hk8⟩ : ∃ k, Hid (1 + (bs.length : Int) + (uptoQ qs qs.length : Nat) = k) := ⟨_, rfl⟩
      have k8p : 0 ≤ k8 ∧ k8 ≤ 5000000 := by rw [← hk8.out]; have := M1.out; have := M2.out; omega
      obtain ⟨k8p, k8q⟩ := k8p
      rw [hk8.out]
      clear hb hbb K9 Dx X1 x1a x1b x1f
      go_wp2_with fail
      refine (markBy (base := p1 + 1) _ rs.length k8 rs _ Ry MY.out (by omega) (by omega)).mono ?_
      rintro e wm ⟨rfl, _, Gm⟩
      have hb : Below (p1 + 1) w9 wm := (Below.refl (p1 + 1) w9).grown Gm (by omega) (fun k hk => (World.ownsRow.lt Ry k hk).1)
      replace D0 := D0.under hb ⟨fun k hk => by have := T0.out.1 k hk; omega, fun k hk => by have := T0.out.2.1 k hk; omega, fun u hu k hk => by have := T0.out.2.2 u hu k hk; omega⟩
      replace Y0 := Y0.underB hb (by omega)
      replace Z0 := Z0.underP hb (by omega)
      replace V := V.underB hb (by omega)
      replace VG := VG.underP hb (by omega)
      replace X2 := Box2.grown X2 (show w9.grownBy wm (some (p1 + 1)) from Gm) (by omega)
      replace Z2 := Box4.grownW Z2 (show w9.grownBy wm (some (p1 + 1)) from Gm) (by intro e; injection e with e; omega)
      replace Dg := Dg.kept (show w9.grownBy wm (some (p1 + 1)) from Gm) (fun k hk e => by have := (Dg.lts.1 k hk).1; injection e with e; omega) (fun k hk e => by have := (Dg.lts.2.1 k hk).1; injection e with e; omega) (fun u hu k hk e => by have := (Dg.lts.2.2 u hu k hk).1; injection e with e; omega)
      replace B := B.trans (hb.mono (by omega))
      have sm := Gm.size
      obtain ⟨k7, hk7⟩ : ∃ k, Hid (k8 + (rs.length : Int) = k) := ⟨_, rfl⟩
      have k7p : 0 ≤ k7 := by rw [← hk7.out]; omega
      rw [hk7.out]
      clear hb Gm Ry hk7
      obtain ⟨x0a, x0b, _, _⟩ := id Y0
      obtain ⟨x2a, x2b, _, _⟩ := id X2
      go_wp2_with fail
      refine (eqDiskN (some a5) b5 (some a0) b0 c5 d5 c0 d0 vs5 vs0 bt qt _ LB.out Dg D0).mono ?_
      rintro e wA ⟨rfl, hb⟩
      replace V := V.below hb
      replace VG := VG.below hb
      replace Y0 := Y0.below hb
      replace Z0 := Z0.below hb
      replace X2 := X2.below hb
      replace Z2 := Z2.below hb
      replace D0 := D0.below hb
      replace Dg := Dg.below hb
      replace B := B.trans (hb.mono B.size)
      clear hb x0a x0b x2a x2b
      obtain ⟨l0a, l0b, l0c, l0d, _, _⟩ := id Z0
      obtain ⟨l2a, l2b, l2c, l2d, _, _⟩ := id Z2
      go_wp2_with fail
      refine (eqLog_any F L nt E _).mono ?_
      rintro e wB ⟨rfl, hb⟩
      replace V := V.below hb
      replace VG := VG.below hb
      replace Y0 := Y0.below hb
      replace Z0 := Z0.below hb
      replace X2 := X2.below hb
      replace Z2 := Z2.below hb
      replace D0 := D0.below hb
      replace Dg := Dg.below hb
      replace B := B.trans (hb.mono B.size)
      clear hb l0a l0b l0c l0d l2a l2b l2c l2d Z2
      have sB : wz.heap.size ≤ wB.heap.size := by have := X2.lt; omega
      obtain ⟨x2a, x2b, x2f, _⟩ := id X2
      go_wp2_with fail
      refine (markDiskN (some a5) b5 c5 d5 vs5 bt qt _ LB.out Dg M4.out M3.out).mono ?_
      rintro e wC ⟨rfl, D4, K4, hbb⟩
      have hb := hbb wz.heap.size (Nat.le_refl _) (by omega)
      replace D0 := D0.under hb ⟨fun k hk => by have := T0.out.1 k hk; omega, fun k hk => by have := T0.out.2.1 k hk; omega, fun u hu k hk => by have := T0.out.2.2 u hu k hk; omega⟩
      replace Y0 := Y0.underB hb (by omega)
      replace Z0 := Z0.underP hb (by omega)
      replace V := V.underB hb (by omega)
      replace VG := VG.underP hb (by omega)
      replace X2 := X2.butQ K4 N2.out
      replace B := B.trans (hb.mono (by omega))
      have D5 : Hid (DkR wz.heap.size wC (.slice (some a5) bs.length c5) (.slice b5 qt.length d5) vs5 (mkY 1 bs.length) (mkQs (1 + (bs.length : Int)) qt qt.length)) := D4
      obtain ⟨k9, hk9⟩ : ∃ k, Hid (1 + (bs.length : Int) + (uptoQ qt qt.length : Nat) = k) := ⟨_, rfl⟩
      have kp : 0 ≤ k9 := by rw [← hk9.out]; omega
      have hk9n : (k9 != k9) = false := by simp
      rw [hk9.out]
      clear hb hbb K4 D4 Dg x2a x2b x2f
      obtain ⟨x2a, x2b, x2f, _⟩ := id X2
      go_wp2_with fail
      refine (heldDiskN (some a5) b5 c5 d5 vs5 bt qt _ LB.out D5.out M4.out M3.out).mono ?_
      rintro e wD ⟨rfl, hb⟩
      rw [hk9.out]
      replace V := V.below hb
      replace VG := VG.below hb
      replace Y0 := Y0.below hb
      replace Z0 := Z0.below hb
      replace X2 := X2.below hb
      replace D0 := D0.below hb
      replace B := B.trans (hb.mono B.size)
      have D6 : Hid (DkR wz.heap.size wD (.slice (some a5) bs.length c5) (.slice b5 qt.length d5) vs5 (mkY 1 bs.length) (mkQs (1 + (bs.length : Int)) qt qt.length)) := D5.out.below hb
      clear hb D5 x2a x2b x2f
      go_wp2_with fail
      go_cut [19, 20, 21] (fun s19 s20 s21 W => ∃ (p8 p9 : Nat) (a0 : Addr) (c0 : Nat) (b0 : Option Addr) (d0 : Nat) (vs0 : List Value) (bs' : List Int) (qs' : List Wr) (n' : Int) (r : Bool), s19 = .pointer (some ⟨p8, 0, none⟩) ∧ s20 = .pointer (some ⟨p9, 0, none⟩) ∧ s21 = .bool r ∧ LaOut wD W p8 p9 a0 c0 b0 d0 vs0 bs qs F L X E rs bs' qs' n' r)
      case first =>
        as_aux_lemma =>
          rename_i hcJ hcK
          clear SR M3 LB D0 Y0 Z0 T0 D6 X2 hk9 hk8 N2 TX
          have N : Below wD.heap.size wD wD.drew := (Below.refl _ _).drew
          refine wp_region_held_drew (S := fun w' => Below wD.heap.size wD w') (by kernel_rfl) N (fun hHeld => ?_)
          clear hHeld
          generalize wD.drew = ww0 at *
          refine takeW (i := 0) (by simp only [List.getElem?_toArray, List.getElem?_cons_zero]; exact rfl) (by kernel_rfl) (by kernel_rfl) (by kernel_rfl) (by exact fun _ _ _ h => h) (by rfl) (by intro wq hSw; have y0 := bat hSw V.c0; have y1 := bat hSw V.c1; have l0 := bat hSw VG.c0; have l1 := bat hSw VG.c1; have l2 := bat hSw VG.c2; have l3 := bat hSw VG.c3; go_simp <;> with_reducible rfl) (by assumption) ?_
          try simp only [Act.put, List.setIfInBounds_toArray, List.set_cons_zero, List.set_cons_succ]
          refine takeW (i := 2) (by simp only [List.getElem?_toArray, List.getElem?_cons_succ, List.getElem?_cons_zero]; exact rfl) (by kernel_rfl) (by kernel_rfl) (by kernel_rfl) (by exact fun _ _ _ h => h) (by rfl) (by intro wq hSw; have y0 := bat hSw V.c0; have y1 := bat hSw V.c1; have l0 := bat hSw VG.c0; have l1 := bat hSw VG.c1; have l2 := bat hSw VG.c2; have l3 := bat hSw VG.c3; go_simp <;> with_reducible rfl) (by assumption) ?_
          try simp only [Act.put, List.setIfInBounds_toArray, List.set_cons_zero, List.set_cons_succ]
          refine takeW (i := 4) (by simp only [List.getElem?_toArray, List.getElem?_cons_succ, List.getElem?_cons_zero]; exact rfl) (by kernel_rfl) (by kernel_rfl) (by kernel_rfl) (by exact fun _ _ _ h => h) (by rfl) (by intro wq hSw; go_simp <;> with_reducible rfl) (by assumption) ?_
          try simp only [Act.put, List.setIfInBounds_toArray, List.set_cons_zero, List.set_cons_succ]
          refine capture2 (fun wpx fr0 ha0 hwp => ?_)
          revert N
          revert ww0
          have H4_p8_p9 : ∀ (a3 : Addr) (b3 : Option Addr) (us : List Value) (y : Nat) (a0 : Addr) (c0 : Nat) (b0 : Option Addr) (d0 : Nat) (vs3 : List Value) (bs' : List Int) (qs' : List Wr) (n' : Int) (r : Bool) (p8 : Nat) (p9 : Nat) (V : World), Below wD.heap.size wD V → Hid (LaRes bs qs F L X E rs bs' qs' n' r) → DkR wD.heap.size V (.slice (some a0) bs.length c0) (.slice b0 qs'.length d0) vs3 bs' qs' → Box2 wD.heap.size V p8 (.slice none 0 0) (.slice none 0 0) → Box4 wD.heap.size V p9 (.int .i64 0) (.int .i64 0) (.int .i64 0) (.int .i64 0) → p8 ≠ p9 → Hid (∀ u ∈ ((Value.slice (some a0) bs.length c0) :: (Value.slice b0 qs'.length d0) :: vs3), u.ownBlock ≠ some p8) → Hid (∀ u ∈ ((Value.slice (some a0) bs.length c0) :: (Value.slice b0 qs'.length d0) :: vs3), u.ownBlock ≠ some p9) → wpx 3 #[true, true, true, true, true, true, true, true, true, true, true, true, true, false, false, false] ((((((((((fr0.put (some 117) (.agg #[.slice (some a3) bs.length bs.length, .slice b3 qs.length qs.length])).put (some 119) (.agg #[.int .i64 F, .int .i64 L, .int .i64 X, .int .i64 E])).put (some 121) (.slice (some ⟨y, 0, none⟩) rs.length rs.length)).put (some 122) (.tuple #[(.agg #[.slice (some a0) bs.length c0, .slice b0 qs'.length d0]), (.agg #[.int .i64 F, .int .i64 L, .int .i64 n', .int .i64 E]), .bool r])).put (some 115) (.tuple #[(.agg #[.slice (some a0) bs.length c0, .slice b0 qs'.length d0]), (.agg #[.int .i64 F, .int .i64 L, .int .i64 n', .int .i64 E]), .bool r])).put (some 123) (.agg #[.slice (some a0) bs.length c0, .slice b0 qs'.length d0])).put (some 124) (.agg #[.int .i64 F, .int .i64 L, .int .i64 n', .int .i64 E])).put (some 125) (.bool r)).put (some 19) (.pointer (some ⟨p8, 0, none⟩))).put (some 20) (.pointer (some ⟨p9, 0, none⟩))) V := by
            as_aux_lemma =>
              intro a3 b3 us y a0 c0 b0 d0 vs3 bs' qs' n' r p8 p9 V N SR D0 Y8 Y9 ne_p8_p9 n_p8 n_p9
              refine Eq.mpr (hwp _ _ _ _) ?_
              rw [ha0]
              try simp only [Act.put, List.setIfInBounds_toArray, List.set_cons_zero, List.set_cons_succ]
              refine wpAnyH_ready (rs := [13]) (by kernel_rfl) (by simp) (AllReadyH.cons (by simp only [List.getElem?_toArray, List.getElem?_cons_succ, List.getElem?_cons_zero]; exact rfl) (fun K hK => ?_) AllReadyH.nil)
              obtain ⟨q0, q1, qf, _⟩ := id Y8
              go_simp
              have gq := grownBy_setCell (grownBy_setCell (grownBy_refl V (some p8)) (p := ⟨p8, 0, none⟩) rfl (.slice (some a0) bs.length c0)) (p := ⟨p8, 1, none⟩) rfl (.slice b0 qs'.length d0)
              have N2 := ((N.setCell (p := ⟨p8, 0, none⟩) Y8.lo (.slice (some a0) bs.length c0)).setCell (p := ⟨p8, 1, none⟩) Y8.lo (.slice b0 qs'.length d0))
              replace Y8 := Y8.put (.slice (some a0) bs.length c0) (.slice b0 qs'.length d0)
              replace Y9 := Y9.grownW gq (by intro e; injection e with e; omega)
              replace D0 := D0.kept gq (fun k hk e => by injection e with e; subst e; exact n_p8.out _ (List.mem_cons_self ..) hk) (fun k hk e => by injection e with e; subst e; exact n_p8.out _ (List.mem_cons_of_mem _ (List.mem_cons_self ..)) hk) (fun u hu k hk e => by injection e with e; subst e; exact n_p8.out u (List.mem_cons_of_mem _ (List.mem_cons_of_mem _ hu)) hk)
              replace N := N2
              refine hK.out _ _ N (fun hHeld => ?_)
              clear hK K hHeld
              try simp only [List.setIfInBounds_toArray, List.set_cons_zero, List.set_cons_succ]
              clear gq N2 q0 q1 qf
              generalize ((V.setCell ⟨p8, 0, none⟩ (.slice (some a0) bs.length c0)).setCell ⟨p8, 1, none⟩ (.slice b0 qs'.length d0)) = Vs0 at *
              refine wpAnyH_ready (rs := [14]) (by kernel_rfl) (by simp) (AllReadyH.cons (by simp only [List.getElem?_toArray, List.getElem?_cons_succ, List.getElem?_cons_zero]; exact rfl) (fun K hK => ?_) AllReadyH.nil)
              obtain ⟨q0, q1, q2, q3, qf, _⟩ := id Y9
              go_simp
              have gq := grownBy_setCell (grownBy_setCell (grownBy_setCell (grownBy_setCell (grownBy_refl Vs0 (some p9)) (p := ⟨p9, 0, none⟩) rfl (.int .i64 F)) (p := ⟨p9, 1, none⟩) rfl (.int .i64 L)) (p := ⟨p9, 2, none⟩) rfl (.int .i64 n')) (p := ⟨p9, 3, none⟩) rfl (.int .i64 E)
              have N2 := ((((N.setCell (p := ⟨p9, 0, none⟩) Y9.lo (.int .i64 F)).setCell (p := ⟨p9, 1, none⟩) Y9.lo (.int .i64 L)).setCell (p := ⟨p9, 2, none⟩) Y9.lo (.int .i64 n')).setCell (p := ⟨p9, 3, none⟩) Y9.lo (.int .i64 E))
              replace Y9 := Y9.put (.int .i64 F) (.int .i64 L) (.int .i64 n') (.int .i64 E)
              replace Y8 := Y8.grownO gq (by intro e; injection e with e; omega)
              replace D0 := D0.kept gq (fun k hk e => by injection e with e; subst e; exact n_p9.out _ (List.mem_cons_self ..) hk) (fun k hk e => by injection e with e; subst e; exact n_p9.out _ (List.mem_cons_of_mem _ (List.mem_cons_self ..)) hk) (fun u hu k hk e => by injection e with e; subst e; exact n_p9.out u (List.mem_cons_of_mem _ (List.mem_cons_of_mem _ hu)) hk)
              replace N := N2
              refine hK.out _ _ N (fun hHeld => ?_)
              clear hK K hHeld
              try simp only [List.setIfInBounds_toArray, List.set_cons_zero, List.set_cons_succ]
              clear gq N2 q0 q1 qf
              generalize ((((Vs0.setCell ⟨p9, 0, none⟩ (.int .i64 F)).setCell ⟨p9, 1, none⟩ (.int .i64 L)).setCell ⟨p9, 2, none⟩ (.int .i64 n')).setCell ⟨p9, 3, none⟩ (.int .i64 E)) = Vs1 at *
              refine takeW (i := 15) (by simp only [List.getElem?_toArray, List.getElem?_cons_succ, List.getElem?_cons_zero]; exact rfl) (by kernel_rfl) (by kernel_rfl) (by kernel_rfl) (by exact fun _ _ _ h => h) (by rfl) (by intro wq hSw; go_simp <;> with_reducible rfl) (by assumption) ?_
              try simp only [Act.put, List.setIfInBounds_toArray, List.set_cons_zero, List.set_cons_succ]
              refine wpAnyH_done (by kernel_rfl) ?_ _
              have OUT : LaOut _ _ p8 p9 a0 c0 b0 d0 vs3 bs qs F L X E rs bs' qs' n' r := ⟨SR.out, D0, Y8, Y9, n_p8, n_p9, N⟩
              clear D0 Y8 Y9 n_p8 n_p9 SR
              refine hcK _ _ (Met.intro (hcJ _ _ ?_))
              (repeat apply Exists.intro)
              refine ⟨?rel, rfl⟩
              case rel => exact ⟨_, _, a0, c0, b0, d0, vs3, bs', qs', n', r, rfl, rfl, rfl, OUT⟩
          have H4_p8 : ∀ (a3 : Addr) (b3 : Option Addr) (us : List Value) (y : Nat) (a0 : Addr) (c0 : Nat) (b0 : Option Addr) (d0 : Nat) (vs3 : List Value) (bs' : List Int) (qs' : List Wr) (n' : Int) (r : Bool) (p8 : Nat) (V : World), Below wD.heap.size wD V → Hid (LaRes bs qs F L X E rs bs' qs' n' r) → DkR wD.heap.size V (.slice (some a0) bs.length c0) (.slice b0 qs'.length d0) vs3 bs' qs' → Box2 wD.heap.size V p8 (.slice none 0 0) (.slice none 0 0) → Hid (∀ u ∈ ((Value.slice (some a0) bs.length c0) :: (Value.slice b0 qs'.length d0) :: vs3), u.ownBlock ≠ some p8) → wpx 4 #[true, true, true, true, true, true, true, true, true, true, true, true, false, false, false, false] (((((((((fr0.put (some 117) (.agg #[.slice (some a3) bs.length bs.length, .slice b3 qs.length qs.length])).put (some 119) (.agg #[.int .i64 F, .int .i64 L, .int .i64 X, .int .i64 E])).put (some 121) (.slice (some ⟨y, 0, none⟩) rs.length rs.length)).put (some 122) (.tuple #[(.agg #[.slice (some a0) bs.length c0, .slice b0 qs'.length d0]), (.agg #[.int .i64 F, .int .i64 L, .int .i64 n', .int .i64 E]), .bool r])).put (some 115) (.tuple #[(.agg #[.slice (some a0) bs.length c0, .slice b0 qs'.length d0]), (.agg #[.int .i64 F, .int .i64 L, .int .i64 n', .int .i64 E]), .bool r])).put (some 123) (.agg #[.slice (some a0) bs.length c0, .slice b0 qs'.length d0])).put (some 124) (.agg #[.int .i64 F, .int .i64 L, .int .i64 n', .int .i64 E])).put (some 125) (.bool r)).put (some 19) (.pointer (some ⟨p8, 0, none⟩))) V := by
            as_aux_lemma =>
              intro a3 b3 us y a0 c0 b0 d0 vs3 bs' qs' n' r p8 V N SR D0 Y8 n_p8
              refine Eq.mpr (hwp _ _ _ _) ?_
              rw [ha0]
              try simp only [Act.put, List.setIfInBounds_toArray, List.set_cons_zero, List.set_cons_succ]
              refine wpAnyH_ready (rs := [12]) (by kernel_rfl) (by simp) (AllReadyH.cons (by simp only [List.getElem?_toArray, List.getElem?_cons_succ, List.getElem?_cons_zero]; exact rfl) (fun K hK => ?_) AllReadyH.nil)
              · go_simp
                have Y9 := Box4.new V (lo := wD.heap.size) N.size (.int .i64 0) (.int .i64 0) (.int .i64 0) (.int .i64 0) 32
                have hb := below1 V (.cells #[.int .i64 0, .int .i64 0, .int .i64 0, .int .i64 0] 32)
                have n_p9 := D0.nots (p := V.heap.size) (.inl (Nat.le_refl _))
                have g_p8 := Nat.ne_of_lt Y8.lt
                replace D0 := D0.below hb
                replace Y8 := Y8.below hb
                replace N := N.trans (hb.mono N.size)
                refine hK.out _ _ N (fun hHeld => ?_)
                clear hK K hHeld
                try simp only [List.setIfInBounds_toArray, List.set_cons_zero, List.set_cons_succ]
                clear hb
                refine Eq.mp (hwp _ _ _ _) ?_
                exact met2 (H4_p8_p9 a3 b3 us y a0 c0 b0 d0 vs3 bs' qs' n' r p8 V.heap.size _ N SR D0 Y8 Y9 g_p8 n_p8 n_p9) (by kernel_rfl) (by rw [ha0]; simp only [Act.put, List.setIfInBounds_toArray, List.set_cons_zero, List.set_cons_succ])
          have H4_p9 : ∀ (a3 : Addr) (b3 : Option Addr) (us : List Value) (y : Nat) (a0 : Addr) (c0 : Nat) (b0 : Option Addr) (d0 : Nat) (vs3 : List Value) (bs' : List Int) (qs' : List Wr) (n' : Int) (r : Bool) (p9 : Nat) (V : World), Below wD.heap.size wD V → Hid (LaRes bs qs F L X E rs bs' qs' n' r) → DkR wD.heap.size V (.slice (some a0) bs.length c0) (.slice b0 qs'.length d0) vs3 bs' qs' → Box4 wD.heap.size V p9 (.int .i64 0) (.int .i64 0) (.int .i64 0) (.int .i64 0) → Hid (∀ u ∈ ((Value.slice (some a0) bs.length c0) :: (Value.slice b0 qs'.length d0) :: vs3), u.ownBlock ≠ some p9) → wpx 4 #[true, true, true, true, true, true, true, true, true, true, true, false, true, false, false, false] (((((((((fr0.put (some 117) (.agg #[.slice (some a3) bs.length bs.length, .slice b3 qs.length qs.length])).put (some 119) (.agg #[.int .i64 F, .int .i64 L, .int .i64 X, .int .i64 E])).put (some 121) (.slice (some ⟨y, 0, none⟩) rs.length rs.length)).put (some 122) (.tuple #[(.agg #[.slice (some a0) bs.length c0, .slice b0 qs'.length d0]), (.agg #[.int .i64 F, .int .i64 L, .int .i64 n', .int .i64 E]), .bool r])).put (some 115) (.tuple #[(.agg #[.slice (some a0) bs.length c0, .slice b0 qs'.length d0]), (.agg #[.int .i64 F, .int .i64 L, .int .i64 n', .int .i64 E]), .bool r])).put (some 123) (.agg #[.slice (some a0) bs.length c0, .slice b0 qs'.length d0])).put (some 124) (.agg #[.int .i64 F, .int .i64 L, .int .i64 n', .int .i64 E])).put (some 125) (.bool r)).put (some 20) (.pointer (some ⟨p9, 0, none⟩))) V := by
            as_aux_lemma =>
              intro a3 b3 us y a0 c0 b0 d0 vs3 bs' qs' n' r p9 V N SR D0 Y9 n_p9
              refine Eq.mpr (hwp _ _ _ _) ?_
              rw [ha0]
              try simp only [Act.put, List.setIfInBounds_toArray, List.set_cons_zero, List.set_cons_succ]
              refine wpAnyH_ready (rs := [11]) (by kernel_rfl) (by simp) (AllReadyH.cons (by simp only [List.getElem?_toArray, List.getElem?_cons_succ, List.getElem?_cons_zero]; exact rfl) (fun K hK => ?_) AllReadyH.nil)
              · go_simp
                have Y8 := Box2.new V (lo := wD.heap.size) N.size (.slice none 0 0) (.slice none 0 0) 31
                have hb := below1 V (.cells #[.slice none 0 0, .slice none 0 0] 31)
                have n_p8 := D0.nots (p := V.heap.size) (.inl (Nat.le_refl _))
                have g_p9 := Nat.ne_of_lt Y9.lt
                replace D0 := D0.below hb
                replace Y9 := Y9.below hb
                replace N := N.trans (hb.mono N.size)
                refine hK.out _ _ N (fun hHeld => ?_)
                clear hK K hHeld
                try simp only [List.setIfInBounds_toArray, List.set_cons_zero, List.set_cons_succ]
                clear hb
                refine Eq.mp (hwp _ _ _ _) ?_
                exact met2 (H4_p8_p9 a3 b3 us y a0 c0 b0 d0 vs3 bs' qs' n' r V.heap.size p9 _ N SR D0 Y8 Y9 g_p9.symm n_p8 n_p9) (by kernel_rfl) (by rw [ha0]; simp only [Act.put, List.setIfInBounds_toArray, List.set_cons_zero, List.set_cons_succ])
          have H4 : ∀ (a3 : Addr) (b3 : Option Addr) (us : List Value) (y : Nat) (a0 : Addr) (c0 : Nat) (b0 : Option Addr) (d0 : Nat) (vs3 : List Value) (bs' : List Int) (qs' : List Wr) (n' : Int) (r : Bool) (V : World), Below wD.heap.size wD V → Hid (LaRes bs qs F L X E rs bs' qs' n' r) → DkR wD.heap.size V (.slice (some a0) bs.length c0) (.slice b0 qs'.length d0) vs3 bs' qs' → wpx 5 #[true, true, true, true, true, true, true, true, true, true, true, false, false, false, false, false] ((((((((fr0.put (some 117) (.agg #[.slice (some a3) bs.length bs.length, .slice b3 qs.length qs.length])).put (some 119) (.agg #[.int .i64 F, .int .i64 L, .int .i64 X, .int .i64 E])).put (some 121) (.slice (some ⟨y, 0, none⟩) rs.length rs.length)).put (some 122) (.tuple #[(.agg #[.slice (some a0) bs.length c0, .slice b0 qs'.length d0]), (.agg #[.int .i64 F, .int .i64 L, .int .i64 n', .int .i64 E]), .bool r])).put (some 115) (.tuple #[(.agg #[.slice (some a0) bs.length c0, .slice b0 qs'.length d0]), (.agg #[.int .i64 F, .int .i64 L, .int .i64 n', .int .i64 E]), .bool r])).put (some 123) (.agg #[.slice (some a0) bs.length c0, .slice b0 qs'.length d0])).put (some 124) (.agg #[.int .i64 F, .int .i64 L, .int .i64 n', .int .i64 E])).put (some 125) (.bool r)) V := by
            as_aux_lemma =>
              intro a3 b3 us y a0 c0 b0 d0 vs3 bs' qs' n' r V N SR D0
              refine Eq.mpr (hwp _ _ _ _) ?_
              rw [ha0]
              try simp only [Act.put, List.setIfInBounds_toArray, List.set_cons_zero, List.set_cons_succ]
              refine wpAnyH_ready (rs := [11, 12]) (by kernel_rfl) (by simp) (AllReadyH.cons (by simp only [List.getElem?_toArray, List.getElem?_cons_succ, List.getElem?_cons_zero]; exact rfl) (fun K hK => ?_) (AllReadyH.cons (by simp only [List.getElem?_toArray, List.getElem?_cons_succ, List.getElem?_cons_zero]; exact rfl) (fun K hK => ?_) AllReadyH.nil))
              · go_simp
                have Y8 := Box2.new V (lo := wD.heap.size) N.size (.slice none 0 0) (.slice none 0 0) 31
                have hb := below1 V (.cells #[.slice none 0 0, .slice none 0 0] 31)
                have n_p8 := D0.nots (p := V.heap.size) (.inl (Nat.le_refl _))
                replace D0 := D0.below hb
                replace N := N.trans (hb.mono N.size)
                refine hK.out _ _ N (fun hHeld => ?_)
                clear hK K hHeld
                try simp only [List.setIfInBounds_toArray, List.set_cons_zero, List.set_cons_succ]
                clear hb
                refine Eq.mp (hwp _ _ _ _) ?_
                exact met2 (H4_p8 a3 b3 us y a0 c0 b0 d0 vs3 bs' qs' n' r V.heap.size _ N SR D0 Y8 n_p8) (by kernel_rfl) (by rw [ha0]; simp only [Act.put, List.setIfInBounds_toArray, List.set_cons_zero, List.set_cons_succ])
              · go_simp
                have Y9 := Box4.new V (lo := wD.heap.size) N.size (.int .i64 0) (.int .i64 0) (.int .i64 0) (.int .i64 0) 32
                have hb := below1 V (.cells #[.int .i64 0, .int .i64 0, .int .i64 0, .int .i64 0] 32)
                have n_p9 := D0.nots (p := V.heap.size) (.inl (Nat.le_refl _))
                replace D0 := D0.below hb
                replace N := N.trans (hb.mono N.size)
                refine hK.out _ _ N (fun hHeld => ?_)
                clear hK K hHeld
                try simp only [List.setIfInBounds_toArray, List.set_cons_zero, List.set_cons_succ]
                clear hb
                refine Eq.mp (hwp _ _ _ _) ?_
                exact met2 (H4_p9 a3 b3 us y a0 c0 b0 d0 vs3 bs' qs' n' r V.heap.size _ N SR D0 Y9 n_p9) (by kernel_rfl) (by rw [ha0]; simp only [Act.put, List.setIfInBounds_toArray, List.set_cons_zero, List.set_cons_succ])
          have H3_p8_p9 : ∀ (a3 : Addr) (b3 : Option Addr) (us : List Value) (y : Nat) (p8 : Nat) (p9 : Nat) (V : World), Below wD.heap.size wD V → DkR 0 V (.slice (some a3) bs.length bs.length) (.slice b3 qs.length qs.length) us bs qs → Hid (SomeV us) → SeesB V (some ⟨y, 0, none⟩) rs.length rs → Box2 wD.heap.size V p8 (.slice none 0 0) (.slice none 0 0) → Box4 wD.heap.size V p9 (.int .i64 0) (.int .i64 0) (.int .i64 0) (.int .i64 0) → p8 ≠ p9 → wpx 8 #[true, true, true, true, true, true, false, false, false, false, false, true, true, false, false, false] (((((fr0.put (some 117) (.agg #[.slice (some a3) bs.length bs.length, .slice b3 qs.length qs.length])).put (some 119) (.agg #[.int .i64 F, .int .i64 L, .int .i64 X, .int .i64 E])).put (some 121) (.slice (some ⟨y, 0, none⟩) rs.length rs.length)).put (some 19) (.pointer (some ⟨p8, 0, none⟩))).put (some 20) (.pointer (some ⟨p9, 0, none⟩))) V := by
            as_aux_lemma =>
              intro a3 b3 us y p8 p9 V N D2 S2 RY Y8 Y9 ne_p8_p9
              refine Eq.mpr (hwp _ _ _ _) ?_
              rw [ha0]
              try simp only [Act.put, List.setIfInBounds_toArray, List.set_cons_zero, List.set_cons_succ]
              refine wpAnyH_ready (rs := [6]) (by kernel_rfl) (by simp) (AllReadyH.cons (by simp only [List.getElem?_toArray, List.getElem?_cons_succ, List.getElem?_cons_zero]; exact rfl) (fun K hK => ?_) AllReadyH.nil)
              · go_simp
                refine (implLogAdd bE a3 b3 bs.length qs.length us bs qs F L X E _ _ _ rs _ D2 S2.out RY LY.out H8.out M1.out M2.out (HE.out.below (B.trans (N.mono B.size)) wp)).mono ?_
                rintro e V1 ⟨⟨a0, c0, b0, d0, vs3, bs', qs', n', r, rfl, SR0, D0, SV3⟩, hb⟩
                have n_p8 := D0.nots (p := p8) (.inr Y8.lt)
                have n_p9 := D0.nots (p := p9) (.inr Y9.lt)
                have SR : Hid (LaRes bs qs F L X E rs bs' qs' n' r) := SR0
                replace D0 := D0.base (lo' := wD.heap.size) N.size
                clear SR0 SV3
                replace D2 := D2.below hb
                replace RY := RY.below hb
                replace Y8 := Y8.below hb
                replace Y9 := Y9.below hb
                replace N := N.trans (hb.mono N.size)
                refine hK.out _ _ N (fun hHeld => ?_)
                clear hK K hHeld
                try simp only [List.setIfInBounds_toArray, List.set_cons_zero, List.set_cons_succ]
                clear hb
                refine takeW (i := 7) (by simp only [List.getElem?_toArray, List.getElem?_cons_succ, List.getElem?_cons_zero]; exact rfl) (by kernel_rfl) (by kernel_rfl) (by kernel_rfl) (by exact fun _ _ _ h => h) (by rfl) (by intro wq hSw; go_simp <;> with_reducible rfl) (by assumption) ?_
                try simp only [Act.put, List.setIfInBounds_toArray, List.set_cons_zero, List.set_cons_succ]
                refine takeW (i := 8) (by simp only [List.getElem?_toArray, List.getElem?_cons_succ, List.getElem?_cons_zero]; exact rfl) (by kernel_rfl) (by kernel_rfl) (by kernel_rfl) (by exact fun _ _ _ h => h) (by rfl) (by intro wq hSw; go_simp <;> with_reducible rfl) (by assumption) ?_
                try simp only [Act.put, List.setIfInBounds_toArray, List.set_cons_zero, List.set_cons_succ]
                refine takeW (i := 9) (by simp only [List.getElem?_toArray, List.getElem?_cons_succ, List.getElem?_cons_zero]; exact rfl) (by kernel_rfl) (by kernel_rfl) (by kernel_rfl) (by exact fun _ _ _ h => h) (by rfl) (by intro wq hSw; go_simp <;> with_reducible rfl) (by assumption) ?_
                try simp only [Act.put, List.setIfInBounds_toArray, List.set_cons_zero, List.set_cons_succ]
                refine takeW (i := 10) (by simp only [List.getElem?_toArray, List.getElem?_cons_succ, List.getElem?_cons_zero]; exact rfl) (by kernel_rfl) (by kernel_rfl) (by kernel_rfl) (by exact fun _ _ _ h => h) (by rfl) (by intro wq hSw; go_simp <;> with_reducible rfl) (by assumption) ?_
                try simp only [Act.put, List.setIfInBounds_toArray, List.set_cons_zero, List.set_cons_succ]
                refine Eq.mp (hwp _ _ _ _) ?_
                exact met2 (H4_p8_p9 a3 b3 us y a0 c0 b0 d0 vs3 bs' qs' n' r p8 p9 _ N SR D0 Y8 Y9 ne_p8_p9 n_p8 n_p9) (by kernel_rfl) (by rw [ha0]; simp only [Act.put, List.setIfInBounds_toArray, List.set_cons_zero, List.set_cons_succ])
          have H3_p8 : ∀ (a3 : Addr) (b3 : Option Addr) (us : List Value) (y : Nat) (p8 : Nat) (V : World), Below wD.heap.size wD V → DkR 0 V (.slice (some a3) bs.length bs.length) (.slice b3 qs.length qs.length) us bs qs → Hid (SomeV us) → SeesB V (some ⟨y, 0, none⟩) rs.length rs → Box2 wD.heap.size V p8 (.slice none 0 0) (.slice none 0 0) → wpx 9 #[true, true, true, true, true, true, false, false, false, false, false, true, false, false, false, false] ((((fr0.put (some 117) (.agg #[.slice (some a3) bs.length bs.length, .slice b3 qs.length qs.length])).put (some 119) (.agg #[.int .i64 F, .int .i64 L, .int .i64 X, .int .i64 E])).put (some 121) (.slice (some ⟨y, 0, none⟩) rs.length rs.length)).put (some 19) (.pointer (some ⟨p8, 0, none⟩))) V := by
            as_aux_lemma =>
              intro a3 b3 us y p8 V N D2 S2 RY Y8
              refine Eq.mpr (hwp _ _ _ _) ?_
              rw [ha0]
              try simp only [Act.put, List.setIfInBounds_toArray, List.set_cons_zero, List.set_cons_succ]
              refine wpAnyH_ready (rs := [6, 12]) (by kernel_rfl) (by simp) (AllReadyH.cons (by simp only [List.getElem?_toArray, List.getElem?_cons_succ, List.getElem?_cons_zero]; exact rfl) (fun K hK => ?_) (AllReadyH.cons (by simp only [List.getElem?_toArray, List.getElem?_cons_succ, List.getElem?_cons_zero]; exact rfl) (fun K hK => ?_) AllReadyH.nil))
              · go_simp
                refine (implLogAdd bE a3 b3 bs.length qs.length us bs qs F L X E _ _ _ rs _ D2 S2.out RY LY.out H8.out M1.out M2.out (HE.out.below (B.trans (N.mono B.size)) wp)).mono ?_
                rintro e V1 ⟨⟨a0, c0, b0, d0, vs3, bs', qs', n', r, rfl, SR0, D0, SV3⟩, hb⟩
                have n_p8 := D0.nots (p := p8) (.inr Y8.lt)
                have SR : Hid (LaRes bs qs F L X E rs bs' qs' n' r) := SR0
                replace D0 := D0.base (lo' := wD.heap.size) N.size
                clear SR0 SV3
                replace D2 := D2.below hb
                replace RY := RY.below hb
                replace Y8 := Y8.below hb
                replace N := N.trans (hb.mono N.size)
                refine hK.out _ _ N (fun hHeld => ?_)
                clear hK K hHeld
                try simp only [List.setIfInBounds_toArray, List.set_cons_zero, List.set_cons_succ]
                clear hb
                refine takeW (i := 7) (by simp only [List.getElem?_toArray, List.getElem?_cons_succ, List.getElem?_cons_zero]; exact rfl) (by kernel_rfl) (by kernel_rfl) (by kernel_rfl) (by exact fun _ _ _ h => h) (by rfl) (by intro wq hSw; go_simp <;> with_reducible rfl) (by assumption) ?_
                try simp only [Act.put, List.setIfInBounds_toArray, List.set_cons_zero, List.set_cons_succ]
                refine takeW (i := 8) (by simp only [List.getElem?_toArray, List.getElem?_cons_succ, List.getElem?_cons_zero]; exact rfl) (by kernel_rfl) (by kernel_rfl) (by kernel_rfl) (by exact fun _ _ _ h => h) (by rfl) (by intro wq hSw; go_simp <;> with_reducible rfl) (by assumption) ?_
                try simp only [Act.put, List.setIfInBounds_toArray, List.set_cons_zero, List.set_cons_succ]
                refine takeW (i := 9) (by simp only [List.getElem?_toArray, List.getElem?_cons_succ, List.getElem?_cons_zero]; exact rfl) (by kernel_rfl) (by kernel_rfl) (by kernel_rfl) (by exact fun _ _ _ h => h) (by rfl) (by intro wq hSw; go_simp <;> with_reducible rfl) (by assumption) ?_
                try simp only [Act.put, List.setIfInBounds_toArray, List.set_cons_zero, List.set_cons_succ]
                refine takeW (i := 10) (by simp only [List.getElem?_toArray, List.getElem?_cons_succ, List.getElem?_cons_zero]; exact rfl) (by kernel_rfl) (by kernel_rfl) (by kernel_rfl) (by exact fun _ _ _ h => h) (by rfl) (by intro wq hSw; go_simp <;> with_reducible rfl) (by assumption) ?_
                try simp only [Act.put, List.setIfInBounds_toArray, List.set_cons_zero, List.set_cons_succ]
                refine Eq.mp (hwp _ _ _ _) ?_
                exact met2 (H4_p8 a3 b3 us y a0 c0 b0 d0 vs3 bs' qs' n' r p8 _ N SR D0 Y8 n_p8) (by kernel_rfl) (by rw [ha0]; simp only [Act.put, List.setIfInBounds_toArray, List.set_cons_zero, List.set_cons_succ])
              · go_simp
                have Y9 := Box4.new V (lo := wD.heap.size) N.size (.int .i64 0) (.int .i64 0) (.int .i64 0) (.int .i64 0) 32
                have hb := below1 V (.cells #[.int .i64 0, .int .i64 0, .int .i64 0, .int .i64 0] 32)
                have g_p8 := Nat.ne_of_lt Y8.lt
                replace D2 := D2.below hb
                replace RY := RY.below hb
                replace Y8 := Y8.below hb
                replace N := N.trans (hb.mono N.size)
                refine hK.out _ _ N (fun hHeld => ?_)
                clear hK K hHeld
                try simp only [List.setIfInBounds_toArray, List.set_cons_zero, List.set_cons_succ]
                clear hb
                refine Eq.mp (hwp _ _ _ _) ?_
                exact met2 (H3_p8_p9 a3 b3 us y p8 V.heap.size _ N D2 S2 RY Y8 Y9 g_p8) (by kernel_rfl) (by rw [ha0]; simp only [Act.put, List.setIfInBounds_toArray, List.set_cons_zero, List.set_cons_succ])
          have H3_p9 : ∀ (a3 : Addr) (b3 : Option Addr) (us : List Value) (y : Nat) (p9 : Nat) (V : World), Below wD.heap.size wD V → DkR 0 V (.slice (some a3) bs.length bs.length) (.slice b3 qs.length qs.length) us bs qs → Hid (SomeV us) → SeesB V (some ⟨y, 0, none⟩) rs.length rs → Box4 wD.heap.size V p9 (.int .i64 0) (.int .i64 0) (.int .i64 0) (.int .i64 0) → wpx 9 #[true, true, true, true, true, true, false, false, false, false, false, false, true, false, false, false] ((((fr0.put (some 117) (.agg #[.slice (some a3) bs.length bs.length, .slice b3 qs.length qs.length])).put (some 119) (.agg #[.int .i64 F, .int .i64 L, .int .i64 X, .int .i64 E])).put (some 121) (.slice (some ⟨y, 0, none⟩) rs.length rs.length)).put (some 20) (.pointer (some ⟨p9, 0, none⟩))) V := by
            as_aux_lemma =>
              intro a3 b3 us y p9 V N D2 S2 RY Y9
              refine Eq.mpr (hwp _ _ _ _) ?_
              rw [ha0]
              try simp only [Act.put, List.setIfInBounds_toArray, List.set_cons_zero, List.set_cons_succ]
              refine wpAnyH_ready (rs := [6, 11]) (by kernel_rfl) (by simp) (AllReadyH.cons (by simp only [List.getElem?_toArray, List.getElem?_cons_succ, List.getElem?_cons_zero]; exact rfl) (fun K hK => ?_) (AllReadyH.cons (by simp only [List.getElem?_toArray, List.getElem?_cons_succ, List.getElem?_cons_zero]; exact rfl) (fun K hK => ?_) AllReadyH.nil))
              · go_simp
                refine (implLogAdd bE a3 b3 bs.length qs.length us bs qs F L X E _ _ _ rs _ D2 S2.out RY LY.out H8.out M1.out M2.out (HE.out.below (B.trans (N.mono B.size)) wp)).mono ?_
                rintro e V1 ⟨⟨a0, c0, b0, d0, vs3, bs', qs', n', r, rfl, SR0, D0, SV3⟩, hb⟩
                have n_p9 := D0.nots (p := p9) (.inr Y9.lt)
                have SR : Hid (LaRes bs qs F L X E rs bs' qs' n' r) := SR0
                replace D0 := D0.base (lo' := wD.heap.size) N.size
                clear SR0 SV3
                replace D2 := D2.below hb
                replace RY := RY.below hb
                replace Y9 := Y9.below hb
                replace N := N.trans (hb.mono N.size)
                refine hK.out _ _ N (fun hHeld => ?_)
                clear hK K hHeld
                try simp only [List.setIfInBounds_toArray, List.set_cons_zero, List.set_cons_succ]
                clear hb
                refine takeW (i := 7) (by simp only [List.getElem?_toArray, List.getElem?_cons_succ, List.getElem?_cons_zero]; exact rfl) (by kernel_rfl) (by kernel_rfl) (by kernel_rfl) (by exact fun _ _ _ h => h) (by rfl) (by intro wq hSw; go_simp <;> with_reducible rfl) (by assumption) ?_
                try simp only [Act.put, List.setIfInBounds_toArray, List.set_cons_zero, List.set_cons_succ]
                refine takeW (i := 8) (by simp only [List.getElem?_toArray, List.getElem?_cons_succ, List.getElem?_cons_zero]; exact rfl) (by kernel_rfl) (by kernel_rfl) (by kernel_rfl) (by exact fun _ _ _ h => h) (by rfl) (by intro wq hSw; go_simp <;> with_reducible rfl) (by assumption) ?_
                try simp only [Act.put, List.setIfInBounds_toArray, List.set_cons_zero, List.set_cons_succ]
                refine takeW (i := 9) (by simp only [List.getElem?_toArray, List.getElem?_cons_succ, List.getElem?_cons_zero]; exact rfl) (by kernel_rfl) (by kernel_rfl) (by kernel_rfl) (by exact fun _ _ _ h => h) (by rfl) (by intro wq hSw; go_simp <;> with_reducible rfl) (by assumption) ?_
                try simp only [Act.put, List.setIfInBounds_toArray, List.set_cons_zero, List.set_cons_succ]
                refine takeW (i := 10) (by simp only [List.getElem?_toArray, List.getElem?_cons_succ, List.getElem?_cons_zero]; exact rfl) (by kernel_rfl) (by kernel_rfl) (by kernel_rfl) (by exact fun _ _ _ h => h) (by rfl) (by intro wq hSw; go_simp <;> with_reducible rfl) (by assumption) ?_
                try simp only [Act.put, List.setIfInBounds_toArray, List.set_cons_zero, List.set_cons_succ]
                refine Eq.mp (hwp _ _ _ _) ?_
                exact met2 (H4_p9 a3 b3 us y a0 c0 b0 d0 vs3 bs' qs' n' r p9 _ N SR D0 Y9 n_p9) (by kernel_rfl) (by rw [ha0]; simp only [Act.put, List.setIfInBounds_toArray, List.set_cons_zero, List.set_cons_succ])
              · go_simp
                have Y8 := Box2.new V (lo := wD.heap.size) N.size (.slice none 0 0) (.slice none 0 0) 31
                have hb := below1 V (.cells #[.slice none 0 0, .slice none 0 0] 31)
                have g_p9 := Nat.ne_of_lt Y9.lt
                replace D2 := D2.below hb
                replace RY := RY.below hb
                replace Y9 := Y9.below hb
                replace N := N.trans (hb.mono N.size)
                refine hK.out _ _ N (fun hHeld => ?_)
                clear hK K hHeld
                try simp only [List.setIfInBounds_toArray, List.set_cons_zero, List.set_cons_succ]
                clear hb
                refine Eq.mp (hwp _ _ _ _) ?_
                exact met2 (H3_p8_p9 a3 b3 us y V.heap.size p9 _ N D2 S2 RY Y8 Y9 g_p9.symm) (by kernel_rfl) (by rw [ha0]; simp only [Act.put, List.setIfInBounds_toArray, List.set_cons_zero, List.set_cons_succ])
          have H3 : ∀ (a3 : Addr) (b3 : Option Addr) (us : List Value) (y : Nat) (V : World), Below wD.heap.size wD V → DkR 0 V (.slice (some a3) bs.length bs.length) (.slice b3 qs.length qs.length) us bs qs → Hid (SomeV us) → SeesB V (some ⟨y, 0, none⟩) rs.length rs → wpx 10 #[true, true, true, true, true, true, false, false, false, false, false, false, false, false, false, false] (((fr0.put (some 117) (.agg #[.slice (some a3) bs.length bs.length, .slice b3 qs.length qs.length])).put (some 119) (.agg #[.int .i64 F, .int .i64 L, .int .i64 X, .int .i64 E])).put (some 121) (.slice (some ⟨y, 0, none⟩) rs.length rs.length)) V := by
            as_aux_lemma =>
              intro a3 b3 us y V N D2 S2 RY
              refine Eq.mpr (hwp _ _ _ _) ?_
              rw [ha0]
              try simp only [Act.put, List.setIfInBounds_toArray, List.set_cons_zero, List.set_cons_succ]
              refine wpAnyH_ready (rs := [6, 11, 12]) (by kernel_rfl) (by simp) (AllReadyH.cons (by simp only [List.getElem?_toArray, List.getElem?_cons_succ, List.getElem?_cons_zero]; exact rfl) (fun K hK => ?_) (AllReadyH.cons (by simp only [List.getElem?_toArray, List.getElem?_cons_succ, List.getElem?_cons_zero]; exact rfl) (fun K hK => ?_) (AllReadyH.cons (by simp only [List.getElem?_toArray, List.getElem?_cons_succ, List.getElem?_cons_zero]; exact rfl) (fun K hK => ?_) AllReadyH.nil)))
              · go_simp
                refine (implLogAdd bE a3 b3 bs.length qs.length us bs qs F L X E _ _ _ rs _ D2 S2.out RY LY.out H8.out M1.out M2.out (HE.out.below (B.trans (N.mono B.size)) wp)).mono ?_
                rintro e V1 ⟨⟨a0, c0, b0, d0, vs3, bs', qs', n', r, rfl, SR0, D0, SV3⟩, hb⟩
                have SR : Hid (LaRes bs qs F L X E rs bs' qs' n' r) := SR0
                replace D0 := D0.base (lo' := wD.heap.size) N.size
                clear SR0 SV3
                replace D2 := D2.below hb
                replace RY := RY.below hb
                replace N := N.trans (hb.mono N.size)
                refine hK.out _ _ N (fun hHeld => ?_)
                clear hK K hHeld
                try simp only [List.setIfInBounds_toArray, List.set_cons_zero, List.set_cons_succ]
                clear hb
                refine takeW (i := 7) (by simp only [List.getElem?_toArray, List.getElem?_cons_succ, List.getElem?_cons_zero]; exact rfl) (by kernel_rfl) (by kernel_rfl) (by kernel_rfl) (by exact fun _ _ _ h => h) (by rfl) (by intro wq hSw; go_simp <;> with_reducible rfl) (by assumption) ?_
                try simp only [Act.put, List.setIfInBounds_toArray, List.set_cons_zero, List.set_cons_succ]
                refine takeW (i := 8) (by simp only [List.getElem?_toArray, List.getElem?_cons_succ, List.getElem?_cons_zero]; exact rfl) (by kernel_rfl) (by kernel_rfl) (by kernel_rfl) (by exact fun _ _ _ h => h) (by rfl) (by intro wq hSw; go_simp <;> with_reducible rfl) (by assumption) ?_
                try simp only [Act.put, List.setIfInBounds_toArray, List.set_cons_zero, List.set_cons_succ]
                refine takeW (i := 9) (by simp only [List.getElem?_toArray, List.getElem?_cons_succ, List.getElem?_cons_zero]; exact rfl) (by kernel_rfl) (by kernel_rfl) (by kernel_rfl) (by exact fun _ _ _ h => h) (by rfl) (by intro wq hSw; go_simp <;> with_reducible rfl) (by assumption) ?_
                try simp only [Act.put, List.setIfInBounds_toArray, List.set_cons_zero, List.set_cons_succ]
                refine takeW (i := 10) (by simp only [List.getElem?_toArray, List.getElem?_cons_succ, List.getElem?_cons_zero]; exact rfl) (by kernel_rfl) (by kernel_rfl) (by kernel_rfl) (by exact fun _ _ _ h => h) (by rfl) (by intro wq hSw; go_simp <;> with_reducible rfl) (by assumption) ?_
                try simp only [Act.put, List.setIfInBounds_toArray, List.set_cons_zero, List.set_cons_succ]
                refine Eq.mp (hwp _ _ _ _) ?_
                exact met2 (H4 a3 b3 us y a0 c0 b0 d0 vs3 bs' qs' n' r _ N SR D0) (by kernel_rfl) (by rw [ha0]; simp only [Act.put, List.setIfInBounds_toArray, List.set_cons_zero, List.set_cons_succ])
              · go_simp
                have Y8 := Box2.new V (lo := wD.heap.size) N.size (.slice none 0 0) (.slice none 0 0) 31
                have hb := below1 V (.cells #[.slice none 0 0, .slice none 0 0] 31)
                replace D2 := D2.below hb
                replace RY := RY.below hb
                replace N := N.trans (hb.mono N.size)
                refine hK.out _ _ N (fun hHeld => ?_)
                clear hK K hHeld
                try simp only [List.setIfInBounds_toArray, List.set_cons_zero, List.set_cons_succ]
                clear hb
                refine Eq.mp (hwp _ _ _ _) ?_
                exact met2 (H3_p8 a3 b3 us y V.heap.size _ N D2 S2 RY Y8) (by kernel_rfl) (by rw [ha0]; simp only [Act.put, List.setIfInBounds_toArray, List.set_cons_zero, List.set_cons_succ])
              · go_simp
                have Y9 := Box4.new V (lo := wD.heap.size) N.size (.int .i64 0) (.int .i64 0) (.int .i64 0) (.int .i64 0) 32
                have hb := below1 V (.cells #[.int .i64 0, .int .i64 0, .int .i64 0, .int .i64 0] 32)
                replace D2 := D2.below hb
                replace RY := RY.below hb
                replace N := N.trans (hb.mono N.size)
                refine hK.out _ _ N (fun hHeld => ?_)
                clear hK K hHeld
                try simp only [List.setIfInBounds_toArray, List.set_cons_zero, List.set_cons_succ]
                clear hb
                refine Eq.mp (hwp _ _ _ _) ?_
                exact met2 (H3_p9 a3 b3 us y V.heap.size _ N D2 S2 RY Y9) (by kernel_rfl) (by rw [ha0]; simp only [Act.put, List.setIfInBounds_toArray, List.set_cons_zero, List.set_cons_succ])
          have H2_p8_p9 : ∀ (a3 : Addr) (b3 : Option Addr) (us : List Value) (p8 : Nat) (p9 : Nat) (V : World), Below wD.heap.size wD V → DkR 0 V (.slice (some a3) bs.length bs.length) (.slice b3 qs.length qs.length) us bs qs → Hid (SomeV us) → Box2 wD.heap.size V p8 (.slice none 0 0) (.slice none 0 0) → Box4 wD.heap.size V p9 (.int .i64 0) (.int .i64 0) (.int .i64 0) (.int .i64 0) → p8 ≠ p9 → wpx 9 #[true, true, true, true, true, false, false, false, false, false, false, true, true, false, false, false] ((((fr0.put (some 117) (.agg #[.slice (some a3) bs.length bs.length, .slice b3 qs.length qs.length])).put (some 119) (.agg #[.int .i64 F, .int .i64 L, .int .i64 X, .int .i64 E])).put (some 19) (.pointer (some ⟨p8, 0, none⟩))).put (some 20) (.pointer (some ⟨p9, 0, none⟩))) V := by
            as_aux_lemma =>
              intro a3 b3 us p8 p9 V N D2 S2 Y8 Y9 ne_p8_p9
              refine Eq.mpr (hwp _ _ _ _) ?_
              rw [ha0]
              try simp only [Act.put, List.setIfInBounds_toArray, List.set_cons_zero, List.set_cons_succ]
              refine wpAnyH_ready (rs := [5]) (by kernel_rfl) (by simp) (AllReadyH.cons (by simp only [List.getElem?_toArray, List.getElem?_cons_succ, List.getElem?_cons_zero]; exact rfl) (fun K hK => ?_) AllReadyH.nil)
              · go_simp
                refine (toBytes ay cy rs _ (HY.out.below (B.trans (N.mono B.size))) LY.out).mono ?_
                rintro e V1 ⟨rfl, RY0, hb⟩
                have RY := RY0.seesB
                clear RY0
                replace D2 := D2.below hb
                replace Y8 := Y8.below hb
                replace Y9 := Y9.below hb
                replace N := N.trans (hb.mono N.size)
                refine hK.out _ _ N (fun hHeld => ?_)
                clear hK K hHeld
                try simp only [List.setIfInBounds_toArray, List.set_cons_zero, List.set_cons_succ]
                clear hb
                refine Eq.mp (hwp _ _ _ _) ?_
                exact met2 (H3_p8_p9 a3 b3 us V.heap.size p8 p9 _ N D2 S2 RY Y8 Y9 ne_p8_p9) (by kernel_rfl) (by rw [ha0]; simp only [Act.put, List.setIfInBounds_toArray, List.set_cons_zero, List.set_cons_succ])
          have H2_p8 : ∀ (a3 : Addr) (b3 : Option Addr) (us : List Value) (p8 : Nat) (V : World), Below wD.heap.size wD V → DkR 0 V (.slice (some a3) bs.length bs.length) (.slice b3 qs.length qs.length) us bs qs → Hid (SomeV us) → Box2 wD.heap.size V p8 (.slice none 0 0) (.slice none 0 0) → wpx 10 #[true, true, true, true, true, false, false, false, false, false, false, true, false, false, false, false] (((fr0.put (some 117) (.agg #[.slice (some a3) bs.length bs.length, .slice b3 qs.length qs.length])).put (some 119) (.agg #[.int .i64 F, .int .i64 L, .int .i64 X, .int .i64 E])).put (some 19) (.pointer (some ⟨p8, 0, none⟩))) V := by
            as_aux_lemma =>
              intro a3 b3 us p8 V N D2 S2 Y8
              refine Eq.mpr (hwp _ _ _ _) ?_
              rw [ha0]
              try simp only [Act.put, List.setIfInBounds_toArray, List.set_cons_zero, List.set_cons_succ]
              refine wpAnyH_ready (rs := [5, 12]) (by kernel_rfl) (by simp) (AllReadyH.cons (by simp only [List.getElem?_toArray, List.getElem?_cons_succ, List.getElem?_cons_zero]; exact rfl) (fun K hK => ?_) (AllReadyH.cons (by simp only [List.getElem?_toArray, List.getElem?_cons_succ, List.getElem?_cons_zero]; exact rfl) (fun K hK => ?_) AllReadyH.nil))
              · go_simp
                refine (toBytes ay cy rs _ (HY.out.below (B.trans (N.mono B.size))) LY.out).mono ?_
                rintro e V1 ⟨rfl, RY0, hb⟩
                have RY := RY0.seesB
                clear RY0
                replace D2 := D2.below hb
                replace Y8 := Y8.below hb
                replace N := N.trans (hb.mono N.size)
                refine hK.out _ _ N (fun hHeld => ?_)
                clear hK K hHeld
                try simp only [List.setIfInBounds_toArray, List.set_cons_zero, List.set_cons_succ]
                clear hb
                refine Eq.mp (hwp _ _ _ _) ?_
                exact met2 (H3_p8 a3 b3 us V.heap.size p8 _ N D2 S2 RY Y8) (by kernel_rfl) (by rw [ha0]; simp only [Act.put, List.setIfInBounds_toArray, List.set_cons_zero, List.set_cons_succ])
              · go_simp
                have Y9 := Box4.new V (lo := wD.heap.size) N.size (.int .i64 0) (.int .i64 0) (.int .i64 0) (.int .i64 0) 32
                have hb := below1 V (.cells #[.int .i64 0, .int .i64 0, .int .i64 0, .int .i64 0] 32)
                have g_p8 := Nat.ne_of_lt Y8.lt
                replace D2 := D2.below hb
                replace Y8 := Y8.below hb
                replace N := N.trans (hb.mono N.size)
                refine hK.out _ _ N (fun hHeld => ?_)
                clear hK K hHeld
                try simp only [List.setIfInBounds_toArray, List.set_cons_zero, List.set_cons_succ]
                clear hb
                refine Eq.mp (hwp _ _ _ _) ?_
                exact met2 (H2_p8_p9 a3 b3 us p8 V.heap.size _ N D2 S2 Y8 Y9 g_p8) (by kernel_rfl) (by rw [ha0]; simp only [Act.put, List.setIfInBounds_toArray, List.set_cons_zero, List.set_cons_succ])
          have H2_p9 : ∀ (a3 : Addr) (b3 : Option Addr) (us : List Value) (p9 : Nat) (V : World), Below wD.heap.size wD V → DkR 0 V (.slice (some a3) bs.length bs.length) (.slice b3 qs.length qs.length) us bs qs → Hid (SomeV us) → Box4 wD.heap.size V p9 (.int .i64 0) (.int .i64 0) (.int .i64 0) (.int .i64 0) → wpx 10 #[true, true, true, true, true, false, false, false, false, false, false, false, true, false, false, false] (((fr0.put (some 117) (.agg #[.slice (some a3) bs.length bs.length, .slice b3 qs.length qs.length])).put (some 119) (.agg #[.int .i64 F, .int .i64 L, .int .i64 X, .int .i64 E])).put (some 20) (.pointer (some ⟨p9, 0, none⟩))) V := by
            as_aux_lemma =>
              intro a3 b3 us p9 V N D2 S2 Y9
              refine Eq.mpr (hwp _ _ _ _) ?_
              rw [ha0]
              try simp only [Act.put, List.setIfInBounds_toArray, List.set_cons_zero, List.set_cons_succ]
              refine wpAnyH_ready (rs := [5, 11]) (by kernel_rfl) (by simp) (AllReadyH.cons (by simp only [List.getElem?_toArray, List.getElem?_cons_succ, List.getElem?_cons_zero]; exact rfl) (fun K hK => ?_) (AllReadyH.cons (by simp only [List.getElem?_toArray, List.getElem?_cons_succ, List.getElem?_cons_zero]; exact rfl) (fun K hK => ?_) AllReadyH.nil))
              · go_simp
                refine (toBytes ay cy rs _ (HY.out.below (B.trans (N.mono B.size))) LY.out).mono ?_
                rintro e V1 ⟨rfl, RY0, hb⟩
                have RY := RY0.seesB
                clear RY0
                replace D2 := D2.below hb
                replace Y9 := Y9.below hb
                replace N := N.trans (hb.mono N.size)
                refine hK.out _ _ N (fun hHeld => ?_)
                clear hK K hHeld
                try simp only [List.setIfInBounds_toArray, List.set_cons_zero, List.set_cons_succ]
                clear hb
                refine Eq.mp (hwp _ _ _ _) ?_
                exact met2 (H3_p9 a3 b3 us V.heap.size p9 _ N D2 S2 RY Y9) (by kernel_rfl) (by rw [ha0]; simp only [Act.put, List.setIfInBounds_toArray, List.set_cons_zero, List.set_cons_succ])
              · go_simp
                have Y8 := Box2.new V (lo := wD.heap.size) N.size (.slice none 0 0) (.slice none 0 0) 31
                have hb := below1 V (.cells #[.slice none 0 0, .slice none 0 0] 31)
                have g_p9 := Nat.ne_of_lt Y9.lt
                replace D2 := D2.below hb
                replace Y9 := Y9.below hb
                replace N := N.trans (hb.mono N.size)
                refine hK.out _ _ N (fun hHeld => ?_)
                clear hK K hHeld
                try simp only [List.setIfInBounds_toArray, List.set_cons_zero, List.set_cons_succ]
                clear hb
                refine Eq.mp (hwp _ _ _ _) ?_
                exact met2 (H2_p8_p9 a3 b3 us V.heap.size p9 _ N D2 S2 Y8 Y9 g_p9.symm) (by kernel_rfl) (by rw [ha0]; simp only [Act.put, List.setIfInBounds_toArray, List.set_cons_zero, List.set_cons_succ])
          have H2 : ∀ (a3 : Addr) (b3 : Option Addr) (us : List Value) (V : World), Below wD.heap.size wD V → DkR 0 V (.slice (some a3) bs.length bs.length) (.slice b3 qs.length qs.length) us bs qs → Hid (SomeV us) → wpx 11 #[true, true, true, true, true, false, false, false, false, false, false, false, false, false, false, false] ((fr0.put (some 117) (.agg #[.slice (some a3) bs.length bs.length, .slice b3 qs.length qs.length])).put (some 119) (.agg #[.int .i64 F, .int .i64 L, .int .i64 X, .int .i64 E])) V := by
            as_aux_lemma =>
              intro a3 b3 us V N D2 S2
              refine Eq.mpr (hwp _ _ _ _) ?_
              rw [ha0]
              try simp only [Act.put, List.setIfInBounds_toArray, List.set_cons_zero, List.set_cons_succ]
              refine wpAnyH_ready (rs := [5, 11, 12]) (by kernel_rfl) (by simp) (AllReadyH.cons (by simp only [List.getElem?_toArray, List.getElem?_cons_succ, List.getElem?_cons_zero]; exact rfl) (fun K hK => ?_) (AllReadyH.cons (by simp only [List.getElem?_toArray, List.getElem?_cons_succ, List.getElem?_cons_zero]; exact rfl) (fun K hK => ?_) (AllReadyH.cons (by simp only [List.getElem?_toArray, List.getElem?_cons_succ, List.getElem?_cons_zero]; exact rfl) (fun K hK => ?_) AllReadyH.nil)))
              · go_simp
                refine (toBytes ay cy rs _ (HY.out.below (B.trans (N.mono B.size))) LY.out).mono ?_
                rintro e V1 ⟨rfl, RY0, hb⟩
                have RY := RY0.seesB
                clear RY0
                replace D2 := D2.below hb
                replace N := N.trans (hb.mono N.size)
                refine hK.out _ _ N (fun hHeld => ?_)
                clear hK K hHeld
                try simp only [List.setIfInBounds_toArray, List.set_cons_zero, List.set_cons_succ]
                clear hb
                refine Eq.mp (hwp _ _ _ _) ?_
                exact met2 (H3 a3 b3 us V.heap.size _ N D2 S2 RY) (by kernel_rfl) (by rw [ha0]; simp only [Act.put, List.setIfInBounds_toArray, List.set_cons_zero, List.set_cons_succ])
              · go_simp
                have Y8 := Box2.new V (lo := wD.heap.size) N.size (.slice none 0 0) (.slice none 0 0) 31
                have hb := below1 V (.cells #[.slice none 0 0, .slice none 0 0] 31)
                replace D2 := D2.below hb
                replace N := N.trans (hb.mono N.size)
                refine hK.out _ _ N (fun hHeld => ?_)
                clear hK K hHeld
                try simp only [List.setIfInBounds_toArray, List.set_cons_zero, List.set_cons_succ]
                clear hb
                refine Eq.mp (hwp _ _ _ _) ?_
                exact met2 (H2_p8 a3 b3 us V.heap.size _ N D2 S2 Y8) (by kernel_rfl) (by rw [ha0]; simp only [Act.put, List.setIfInBounds_toArray, List.set_cons_zero, List.set_cons_succ])
              · go_simp
                have Y9 := Box4.new V (lo := wD.heap.size) N.size (.int .i64 0) (.int .i64 0) (.int .i64 0) (.int .i64 0) 32
                have hb := below1 V (.cells #[.int .i64 0, .int .i64 0, .int .i64 0, .int .i64 0] 32)
                replace D2 := D2.below hb
                replace N := N.trans (hb.mono N.size)
                refine hK.out _ _ N (fun hHeld => ?_)
                clear hK K hHeld
                try simp only [List.setIfInBounds_toArray, List.set_cons_zero, List.set_cons_succ]
                clear hb
                refine Eq.mp (hwp _ _ _ _) ?_
                exact met2 (H2_p9 a3 b3 us V.heap.size _ N D2 S2 Y9) (by kernel_rfl) (by rw [ha0]; simp only [Act.put, List.setIfInBounds_toArray, List.set_cons_zero, List.set_cons_succ])
          have H1_p8_p9 : ∀ (a3 : Addr) (b3 : Option Addr) (us : List Value) (p8 : Nat) (p9 : Nat) (V : World), Below wD.heap.size wD V → DkR 0 V (.slice (some a3) bs.length bs.length) (.slice b3 qs.length qs.length) us bs qs → Hid (SomeV us) → Box2 wD.heap.size V p8 (.slice none 0 0) (.slice none 0 0) → Box4 wD.heap.size V p9 (.int .i64 0) (.int .i64 0) (.int .i64 0) (.int .i64 0) → p8 ≠ p9 → wpx 10 #[true, true, true, false, true, false, false, false, false, false, false, true, true, false, false, false] (((fr0.put (some 117) (.agg #[.slice (some a3) bs.length bs.length, .slice b3 qs.length qs.length])).put (some 19) (.pointer (some ⟨p8, 0, none⟩))).put (some 20) (.pointer (some ⟨p9, 0, none⟩))) V := by
            as_aux_lemma =>
              intro a3 b3 us p8 p9 V N D2 S2 Y8 Y9 ne_p8_p9
              refine Eq.mpr (hwp _ _ _ _) ?_
              rw [ha0]
              try simp only [Act.put, List.setIfInBounds_toArray, List.set_cons_zero, List.set_cons_succ]
              refine wpAnyH_ready (rs := [3]) (by kernel_rfl) (by simp) (AllReadyH.cons (by simp only [List.getElem?_toArray, List.getElem?_cons_succ, List.getElem?_cons_zero]; exact rfl) (fun K hK => ?_) AllReadyH.nil)
              · go_simp
                refine (toLog_any F L X E _).mono ?_
                rintro e V1 ⟨rfl, hb⟩
                replace D2 := D2.below hb
                replace Y8 := Y8.below hb
                replace Y9 := Y9.below hb
                replace N := N.trans (hb.mono N.size)
                refine hK.out _ _ N (fun hHeld => ?_)
                clear hK K hHeld
                try simp only [List.setIfInBounds_toArray, List.set_cons_zero, List.set_cons_succ]
                clear hb
                refine Eq.mp (hwp _ _ _ _) ?_
                exact met2 (H2_p8_p9 a3 b3 us p8 p9 _ N D2 S2 Y8 Y9 ne_p8_p9) (by kernel_rfl) (by rw [ha0]; simp only [Act.put, List.setIfInBounds_toArray, List.set_cons_zero, List.set_cons_succ])
          have H1_p8 : ∀ (a3 : Addr) (b3 : Option Addr) (us : List Value) (p8 : Nat) (V : World), Below wD.heap.size wD V → DkR 0 V (.slice (some a3) bs.length bs.length) (.slice b3 qs.length qs.length) us bs qs → Hid (SomeV us) → Box2 wD.heap.size V p8 (.slice none 0 0) (.slice none 0 0) → wpx 11 #[true, true, true, false, true, false, false, false, false, false, false, true, false, false, false, false] ((fr0.put (some 117) (.agg #[.slice (some a3) bs.length bs.length, .slice b3 qs.length qs.length])).put (some 19) (.pointer (some ⟨p8, 0, none⟩))) V := by
            as_aux_lemma =>
              intro a3 b3 us p8 V N D2 S2 Y8
              refine Eq.mpr (hwp _ _ _ _) ?_
              rw [ha0]
              try simp only [Act.put, List.setIfInBounds_toArray, List.set_cons_zero, List.set_cons_succ]
              refine wpAnyH_ready (rs := [3, 12]) (by kernel_rfl) (by simp) (AllReadyH.cons (by simp only [List.getElem?_toArray, List.getElem?_cons_succ, List.getElem?_cons_zero]; exact rfl) (fun K hK => ?_) (AllReadyH.cons (by simp only [List.getElem?_toArray, List.getElem?_cons_succ, List.getElem?_cons_zero]; exact rfl) (fun K hK => ?_) AllReadyH.nil))
              · go_simp
                refine (toLog_any F L X E _).mono ?_
                rintro e V1 ⟨rfl, hb⟩
                replace D2 := D2.below hb
                replace Y8 := Y8.below hb
                replace N := N.trans (hb.mono N.size)
                refine hK.out _ _ N (fun hHeld => ?_)
                clear hK K hHeld
                try simp only [List.setIfInBounds_toArray, List.set_cons_zero, List.set_cons_succ]
                clear hb
                refine Eq.mp (hwp _ _ _ _) ?_
                exact met2 (H2_p8 a3 b3 us p8 _ N D2 S2 Y8) (by kernel_rfl) (by rw [ha0]; simp only [Act.put, List.setIfInBounds_toArray, List.set_cons_zero, List.set_cons_succ])
              · go_simp
                have Y9 := Box4.new V (lo := wD.heap.size) N.size (.int .i64 0) (.int .i64 0) (.int .i64 0) (.int .i64 0) 32
                have hb := below1 V (.cells #[.int .i64 0, .int .i64 0, .int .i64 0, .int .i64 0] 32)
                have g_p8 := Nat.ne_of_lt Y8.lt
                replace D2 := D2.below hb
                replace Y8 := Y8.below hb
                replace N := N.trans (hb.mono N.size)
                refine hK.out _ _ N (fun hHeld => ?_)
                clear hK K hHeld
                try simp only [List.setIfInBounds_toArray, List.set_cons_zero, List.set_cons_succ]
                clear hb
                refine Eq.mp (hwp _ _ _ _) ?_
                exact met2 (H1_p8_p9 a3 b3 us p8 V.heap.size _ N D2 S2 Y8 Y9 g_p8) (by kernel_rfl) (by rw [ha0]; simp only [Act.put, List.setIfInBounds_toArray, List.set_cons_zero, List.set_cons_succ])
          have H1_p9 : ∀ (a3 : Addr) (b3 : Option Addr) (us : List Value) (p9 : Nat) (V : World), Below wD.heap.size wD V → DkR 0 V (.slice (some a3) bs.length bs.length) (.slice b3 qs.length qs.length) us bs qs → Hid (SomeV us) → Box4 wD.heap.size V p9 (.int .i64 0) (.int .i64 0) (.int .i64 0) (.int .i64 0) → wpx 11 #[true, true, true, false, true, false, false, false, false, false, false, false, true, false, false, false] ((fr0.put (some 117) (.agg #[.slice (some a3) bs.length bs.length, .slice b3 qs.length qs.length])).put (some 20) (.pointer (some ⟨p9, 0, none⟩))) V := by
            as_aux_lemma =>
              intro a3 b3 us p9 V N D2 S2 Y9
              refine Eq.mpr (hwp _ _ _ _) ?_
              rw [ha0]
              try simp only [Act.put, List.setIfInBounds_toArray, List.set_cons_zero, List.set_cons_succ]
              refine wpAnyH_ready (rs := [3, 11]) (by kernel_rfl) (by simp) (AllReadyH.cons (by simp only [List.getElem?_toArray, List.getElem?_cons_succ, List.getElem?_cons_zero]; exact rfl) (fun K hK => ?_) (AllReadyH.cons (by simp only [List.getElem?_toArray, List.getElem?_cons_succ, List.getElem?_cons_zero]; exact rfl) (fun K hK => ?_) AllReadyH.nil))
              · go_simp
                refine (toLog_any F L X E _).mono ?_
                rintro e V1 ⟨rfl, hb⟩
                replace D2 := D2.below hb
                replace Y9 := Y9.below hb
                replace N := N.trans (hb.mono N.size)
                refine hK.out _ _ N (fun hHeld => ?_)
                clear hK K hHeld
                try simp only [List.setIfInBounds_toArray, List.set_cons_zero, List.set_cons_succ]
                clear hb
                refine Eq.mp (hwp _ _ _ _) ?_
                exact met2 (H2_p9 a3 b3 us p9 _ N D2 S2 Y9) (by kernel_rfl) (by rw [ha0]; simp only [Act.put, List.setIfInBounds_toArray, List.set_cons_zero, List.set_cons_succ])
              · go_simp
                have Y8 := Box2.new V (lo := wD.heap.size) N.size (.slice none 0 0) (.slice none 0 0) 31
                have hb := below1 V (.cells #[.slice none 0 0, .slice none 0 0] 31)
                have g_p9 := Nat.ne_of_lt Y9.lt
                replace D2 := D2.below hb
                replace Y9 := Y9.below hb
                replace N := N.trans (hb.mono N.size)
                refine hK.out _ _ N (fun hHeld => ?_)
                clear hK K hHeld
                try simp only [List.setIfInBounds_toArray, List.set_cons_zero, List.set_cons_succ]
                clear hb
                refine Eq.mp (hwp _ _ _ _) ?_
                exact met2 (H1_p8_p9 a3 b3 us V.heap.size p9 _ N D2 S2 Y8 Y9 g_p9.symm) (by kernel_rfl) (by rw [ha0]; simp only [Act.put, List.setIfInBounds_toArray, List.set_cons_zero, List.set_cons_succ])
          have H1 : ∀ (a3 : Addr) (b3 : Option Addr) (us : List Value) (V : World), Below wD.heap.size wD V → DkR 0 V (.slice (some a3) bs.length bs.length) (.slice b3 qs.length qs.length) us bs qs → Hid (SomeV us) → wpx 12 #[true, true, true, false, true, false, false, false, false, false, false, false, false, false, false, false] (fr0.put (some 117) (.agg #[.slice (some a3) bs.length bs.length, .slice b3 qs.length qs.length])) V := by
            as_aux_lemma =>
              intro a3 b3 us V N D2 S2
              refine Eq.mpr (hwp _ _ _ _) ?_
              rw [ha0]
              try simp only [Act.put, List.setIfInBounds_toArray, List.set_cons_zero, List.set_cons_succ]
              refine wpAnyH_ready (rs := [3, 11, 12]) (by kernel_rfl) (by simp) (AllReadyH.cons (by simp only [List.getElem?_toArray, List.getElem?_cons_succ, List.getElem?_cons_zero]; exact rfl) (fun K hK => ?_) (AllReadyH.cons (by simp only [List.getElem?_toArray, List.getElem?_cons_succ, List.getElem?_cons_zero]; exact rfl) (fun K hK => ?_) (AllReadyH.cons (by simp only [List.getElem?_toArray, List.getElem?_cons_succ, List.getElem?_cons_zero]; exact rfl) (fun K hK => ?_) AllReadyH.nil)))
              · go_simp
                refine (toLog_any F L X E _).mono ?_
                rintro e V1 ⟨rfl, hb⟩
                replace D2 := D2.below hb
                replace N := N.trans (hb.mono N.size)
                refine hK.out _ _ N (fun hHeld => ?_)
                clear hK K hHeld
                try simp only [List.setIfInBounds_toArray, List.set_cons_zero, List.set_cons_succ]
                clear hb
                refine Eq.mp (hwp _ _ _ _) ?_
                exact met2 (H2 a3 b3 us _ N D2 S2) (by kernel_rfl) (by rw [ha0]; simp only [Act.put, List.setIfInBounds_toArray, List.set_cons_zero, List.set_cons_succ])
              · go_simp
                have Y8 := Box2.new V (lo := wD.heap.size) N.size (.slice none 0 0) (.slice none 0 0) 31
                have hb := below1 V (.cells #[.slice none 0 0, .slice none 0 0] 31)
                replace D2 := D2.below hb
                replace N := N.trans (hb.mono N.size)
                refine hK.out _ _ N (fun hHeld => ?_)
                clear hK K hHeld
                try simp only [List.setIfInBounds_toArray, List.set_cons_zero, List.set_cons_succ]
                clear hb
                refine Eq.mp (hwp _ _ _ _) ?_
                exact met2 (H1_p8 a3 b3 us V.heap.size _ N D2 S2 Y8) (by kernel_rfl) (by rw [ha0]; simp only [Act.put, List.setIfInBounds_toArray, List.set_cons_zero, List.set_cons_succ])
              · go_simp
                have Y9 := Box4.new V (lo := wD.heap.size) N.size (.int .i64 0) (.int .i64 0) (.int .i64 0) (.int .i64 0) 32
                have hb := below1 V (.cells #[.int .i64 0, .int .i64 0, .int .i64 0, .int .i64 0] 32)
                replace D2 := D2.below hb
                replace N := N.trans (hb.mono N.size)
                refine hK.out _ _ N (fun hHeld => ?_)
                clear hK K hHeld
                try simp only [List.setIfInBounds_toArray, List.set_cons_zero, List.set_cons_succ]
                clear hb
                refine Eq.mp (hwp _ _ _ _) ?_
                exact met2 (H1_p9 a3 b3 us V.heap.size _ N D2 S2 Y9) (by kernel_rfl) (by rw [ha0]; simp only [Act.put, List.setIfInBounds_toArray, List.set_cons_zero, List.set_cons_succ])
          have H0_p8_p9 : ∀ (p8 : Nat) (p9 : Nat) (V : World), Below wD.heap.size wD V → Box2 wD.heap.size V p8 (.slice none 0 0) (.slice none 0 0) → Box4 wD.heap.size V p9 (.int .i64 0) (.int .i64 0) (.int .i64 0) (.int .i64 0) → p8 ≠ p9 → wpx 11 #[true, false, true, false, true, false, false, false, false, false, false, true, true, false, false, false] ((fr0.put (some 19) (.pointer (some ⟨p8, 0, none⟩))).put (some 20) (.pointer (some ⟨p9, 0, none⟩))) V := by
            as_aux_lemma =>
              intro p8 p9 V N Y8 Y9 ne_p8_p9
              refine Eq.mpr (hwp _ _ _ _) ?_
              rw [ha0]
              try simp only [Act.put, List.setIfInBounds_toArray, List.set_cons_zero, List.set_cons_succ]
              refine wpAnyH_ready (rs := [1]) (by kernel_rfl) (by simp) (AllReadyH.cons (by simp only [List.getElem?_toArray, List.getElem?_cons_succ, List.getElem?_cons_zero]; exact rfl) (fun K hK => ?_) AllReadyH.nil)
              · go_simp
                refine (toDisk_any a a2 c c2 bs qs _ (HB.out.below (B.trans (N.mono B.size))) (HQ.out.below (B.trans (N.mono B.size))) L1.out L2.out).mono ?_
                rintro e V1 ⟨a3, b3, us, rfl, D2, S20, hb⟩
                have S2 : Hid (SomeV us) := S20
                replace D2 := D2.base (lo' := 0) (Nat.zero_le _)
                clear S20
                replace Y8 := Y8.below hb
                replace Y9 := Y9.below hb
                replace N := N.trans (hb.mono N.size)
                refine hK.out _ _ N (fun hHeld => ?_)
                clear hK K hHeld
                try simp only [List.setIfInBounds_toArray, List.set_cons_zero, List.set_cons_succ]
                clear hb
                refine Eq.mp (hwp _ _ _ _) ?_
                exact met2 (H1_p8_p9 a3 b3 us p8 p9 _ N D2 S2 Y8 Y9 ne_p8_p9) (by kernel_rfl) (by rw [ha0]; simp only [Act.put, List.setIfInBounds_toArray, List.set_cons_zero, List.set_cons_succ])
          have H0_p8 : ∀ (p8 : Nat) (V : World), Below wD.heap.size wD V → Box2 wD.heap.size V p8 (.slice none 0 0) (.slice none 0 0) → wpx 12 #[true, false, true, false, true, false, false, false, false, false, false, true, false, false, false, false] (fr0.put (some 19) (.pointer (some ⟨p8, 0, none⟩))) V := by
            as_aux_lemma =>
              intro p8 V N Y8
              refine Eq.mpr (hwp _ _ _ _) ?_
              rw [ha0]
              try simp only [Act.put, List.setIfInBounds_toArray, List.set_cons_zero, List.set_cons_succ]
              refine wpAnyH_ready (rs := [1, 12]) (by kernel_rfl) (by simp) (AllReadyH.cons (by simp only [List.getElem?_toArray, List.getElem?_cons_succ, List.getElem?_cons_zero]; exact rfl) (fun K hK => ?_) (AllReadyH.cons (by simp only [List.getElem?_toArray, List.getElem?_cons_succ, List.getElem?_cons_zero]; exact rfl) (fun K hK => ?_) AllReadyH.nil))
              · go_simp
                refine (toDisk_any a a2 c c2 bs qs _ (HB.out.below (B.trans (N.mono B.size))) (HQ.out.below (B.trans (N.mono B.size))) L1.out L2.out).mono ?_
                rintro e V1 ⟨a3, b3, us, rfl, D2, S20, hb⟩
                have S2 : Hid (SomeV us) := S20
                replace D2 := D2.base (lo' := 0) (Nat.zero_le _)
                clear S20
                replace Y8 := Y8.below hb
                replace N := N.trans (hb.mono N.size)
                refine hK.out _ _ N (fun hHeld => ?_)
                clear hK K hHeld
                try simp only [List.setIfInBounds_toArray, List.set_cons_zero, List.set_cons_succ]
                clear hb
                refine Eq.mp (hwp _ _ _ _) ?_
                exact met2 (H1_p8 a3 b3 us p8 _ N D2 S2 Y8) (by kernel_rfl) (by rw [ha0]; simp only [Act.put, List.setIfInBounds_toArray, List.set_cons_zero, List.set_cons_succ])
              · go_simp
                have Y9 := Box4.new V (lo := wD.heap.size) N.size (.int .i64 0) (.int .i64 0) (.int .i64 0) (.int .i64 0) 32
                have hb := below1 V (.cells #[.int .i64 0, .int .i64 0, .int .i64 0, .int .i64 0] 32)
                have g_p8 := Nat.ne_of_lt Y8.lt
                replace Y8 := Y8.below hb
                replace N := N.trans (hb.mono N.size)
                refine hK.out _ _ N (fun hHeld => ?_)
                clear hK K hHeld
                try simp only [List.setIfInBounds_toArray, List.set_cons_zero, List.set_cons_succ]
                clear hb
                refine Eq.mp (hwp _ _ _ _) ?_
                exact met2 (H0_p8_p9 p8 V.heap.size _ N Y8 Y9 g_p8) (by kernel_rfl) (by rw [ha0]; simp only [Act.put, List.setIfInBounds_toArray, List.set_cons_zero, List.set_cons_succ])
          have H0_p9 : ∀ (p9 : Nat) (V : World), Below wD.heap.size wD V → Box4 wD.heap.size V p9 (.int .i64 0) (.int .i64 0) (.int .i64 0) (.int .i64 0) → wpx 12 #[true, false, true, false, true, false, false, false, false, false, false, false, true, false, false, false] (fr0.put (some 20) (.pointer (some ⟨p9, 0, none⟩))) V := by
            as_aux_lemma =>
              intro p9 V N Y9
              refine Eq.mpr (hwp _ _ _ _) ?_
              rw [ha0]
              try simp only [Act.put, List.setIfInBounds_toArray, List.set_cons_zero, List.set_cons_succ]
              refine wpAnyH_ready (rs := [1, 11]) (by kernel_rfl) (by simp) (AllReadyH.cons (by simp only [List.getElem?_toArray, List.getElem?_cons_succ, List.getElem?_cons_zero]; exact rfl) (fun K hK => ?_) (AllReadyH.cons (by simp only [List.getElem?_toArray, List.getElem?_cons_succ, List.getElem?_cons_zero]; exact rfl) (fun K hK => ?_) AllReadyH.nil))
              · go_simp
                refine (toDisk_any a a2 c c2 bs qs _ (HB.out.below (B.trans (N.mono B.size))) (HQ.out.below (B.trans (N.mono B.size))) L1.out L2.out).mono ?_
                rintro e V1 ⟨a3, b3, us, rfl, D2, S20, hb⟩
                have S2 : Hid (SomeV us) := S20
                replace D2 := D2.base (lo' := 0) (Nat.zero_le _)
                clear S20
                replace Y9 := Y9.below hb
                replace N := N.trans (hb.mono N.size)
                refine hK.out _ _ N (fun hHeld => ?_)
                clear hK K hHeld
                try simp only [List.setIfInBounds_toArray, List.set_cons_zero, List.set_cons_succ]
                clear hb
                refine Eq.mp (hwp _ _ _ _) ?_
                exact met2 (H1_p9 a3 b3 us p9 _ N D2 S2 Y9) (by kernel_rfl) (by rw [ha0]; simp only [Act.put, List.setIfInBounds_toArray, List.set_cons_zero, List.set_cons_succ])
              · go_simp
                have Y8 := Box2.new V (lo := wD.heap.size) N.size (.slice none 0 0) (.slice none 0 0) 31
                have hb := below1 V (.cells #[.slice none 0 0, .slice none 0 0] 31)
                have g_p9 := Nat.ne_of_lt Y9.lt
                replace Y9 := Y9.below hb
                replace N := N.trans (hb.mono N.size)
                refine hK.out _ _ N (fun hHeld => ?_)
                clear hK K hHeld
                try simp only [List.setIfInBounds_toArray, List.set_cons_zero, List.set_cons_succ]
                clear hb
                refine Eq.mp (hwp _ _ _ _) ?_
                exact met2 (H0_p8_p9 V.heap.size p9 _ N Y8 Y9 g_p9.symm) (by kernel_rfl) (by rw [ha0]; simp only [Act.put, List.setIfInBounds_toArray, List.set_cons_zero, List.set_cons_succ])
          have H0 : ∀ (V : World), Below wD.heap.size wD V → wpx 13 #[true, false, true, false, true, false, false, false, false, false, false, false, false, false, false, false] fr0 V := by
            as_aux_lemma =>
              intro V N
              refine Eq.mpr (hwp _ _ _ _) ?_
              rw [ha0]
              try simp only [Act.put, List.setIfInBounds_toArray, List.set_cons_zero, List.set_cons_succ]
              refine wpAnyH_ready (rs := [1, 11, 12]) (by kernel_rfl) (by simp) (AllReadyH.cons (by simp only [List.getElem?_toArray, List.getElem?_cons_succ, List.getElem?_cons_zero]; exact rfl) (fun K hK => ?_) (AllReadyH.cons (by simp only [List.getElem?_toArray, List.getElem?_cons_succ, List.getElem?_cons_zero]; exact rfl) (fun K hK => ?_) (AllReadyH.cons (by simp only [List.getElem?_toArray, List.getElem?_cons_succ, List.getElem?_cons_zero]; exact rfl) (fun K hK => ?_) AllReadyH.nil)))
              · go_simp
                refine (toDisk_any a a2 c c2 bs qs _ (HB.out.below (B.trans (N.mono B.size))) (HQ.out.below (B.trans (N.mono B.size))) L1.out L2.out).mono ?_
                rintro e V1 ⟨a3, b3, us, rfl, D2, S20, hb⟩
                have S2 : Hid (SomeV us) := S20
                replace D2 := D2.base (lo' := 0) (Nat.zero_le _)
                clear S20
                replace N := N.trans (hb.mono N.size)
                refine hK.out _ _ N (fun hHeld => ?_)
                clear hK K hHeld
                try simp only [List.setIfInBounds_toArray, List.set_cons_zero, List.set_cons_succ]
                clear hb
                refine Eq.mp (hwp _ _ _ _) ?_
                exact met2 (H1 a3 b3 us _ N D2 S2) (by kernel_rfl) (by rw [ha0]; simp only [Act.put, List.setIfInBounds_toArray, List.set_cons_zero, List.set_cons_succ])
              · go_simp
                have Y8 := Box2.new V (lo := wD.heap.size) N.size (.slice none 0 0) (.slice none 0 0) 31
                have hb := below1 V (.cells #[.slice none 0 0, .slice none 0 0] 31)
                replace N := N.trans (hb.mono N.size)
                refine hK.out _ _ N (fun hHeld => ?_)
                clear hK K hHeld
                try simp only [List.setIfInBounds_toArray, List.set_cons_zero, List.set_cons_succ]
                clear hb
                refine Eq.mp (hwp _ _ _ _) ?_
                exact met2 (H0_p8 V.heap.size _ N Y8) (by kernel_rfl) (by rw [ha0]; simp only [Act.put, List.setIfInBounds_toArray, List.set_cons_zero, List.set_cons_succ])
              · go_simp
                have Y9 := Box4.new V (lo := wD.heap.size) N.size (.int .i64 0) (.int .i64 0) (.int .i64 0) (.int .i64 0) 32
                have hb := below1 V (.cells #[.int .i64 0, .int .i64 0, .int .i64 0, .int .i64 0] 32)
                replace N := N.trans (hb.mono N.size)
                refine hK.out _ _ N (fun hHeld => ?_)
                clear hK K hHeld
                try simp only [List.setIfInBounds_toArray, List.set_cons_zero, List.set_cons_succ]
                clear hb
                refine Eq.mp (hwp _ _ _ _) ?_
                exact met2 (H0_p9 V.heap.size _ N Y9) (by kernel_rfl) (by rw [ha0]; simp only [Act.put, List.setIfInBounds_toArray, List.set_cons_zero, List.set_cons_succ])
          intro ww0 N
          exact met2 (H0 ww0 N) (by kernel_rfl) rfl
      rename World => WE
      obtain ⟨p3, q3, a8, c8, b8, d8, vs8, bs8, qs8, n8, r8, rfl, rfl, rfl, O30⟩ := hcut
      obtain ⟨e1, e2, e3, e4⟩ := SR.out.one O30.res
      subst e1 e2 e3 e4
      have hb := O30.bel
      have Dh := O30.dk
      have X3 := O30.b8
      have Z3 := O30.b9
      replace Y0 := Y0.below hb
      replace Z0 := Z0.below hb
      replace X2 := X2.below hb
      replace D0 := D0.below hb
      have D8 : Hid (DkR wz.heap.size WE (.slice (some a5) bs.length c5) (.slice b5 qt.length d5) vs5 (mkY 1 bs.length) (mkQs (1 + (bs.length : Int)) qt qt.length)) := D6.out.below hb
      replace B := B.trans (hb.mono B.size)
      clear hb D6 O30 V VG
      have hrn2 : (rt != rt) = false := by simp
      obtain ⟨x0a, x0b, _, _⟩ := id Y0
      obtain ⟨x3a, x3b, _, _⟩ := id X3
      go_wp2_with fail
      refine (eqDiskN (some a8) b8 (some a0) b0 c8 d8 c0 d0 vs8 vs0 bt qt _ LB.out Dh D0).mono ?_
      rintro e wF ⟨rfl, hb⟩
      replace Z0 := Z0.below hb
      replace Z3 := Z3.below hb
      replace X2 := X2.below hb
      have D9 : Hid (DkR wz.heap.size wF (.slice (some a5) bs.length c5) (.slice b5 qt.length d5) vs5 (mkY 1 bs.length) (mkQs (1 + (bs.length : Int)) qt qt.length)) := D8.out.below hb
      replace B := B.trans (hb.mono B.size)
      clear hb D8 x0a x0b x3a x3b Y0 X3 Dh D0
      obtain ⟨l0a, l0b, l0c, l0d, _, _⟩ := id Z0
      obtain ⟨l3a, l3b, l3c, l3d, _, _⟩ := id Z3
      go_wp2_with fail
      refine (eqLog_any F L nt E _).mono ?_
      rintro e wG ⟨rfl, hb⟩
      replace X2 := X2.below hb
      have DA : Hid (DkR wz.heap.size wG (.slice (some a5) bs.length c5) (.slice b5 qt.length d5) vs5 (mkY 1 bs.length) (mkQs (1 + (bs.length : Int)) qt qt.length)) := D9.out.below hb
      replace B := B.trans (hb.mono B.size)
      clear hb D9 l0a l0b l0c l0d l3a l3b l3c l3d Z0 Z3
      obtain ⟨x2a, x2b, x2f, _⟩ := id X2
      go_wp2_with fail
      refine (heldDiskN (some a5) b5 c5 d5 vs5 bt qt _ LB.out DA.out M4.out M3.out).mono ?_
      rintro e wH ⟨rfl, hb⟩
      rw [hk9.out]
      replace B := B.trans (hb.mono B.size)
      clear hb DA x2a x2b x2f
      go_wp2
      go_ret
      exact ⟨rfl, B⟩
end Go.Proofs.YtonbmeepfgejmaaGreatDoor
