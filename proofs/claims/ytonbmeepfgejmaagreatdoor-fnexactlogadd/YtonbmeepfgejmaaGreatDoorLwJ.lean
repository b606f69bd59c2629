/- The writes of a record, the program's side. -/
import Derived.Test.YtonbmeepfgejmaaGreatDoorLwI
namespace Go.Proofs.YtonbmeepfgejmaaGreatDoor
open Go.RowKit

set_option maxRecDepth 20000 in
set_option maxHeartbeats 1000000 in
theorem implLogWrites (F L X E : Int) (b off c : Nat) (rs : List Int) (w : World) (h : SeesB w (some ⟨b, off, none⟩) c rs) (hl : rs.length ≤ 1048576) (h8 : ∀ x ∈ rs, 0 ≤ x ∧ x < 256) :
    Calls Tryz.prog 43 #[.agg #[.int .i64 F, .int .i64 L, .int .i64 X, .int .i64 E], .slice (some ⟨b, off, none⟩) rs.length c] w fun e w' => ∃ v vs qs, e = .returned v ∧ LwRes F L X E rs qs ∧ QuX 76 w.heap.size w' v vs qs ∧ Below w.heap.size w w' := by
  obtain ⟨iW, hiW, hW0, hW1, hW2⟩ := info_parts infoW
  have HS : Hid (SeesB w (some ⟨b, off, none⟩) c rs) := h
  have H8 : Hid (∀ x ∈ rs, 0 ≤ x ∧ x < 256) := h8
  obtain ⟨m, hm0⟩ : ∃ m : Nat, Hid (lgMany rs.length = m) := ⟨_, rfl⟩
  have B := below1 w (.cells #[.int .i64 F, .int .i64 L, .int .i64 X, .int .i64 E] 32)
  have V := Box4.new w (lo := w.heap.size) (Nat.le_refl _) (.int .i64 F) (.int .i64 L) (.int .i64 X) (.int .i64 E) 32
  have NO : Hid (¬LwOk F L X E rs.length → LwRes F L X E rs []) := fun q => .inr ⟨q, rfl⟩
  clear h h8
  go_enter Tryz.func43, Tryz.ntmps43
  go_upto_region 1 with fail
  generalize w.alloc (.cells #[.int .i64 F, .int .i64 L, .int .i64 X, .int .i64 E] 32) = W0 at *
  obtain ⟨v0, v1, v2, v3, vf, _⟩ := id V
  go_wp2_with fail
  refine (lies_any F L X E 400 _ (by omega)).mono ?_
  rintro e w1 ⟨r, rfl, hr, hb⟩
  have HR : Hid (r = true ↔ LgIn 400 F L X E) := hr
  replace V := V.below hb
  replace B := B.trans (hb.mono B.size)
  clear hb hr v0 v1 v2 v3 vf
  cases r with
  | false =>
    have NR : Hid (LwRes F L X E rs []) := NO.out (fun q => by have := HR.out.2 q.1; cases this)
    clear NO HR
    have Q0 := QuX.nil 76 w.heap.size w1
    go_wp2
    go_ret
    first | exact ⟨_, [], [], rfl, NR.out, Q0, B⟩ | exact ⟨_, rfl, [], [], NR.out, Q0, B⟩
  | true =>
    have HF : Hid (LgIn 400 F L X E) := HR.out.1 rfl
    obtain ⟨v0, v1, v2, v3, vf, _⟩ := id V
    clear HR
    go_wp2_with fail
    refine (lgTakes_any F L X E (some ⟨b, off, none⟩) rs.length c _ hl ⟨HF.out.1, HF.out.2.1, Int.lt_trans HF.out.2.2.1 (by omega), HF.out.2.2.2⟩).mono ?_
    rintro e w2 ⟨r, rfl, hr, hb⟩
    have HR : Hid (r = true ↔ LgTk F L X rs.length) := hr
    replace V := V.below hb
    replace B := B.trans (hb.mono B.size)
    clear hb hr v0 v1 v2 v3 vf
    cases r with
    | false =>
      have NR : Hid (LwRes F L X E rs []) := NO.out (fun q => by have := HR.out.2 q.2; cases this)
      clear NO HR
      have Q0 := QuX.nil 76 w.heap.size w2
      go_wp2
      go_ret
      first | exact ⟨_, [], [], rfl, NR.out, Q0, B⟩ | exact ⟨_, rfl, [], [], NR.out, Q0, B⟩
    | true =>
      have TK := HR.out.1 rfl
      have hmb : m ≤ 401 := by have := TK.2; rw [hm0.out] at this; obtain ⟨g1, g2, g3, g4, g5, _⟩ := HF.out; omega
      have YR : Hid (LwRes F L X E rs (lgWs F X E rs m)) := .inl ⟨⟨HF.out, TK⟩, by rw [hm0.out]⟩
      clear NO HR TK
      obtain ⟨f1, f2, f3, f4, f5, f6, f7⟩ := HF.out
      have Q0 := QuX.nil 76 (w.heap.size + 1) w2
      go_wp2_with fail
      refine (pieceCount_any (some ⟨b, off, none⟩) rs.length c _ hl).mono ?_
      rintro e w3 ⟨rfl, rfl⟩
      rw [hm0.out]
      go_wp2
      go_loopw [5, 19] (fun s5 s19 wr => ∃ (j : Nat) (vs : List Value), j ≤ m ∧ s19 = .int .i64 j ∧ QuX 76 (w.heap.size + 1) wr s5 vs (lgWs F X E rs j) ∧ Box4 w.heap.size wr w.heap.size (.int .i64 F) (.int .i64 L) (.int .i64 X) (.int .i64 E) ∧ Below w.heap.size w wr) (fun _ s19 _ => m - (intOf s19).toNat)
      case atStart => exact ⟨0, [], Nat.zero_le _, rfl, Q0, V, B⟩
      case round =>
        clear V Q0 B
        obtain ⟨j, vs, hj, rfl, R, V, B⟩ := hrel
        rename World => wr
        by_cases hlt : j < m
        · have hjm : j < lgMany rs.length := by rw [hm0.out]; exact hlt
          have P44 : Hid ((lgP rs j).length ≤ 44) := lgP_len rs j
          have P8 : Hid (∀ x ∈ lgP rs j, 0 ≤ x ∧ x < 256) := lgP_u8 H8.out j
          have WS : Hid (lgWs F X E rs (j + 1) = lgWs F X E rs j ++ [(F + X + (j : Int), lgSec E (X + (j : Int)) (decide (j + 1 < lgMany rs.length)) (lgP rs j))]) := lgWs_step F X E rs j
          have SL : Hid ((lgSec E (X + (j : Int)) (decide (j + 1 < lgMany rs.length)) (lgP rs j)).length = 64) := lgSec_len P44.out
          obtain ⟨mo, hmo⟩ : ∃ mo, Hid (decide (j + 1 < lgMany rs.length) = mo) := ⟨_, rfl⟩
          obtain ⟨mk, hmk⟩ : ∃ mk : Int, Hid ((if mo then 1 else 2) = mk) := ⟨_, rfl⟩
          rw [hmo.out] at WS SL
          obtain ⟨v0, v1, v2, v3, vf, _⟩ := id V
          go_wp2_with fail
          refine (piece_any F L X E b off c j rs _ (HS.out.below B) hl hjm ⟨by omega, by omega⟩).mono ?_
          rintro e w4 ⟨ad, c4, rfl, SP, hb⟩
          rw [hmo.out, hmk.out]
          replace V := V.below hb
          have VL := V.lt
          have R4 := R.below hb
          replace B := B.trans (hb.mono B.size)
          clear hb v0 v1 v2 v3 vf
          go_wp2_with fail
          have SA := sector_any E (X + (j : Int)) mo ad c4 (lgP rs j) _ SP P44.out P8.out (by omega) (by omega) (by omega) (by omega)
          rw [hmk.out] at SA
          refine SA.mono ?_
          clear SA
          rintro e w5 ⟨rfl, hb⟩
          replace V := V.below hb
          replace R4 := R4.below hb
          replace B := B.trans (hb.mono B.size)
          clear hb SP R P44 P8
          generalize hq0 : lgWs F X E rs j = qs0 at *
          generalize lgSec E (X + (j : Int)) mo (lgP rs j) = ds at *
          have hsz : (secA ds).size = 64 := by rw [secA_size]; exact SL.out
          have h1 : (secA ds).all (·.oneCell') = true := by
            rw [Array.all_eq_true_iff_forall_mem]
            intro v hv
            exact ones8 ds v (by simpa [secA] using hv)
          have bn := below1 w5 (.cells nil64 76)
          have g5 := heap_alloc_new w5 (.cells nil64 76)
          have g6 := setRow_heap (w5.alloc (.cells nil64 76)) w5.heap.size nil64 (secA ds) 76 (0, 0) g5
          have gq := grownBy_setRow (w5.alloc (.cells nil64 76)) w5.heap.size (secA ds)
          have L9 := R4.lts
          have VL5 := V.lt
          replace R4 := (R4.below bn).kept gq (fun k hk e => by have := (L9.1 k hk).2; injection e with e; omega) (fun u hu k hk e => by have := (L9.2 u hu k hk).2; injection e with e; omega)
          replace V := (V.below bn).grownW gq (fun e => by injection e with e; omega)
          replace B := (B.trans (bn.mono B.size)).grown gq (Nat.le_trans B.size bn.size) (fun k hk => by injection hk with hk; have := B.size; omega)
          have z6 : ((w5.alloc (.cells nil64 76)).setRow w5.heap.size (secA ds)).heap.size = w5.heap.size + 1 := by simp [World.setRow]
          have R9 : RowE 76 (w.heap.size + 1) ((w5.alloc (.cells nil64 76)).setRow w5.heap.size (secA ds)) (.slice (some ⟨w5.heap.size, 0, none⟩) ds.length ds.length) ds :=
            ⟨by simp, .inr ⟨w5.heap.size, ds.length, secA ds, rfl, by omega, g6, Nat.le_refl _, by rw [SL.out]; unfold maxLen; omega, by rw [Nat.mul_one]; exact secA_size, by rw [Nat.mul_one]; show List.take _ (ds.map _) = _; rw [List.take_of_length_le (by simp)]⟩⟩
          clear bn gq
          go_upto_region 8 with (refine wpList_store_row rfl 76 (.tmp 7) (.tmp 26) rfl w5.heap.size (secA ds) rfl rfl 76 nil64 g5 (by rw [hsz]; exact infoSec) (by rw [hsz]; rfl) h1 ?_)
          simp only [Act.put]
          rw [lit64]
          rw [SL.out] at R9
          clear g5 g6
          generalize (w5.alloc (.cells nil64 76)).setRow w5.heap.size (secA ds) = W6 at *
          generalize hp5 : w5.heap.size = p5 at *
          have hw1 : IntKind.i64.wrap (F + X) = F + X := by rw [IntKind.wrap_i64]; omega
          have hw2 : IntKind.i64.wrap (F + X + (j : Int)) = F + X + j := by rw [IntKind.wrap_i64]; omega
          have bd := ((Below.refl W6.heap.size W6).drew : Below W6.heap.size W6 _)
          have z7 : W6.drew.heap.size = p5 + 1 := z6
          replace V := V.below bd
          replace R4 := R4.below bd
          replace R9 := R9.below bd
          replace B := B.trans (bd.mono B.size)
          refine wp_region_held_drew (S := fun W => Box4 w.heap.size W w.heap.size (.int .i64 F) (.int .i64 L) (.int .i64 X) (.int .i64 E)) (by kernel_rfl) V (fun hHeld => ?_)
          clear hHeld bd z6
          revert z7 V R4 R9 B
          generalize W6.drew = ww0
          intro z7 V R4 R9 B
          refine takeW (i := 0) (by simp only [List.getElem?_toArray, List.getElem?_cons_zero]; exact rfl) (by kernel_rfl) (by kernel_rfl) (by kernel_rfl) (by exact fun _ _ _ h => h) (by rfl) (by intro wq hSw; go_simp <;> with_reducible rfl) (by assumption) ?_
          try simp only [Act.put, List.setIfInBounds_toArray, List.set_cons_zero, List.set_cons_succ]
          refine takeW (i := 1) (by simp only [List.getElem?_toArray, List.getElem?_cons_succ, List.getElem?_cons_zero]; exact rfl) (by kernel_rfl) (by kernel_rfl) (by kernel_rfl) (by exact fun _ _ _ h => h) (by rfl) (by intro wq hSw; go_simp <;> with_reducible rfl) (by assumption) ?_
          try simp only [Act.put, List.setIfInBounds_toArray, List.set_cons_zero, List.set_cons_succ]
          refine takeW (i := 2) (by simp only [List.getElem?_toArray, List.getElem?_cons_succ, List.getElem?_cons_zero]; exact rfl) (by kernel_rfl) (by kernel_rfl) (by kernel_rfl) (by exact fun _ _ _ h => h) (by rfl) (by intro wq hSw; obtain ⟨q0, q1, q2, q3, _, _⟩ := hSw; go_simp <;> with_reducible rfl) (by assumption) ?_
          try simp only [Act.put, List.setIfInBounds_toArray, List.set_cons_zero, List.set_cons_succ]
          refine takeW (i := 3) (by simp only [List.getElem?_toArray, List.getElem?_cons_succ, List.getElem?_cons_zero]; exact rfl) (by kernel_rfl) (by kernel_rfl) (by kernel_rfl) (by exact fun _ _ _ h => h) (by rfl) (by intro wq hSw; go_simp <;> with_reducible rfl) (by assumption) ?_
          try simp only [Act.put, List.setIfInBounds_toArray, List.set_cons_zero, List.set_cons_succ]
          refine takeW (i := 4) (by simp only [List.getElem?_toArray, List.getElem?_cons_succ, List.getElem?_cons_zero]; exact rfl) (by kernel_rfl) (by kernel_rfl) (by kernel_rfl) (by exact fun _ _ _ h => h) (by rfl) (by intro wq hSw; obtain ⟨q0, q1, q2, q3, _, _⟩ := hSw; go_simp <;> with_reducible rfl) (by assumption) ?_
          try simp only [Act.put, List.setIfInBounds_toArray, List.set_cons_zero, List.set_cons_succ]
          refine takeW (i := 5) (by simp only [List.getElem?_toArray, List.getElem?_cons_succ, List.getElem?_cons_zero]; exact rfl) (by kernel_rfl) (by kernel_rfl) (by kernel_rfl) (by exact fun _ _ _ h => h) (by rfl) (by intro wq hSw; go_simp <;> with_reducible rfl) (by assumption) ?_
          try simp only [Act.put, List.setIfInBounds_toArray, List.set_cons_zero, List.set_cons_succ]
          refine takeW (i := 6) (by simp only [List.getElem?_toArray, List.getElem?_cons_succ, List.getElem?_cons_zero]; exact rfl) (by kernel_rfl) (by kernel_rfl) (by kernel_rfl) (by exact fun _ _ _ h => h) (by rfl) (by intro wq hSw; go_simp <;> with_reducible rfl) (by assumption) ?_
          try simp only [Act.put, List.setIfInBounds_toArray, List.set_cons_zero, List.set_cons_succ]
          refine takeW (i := 7) (by simp only [List.getElem?_toArray, List.getElem?_cons_succ, List.getElem?_cons_zero]; exact rfl) (by kernel_rfl) (by kernel_rfl) (by kernel_rfl) (by exact fun _ _ _ h => h) (by rfl) (by intro wq hSw; go_simp <;> with_reducible rfl) (by assumption) ?_
          try simp only [Act.put, List.setIfInBounds_toArray, List.set_cons_zero, List.set_cons_succ]
          refine takeW (i := 8) (by simp only [List.getElem?_toArray, List.getElem?_cons_succ, List.getElem?_cons_zero]; exact rfl) (by kernel_rfl) (by kernel_rfl) (by kernel_rfl) (by exact fun _ _ _ h => h) (by rfl) (by intro wq hSw; go_simp <;> with_reducible rfl) (by assumption) ?_
          try simp only [Act.put, List.setIfInBounds_toArray, List.set_cons_zero, List.set_cons_succ]
          refine takeW (i := 9) (by simp only [List.getElem?_toArray, List.getElem?_cons_succ, List.getElem?_cons_zero]; exact rfl) (by kernel_rfl) (by kernel_rfl) (by kernel_rfl) (by exact fun _ _ _ h => h) (by rfl) (by intro wq hSw; go_simp <;> with_reducible rfl) (by assumption) ?_
          try simp only [Act.put, List.setIfInBounds_toArray, List.set_cons_zero, List.set_cons_succ]
          refine wpAnyH_ready (rs := [10]) (by kernel_rfl) (by simp) (AllReadyH.cons (by simp only [List.getElem?_toArray, List.getElem?_cons_succ, List.getElem?_cons_zero]; exact rfl) (fun K9 hK => ?_) AllReadyH.nil)
          go_simp
          have bn := below1 ww0 (.cells #[.int .i64 (F + X + (j : Int)), (.slice (some ⟨p5, 0, none⟩) 64 64)] 55)
          have NW := two_newW ww0 55 (.int .i64 (F + X + (j : Int))) (.slice (some ⟨p5, 0, none⟩) 64 64)
          replace V := V.below bn
          replace R4 := R4.below bn
          replace R9 := R9.below bn
          replace B := B.trans (bn.mono B.size)
          have z8 : (ww0.alloc (.cells #[.int .i64 (F + X + (j : Int)), (.slice (some ⟨p5, 0, none⟩) 64 64)] 55)).heap.size = p5 + 2 := by simp [z7]
          refine hK.out _ _ V (fun hHeld => ?_)
          clear hK K9 hHeld bn
          try simp only [Act.put, List.setIfInBounds_toArray, List.set_cons_zero, List.set_cons_succ]
          rw [z7] at NW
          try rw [z7]
          generalize ww0.alloc (.cells #[.int .i64 (F + X + (j : Int)), (.slice (some ⟨p5, 0, none⟩) 64 64)] 55) = ww1 at *
          refine wpAnyH_ready (rs := [11]) (by kernel_rfl) (by simp) (AllReadyH.cons (by simp only [List.getElem?_toArray, List.getElem?_cons_succ, List.getElem?_cons_zero]; exact rfl) (fun K9 hK => ?_) AllReadyH.nil)
          refine wp_append_at (.tmp 27) (.tmp 37) 29 rfl (w.heap.size + 1) 55 iW (.agg #[.int .i64 0, .slice none 0 0]) 2 32 Tryz.underlying29 hiW hW0 hW1 hW2 rfl (by decide) u5 vs.length (wrC qs0 vs) rfl R4.own ⟨p5 + 1, 0, none⟩ 1 _ [.int .i64 (F + X + (j : Int)), (.slice (some ⟨p5, 0, none⟩) 64 64)] rfl rfl NW (by intro y hy; simp at hy; rcases hy with rfl | rfl <;> rfl) (by unfold maxLen; have := R4.len.out; rw [← hq0, lgWs_len] at this; omega) (by have := R4.len.out; rw [← hq0, lgWs_len] at this; omega) (by omega) ?_
          intro v7 w7 R7 G7 A7
          have nu : ∀ k, (Value.slice (some ⟨p5, 0, none⟩) 64 64).ownBlock = some k → u5.ownBlock ≠ some k ∧ v7.ownBlock ≠ some k ∧ ∀ x ∈ vs, x.ownBlock ≠ some k := fun k hk => by
            obtain rfl : p5 = k := by injection hk
            refine ⟨fun e => ?_, fun e => ?_, fun x hx e => ?_⟩
            · have := (L9.1 _ e).2; omega
            · rcases A7 with q | q
              · rw [q] at e; have := (L9.1 _ e).2; omega
              · rw [q] at e; injection e with e; omega
            · have := (L9.2 x hx _ e).2; omega
          have QN := QuX.snoc (q := (F + X + (j : Int), ds)) R4 R9 nu R7 G7 A7
          rw [← WS.out] at QN
          replace V := V.grownW G7 (fun e => by have := (L9.1 _ e).1; omega)
          replace B := B.grown G7 B.size (fun k hk => by have := (L9.1 k hk).1; omega)
          refine hK.out _ _ V (fun hHeld => ?_)
          clear hK K9 hHeld R7 G7 A7 R4 R9 nu NW
          try simp only [Act.put, List.setIfInBounds_toArray, List.set_cons_zero, List.set_cons_succ]
          refine takeW (i := 12) (by simp only [List.getElem?_toArray, List.getElem?_cons_succ, List.getElem?_cons_zero]; exact rfl) (by kernel_rfl) (by kernel_rfl) (by kernel_rfl) (by exact fun _ _ _ h => h) (by rfl) (by intro wq hSw; go_simp <;> with_reducible rfl) (by assumption) ?_
          try simp only [Act.put, List.setIfInBounds_toArray, List.set_cons_zero, List.set_cons_succ]
          refine wpAnyH_done (by kernel_rfl) ?_ _
          try go_wp2
          go_roundw
          case rel => exact ⟨j + 1, _, by omega, by go_num, QN, V, B⟩
          case measure => simp [intOf]; omega
        · obtain rfl : j = m := by omega
          go_wp2
          go_ret
          first | exact ⟨_, vs, _, rfl, YR.out, R.base (by omega), B⟩ | exact ⟨_, rfl, vs, _, YR.out, R.base (by omega), B⟩
end Go.Proofs.YtonbmeepfgejmaaGreatDoor
