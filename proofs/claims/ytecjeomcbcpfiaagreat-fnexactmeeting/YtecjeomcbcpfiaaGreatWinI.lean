/- Which shapes of a map meet a shape, or a box: of the program (Meeting, Window). -/
import Derived.Test.YtecjeomcbcpfiaaGreatWinM
import Derived.Test.YtecjeomcbcpfiaaGreatBxShW
import Derived.Test.YtecjeomcbcpfiaaGreatMtgW
import Derived.Test.YtecjeomcbcpfiaaGreatGoodI
import Derived.Test.YtecjeomcbcpfiaaGreatIntsL
namespace Go.Proofs.YtecjeomcbcpfiaaGreat
open Go.RowKit

set_option maxRecDepth 20000 in
theorem meeting1_any (B : Nat) (k n : Int) (a a' : Option Addr) (c c' : Nat) (rs ts : List (List (Int × Int))) (w : World) (c0 : w.cell? ⟨B, 0, none⟩ = some (.int .i64 k)) (c1 : w.cell? ⟨B, 1, none⟩ = some (.slice a rs.length c)) (h : SeesS w a c rs) (h' : SeesS w a' c' ts) (g : goodB k rs = true) (g' : goodB n ts = true) :
    Calls Tryz.prog 37 #[.agg #[.int .i64 n, .slice a' ts.length c'], .pointer (some ⟨B, 0, none⟩)] w fun e w' => e = .returned (.bool (meetS n ts k rs)) ∧ Below w.heap.size w w' := by
  have bn := below1 w (.cells #[.int .i64 n, .slice a' ts.length c'] 48)
  obtain ⟨v0, v1, _, _⟩ := Box2.new w (lo := w.heap.size) (Nat.le_refl _) (.int .i64 n) (.slice a' ts.length c') 48
  replace c0 := bat bn c0
  replace c1 := bat bn c1
  have M := meeting_any n k a' a c' c ts rs _ (h'.below bn) (h.below bn) g' g
  rw [meet_same g' g] at M
  clear h h' g g'
  go_enter Tryz.func37, Tryz.ntmps37
  go_wp2_with fail
  refine M.mono ?_
  rintro e w1 ⟨rfl, hb⟩
  replace bn := bn.trans (hb.mono bn.size)
  clear hb M c0 c1 v0 v1
  go_wp2
  go_ret
  exact ⟨rfl, bn⟩

set_option maxRecDepth 20000 in
set_option maxHeartbeats 2000000 in
theorem idsOfThose_any (F : Nat) (cap : List Value) (P : En → Bool) (a : Option Addr) (c : Nat) (es : List En) (w : World) (h : SeesEn w a c es) (hl : es.length ≤ 500)
    (hE : ∀ args W, Sem.run Tryz.prog (callFunc F args) W = .ok (.enter F args) W)
    (hF : ∀ j, j < es.length → ∀ W a' c', Below w.heap.size w W → SeesS W a' c' (enA es j).2.2 → Calls Tryz.prog F (.agg #[.int .i64 (enA es j).2.1, .slice a' (enA es j).2.2.length c'] :: cap).toArray W fun e w' => e = .returned (.bool (P (enA es j))) ∧ Below W.heap.size W w') :
    Calls Tryz.prog 36 #[.slice a es.length c, .func (.func F) #[] cap.toArray] w fun e w' => ∃ v, e = .returned v ∧ RowI w.heap.size w' v (idsP P es es.length) ∧ Below w.heap.size w w' := by
  have hm := h.max
  have hf := h.fits
  unfold maxLen at hm
  obtain ⟨iX, hiX, hx0, hx1, hx2⟩ := info_parts infoI
  have HE : Hid (∀ args W, Sem.run Tryz.prog (callFunc F args) W = .ok (.enter F args) W) := hE
  have HF : Hid (∀ j, j < es.length → ∀ W a' c', Below w.heap.size w W → SeesS W a' c' (enA es j).2.2 → Calls Tryz.prog F (.agg #[.int .i64 (enA es j).2.1, .slice a' (enA es j).2.2.length c'] :: cap).toArray W fun e w' => e = .returned (.bool (P (enA es j))) ∧ Below W.heap.size W w') := hF
  have HL : Hid (∀ j, (idsP P es j).length ≤ j) := idsP_le P es
  clear hE hF
  go_enter Tryz.func36, Tryz.ntmps36
  go_wp2
  go_loopw [5, 10] (fun s5 s10 wr => ∃ (j : Nat), j ≤ es.length ∧ s10 = .int .i64 j ∧ Hid (RowI w.heap.size wr s5 (idsP P es j)) ∧ Below w.heap.size w wr) (fun _ s10 _ => es.length - (intOf s10).toNat)
  case atStart => exact ⟨0, Nat.zero_le _, rfl, RowI.nil _ _, Below.refl _ _⟩
  case round =>
    obtain ⟨j, hj, rfl, RR, B⟩ := hrel
    rename World => wr
    by_cases hlt : j < es.length
    · obtain ⟨b, off, rfl, hc⟩ := (h.below B).cells (by intro e; simp [e] at hlt)
      obtain ⟨g0, g1, a', c', g2, sp⟩ := hc j hlt
      have HI : Hid (idsP P es (j + 1) = idsP P es j ++ (if P (enA es j) then [(enA es j).1] else [])) := (rfl : idsP P es (j + 1) = _)
      have CF := HF.out j hlt
      have hlj := HL.out j
      clear hc
      generalize enA es j = en at *
      obtain ⟨ix, n, ts⟩ := en
      dsimp only at g0 g1 g2 sp CF HI
      have bn := below1 wr (.cells #[.int .i64 ix, .int .i64 n, .slice a' ts.length c'] 58)
      have k0 := cell_new wr #[.int .i64 ix, .int .i64 n, .slice a' ts.length c'] 58 0 rfl
      have k1 := cell_new wr #[.int .i64 ix, .int .i64 n, .slice a' ts.length c'] 58 1 rfl
      have k2 := cell_new wr #[.int .i64 ix, .int .i64 n, .slice a' ts.length c'] 58 2 rfl
      replace sp := sp.below bn
      have BB := B.trans (bn.mono B.size)
      have R1 := RR.out.below bn
      clear RR B
      go_upto_region 5 with fail
      clear g0 g1 g2 bn
      generalize wr.alloc (.cells #[.int .i64 ix, .int .i64 n, .slice a' ts.length c'] 58) = W1 at *
      generalize wr.heap.size = q1 at *
      have C := CF W1 a' c' BB sp
      obtain ⟨pv, HP⟩ : ∃ z, Hid (P (ix, n, ts) = z) := ⟨_, rfl⟩
      rw [HP.out] at C HI
      clear CF HP
      go_wp2_with fail
      rw [HE.out, Oper.upon_enter]
      refine C.mono ?_
      rintro e w2 ⟨rfl, hb⟩
      replace k0 := bat hb k0
      have R2 := R1.below hb
      have B2 := BB.trans (hb.mono BB.size)
      clear hb C sp k1 k2 R1 BB
      cases pv
      · have RF : Hid (RowI w.heap.size w2 u5 (idsP P es (j + 1))) := by show RowI _ _ _ _; rw [HI.out]; simpa using R2
        clear HI R2 k0
        go_wp2
        go_roundw
        case rel => exact ⟨j + 1, by omega, by go_num, RF, B2⟩
        case measure => simp [intOf]; omega
      · obtain ⟨ds, HD⟩ : ∃ z, Hid (idsP P es j = z) := ⟨_, rfl⟩
        rw [HD.out] at R2 hlj HI
        clear HD
        have bq := below1 w2 (.cells #[.int .i64 ix] 3)
        have R3 := R2.below bq
        have B3 := B2.trans (bq.mono B2.size)
        have hz3 := B3.size
        clear R2 B2 bq
        go_wp2_with (at_builtin; refine wpList_append_own _ rfl (.tmp 18) (.tmp 21) 28 rfl w.heap.size 3 iX (.int .i64 0) 1 8 Tryz.underlying28 hiX hx0 hx1 hx2 rfl (by decide) u5 ds.length (ds.map (Value.int .i64)) rfl R3 ⟨w2.heap.size, 0, none⟩ 1 1 ([ix].map (Value.int .i64)) rfl rfl (one_newI _ _ _) (onesI _) (by unfold maxLen; omega) (by omega) hz3 ?_; intro v7 w7 R8 G7 nil7; clear nil7)
        have R9 : Hid (RowI w.heap.size w7 v7 (idsP P es (j + 1))) := by show RowI _ _ _ _; rw [HI.out]; exact RowI.snoc (n := 0) R8 rfl
        have B7 := B3.grown G7 hz3 (fun q hq => (World.ownsRow.lt R3 q hq).1)
        clear R8 G7 R3 B3 HI
        go_roundw
        case rel => exact ⟨j + 1, by omega, by go_num, R9, B7⟩
        case measure => simp [intOf]; omega
    · obtain rfl : j = es.length := by omega
      have RE : Hid (RowI w.heap.size wr u5 (idsP P es es.length)) := RR
      clear RR
      go_wp2
      go_ret
      exact ⟨u5, rfl, RE.out, B⟩

set_option maxRecDepth 20000 in
set_option maxHeartbeats 2000000 in
theorem implMeeting (a : Option Addr) (c : Nat) (es : List En) (k : Int) (b : Option Addr) (d : Nat) (rs : List (List (Int × Int))) (w : World) (h : SeesEn w a c es) (hs : SeesS w b d rs) :
    Calls Tryz.prog 18 #[.slice a es.length c, .agg #[.int .i64 k, .slice b rs.length d]] w fun e w' => ∃ v, e = .returned v ∧ RowI w.heap.size w' v (mtV k rs es) ∧ Below w.heap.size w w' := by
  have bn := below1 w (.cells #[.int .i64 k, .slice b rs.length d] 48)
  have V := Box2.new w (lo := w.heap.size) (Nat.le_refl _) (.int .i64 k) (.slice b rs.length d) 48
  replace h := h.below bn
  replace hs := hs.below bn
  obtain ⟨v0, v1, _, _⟩ := id V
  go_enter Tryz.func18, Tryz.ntmps18
  go_upto_region 1 with fail
  generalize w.alloc (.cells #[.int .i64 k, .slice b rs.length d] 48) = W0 at *
  go_wp2_with fail
  refine (implMapOk a c es _ h).mono ?_
  rintro e w1 ⟨rfl, hb⟩
  replace bn := bn.trans (hb.mono bn.size)
  replace h := h.below hb
  replace hs := hs.below hb
  replace V := V.below hb
  clear hb v0 v1
  obtain ⟨v0, v1, _, _⟩ := id V
  cases hp : mpB es
  · have Z : Hid (mtV k rs es = []) := mtV_off (.inl hp)
    clear hp
    go_wp2
    go_ret
    exact ⟨_, rfl, by rw [Z.out]; exact RowI.nil _ _, bn⟩
  · have HP : Hid (mpB es = true) := hp
    clear hp
    go_wp2_with fail
    refine (good_any k b d rs _ hs).mono ?_
    rintro e w2 ⟨rfl, hb⟩
    replace bn := bn.trans (hb.mono bn.size)
    replace h := h.below hb
    replace hs := hs.below hb
    replace V := V.below hb
    clear hb v0 v1
    obtain ⟨v0, v1, _, _⟩ := id V
    cases hg : goodB k rs
    · have Z : Hid (mtV k rs es = []) := mtV_off (.inr hg)
      clear hg
      go_wp2
      go_ret
      exact ⟨_, rfl, by rw [Z.out]; exact RowI.nil _ _, bn⟩
    · have Z : Hid (mtV k rs es = idsP (mtP k rs) es es.length) := mtV_on HP.out hg
      have C : Calls Tryz.prog 36 #[.slice a es.length c, .func (.func 37) #[] #[.pointer (some ⟨w.heap.size, 0, none⟩)]] w2 fun e w' => ∃ v, e = .returned v ∧ RowI w2.heap.size w' v (idsP (mtP k rs) es es.length) ∧ Below w2.heap.size w2 w' := idsOfThose_any 37 [.pointer (some ⟨w.heap.size, 0, none⟩)] (mtP k rs) a c es w2 h (mpB_few HP.out) (fun args W => by kernel_rfl) (fun j hj W a' c' hb sp => meeting1_any w.heap.size k (enA es j).2.1 b a' d c' rs (enA es j).2.2 W (bat hb v0) (bat hb v1) (hs.below hb) sp hg (mpB_good HP.out hj))
      clear hg
      go_wp2_with fail
      refine C.mono ?_
      rintro e w3 ⟨v, rfl, R, hb⟩
      have RE : Hid (RowI w.heap.size w3 v (mtV k rs es)) := by show RowI _ _ _ _; rw [Z.out]; exact row_base R bn.size
      replace bn := bn.trans (hb.mono bn.size)
      clear hb R C v0 v1 V h hs
      go_wp2
      go_ret
      exact ⟨v, rfl, RE.out, bn⟩

set_option maxRecDepth 20000 in
set_option maxHeartbeats 2000000 in
theorem implWindow (a : Option Addr) (c : Nat) (es : List En) (r1 r2 r3 r4 : Int) (w : World) (h : SeesEn w a c es) :
    Calls Tryz.prog 9 #[.slice a es.length c, .agg #[.int .i64 r1, .int .i64 r2, .int .i64 r3, .int .i64 r4]] w fun e w' => ∃ v, e = .returned v ∧ RowI w.heap.size w' v (wnV r1 r2 r3 r4 es) ∧ Below w.heap.size w w' := by
  have bn := below1 w (.cells #[.int .i64 r1, .int .i64 r2, .int .i64 r3, .int .i64 r4] 34)
  have V := Box4.new w (lo := w.heap.size) (Nat.le_refl _) (.int .i64 r1) (.int .i64 r2) (.int .i64 r3) (.int .i64 r4) 34
  replace h := h.below bn
  obtain ⟨v0, v1, v2, v3, _, _⟩ := id V
  go_enter Tryz.func9, Tryz.ntmps9
  go_upto_region 1 with fail
  generalize w.alloc (.cells #[.int .i64 r1, .int .i64 r2, .int .i64 r3, .int .i64 r4] 34) = W0 at *
  go_wp2_with fail
  refine (implBoxOk r1 r2 r3 r4 _).mono ?_
  rintro e w1 ⟨rfl, hb⟩
  replace bn := bn.trans (hb.mono bn.size)
  replace h := h.below hb
  replace V := V.below hb
  clear hb v0 v1 v2 v3
  obtain ⟨v0, v1, v2, v3, _, _⟩ := id V
  cases hk : boxOk r1 r2 r3 r4
  · have Z : Hid (wnV r1 r2 r3 r4 es = []) := by show _ = _; unfold wnV; rw [hk]; rfl
    clear hk
    go_wp2
    go_ret
    exact ⟨_, rfl, by rw [Z.out]; exact RowI.nil _ _, bn⟩
  · have Z : Hid (wnV r1 r2 r3 r4 es = mtV (bxK r1 r2 r3 r4) (bxR r1 r2 r3 r4) es) := by show _ = _; unfold wnV; rw [hk]; rfl
    have BS := boxShape_any r1 r2 r3 r4 w1
    clear hk
    go_wp2_with fail
    refine BS.mono ?_
    rintro e w2 ⟨q, rfl, S, hb⟩
    have C := implMeeting a c es (bxK r1 r2 r3 r4) q 1 (bxR r1 r2 r3 r4) w2 (h.below hb) S
    replace bn := bn.trans (hb.mono bn.size)
    clear hb BS h S V v0 v1 v2 v3
    go_wp2_with fail
    refine C.mono ?_
    rintro e w3 ⟨v, rfl, R, hb⟩
    have RE : Hid (RowI w.heap.size w3 v (wnV r1 r2 r3 r4 es)) := by show RowI _ _ _ _; rw [Z.out]; exact row_base R bn.size
    replace bn := bn.trans (hb.mono bn.size)
    clear hb R C
    go_wp2
    go_ret
    exact ⟨v, rfl, RE.out, bn⟩
end Go.Proofs.YtecjeomcbcpfiaaGreat
