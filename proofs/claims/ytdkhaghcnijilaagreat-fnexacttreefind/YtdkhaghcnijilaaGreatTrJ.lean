/- Trees at work, of the program: kidsOf, kidsOfAll over *node[int]. -/
import Derived.Test.YtdkhaghcnijilaaGreatTrI
import Derived.Test.YtdkhaghcnijilaaGreatTrC
namespace Go.Proofs.YtdkhaghcnijilaaGreat
open Go.RowKit

/-- In this block lies the tree at work; its kids lie below. -/
inductive WkAt (w : World) : Nat → Nd → Prop where
  | mk {p : Nat} {b : Bx} {bs : List Bx} {is : List Int} {ks : List Nd} {a1 a2 : Option Addr} {c1 c2 : Nat} {qs : List Ptr} (K : Wk6 w p b (.slice a1 bs.length c1) (.slice a2 ks.length c2)) (I : SeesIt w a1 c1 bs is) (Q : SeesTp w a2 c2 qs) (hl : qs.length = ks.length) (hz : ks.length = 0 → a2 = none ∧ c2 = 0) (h0 : ∀ i, i < ks.length → (ptAt qs i).2 = 0) (hlt : ∀ i, i < ks.length → (ptAt qs i).1 < p) (hN : ∀ i, i < ks.length → WkAt w (ptAt qs i).1 (ndA ks i)) : WkAt w p (.mk b bs is ks)
/-- The pointers point to these trees at work. -/
def WkL (w : World) (qs : List Ptr) (ts : List Nd) : Prop := qs.length = ts.length ∧ ∀ i, i < ts.length → (ptAt qs i).2 = 0 ∧ WkAt w (ptAt qs i).1 (ndA ts i)
theorem WkAt.open {w : World} {p : Nat} {t : Nd} (h : WkAt w p t) : ∃ a1 c1 a2 c2 qs, Wk6 w p t.b (.slice a1 t.bs.length c1) (.slice a2 t.ks.length c2) ∧ SeesIt w a1 c1 t.bs t.is ∧ SeesTp w a2 c2 qs ∧ WkL w qs t.ks ∧ (∀ i, i < t.ks.length → (ptAt qs i).1 < p) ∧ (t.ks.length = 0 → a2 = none ∧ c2 = 0) := by
  cases h with
  | mk K I Q hl hz h0 hlt hN => exact ⟨_, _, _, _, _, K, I, Q, ⟨hl, fun i hi => ⟨h0 i hi, hN i hi⟩⟩, hlt, hz⟩
theorem WkAt.keep {w w' : World} (hb : Below w.heap.size w w') : ∀ (t : Nd) {p : Nat}, WkAt w p t → WkAt w' p t := by
  refine Nd.ind (P := fun t => ∀ {p : Nat}, WkAt w p t → WkAt w' p t) ?_
  intro b bs is ks ih p h
  cases h with
  | mk K I Q hl hz h0 hlt hN => exact .mk (K.below hb) (I.below hb) (Q.below hb) hl hz h0 hlt (fun i hi => ih _ (ndA_mem hi) (hN i hi))
theorem WkL.below {w w' : World} {qs : List Ptr} {ts : List Nd} (h : WkL w qs ts) (hb : Below w.heap.size w w') : WkL w' qs ts := ⟨h.1, fun i hi => ⟨(h.2 i hi).1, WkAt.keep hb _ (h.2 i hi).2⟩⟩
theorem WkL.app {w : World} {qs rs : List Ptr} {ts ks : List Nd} (h : WkL w qs ts) (k : WkL w rs ks) : WkL w (qs ++ rs) (ts ++ ks) := by
  refine ⟨by rw [List.length_append, List.length_append, h.1, k.1], fun i hi => ?_⟩
  rw [ptAt_append, ndA_append, h.1]
  by_cases c : i < ts.length
  · rw [if_pos c, if_pos c]
    exact h.2 i c
  · rw [if_neg c, if_neg c]
    rw [List.length_append] at hi
    exact k.2 (i - ts.length) (by omega)
theorem kidsOfW_any (p : Nat) (x : Bx) (v1 v2 : Value) (w : World) (K : Wk6 w p x v1 v2) :
    Calls Tryz.prog 152 #[.pointer (some ⟨p, 0, none⟩)] w fun e w' => e = .returned v2 ∧ w' = w := by
  have k5 := K.c5
  go_enter Tryz.func152, Tryz.ntmps152
  go_wp2
  go_ret
  exact ⟨rfl, rfl⟩

set_option maxRecDepth 20000 in
set_option maxHeartbeats 8000000 in
theorem kidsOfAllW_any {w0 : World} (a : Option Addr) (c : Nat) (qs : List Ptr) (ts : List Nd) (w : World) (h : SeesTp w a c qs) (hl : WkL w0 qs ts) (B00 : Below w0.heap.size w0 w) (hq : ts.length ≤ 600) (hz : ∀ i, i < ts.length → (ndA ts i).ks.length ≤ 1048576) :
    Calls Tryz.prog 190 #[.slice a qs.length c, .func (Fn.func 152) #[] #[]] w fun e w' => ∃ v qs2 ns lv, e = .returned (.tuple #[v, .int .i64 (lv : Nat)]) ∧ RowWp w.heap.size w' v qs2 ∧ WkL w0 qs2 ns ∧ KaRes ts ns lv ∧ (0 < ts.length → (ndA ts 0).ks ≠ [] → (ptAt qs2 0).1 < (ptAt qs 0).1) ∧ Below w.heap.size w w' := by
  have hf := h.fits
  have hm := h.max
  unfold maxLen at hm
  obtain ⟨iX, hiX, hx0, hx1, hx2⟩ := info_parts infoWp
  have R0 := RowWp.nil w.heap.size w
  have HQ : Hid (qs.length = ts.length) := hl.1
  have HZ : Hid (∀ i, i < ts.length → (ndA ts i).ks.length ≤ 1048576) := hz
  have hq2 : qs.length ≤ 600 := by have := HQ.out; omega
  clear hz
  go_enter Tryz.func190, Tryz.ntmps190
  go_wp2
  go_loopw [6, 7, 9, 10, 13] (fun s6 s7 _ _ s13 wr => ∃ (j lv : Nat) (qs2 : List Ptr), j ≤ qs.length ∧ s13 = .int .i64 j ∧ s7 = .int .i64 lv ∧ Hid (lv = lfN ts j) ∧ Hid ((kdN ts j).length ≤ 600) ∧ Hid (WkL w0 qs2 (kdN ts j)) ∧ Hid (0 < j → (ndA ts 0).ks ≠ [] → 0 < qs2.length ∧ (ptAt qs2 0).1 < (ptAt qs 0).1) ∧ Hid (RowWp w.heap.size wr s6 qs2) ∧ Below w.heap.size w wr) (fun _ _ _ _ s13 _ => qs.length - (intOf s13).toNat)
  case atStart => exact ⟨0, 0, [], Nat.zero_le _, rfl, rfl, rfl, Nat.zero_le _, ⟨rfl, fun i hi => absurd hi (by simp [kdN])⟩, fun e => absurd e (by omega), R0, Below.refl _ _⟩
  case round =>
    clear R0
    obtain ⟨j, lv, qs2, hj, rfl, rfl, LV, KL, PA, FI, RR, B⟩ := hrel
    rename World => wr
    have hlv : lv ≤ 600 := by have := LV.out; have := lfN_le ts j; omega
    by_cases hlt : j < qs.length
    · have hlt' : j < ts.length := by have := HQ.out; omega
      obtain ⟨b1, o1, rfl, hc⟩ := (h.below B).cells (by intro e; simp [e] at hlt)
      have g1 := hc j hlt
      obtain ⟨e20, WK⟩ := hl.2 j hlt'
      obtain ⟨a1, c1, a2, c2, qk, K6, _, SQ, KA, LT, NIL⟩ := WK.open
      have C := kidsOfW_any (ptAt qs j).1 _ _ _ wr (K6.below (B00.trans (B.mono B00.size)))
      have FJ : Hid (j = 0 → ptAt qs j = ptAt qs 0 ∧ ndA ts j = ndA ts 0) := fun e => by subst e; exact ⟨rfl, rfl⟩
      have KD : Hid (kdN ts (j + 1) = kdN ts j ++ (ndA ts j).ks) := (rfl : kdN ts (j + 1) = _)
      have LF : Hid (lfN ts (j + 1) = lfN ts j + (if (ndA ts j).ks.length = 0 then 1 else 0)) := (rfl : lfN ts (j + 1) = _)
      have hzj := HZ.out j hlt'
      unfold ptV at g1
      rw [e20] at g1
      clear hc K6 WK e20
      go_wp2_with fail
      refine C.mono ?_
      rintro e w2 ⟨rfl, rfl⟩
      have R2 := RR.out
      replace SQ := SQ.below (B00.trans (B.mono B00.size))
      clear g1 C RR
      have PA2 : Hid (WkL w0 (qs2 ++ qk) (kdN ts (j + 1))) := by show WkL _ _ _; rw [KD.out]; exact PA.out.app KA
      have FI2 : Hid (0 < j + 1 → (ndA ts 0).ks ≠ [] → 0 < (qs2 ++ qk).length ∧ (ptAt (qs2 ++ qk) 0).1 < (ptAt qs 0).1) := fun _ hn => by
        rcases Nat.eq_zero_or_pos j with e | e
        · obtain ⟨e2, e3⟩ := FJ.out e
          have hk : 0 < (ndA ts j).ks.length := by rw [e3]; exact List.length_pos_iff.2 hn
          have e4 : qs2.length = 0 := by rw [PA.out.1]; subst e; rfl
          rw [ptAt_append, e4, if_neg (by omega), List.length_append, KA.1]
          exact ⟨by omega, by rw [← e2]; exact LT 0 hk⟩
        · obtain ⟨q1, q2⟩ := FI.out e hn
          rw [ptAt_append, if_pos q1, List.length_append]
          exact ⟨by omega, q2⟩
      have hkl : qk.length = (ndA ts j).ks.length := KA.1
      have hq2l : qs2.length ≤ 600 := by rw [PA.out.1]; exact KL.out
      have LE : Hid (qs2.length + qk.length = (kdN ts (j + 1)).length) := by show _ = _; rw [KD.out, List.length_append, PA.out.1, hkl]
      have hkl2 : qk.length ≤ 1048576 := by rw [hkl]; exact hzj
      have LV2 : Hid (lfN ts (j + 1) = lv + (if qk.length = 0 then 1 else 0)) := by show _ = _; rw [LF.out, LV.out, hkl]
      have hz2 := B.size
      clear PA FI KD LF LV FJ KL hkl hzj
      have HKL : Hid (qk.length = (ndA ts j).ks.length) := KA.1
      by_cases hk0 : (ndA ts j).ks.length = 0
      · obtain ⟨rfl, rfl⟩ := NIL hk0
        obtain rfl : qk = [] := List.eq_nil_of_length_eq_zero (by rw [HKL.out]; exact hk0)
        rw [hk0]
        have LV3 : Hid (lfN ts (j + 1) = lv + 1) := by show _ = _; rw [LV2.out]; rfl
        rw [List.append_nil] at PA2 FI2
        have LE2 : Hid ((kdN ts (j + 1)).length ≤ 600) := by have := LE.out; show _ ≤ _; simp at this; omega
        clear LV2 LE KA SQ HKL hk0
        have f6 : ¬ (600 : Int) < (qs2.length : Int) := by omega
        go_wp2_with (at_builtin; refine wpList_append_own_none rfl (.tmp 25) (.tmp 26) 96 rfl w.heap.size 63 iX 1 Tryz.underlying96 hiX u6 qs2.length (qs2.map ptV) rfl R2 rfl ?_; obtain ⟨a6, c6, e6, _, _⟩ := RowWp.sees R2; subst e6)
        go_roundw
        case rel => exact ⟨j + 1, lv + 1, qs2, by omega, by go_num, by go_num, LV3.out.symm, LE2, PA2, FI2, R2, B⟩
        case measure => simp [intOf]; omega
      · obtain ⟨gk, ok', rfl, NWc⟩ := SQ.cells (by intro e; rw [e] at HKL; have := HKL.out; simp at this; omega)
        have NW := SQ.news
        have hk0' : ¬ qk.length = 0 := by rw [HKL.out]; exact hk0
        rw [← HKL.out]
        clear NWc KA hk0 HKL
        have f0 : ((qk.length : Int) == 0) = false := by simp; intro e; exact hk0' (by rw [e]; rfl)
        have LV3 : Hid (lv = lfN ts (j + 1)) := by show _ = _; rw [LV2.out, if_neg hk0']; rfl
        by_cases h6 : 600 < qs2.length + qk.length
        · have f6 : (600 : Int) < ((qs2.length + qk.length : Nat) : Int) := by omega
          have KR : Hid (KaRes ts (kdN ts (j + 1)) lv) := .inr ⟨by rw [← LE.out]; exact h6, by have := lfN_lt ts (j + 1) (by rw [← LE.out]; omega); rw [LV3.out]; omega, Nat.lt_of_lt_of_le (by rw [← LE.out]; exact h6) (kdN_mono ts (by omega))⟩
          clear LV2 LE
          go_wp2_with (at_builtin; refine wpList_append_own_at _ rfl (.tmp 25) (.tmp 26) 96 rfl w.heap.size 63 iX (.pointer none) 1 8 Tryz.underlying96 hiX hx0 hx1 hx2 rfl (by decide) u6 qs2.length (qs2.map ptV) rfl R2 ⟨gk, ok', none⟩ qk.length c2 (qk.map ptV) rfl (by simp) NW (onesTp _) (by unfold maxLen; omega) (by omega) hz2 ?_; intro v7 w7 R8 G7 nil7 _; replace R8 := RowWp.snocs R8; clear nil7; obtain ⟨a6, c6, e6, _, _⟩ := RowWp.sees R8; rw [List.length_append] at e6; subst e6)
          have B8 := B.grown G7 B.size (fun k e => (World.ownsRow.lt R2 _ e).1)
          exact bodyPost_ret (v := .tuple #[.slice a6 (qs2.length + qk.length) c6, .int .i64 lv]) (by simp [results, Tryz.results190, go_sem]) rfl ⟨_, qs2 ++ qk, kdN ts (j + 1), lv, rfl, R8, PA2.out, KR.out, fun _ hn => (FI2.out (by omega) hn).2, B8⟩
        · have f6 : ¬ (600 : Int) < ((qs2.length + qk.length : Nat) : Int) := by omega
          have LE2 : Hid ((kdN ts (j + 1)).length ≤ 600) := by have := LE.out; show _ ≤ _; omega
          clear LV2 LE
          go_wp2_with (at_builtin; refine wpList_append_own_at _ rfl (.tmp 25) (.tmp 26) 96 rfl w.heap.size 63 iX (.pointer none) 1 8 Tryz.underlying96 hiX hx0 hx1 hx2 rfl (by decide) u6 qs2.length (qs2.map ptV) rfl R2 ⟨gk, ok', none⟩ qk.length c2 (qk.map ptV) rfl (by simp) NW (onesTp _) (by unfold maxLen; omega) (by omega) hz2 ?_; intro v7 w7 R8 G7 nil7 _; replace R8 := RowWp.snocs R8; clear nil7; obtain ⟨a6, c6, e6, _, _⟩ := RowWp.sees R8; rw [List.length_append] at e6; subst e6)
          have B8 := B.grown G7 B.size (fun k e => (World.ownsRow.lt R2 _ e).1)
          go_roundw
          case rel => exact ⟨j + 1, lv, qs2 ++ qk, by omega, by go_num, rfl, LV3, LE2, PA2, FI2, R8, B8⟩
          case measure => simp [intOf]; omega
    · have hje : j = ts.length := by have := HQ.out; omega
      have KR : Hid (KaRes ts (kdN ts j) lv) := .inl ⟨by rw [hje], by rw [LV.out, hje], KL.out⟩
      have F2 : Hid (0 < ts.length → (ndA ts 0).ks ≠ [] → (ptAt qs2 0).1 < (ptAt qs 0).1) := fun h0 hn => (FI.out (by omega) hn).2
      obtain ⟨a6, c6, e6, _, _⟩ := RowWp.sees RR.out
      subst e6
      clear FI LV KL
      go_wp2
      exact bodyPost_ret (v := .tuple #[.slice a6 qs2.length c6, .int .i64 lv]) (by simp [results, Tryz.results190, go_sem]) rfl ⟨_, qs2, kdN ts j, lv, rfl, RR.out, PA.out, KR.out, F2.out, B⟩
end Go.Proofs.YtdkhaghcnijilaaGreat
