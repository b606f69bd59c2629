/- The kids of a level's nodes, of the program (kidsOfAll over *Node). -/
import Derived.Test.YtdkhaghcnijilaaGreatTrA
namespace Go.Proofs.YtdkhaghcnijilaaGreat
open Go.RowKit

/-- The pointers point to these trees. -/
def LvAt (w0 w : World) (qs : List Ptr) (ts : List Nd) (los : Nat → Nat) : Prop := qs.length = ts.length ∧ ∀ i, i < ts.length → ∃ v1 v2 v3, Sev w (ptAt qs i).1 (ptAt qs i).2 (ndA ts i).b v1 v2 v3 ∧ NdUp w0 (los i) (ndA ts i) v1 v2 v3
theorem LvAt.below {w0 w w' : World} {qs : List Ptr} {ts : List Nd} {los : Nat → Nat} (h : LvAt w0 w qs ts los) (hb : Below w.heap.size w w') : LvAt w0 w' qs ts los := ⟨h.1, fun i hi => by
  obtain ⟨v1, v2, v3, S, N⟩ := h.2 i hi
  exact ⟨v1, v2, v3, S.below hb, N⟩⟩
/-- All of a level lie below; each tree's rows lie above its own block. -/
def PtsAt (w0 : World) (qs : List Ptr) (ts : List Nd) : Prop := qs.length = ts.length ∧ ∀ i, i < ts.length → NdPt w0 (ptAt qs i) ((ptAt qs i).1 + 1) (ndA ts i)
theorem PtsAt.lv {w0 w : World} {qs : List Ptr} {ts : List Nd} (h : PtsAt w0 qs ts) (hb : Below w0.heap.size w0 w) : LvAt w0 w qs ts (fun i => (ptAt qs i).1 + 1) := ⟨h.1, fun i hi => by
  obtain ⟨_, v1, v2, v3, S, N⟩ := h.2 i hi
  exact ⟨v1, v2, v3, S.below hb, N⟩⟩
theorem ptAt_append (qs rs : List Ptr) (i : Nat) : ptAt (qs ++ rs) i = if i < qs.length then ptAt qs i else ptAt rs (i - qs.length) := by
  unfold ptAt
  split
  · rw [List.getElem?_append_left (by assumption)]
  · rw [List.getElem?_append_right (by omega)]
theorem ndA_append (qs rs : List Nd) (i : Nat) : ndA (qs ++ rs) i = if i < qs.length then ndA qs i else ndA rs (i - qs.length) := by
  unfold ndA
  split
  · rw [List.getElem?_append_left (by assumption)]
  · rw [List.getElem?_append_right (by omega)]
theorem PtsAt.app {w0 : World} {lo : Nat} {qs rs : List Ptr} {ts ks : List Nd} (h : PtsAt w0 qs ts) (k : KidsAt w0 lo rs ks) : PtsAt w0 (qs ++ rs) (ts ++ ks) := by
  refine ⟨by rw [List.length_append, List.length_append, h.1, k.1], fun i hi => ?_⟩
  rw [ptAt_append, ndA_append, h.1]
  by_cases c : i < ts.length
  · rw [if_pos c, if_pos c]
    exact h.2 i c
  · rw [if_neg c, if_neg c]
    rw [List.length_append] at hi
    exact (k.2 (i - ts.length) (by omega)).2
/-- The kids of the first trees; how many of them have none. -/
def kdN (ts : List Nd) : Nat → List Nd
  | 0 => []
  | j + 1 => kdN ts j ++ (ndA ts j).ks
def lfN (ts : List Nd) : Nat → Nat
  | 0 => 0
  | j + 1 => lfN ts j + (if (ndA ts j).ks.length = 0 then 1 else 0)
theorem lfN_le (ts : List Nd) : ∀ j, lfN ts j ≤ j
  | 0 => Nat.le_refl _
  | j + 1 => by
    have := lfN_le ts j
    simp only [lfN]
    split <;> omega
theorem lfN_lt (ts : List Nd) : ∀ j, 0 < (kdN ts j).length → lfN ts j < j
  | 0, h => by simp [kdN] at h
  | j + 1, h => by
    have h1 := lfN_le ts j
    simp only [lfN]
    simp only [kdN, List.length_append] at h
    split
    · have := lfN_lt ts j (by omega)
      omega
    · omega
theorem lfN_all (ts : List Nd) : ∀ j, lfN ts j = j → kdN ts j = []
  | 0, _ => rfl
  | j + 1, h => by
    rcases Nat.eq_zero_or_pos (kdN ts (j + 1)).length with c | c
    · exact List.eq_nil_of_length_eq_zero c
    · have := lfN_lt ts (j + 1) c
      omega
theorem kdN_mono (ts : List Nd) {i : Nat} : ∀ {j : Nat}, i ≤ j → (kdN ts i).length ≤ (kdN ts j).length
  | 0, h => by obtain rfl : i = 0 := by omega
               exact Nat.le_refl _
  | j + 1, h => by
    rcases Nat.lt_or_ge j i with c | c
    · obtain rfl : i = j + 1 := by omega
      exact Nat.le_refl _
    · have := kdN_mono ts (i := i) (j := j) c
      simp only [kdN, List.length_append]
      omega
/-- What kidsOfAll answers. -/
def KaRes (ts ns : List Nd) (lv : Nat) : Prop := (ns = kdN ts ts.length ∧ lv = lfN ts ts.length ∧ ns.length ≤ 600) ∨ (600 < ns.length ∧ lv < ts.length ∧ 600 < (kdN ts ts.length).length)
theorem RowTp.two {base : Nat} {w : World} {v : Value} {qs : List Ptr} (h : RowTp base w v qs) : (v = .slice none 0 0 ∧ qs = []) ∨ ∃ g cap, v = .slice (some ⟨g, 0, none⟩) qs.length cap ∧ (∀ j u, (qs.map ptV)[j]? = some u → w.cell? ((⟨g, 0, none⟩ : Addr).add j) = some u) ∧ base ≤ g := by
  rcases h.2 with ⟨hv, h0⟩ | ⟨g, cap', cur, hv, hb, hh, hf, hm, hs, ht⟩
  · exact .inl ⟨hv, List.eq_nil_of_length_eq_zero h0⟩
  · refine .inr ⟨g, cap', hv, fun j u hu => ?_, hb⟩
    have hj : j < qs.length := by have := (List.getElem?_eq_some_iff.mp hu).1; simpa using this
    rw [← ht, List.getElem?_take_of_lt (by omega)] at hu
    rw [Addr.add_lit, Nat.zero_add]
    exact (cell_of_row w g j _ _ _ hh).trans (by simpa using hu)
theorem RowTp.snocs {base : Nat} {w : World} {v : Value} {qs rs : List Ptr} (h : w.ownsRow base 93 1 v (qs.length + rs.length) (qs.map ptV ++ rs.map ptV)) : RowTp base w v (qs ++ rs) := by
  unfold RowTp
  rw [List.map_append, List.length_append]
  exact h

set_option maxRecDepth 20000 in
set_option maxHeartbeats 8000000 in
theorem kidsOfAll_any {w0 : World} (a : Option Addr) (c : Nat) (qs : List Ptr) (ts : List Nd) (los : Nat → Nat) (w : World) (h : SeesTp w a c qs) (hl : LvAt w0 w qs ts los) (hq : ts.length ≤ 600) (hz : ∀ i, i < ts.length → (ndA ts i).ks.length ≤ 1048576) :
    Calls Tryz.prog 107 #[.slice a qs.length c, .func (Fn.func 65) #[] #[]] w fun e w' => ∃ v qs2 ns lv, e = .returned (.tuple #[v, .int .i64 (lv : Nat)]) ∧ RowTp w.heap.size w' v qs2 ∧ PtsAt w0 qs2 ns ∧ KaRes ts ns lv ∧ (0 < ts.length → (ndA ts 0).ks ≠ [] → los 0 ≤ (ptAt qs2 0).1) ∧ Below w.heap.size w w' := by
  have hf := h.fits
  have hm := h.max
  unfold maxLen at hm
  obtain ⟨iX, hiX, hx0, hx1, hx2⟩ := info_parts infoTp
  have R0 := RowTp.nil w.heap.size w
  have HQ : Hid (qs.length = ts.length) := hl.1
  have HZ : Hid (∀ i, i < ts.length → (ndA ts i).ks.length ≤ 1048576) := hz
  have hq2 : qs.length ≤ 600 := by have := HQ.out; omega
  clear hz
  go_enter Tryz.func107, Tryz.ntmps107
  go_wp2
  go_loopw [6, 7, 9, 10, 13] (fun s6 s7 _ _ s13 wr => ∃ (j lv : Nat) (qs2 : List Ptr), j ≤ qs.length ∧ s13 = .int .i64 j ∧ s7 = .int .i64 lv ∧ Hid (lv = lfN ts j) ∧ Hid ((kdN ts j).length ≤ 600) ∧ Hid (PtsAt w0 qs2 (kdN ts j)) ∧ Hid (0 < j → (ndA ts 0).ks ≠ [] → 0 < qs2.length ∧ los 0 ≤ (ptAt qs2 0).1) ∧ Hid (RowTp w.heap.size wr s6 qs2) ∧ Below w.heap.size w wr) (fun _ _ _ _ s13 _ => qs.length - (intOf s13).toNat)
  case atStart => exact ⟨0, 0, [], Nat.zero_le _, rfl, rfl, rfl, Nat.zero_le _, ⟨rfl, fun i hi => absurd hi (by simp [kdN])⟩, fun e => absurd e (by omega), R0, Below.refl _ _⟩
  case round =>
    clear R0
    obtain ⟨j, lv, qs2, hj, rfl, rfl, LV, KL, PA, FI, RR, B⟩ := hrel
    rename World => wr
    have hlv : lv ≤ 600 := by have := LV.out; have := lfN_le ts j; omega
    by_cases hlt : j < qs.length
    · have hlt' : j < ts.length := by have := HQ.out; omega
      obtain ⟨b1, o1, rfl, hc⟩ := (h.below B).cells (by intro e; simp [e] at hlt)
      have g1 := hc j hlt
      obtain ⟨v1, v2, v3, S, N⟩ := (hl.below B).2 j hlt'
      have C := kidsOf_any (ptAt qs j).1 (ptAt qs j).2 (los j) (ndA ts j) v1 v2 v3 wr S N (HZ.out j hlt')
      have FJ : Hid (j = 0 → ptAt qs j = ptAt qs 0 ∧ los j = los 0 ∧ ndA ts j = ndA ts 0) := fun e => by subst e; exact ⟨rfl, rfl, rfl⟩
      have KD : Hid (kdN ts (j + 1) = kdN ts j ++ (ndA ts j).ks) := (rfl : kdN ts (j + 1) = _)
      have LF : Hid (lfN ts (j + 1) = lfN ts j + (if (ndA ts j).ks.length = 0 then 1 else 0)) := (rfl : lfN ts (j + 1) = _)
      have hzj := HZ.out j hlt'
      unfold ptV at g1
      generalize ptAt qs j = q at *
      obtain ⟨qb, qo⟩ := q
      dsimp only at g1 C
      clear hc S N
      go_wp2_with fail
      refine C.mono ?_
      rintro e w2 ⟨vk, qk, rfl, RK, KA, hb⟩
      replace B := B.trans (hb.mono B.size)
      have R2 := RR.out.below hb
      clear hb g1 C RR
      have PA2 : Hid (PtsAt w0 (qs2 ++ qk) (kdN ts (j + 1))) := by show PtsAt _ _ _; rw [KD.out]; exact PA.out.app KA
      have FI2 : Hid (0 < j + 1 → (ndA ts 0).ks ≠ [] → 0 < (qs2 ++ qk).length ∧ los 0 ≤ (ptAt (qs2 ++ qk) 0).1) := fun _ hn => by
        rcases Nat.eq_zero_or_pos j with e | e
        · obtain ⟨_, e2, e3⟩ := FJ.out e
          have hk : 0 < (ndA ts j).ks.length := by rw [e3]; exact List.length_pos_iff.2 hn
          have e4 : qs2.length = 0 := by rw [PA.out.1]; subst e; rfl
          rw [ptAt_append, e4, if_neg (by omega), List.length_append, KA.1]
          exact ⟨by omega, by rw [← e2]; exact (KA.2 0 hk).1⟩
        · obtain ⟨q1, q2⟩ := FI.out e hn
          rw [ptAt_append, if_pos q1, List.length_append]
          exact ⟨by omega, q2⟩
      have hkl : qk.length = (ndA ts j).ks.length := KA.1
      have hq2l : qs2.length ≤ 600 := by rw [PA.out.1]; exact KL.out
      have LE : Hid (qs2.length + qk.length = (kdN ts (j + 1)).length) := by show _ = _; rw [KD.out, List.length_append, PA.out.1, hkl]
      have hkl2 : qk.length ≤ 1048576 := by rw [hkl]; exact hzj
      have LV2 : Hid (lfN ts (j + 1) = lv + (if qk.length = 0 then 1 else 0)) := by show _ = _; rw [LF.out, LV.out, hkl]
      have hz2 : w.heap.size ≤ w2.heap.size := B.size
      clear PA FI KD LF LV FJ KA KL hkl hzj
      rcases RK.two with ⟨rfl, rfl⟩ | ⟨gk, ck, rfl, NW, hgk⟩
      · have LV3 : Hid (lfN ts (j + 1) = lv + 1) := by show _ = _; rw [LV2.out]; rfl
        rw [List.append_nil] at PA2 FI2
        have LE2 : Hid ((kdN ts (j + 1)).length ≤ 600) := by have := LE.out; show _ ≤ _; simp at this; omega
        clear RK LV2 LE
        have f6 : ¬ (600 : Int) < (qs2.length : Int) := by omega
        go_wp2_with (at_builtin; refine wpList_append_own_none rfl (.tmp 25) (.tmp 26) 100 rfl w.heap.size 93 iX 1 Tryz.underlying100 hiX u6 qs2.length (qs2.map ptV) rfl R2 rfl ?_; obtain ⟨a6, c6, e6, _, _⟩ := RowTp.sees R2; subst e6)
        go_roundw
        case rel => exact ⟨j + 1, lv + 1, qs2, by omega, by go_num, by go_num, LV3.out.symm, LE2, PA2, FI2, R2, B⟩
        case measure => simp [intOf]; omega
      · by_cases hk0 : qk.length = 0
        · have f0 : ((qk.length : Int) == 0) = true := by simp; exact List.eq_nil_of_length_eq_zero hk0
          have LV3 : Hid (lv + 1 = lfN ts (j + 1)) := by show _ = _; rw [LV2.out, if_pos hk0]
          have f6 : ¬ (600 : Int) < ((qs2.length + qk.length : Nat) : Int) := by omega
          have LE2 : Hid ((kdN ts (j + 1)).length ≤ 600) := by have := LE.out; show _ ≤ _; omega
          clear LV2 LE RK hk0
          go_wp2_with (at_builtin; refine wpList_append_own_at _ rfl (.tmp 25) (.tmp 26) 100 rfl w.heap.size 93 iX (.pointer none) 1 8 Tryz.underlying100 hiX hx0 hx1 hx2 rfl (by decide) u6 qs2.length (qs2.map ptV) rfl R2 ⟨gk, 0, none⟩ qk.length ck (qk.map ptV) rfl (by simp) NW (onesTp _) (by unfold maxLen; omega) (by omega) hz2 ?_; intro v7 w7 R8 G7 nil7 _; replace R8 := RowTp.snocs R8; clear nil7; obtain ⟨a6, c6, e6, _, _⟩ := RowTp.sees R8; rw [List.length_append] at e6; subst e6)
          have B8 := B.grown G7 B.size (fun k e => (World.ownsRow.lt R2 _ e).1)
          go_roundw
          case rel => exact ⟨j + 1, lv + 1, qs2 ++ qk, by omega, by go_num, by go_num, LV3, LE2, PA2, FI2, R8, B8⟩
          case measure => simp [intOf]; omega
        · have f0 : ((qk.length : Int) == 0) = false := by simp; intro e; exact hk0 (by rw [e]; rfl)
          have LV3 : Hid (lv = lfN ts (j + 1)) := by show _ = _; rw [LV2.out, if_neg hk0]; rfl
          by_cases h6 : 600 < qs2.length + qk.length
          · have f6 : (600 : Int) < ((qs2.length + qk.length : Nat) : Int) := by omega
            have KR : Hid (KaRes ts (kdN ts (j + 1)) lv) := .inr ⟨by rw [← LE.out]; exact h6, by have := lfN_lt ts (j + 1) (by rw [← LE.out]; omega); rw [LV3.out]; omega, Nat.lt_of_lt_of_le (by rw [← LE.out]; exact h6) (kdN_mono ts (by omega))⟩
            clear LV2 LE RK
            go_wp2_with (at_builtin; refine wpList_append_own_at _ rfl (.tmp 25) (.tmp 26) 100 rfl w.heap.size 93 iX (.pointer none) 1 8 Tryz.underlying100 hiX hx0 hx1 hx2 rfl (by decide) u6 qs2.length (qs2.map ptV) rfl R2 ⟨gk, 0, none⟩ qk.length ck (qk.map ptV) rfl (by simp) NW (onesTp _) (by unfold maxLen; omega) (by omega) hz2 ?_; intro v7 w7 R8 G7 nil7 _; replace R8 := RowTp.snocs R8; clear nil7; obtain ⟨a6, c6, e6, _, _⟩ := RowTp.sees R8; rw [List.length_append] at e6; subst e6)
            have B8 := B.grown G7 B.size (fun k e => (World.ownsRow.lt R2 _ e).1)
            exact bodyPost_ret (v := .tuple #[.slice a6 (qs2.length + qk.length) c6, .int .i64 lv]) (by simp [results, Tryz.results107, go_sem]) rfl ⟨_, qs2 ++ qk, kdN ts (j + 1), lv, rfl, R8, PA2.out, KR.out, fun _ hn => (FI2.out (by omega) hn).2, B8⟩
          · have f6 : ¬ (600 : Int) < ((qs2.length + qk.length : Nat) : Int) := by omega
            have LE2 : Hid ((kdN ts (j + 1)).length ≤ 600) := by have := LE.out; show _ ≤ _; omega
            clear LV2 LE RK
            go_wp2_with (at_builtin; refine wpList_append_own_at _ rfl (.tmp 25) (.tmp 26) 100 rfl w.heap.size 93 iX (.pointer none) 1 8 Tryz.underlying100 hiX hx0 hx1 hx2 rfl (by decide) u6 qs2.length (qs2.map ptV) rfl R2 ⟨gk, 0, none⟩ qk.length ck (qk.map ptV) rfl (by simp) NW (onesTp _) (by unfold maxLen; omega) (by omega) hz2 ?_; intro v7 w7 R8 G7 nil7 _; replace R8 := RowTp.snocs R8; clear nil7; obtain ⟨a6, c6, e6, _, _⟩ := RowTp.sees R8; rw [List.length_append] at e6; subst e6)
            have B8 := B.grown G7 B.size (fun k e => (World.ownsRow.lt R2 _ e).1)
            go_roundw
            case rel => exact ⟨j + 1, lv, qs2 ++ qk, by omega, by go_num, rfl, LV3, LE2, PA2, FI2, R8, B8⟩
            case measure => simp [intOf]; omega
    · have hje : j = ts.length := by have := HQ.out; omega
      have KR : Hid (KaRes ts (kdN ts j) lv) := .inl ⟨by rw [hje], by rw [LV.out, hje], KL.out⟩
      have F2 : Hid (0 < ts.length → (ndA ts 0).ks ≠ [] → los 0 ≤ (ptAt qs2 0).1) := fun h0 hn => (FI.out (by omega) hn).2
      obtain ⟨a6, c6, e6, _, _⟩ := RowTp.sees RR.out
      subst e6
      clear FI LV KL
      go_wp2
      exact bodyPost_ret (v := .tuple #[.slice a6 qs2.length c6, .int .i64 lv]) (by simp [results, Tryz.results107, go_sem]) rfl ⟨_, qs2, kdN ts j, lv, rfl, RR.out, PA.out, KR.out, F2.out, B⟩
end Go.Proofs.YtdkhaghcnijilaaGreat
