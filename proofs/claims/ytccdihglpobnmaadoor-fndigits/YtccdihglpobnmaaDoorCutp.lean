import Derived.Test.YtccdihglpobnmaaDoorParse
import Derived.Test.YtccdihglpobnmaaDoorProg
import Derived.WalkLawsBesides
import Derived.Test.YtccdihglpobnmaaDoorSMag
import Derived.Laws.OwnMore
/- strings.CutPrefix at the sign. -/
namespace Go.Proofs.YtccdihglpobnmaaDoor
open Go.RowKit

theorem head_minus {s : ByteArray} (h : 1 ≤ s.size) : ((s.extract 0 1).toList == [45]) = mnB s := by
  have hl : 0 < s.data.toList.length := by simp; omega
  have e1 : (s.extract 0 1).toList = [s.data.toList[0]] := by
    rw [ByteArray.toList_eq, ByteArray.data_extract, Array.toList_extract]
    simp only [List.extract, List.drop_zero]
    rw [List.take_succ_eq_append_getElem hl]
    simp
  have e2 : (bl s)[0]?.getD 0 = (s.data.toList[0].toNat : Int) := by
    unfold bl
    rw [List.getElem?_map, List.getElem?_eq_getElem hl]
    rfl
  rw [e1]
  unfold mnB
  rw [e2, decide_eq_true (show 0 < s.size by omega), Bool.eq_iff_iff]
  simp
  constructor
  · intro e; rw [e]; rfl
  · intro e
    apply UInt8.toNat.inj
    show s.data[0].toNat = 45
    omega

set_option maxHeartbeats 400000 in
theorem hasMinus (s : ByteArray) (w : World) (hs : s.size ≤ 1048576) :
    Calls Tryd.prog 87 #[.string s, .string { data := #[45] }] w fun e w' => e = .returned (.bool (mnB s)) ∧ w' = w := by
  by_cases h0 : 1 ≤ s.size
  · have E : Hid (((s.extract 0 1).toList == [45]) = mnB s) := head_minus h0
    go_enter Tryd.func87, Tryd.ntmps87
    go_wp2
    go_ret
    exact ⟨by rw [← E.out]; rfl, rfl⟩
  · have E : Hid (mnB s = false) := by show _ = _; unfold mnB; rw [decide_eq_false (by omega)]; rfl
    go_enter Tryd.func87, Tryd.ntmps87
    go_wp2
    go_ret
    exact ⟨by rw [E.out]; rfl, rfl⟩

/-- The text behind the sign. -/
def tl (s : ByteArray) : ByteArray := if mnB s = true then s.extract 1 s.size else s
theorem bl_tl (s : ByteArray) : bl (tl s) = pd s := by
  unfold tl pd
  split
  · exact bl_tail s
  · rfl

set_option maxHeartbeats 400000 in
theorem cutMinus' (s : ByteArray) (w : World) (hs : s.size ≤ 1048576) :
    Calls Tryd.prog 68 #[.string s, .string { data := #[45] }] w fun e w' => e = .returned (.tuple #[.string (tl s), .bool (mnB s)]) ∧ w' = w := by
  cases h : mnB s
  · have E : Hid (tl s = s) := by show _ = _; unfold tl; rw [h]; rfl
    have HH : Hid (mnB s = false) := h
    go_enter Tryd.func68, Tryd.ntmps68
    go_wp2_with fail
    refine (hasMinus s _ hs).mono ?_
    rintro e w1 ⟨rfl, rfl⟩
    rw [HH.out]
    go_wp2
    go_ret2
    exact ⟨by rw [E.out]; rfl, rfl⟩
  · have E : Hid (tl s = s.extract 1 s.size) := by show _ = _; unfold tl; rw [h]; rfl
    have HH : Hid (mnB s = true) := h
    have h1 : 1 ≤ s.size := by
      unfold mnB at h
      simp at h
      omega
    go_enter Tryd.func68, Tryd.ntmps68
    go_wp2_with fail
    refine (hasMinus s _ hs).mono ?_
    rintro e w1 ⟨rfl, rfl⟩
    rw [HH.out]
    go_wp2
    go_ret2
    exact ⟨by rw [E.out]; rfl, rfl⟩

set_option maxHeartbeats 400000 in
theorem cutMinus (s : ByteArray) (w : World) (hs : s.size ≤ 1048576) :
    Calls Tryd.prog 43 #[.string s, .string { data := #[45] }] w fun e w' => e = .returned (.tuple #[.string (tl s), .bool (mnB s)]) ∧ w' = w := by
  go_enter Tryd.func43, Tryd.ntmps43
  go_wp2_with fail
  refine (cutMinus' s _ hs).mono ?_
  rintro e w1 ⟨rfl, rfl⟩
  go_wp2
  go_ret2
  exact ⟨rfl, rfl⟩
end Go.Proofs.YtccdihglpobnmaaDoor

/- The program's tenfold: a row of the call's own, ten times and a digit. -/
namespace Go.Proofs.YtccdihglpobnmaaDoor
open Go.RowKit

/-- Limbs in a row of the call's own. -/
def RowU (base : Nat) (w : World) (v : Value) (xs : List Int) : Prop := w.ownsRow base 59 1 v xs.length (xs.map (Value.int .u32))
theorem RowU.at' {base q cap : Nat} {w : World} {ds : List Int} (h : RowU base w (.slice (some ⟨q, 0, none⟩) ds.length cap) ds) {j : Nat} (hj : j < ds.length) : w.cell? ⟨q, j, none⟩ = some (.int .u32 (ds[j]?.getD 0)) := by
  rw [h.cellAt j (by omega), List.getElem?_map, List.getElem?_eq_getElem hj]
  rfl
theorem RowU.put {base q cap : Nat} {w : World} {ds : List Int} (h : RowU base w (.slice (some ⟨q, 0, none⟩) ds.length cap) ds) (j : Nat) (x : Int) : RowU base (w.setCell ⟨q, j, none⟩ (.int .u32 x)) (.slice (some ⟨q, 0, none⟩) (ds.set j x).length cap) (ds.set j x) := by
  have := (h.stored j (.int .u32 x)).1
  unfold RowU
  rw [List.length_set, List.map_set]
  exact this
theorem RowU.shape {base : Nat} {w : World} {v : Value} {ds : List Int} (h : RowU base w v ds) : (v = .slice none 0 0 ∧ ds = []) ∨ ∃ q cap, v = .slice (some ⟨q, 0, none⟩) ds.length cap ∧ base ≤ q ∧ q < w.heap.size := by
  rcases h.2 with ⟨hv, h0⟩ | ⟨q, cap, cur, hv, hb, hh, _⟩
  · exact .inl ⟨hv, List.eq_nil_of_length_eq_zero h0⟩
  · refine .inr ⟨q, cap, hv, hb, ?_⟩
    rcases Nat.lt_or_ge q w.heap.size with h1 | h1
    · exact h1
    · rw [Array.getElem?_eq_none h1] at hh; cases hh

/-- What ten times limbs and a digit gives. -/
structure TenR (base : Nat) (w : World) (ob : Option Nat) (xs : List Int) (d : Int) (w' : World) (v' : Value) : Prop where
  is' : ∃ zs, RowU base w' v' zs ∧ Lim zs ∧ val zs = 10 * val xs + d ∧ zs.length ≤ xs.length + 1
  gr : w.grownBy w' ob

set_option maxRecDepth 20000 in
set_option maxHeartbeats 1000000 in
theorem tenfoldC (base : Nat) (v : Value) (xs : List Int) (d : Int) (w : World) (h : RowU base w v xs) (hl : Lim xs) (hx : xs.length ≤ 1000) (d0 : 0 ≤ d) (d1 : d < 10) (hb : base ≤ w.heap.size) :
    Calls Tryd.prog 44 #[v, .int .u64 d] w fun e w' => ∃ v', e = .returned v' ∧ TenR base w v.ownBlock xs d w' v' := by
  obtain ⟨i0, hi, hz0, hz1, hz2⟩ := info_parts infoU
  have HX : Hid (xs.length ≤ 1000) := hx
  have LX : Hid (Lim xs) := hl
  have T0 : Hid (Tf xs d 0 d xs) := Tf.start hl d0 d1
  clear hl
  rcases h.shape with ⟨rfl, rfl⟩ | ⟨q, cap, rfl, hq1, hq2⟩
  · have H0 : w.ownsRow base 59 1 (.slice none 0 0) 0 [] := h
    clear h T0
    go_enter Tryd.func44, Tryd.ntmps44
    go_wp2
    go_loop [1, 9] (fun s1 s9 => s1 = .int .u64 d ∧ s9 = .int .i64 0) (fun _ _ => 0)
    case atStart => exact ⟨rfl, rfl⟩
    case round =>
      obtain ⟨rfl, rfl⟩ := hrel
      by_cases hd : d = 0
      · subst hd
        go_wp2
        go_ret
        exact ⟨_, rfl, ⟨[], H0, Lim.nil, by simp [val], by simp⟩, grownBy_refl _ _⟩
      · have hd' : 0 < d := by omega
        go_wp2_with (at_builtin; refine wpList_append_own _ rfl (.tmp 29) (.tmp 32) 24 rfl base 59 i0 (.int .u32 0) 1 4 Tryd.underlying24 hi hz0 hz1 hz2 rfl (by decide) (.slice none 0 0) 0 [] rfl (H0.alloc _) ⟨w.heap.size, 0, none⟩ 1 _ ([d].map (Value.int .u32)) rfl rfl (one_new _ _ _) (ones _) (by unfold maxLen; omega) (by omega) (by simp <;> omega) ?_; intro v' w' hown' hgrow' hiff; clear hiff)
        go_ret
        have G : w.grownBy w' none := grownBy_trans (World.grownBy_alloc w _ none) hgrow'
        exact ⟨_, rfl, ⟨[d], hown', by intro z hz; simp at hz; omega, by simp [val], by simp⟩, G⟩
  · have O0 : w.ownsRow base 59 1 (.slice (some ⟨q, 0, none⟩) xs.length cap) xs.length (xs.map (Value.int .u32)) := h
    go_enter Tryd.func44, Tryd.ntmps44
    go_wp2
    go_loopw [1, 9] (fun s1 s9 wr => ∃ (i : Nat) (m : Int) (zs : List Int), i ≤ xs.length ∧ s9 = .int .i64 i ∧ s1 = .int .u64 m ∧ 0 ≤ m ∧ m < 10 ∧ RowU base wr (.slice (some ⟨q, 0, none⟩) zs.length cap) zs ∧ Hid (Tf xs d i m zs) ∧ w.grownBy wr (some q)) (fun _ s9 _ => xs.length - (intOf s9).toNat)
    case atStart => exact ⟨0, d, xs, Nat.zero_le _, rfl, rfl, d0, d1, h, T0, grownBy_refl _ _⟩
    case round =>
      obtain ⟨i, m, zs, hil, rfl, rfl, m0, m1, hR, hT, G⟩ := hrel
      have hzl : zs.length = xs.length := hT.out.len
      by_cases hlt : i < xs.length
      · have g1 := hR.at' (j := i) (by omega)
        rw [hT.out.get] at g1
        have g2 := hR.frozenAt i
        have hxb := LX.out.get i
        have hT2 : Hid (Tf xs d (i + 1) ((m + xs[i]?.getD 0 * 10) / 4294967296) (zs.set i ((m + xs[i]?.getD 0 * 10) % 4294967296))) := hT.out.step hlt rfl hxb
        have hR2 := hR.put i ((m + xs[i]?.getD 0 * 10) % 4294967296)
        have G2 := grownBy_setCell G (p := ⟨q, i, none⟩) rfl (.int .u32 ((m + xs[i]?.getD 0 * 10) % 4294967296))
        have HZL : Hid (zs.length = xs.length) := hzl
        clear hR hT G hzl h O0 T0
        generalize xs[i]?.getD 0 = x at *
        obtain ⟨x0, x1⟩ := hxb
        go_wp2
        go_roundw
        case rel => exact ⟨i + 1, _, _, by omega, by go_num, rfl, by omega, by omega, hR2, hT2, G2⟩
        case measure => simp [intOf]; omega
      · obtain rfl : i = xs.length := by omega
        have D := hT.out.done
        have lz := hT.out.lim
        have HZL : Hid (zs.length = xs.length) := hzl
        have HD : Hid (val zs + 4294967296 ^ zs.length * m = 10 * val xs + d) := D
        have HLZ : Hid (Lim zs) := lz
        rw [hzl] at hR
        have O1 : wr.ownsRow base 59 1 (.slice (some ⟨q, 0, none⟩) xs.length cap) zs.length (zs.map (Value.int .u32)) := by
          have hh : RowU base wr (.slice (some ⟨q, 0, none⟩) xs.length cap) zs := hR
          exact hh
        clear D lz hT h O0 T0 hR
        by_cases hm : m = 0
        · subst hm
          clear hzl
          go_wp2
          go_ret
          exact ⟨_, rfl, ⟨zs, O1, HLZ.out, by have := HD.out; simpa using this, by rw [HZL.out]; omega⟩, G⟩
        · have hm' : 0 < m := by omega
          rw [hzl] at O1
          clear hzl
          have sz := G.size
          go_wp2_with (at_builtin; refine wpList_append_own _ rfl (.tmp 29) (.tmp 32) 24 rfl base 59 i0 (.int .u32 0) 1 4 Tryd.underlying24 hi hz0 hz1 hz2 rfl (by decide) (.slice (some ⟨q, 0, none⟩) xs.length cap) xs.length (zs.map (Value.int .u32)) rfl (O1.alloc _) ⟨wr.heap.size, 0, none⟩ 1 _ ([m].map (Value.int .u32)) rfl rfl (one_new _ _ _) (ones _) (by have := HX.out; unfold maxLen; omega) (by have := HX.out; omega) (by simp <;> omega) ?_; intro v' w' hown' hgrow' hiff; clear hiff)
          go_ret
          have O2 := ownsRow_snoc hown'
          have G2 : w.grownBy w' (some q) := grownBy_trans (grownBy_trans G (World.grownBy_alloc wr _ (some q))) hgrow'
          refine ⟨_, rfl, ⟨zs ++ [m], ?_, HLZ.out.snoc (by omega), ?_, by simp [HZL.out]⟩, G2⟩
          · unfold RowU
            rw [List.length_append, HZL.out]
            exact O2
          · rw [val_snoc]
            exact HD.out
end Go.Proofs.YtccdihglpobnmaaDoor
