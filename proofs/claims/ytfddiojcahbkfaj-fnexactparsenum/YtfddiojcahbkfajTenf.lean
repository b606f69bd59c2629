/- The program's tenfold: a row of the call's own, ten times and a digit. -/
import Derived.Test.YtfddiojcahbkfajParse
import Derived.Test.YtfddiojcahbkfajSMag
import Derived.Laws.OwnMore
namespace Go.Proofs.Ytfddiojcahbkfaj
open Go.RowKit

/-- Limbs in a row of the call's own. -/
def RowU (base : Nat) (w : World) (v : Value) (xs : List Int) : Prop := w.ownsRow base 50 1 v xs.length (xs.map (Value.int .u32))
theorem RowU.at' {base q cap : Nat} {w : World} {ds : List Int} (h : RowU base w (.slice (some ⟨q, 0, none⟩) ds.length cap) ds) {j : Nat} (hj : j < ds.length) : w.cell? ⟨q, j, none⟩ = some (.int .u32 (ds[j]?.getD 0)) := by
  rw [h.cellAt j (by omega), List.getElem?_map, List.getElem?_eq_getElem hj]
  rfl
theorem RowU.put {base q cap : Nat} {w : World} {ds : List Int} (h : RowU base w (.slice (some ⟨q, 0, none⟩) ds.length cap) ds) (j : Nat) (x : Int) : RowU base (w.setCell ⟨q, j, none⟩ (.int .u32 x)) (.slice (some ⟨q, 0, none⟩) (ds.set j x).length cap) (ds.set j x) := by
  have := (h.stored j (.int .u32 x)).1
  unfold RowU
  rw [List.length_set, List.map_set]
  exact this
theorem RowU.shape {base : Nat} {w : World} {v : Value} {ds : List Int} (h : RowU base w v ds) : (v = .slice none 0 0 ∧ ds = []) ∨ ∃ q cap, v = .slice (some ⟨q, 0, none⟩) ds.length cap ∧ base ≤ q ∧ q < w.heap.size := by
  rcases h.2 with ⟨hv, h0⟩ | ⟨q, cap, cur, hv, hb, hh, _⟩
  · exact .inl ⟨hv, List.eq_nil_of_length_eq_zero h0⟩
  · refine .inr ⟨q, cap, hv, hb, ?_⟩
    rcases Nat.lt_or_ge q w.heap.size with h1 | h1
    · exact h1
    · rw [Array.getElem?_eq_none h1] at hh; cases hh

/-- What ten times limbs and a digit gives. -/
structure TenR (base : Nat) (w : World) (ob : Option Nat) (xs : List Int) (d : Int) (w' : World) (v' : Value) : Prop where
  is' : ∃ zs, RowU base w' v' zs ∧ Lim zs ∧ val zs = 10 * val xs + d ∧ zs.length ≤ xs.length + 1
  gr : w.grownBy w' ob

set_option maxRecDepth 20000 in
set_option maxHeartbeats 1000000 in
theorem tenfoldC (base : Nat) (v : Value) (xs : List Int) (d : Int) (w : World) (h : RowU base w v xs) (hl : Lim xs) (hx : xs.length ≤ 1000) (d0 : 0 ≤ d) (d1 : d < 10) (hb : base ≤ w.heap.size) :
    Calls Try.prog 31 #[v, .int .u64 d] w fun e w' => ∃ v', e = .returned v' ∧ TenR base w v.ownBlock xs d w' v' := by
  obtain ⟨i0, hi, hz0, hz1, hz2⟩ := info_parts infoU
  have HX : Hid (xs.length ≤ 1000) := hx
  have LX : Hid (Lim xs) := hl
  have T0 : Hid (Tf xs d 0 d xs) := Tf.start hl d0 d1
  clear hl
  rcases h.shape with ⟨rfl, rfl⟩ | ⟨q, cap, rfl, hq1, hq2⟩
  · have H0 : w.ownsRow base 50 1 (.slice none 0 0) 0 [] := h
    clear h T0
    go_enter Try.func31, Try.ntmps31
    go_wp2
    go_loop [1, 9] (fun s1 s9 => s1 = .int .u64 d ∧ s9 = .int .i64 0) (fun _ _ => 0)
    case atStart => exact ⟨rfl, rfl⟩
    case round =>
      obtain ⟨rfl, rfl⟩ := hrel
      by_cases hd : d = 0
      · subst hd
        go_wp2
        go_ret
        exact ⟨_, rfl, ⟨[], H0, Lim.nil, by simp [val], by simp⟩, grownBy_refl _ _⟩
      · have hd' : 0 < d := by omega
        go_wp2_with (at_builtin; refine wpList_append_own _ rfl (.tmp 29) (.tmp 32) 22 rfl base 50 i0 (.int .u32 0) 1 4 Try.underlying22 hi hz0 hz1 hz2 rfl (by decide) (.slice none 0 0) 0 [] rfl (H0.alloc _) ⟨w.heap.size, 0, none⟩ 1 _ ([d].map (Value.int .u32)) rfl rfl (one_new _ _ _) (ones _) (by unfold maxLen; omega) (by omega) (by simp <;> omega) ?_; intro v' w' hown' hgrow' hiff; clear hiff)
        go_ret
        have G : w.grownBy w' none := grownBy_trans (World.grownBy_alloc w _ none) hgrow'
        exact ⟨_, rfl, ⟨[d], hown', by intro z hz; simp at hz; omega, by simp [val], by simp⟩, G⟩
  · have O0 : w.ownsRow base 50 1 (.slice (some ⟨q, 0, none⟩) xs.length cap) xs.length (xs.map (Value.int .u32)) := h
    go_enter Try.func31, Try.ntmps31
    go_wp2
    go_loopw [1, 9] (fun s1 s9 wr => ∃ (i : Nat) (m : Int) (zs : List Int), i ≤ xs.length ∧ s9 = .int .i64 i ∧ s1 = .int .u64 m ∧ 0 ≤ m ∧ m < 10 ∧ RowU base wr (.slice (some ⟨q, 0, none⟩) zs.length cap) zs ∧ Hid (Tf xs d i m zs) ∧ w.grownBy wr (some q)) (fun _ s9 _ => xs.length - (intOf s9).toNat)
    case atStart => exact ⟨0, d, xs, Nat.zero_le _, rfl, rfl, d0, d1, h, T0, grownBy_refl _ _⟩
    case round =>
      obtain ⟨i, m, zs, hil, rfl, rfl, m0, m1, hR, hT, G⟩ := hrel
      have hzl : zs.length = xs.length := hT.out.len
      by_cases hlt : i < xs.length
      · have g1 := hR.at' (j := i) (by omega)
        rw [hT.out.get] at g1
        have g2 := hR.frozenAt i
        have hxb := LX.out.get i
        have hT2 : Hid (Tf xs d (i + 1) ((m + xs[i]?.getD 0 * 10) / 4294967296) (zs.set i ((m + xs[i]?.getD 0 * 10) % 4294967296))) := hT.out.step hlt rfl hxb
        have hR2 := hR.put i ((m + xs[i]?.getD 0 * 10) % 4294967296)
        have G2 := grownBy_setCell G (p := ⟨q, i, none⟩) rfl (.int .u32 ((m + xs[i]?.getD 0 * 10) % 4294967296))
        have HZL : Hid (zs.length = xs.length) := hzl
        clear hR hT G hzl h O0 T0
        generalize xs[i]?.getD 0 = x at *
        obtain ⟨x0, x1⟩ := hxb
        go_wp2
        go_roundw
        case rel => exact ⟨i + 1, _, _, by omega, by go_num, rfl, by omega, by omega, hR2, hT2, G2⟩
        case measure => simp [intOf]; omega
      · obtain rfl : i = xs.length := by omega
        have D := hT.out.done
        have lz := hT.out.lim
        have HZL : Hid (zs.length = xs.length) := hzl
        have HD : Hid (val zs + 4294967296 ^ zs.length * m = 10 * val xs + d) := D
        have HLZ : Hid (Lim zs) := lz
        rw [hzl] at hR
        have O1 : wr.ownsRow base 50 1 (.slice (some ⟨q, 0, none⟩) xs.length cap) zs.length (zs.map (Value.int .u32)) := by
          have hh : RowU base wr (.slice (some ⟨q, 0, none⟩) xs.length cap) zs := hR
          exact hh
        clear D lz hT h O0 T0 hR
        by_cases hm : m = 0
        · subst hm
          clear hzl
          go_wp2
          go_ret
          exact ⟨_, rfl, ⟨zs, O1, HLZ.out, by have := HD.out; simpa using this, by rw [HZL.out]; omega⟩, G⟩
        · have hm' : 0 < m := by omega
          rw [hzl] at O1
          clear hzl
          have sz := G.size
          go_wp2_with (at_builtin; refine wpList_append_own _ rfl (.tmp 29) (.tmp 32) 22 rfl base 50 i0 (.int .u32 0) 1 4 Try.underlying22 hi hz0 hz1 hz2 rfl (by decide) (.slice (some ⟨q, 0, none⟩) xs.length cap) xs.length (zs.map (Value.int .u32)) rfl (O1.alloc _) ⟨wr.heap.size, 0, none⟩ 1 _ ([m].map (Value.int .u32)) rfl rfl (one_new _ _ _) (ones _) (by have := HX.out; unfold maxLen; omega) (by have := HX.out; omega) (by simp <;> omega) ?_; intro v' w' hown' hgrow' hiff; clear hiff)
          go_ret
          have O2 := ownsRow_snoc hown'
          have G2 : w.grownBy w' (some q) := grownBy_trans (grownBy_trans G (World.grownBy_alloc wr _ (some q))) hgrow'
          refine ⟨_, rfl, ⟨zs ++ [m], ?_, HLZ.out.snoc (by omega), ?_, by simp [HZL.out]⟩, G2⟩
          · unfold RowU
            rw [List.length_append, HZL.out]
            exact O2
          · rw [val_snoc]
            exact HD.out
end Go.Proofs.Ytfddiojcahbkfaj
