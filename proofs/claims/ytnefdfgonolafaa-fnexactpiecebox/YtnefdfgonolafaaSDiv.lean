/- The specification's division bit by bit: l1DivMag. -/
import Derived.Test.YtnefdfgonolafaaWindow
import Derived.Test.YtnefdfgonolafaaSReach
import Derived.Test.YtnefdfgonolafaaAddI
namespace Go.Proofs.Ytnefdfgonolafaa
open Go.RowKit

set_option maxHeartbeats 4000000 in
set_option maxRecDepth 20000 in
theorem l1DivMagC (a b : Option Addr) (c d : Nat) (xs ys : List Int) (w : World) (h : Sees w a c xs) (k : Sees w b d ys) (hx : xs.length ≤ 1048576) (hy : ys.length ≤ 1048576) (hb : 0 < val ys) :
    Calls Try.prog 40 #[.slice a xs.length c, .slice b ys.length d] w fun e w' => ∃ rb qs rs, e = .returned (.tuple #[.slice (some ⟨w.heap.size, 0, none⟩) xs.length xs.length, .slice (some ⟨rb, 0, none⟩) (ys.length + 1) (ys.length + 1)]) ∧
      Divs w.heap.size w' w.heap.size rb qs rs xs.length (ys.length + 1) ∧ val qs = val xs / val ys ∧ val rs = val xs % val ys ∧ Below w.heap.size w w' := by
  obtain ⟨i0, hi, hz0, hz1, hz2⟩ := info_parts infoU
  have HX : Hid (xs.length ≤ 1048576) := hx
  have HY : Hid (ys.length ≤ 1048576) := hy
  have mx : xs.length ≤ 144115188075855870 := by omega
  have my : ys.length ≤ 144115188075855870 := by omega
  clear hx hy
  go_enter Try.func40, Try.ntmps40
  go_wp2_with (first
    | (at_make; refine wpList_make_full _ rfl (.tmp 16) (.tmp 16) 22 rfl w.heap.size 80 i0 (.int .u32 0) 1 Try.underlying22 hi hz0 hz1 .i64 .i64 _ _ xs.length rfl rfl rfl rfl ?b2 ?b3 (Nat.le_refl _) ?_; (case b2 => rw [hz2]; have := HX.out; omega); (case b3 => have := HX.out; unfold maxLen; omega); intro w0 hown0 hgrow0; rw [made_list] at hown0; have hoq := (Own.of_row (xs := List.replicate xs.length 0) (by rw [List.map_replicate]; exact hown0) (Lim.zeros _)).1; have hb0 : Below w.heap.size w w0 := ((Below.refl _ _).grown hgrow0 (Nat.le_refl _) (fun k h => by cases h)); have hlt0 := (hown0.lt _ rfl).2; clear hown0 hgrow0)
    | (at_make; refine wpList_make_full _ rfl (.tmp 20) (.tmp 20) 22 rfl w.heap.size 80 i0 (.int .u32 0) 1 Try.underlying22 hi hz0 hz1 .i64 .i64 _ _ (ys.length + 1) rfl rfl ?m1 ?m2 ?d2 ?d3 hb0.size ?_; (case m1 => omega); (case m2 => omega); (case d2 => rw [hz2]; have := HY.out; omega); (case d3 => have := HY.out; unfold maxLen; omega); intro w1 hown1 hgrow1; rw [made_list] at hown1; have hor := (Own.of_row (xs := List.replicate (ys.length + 1) 0) (by rw [List.map_replicate]; exact hown1) (Lim.zeros _)).1; have hlt1 := (hown1.lt _ rfl).2; have hb1 : Below w0.heap.size w0 w1 := ((Below.refl _ _).grown hgrow1 (Nat.le_refl _) (fun k h => by cases h)); clear hown1 hgrow1))
  have D0 : Divs w.heap.size w1 w.heap.size w0.heap.size (List.replicate xs.length 0) (List.replicate (ys.length + 1) 0) xs.length (ys.length + 1) := ⟨hoq.below hb1, hor, by simp, by simp, by omega⟩
  have B0 : Below w.heap.size w w1 := hb0.trans (hb1.mono hb0.size)
  have LX : Hid (Lim xs) := h.lim
  have LY : Hid (Lim ys) := k.lim
  have S0 : Hid (DivAt (val xs) (val ys) (32 * xs.length) (val (List.replicate xs.length 0)) (val (List.replicate (ys.length + 1) 0))) := by
    rw [val_zeros, val_zeros]
    refine DivAt.start (val_nonneg h.lim) ?_
    have := val_lt h.lim
    rw [← p2_32, ← Int.pow_mul] at this
    exact this
  have HB : Hid (0 < val ys) := hb
  clear hoq hor hb0 hb1 hi hz0 hz1 hz2 hb
  generalize w0.heap.size = rb at *
  go_loopw [8] (fun s wr => ∃ (t : Nat) (qs rs : List Int), t ≤ 32 * xs.length ∧ s = .int .i64 ((t : Int) - 1) ∧ Divs w.heap.size wr w.heap.size rb qs rs xs.length (ys.length + 1) ∧ Hid (DivAt (val xs) (val ys) t (val qs) (val rs)) ∧ Below w.heap.size w wr) (fun s _ => (intOf s + 1).toNat)
  case atStart => exact ⟨32 * xs.length, _, _, Nat.le_refl _, by go_num, D0, S0, B0⟩
  case round =>
    obtain ⟨t, qs, rs, ht, rfl, hD, hat, hB⟩ := hrel
    clear D0 S0 B0
    by_cases h0 : t = 0
    · subst h0
      have E : Hid (val qs = val xs / val ys ∧ val rs = val xs % val ys) := hat.out.done
      clear hat h k
      go_wp2
      go_ret2
      exact ⟨rb, qs, rs, rfl, hD, E.out.1, E.out.2, hB⟩
    · obtain ⟨i, rfl⟩ : ∃ i, t = i + 1 := ⟨t - 1, by omega⟩
      have hxs := h.below hB
      have hq32 : i / 32 < xs.length := by omega
      obtain ⟨b1, o1, rfl, hc1⟩ := hxs.cells (by intro e; simp [e] at hq32)
      have g1 := hc1 (i / 32) hq32
      have hX := LX.out.get (i / 32)
      have hbit := bit_at xs i LX.out
      clear hc1 hxs
      generalize xs[i / 32]?.getD 0 = X at *
      obtain ⟨bit, hbe⟩ : ∃ bit, X / 2 ^ (i % 32) % 2 = bit := ⟨_, rfl⟩
      have hb01 : 0 ≤ bit ∧ bit ≤ 1 := by omega
      obtain ⟨bt0, bt1⟩ := hb01
      have hand : bits BinOp.and IntKind.u32 (X / 2 ^ (i % 32)) 1 = bit := by
        have hp := p2_pos (i % 32)
        have h1 : 0 ≤ X / 2 ^ (i % 32) := Int.ediv_nonneg hX.1 (by omega)
        have h2 : X / 2 ^ (i % 32) ≤ X := Int.ediv_le_self _ hX.1
        rw [and_one32 ⟨h1, by omega⟩, hbe]
      have HBIT : Hid (val xs / 2 ^ i % 2 = bit) := by show _ = _; rw [hbit, hbe]
      have HR : Hid (0 ≤ val rs ∧ val rs < val ys) := hat.out.bound HB.out
      clear hbe hbit hX
      go_wp2
      go_loopw [9, 10] (fun sb s wi => ∃ (j : Nat) (bb : Int) (ws : List Int), j ≤ ys.length + 1 ∧ s = .int .i64 j ∧ sb = .int .u32 bb ∧ 0 ≤ bb ∧ bb ≤ 1 ∧ Hid (ws.length = j) ∧ Divs w.heap.size wi w.heap.size rb qs (ws ++ rs.drop j) xs.length (ys.length + 1) ∧ Hid (val ws + 4294967296 ^ j * bb = 2 * val (rs.take j) + bit) ∧ Below w.heap.size w wi) (fun _ s _ => (ys.length + 1) - (intOf s).toNat)
      case atStart => exact ⟨0, bit, [], Nat.zero_le _, rfl, rfl, bt0, bt1, rfl, by simpa using hD, by simp [Hid, val], hB⟩
      case round =>
        obtain ⟨j, bb, ws, hj, rfl, rfl, bb0, bb1, hw, hD1, he, hB1⟩ := hrel
        clear g1 hand
        have hrl := hD.rl
        by_cases hjt : j < ys.length + 1
        · obtain ⟨g2, g3⟩ := hD1.cellR hjt
          rw [row_get hw.out (by rw [hrl]; exact hjt)] at g2
          have hx := hD.r.lim.get j
          obtain ⟨s1, s2, s3⟩ := shl_limb (rs[j]?.getD 0) bb hx ⟨bb0, bb1⟩
          have hr := shl_round hw.out he.out s3
          have hor := or_low32 (x := rs[j]?.getD 0 * 2 % 4294967296) (b := bb) (by omega) (by omega) ⟨bb0, bb1⟩
          have D2 := hD1.setR hjt ⟨s2, s1⟩
          rw [row_step hw.out (by rw [hrl]; exact hjt)] at D2
          have B2 := hB1.setCell (p := ⟨rb, j, none⟩) (by dsimp only; omega) (.int .u32 (rs[j]?.getD 0 * 2 % 4294967296 + bb))
          have HW2 : Hid ((ws ++ [rs[j]?.getD 0 * 2 % 4294967296 + bb]).length = j + 1) := by show _ = _; simp [hw.out]
          have HE2 : Hid (val (ws ++ [rs[j]?.getD 0 * 2 % 4294967296 + bb]) + 4294967296 ^ (j + 1) * (rs[j]?.getD 0 / 2147483648) = 2 * val (rs.take (j + 1)) + bit) := hr
          clear hr he hw hD1 hB1 hrl s1 s2 s3
          generalize rs[j]?.getD 0 = x at *
          obtain ⟨hx0, hx1⟩ := hx
          go_wp2
          go_roundw
          case rel => exact ⟨j + 1, _, _, by omega, by go_num, rfl, by omega, by omega, HW2, D2, HE2, B2⟩
          case measure => simp [intOf]; omega
        · obtain rfl : j = ys.length + 1 := by omega
          have e1 : rs.drop (ys.length + 1) = [] := List.drop_eq_nil_of_le (by rw [hrl]; exact Nat.le_refl _)
          rw [e1, List.append_nil] at hD1
          have hV : Hid (val ws = 2 * val rs + bit) := by
            have h1 := he.out
            rw [List.take_of_length_le (by rw [hrl]; exact Nat.le_refl _)] at h1
            have h2 := val_lt LY.out
            have h3 := val_nonneg hD1.r.lim
            have h4 := HR.out
            have h5 := p_pos ys.length
            rw [Int.pow_succ] at h1
            show _ = _
            by_cases hc : bb = 0
            · subst hc; simp at h1; omega
            · obtain rfl : bb = 1 := by omega
              omega
          have HW : Hid (ws.length = ys.length + 1) := hw
          clear he hw e1 hrl
          go_wp2_with fail
          refine (l1ReachesC (some ⟨rb, 0, none⟩) b (ys.length + 1) d ws ys _ hD1.r.toSees (k.below hB1) HW.out).mono ?_
          rintro e w2 ⟨rfl, n, rfl⟩
          by_cases hre : val ys ≤ val ws
          · rw [decide_eq_true hre]
            have NX : Hid (DivAt (val xs) (val ys) i (val qs + 2 ^ i) (val ws - val ys)) := by
              have := hat.out.yes HB.out (by rw [HBIT.out, ← hV.out]; exact hre)
              rw [HBIT.out, ← hV.out] at this
              exact this
            have HRE : Hid (val ys ≤ val ws) := hre
            have HFREE : Hid (qs[i / 32]?.getD 0 / 2 ^ (i % 32) % 2 = 0) := by
              have h1 := hat.out.free
              rw [bit_at qs i hD1.q.lim] at h1
              exact h1
            clear hre
            go_wp2
            go_loopw [12, 13] (fun sb s wi => ∃ (j : Nat) (cr : Int) (us : List Int), j ≤ ys.length + 1 ∧ s = .int .i64 j ∧ sb = .int .u64 cr ∧ 0 ≤ cr ∧ cr ≤ 1 ∧ Hid (us.length = j) ∧ Divs w.heap.size wi w.heap.size rb qs (us ++ ws.drop j) xs.length (ys.length + 1) ∧ Hid (val us - 4294967296 ^ j * cr = val (ws.take j) - 1 * val (ys.take j)) ∧ Below w.heap.size w wi) (fun _ s _ => (ys.length + 1) - (intOf s).toNat)
            case atStart => exact ⟨0, 0, [], Nat.zero_le _, rfl, rfl, by decide, by decide, rfl, by simpa using hD1.drewN n, by simp [Hid, val], below_drewN hB1 n⟩
            case round =>
              obtain ⟨j, cr, us, hj2, rfl, rfl, c0, c1, hw, hD2, he, hB2⟩ := hrel
              by_cases hjt2 : j < ys.length + 1
              · obtain ⟨g2, g3⟩ := hD2.cellR hjt2
                rw [row_get hw.out (by rw [HW.out]; exact hjt2)] at g2
                have hx := hD1.r.lim.get j
                have hy := LY.out.get j
                have hr := fun x q hxq => sub_round (x := x) (q := q) hw.out he.out hxq
                have hst := fun v hv => hD2.setR (v := v) hjt2 hv
                simp only [row_step hw.out (show j < ws.length by rw [HW.out]; exact hjt2)] at hst
                have hbs := fun u => hB2.setCell (p := ⟨rb, j, none⟩) (by dsimp only; omega) u
                have hwl : ∀ x : Int, Hid ((us ++ [x]).length = j + 1) := fun x => by show _ = _; simp [hw.out]
                by_cases hjy : j < ys.length
                · obtain ⟨b3, o3, rfl, hc3⟩ := (k.below hB2).cells (by intro e; simp [e] at hjy)
                  have g4 := hc3 j hjy
                  have H1 : Hid (val (us ++ [(ws[j]?.getD 0 + 4294967296 - cr - ys[j]?.getD 0) % 4294967296]) - 4294967296 ^ (j + 1) * (1 - (ws[j]?.getD 0 + 4294967296 - cr - ys[j]?.getD 0) / 4294967296) = val (ws.take (j + 1)) - 1 * val (ys.take (j + 1))) := hr _ _ (by omega)
                  have D3 := hst ((ws[j]?.getD 0 + 4294967296 - cr - ys[j]?.getD 0) % 4294967296) (by omega)
                  have B3 := hbs (.int .u32 ((ws[j]?.getD 0 + 4294967296 - cr - ys[j]?.getD 0) % 4294967296))
                  have W3 := hwl ((ws[j]?.getD 0 + 4294967296 - cr - ys[j]?.getD 0) % 4294967296)
                  clear hr hst hbs hc3 hw hD2 he hB2 hwl
                  generalize ws[j]?.getD 0 = x at *
                  generalize ys[j]?.getD 0 = y at *
                  obtain ⟨x0, x1⟩ := hx
                  obtain ⟨y0, y1⟩ := hy
                  go_wp2
                  go_roundw
                  case rel => exact ⟨j + 1, _, _, by omega, by go_num, rfl, by omega, by omega, W3, D3, H1, B3⟩
                  case measure => simp [intOf]; omega
                · have ey : ys[j]?.getD 0 = 0 := by rw [List.getElem?_eq_none (by omega)]; rfl
                  have H1 : Hid (val (us ++ [(ws[j]?.getD 0 + 4294967296 - cr) % 4294967296]) - 4294967296 ^ (j + 1) * (1 - (ws[j]?.getD 0 + 4294967296 - cr) / 4294967296) = val (ws.take (j + 1)) - 1 * val (ys.take (j + 1))) := hr _ _ (by omega)
                  have D3 := hst ((ws[j]?.getD 0 + 4294967296 - cr) % 4294967296) (by omega)
                  have B3 := hbs (.int .u32 ((ws[j]?.getD 0 + 4294967296 - cr) % 4294967296))
                  have W3 := hwl ((ws[j]?.getD 0 + 4294967296 - cr) % 4294967296)
                  clear hr hst hbs hw hD2 he hB2 hwl ey hy
                  generalize ws[j]?.getD 0 = x at *
                  obtain ⟨x0, x1⟩ := hx
                  go_wp2
                  go_roundw
                  case rel => exact ⟨j + 1, _, _, by omega, by go_num, rfl, by omega, by omega, W3, D3, H1, B3⟩
                  case measure => simp [intOf]; omega
              · obtain rfl : j = ys.length + 1 := by omega
                have e2 : ws.drop (ys.length + 1) = [] := List.drop_eq_nil_of_le (Nat.le_of_eq HW.out)
                rw [e2, List.append_nil] at hD2
                have hV2 : Hid (val us = val ws - val ys) := by
                  have h1 := he.out
                  rw [List.take_of_length_le (Nat.le_of_eq HW.out), List.take_of_length_le (Nat.le_succ _), Int.one_mul] at h1
                  have h2 := HRE.out
                  have h3 := val_lt hD2.r.lim
                  have h4 := val_nonneg hD2.r.lim
                  have h6 := val_nonneg LY.out
                  have h7 := val_lt hD1.r.lim
                  rw [hw.out] at h3
                  rw [HW.out] at h7
                  have h5 := p_pos (ys.length + 1)
                  show _ = _
                  by_cases hc : cr = 0
                  · subst hc; simp at h1; omega
                  · obtain rfl : cr = 1 := by omega
                    omega
                obtain ⟨g5, g6⟩ := hD2.cellQ hq32
                have hor := or_bit_walk (hD2.q.lim.get (i / 32)) (Nat.mod_lt i (by decide)) HFREE.out
                have D4 := hD2.setQ hq32 (or_bit_lt (hD2.q.lim.get (i / 32)) (Nat.mod_lt i (by decide)) HFREE.out)
                have B4 := hB2.setCell (p := ⟨w.heap.size, i / 32, none⟩) (Nat.le_refl _) (.int .u32 (qs[i / 32]?.getD 0 + 2 ^ (i % 32)))
                have NX2 : Hid (DivAt (val xs) (val ys) i (val (qs.set (i / 32) (qs[i / 32]?.getD 0 + 2 ^ (i % 32)))) (val us)) := by
                  rw [set_bit (by rw [hD2.ql]; exact hq32), hV2.out]
                  exact NX.out
                clear he hw e2 hD2 hB2 NX HRE HFREE hV2 hV hat
                generalize qs[i / 32]?.getD 0 = Y at *
                go_wp2
                go_roundw
                case rel => exact ⟨i, _, us, by omega, by go_num, D4, NX2, B4⟩
                case measure => simp [intOf]
          · rw [decide_eq_false hre]
            have NX : Hid (DivAt (val xs) (val ys) i (val qs) (val ws)) := by
              have := hat.out.no HB.out (by rw [HBIT.out, ← hV.out]; exact hre)
              rw [HBIT.out, ← hV.out] at this
              exact this
            clear hre
            go_wp2
            go_roundw
            case rel => exact ⟨i, qs, ws, by omega, by go_num, hD1.drewN n, NX, below_drewN hB1 n⟩
            case measure => simp [intOf]
end Go.Proofs.Ytnefdfgonolafaa
