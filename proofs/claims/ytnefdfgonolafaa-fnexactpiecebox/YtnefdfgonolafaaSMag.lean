/- The specification's sums, differences and comparing of limbs: l1AddMag, l1SubMag, l1CmpMag. -/
import Derived.Test.YtnefdfgonolafaaArith
import Derived.Test.YtnefdfgonolafaaNums
namespace Go.Proofs.Ytnefdfgonolafaa
open Go.RowKit

theorem one_new (w : World) (e : TypeId) (y : Int) : ∀ j u, ([y].map (Value.int .u32))[j]? = some u → (w.alloc (.cells #[.int .u32 y] e)).cell? ((⟨w.heap.size, 0, none⟩ : Addr).add j) = some u := by
  intro j u hu
  cases j with
  | zero =>
    simp at hu
    subst hu
    exact cell_new w #[.int .u32 y] e 0 rfl
  | succ j => simp at hu

theorem ownsRow_snoc {w : World} {base e n : Nat} {v : Value} {ws : List Int} {y : Int} (h : w.ownsRow base e 1 v n (ws.map (Value.int .u32) ++ [y].map (Value.int .u32))) : w.ownsRow base e 1 v n ((ws ++ [y]).map (Value.int .u32)) := by
  rw [List.map_append]; exact h

set_option maxHeartbeats 2000000 in
theorem l1AddMagC (a b : Option Addr) (c d : Nat) (xs ys : List Int) (w : World) (h : Sees w a c xs) (k : Sees w b d ys) (hx : xs.length ≤ 1048576) (hy : ys.length ≤ 1048576) :
    Calls Try.prog 53 #[.slice a xs.length c, .slice b ys.length d] w fun e w' => ∃ a' c' zs, e = .returned (.slice a' zs.length c') ∧ Own w.heap.size w' a' c' zs ∧ val zs = val xs + val ys ∧ (zs.length ≤ xs.length + 1 ∨ zs.length ≤ ys.length + 1) ∧ Below w.heap.size w w' := by
  obtain ⟨i0, hi, hz0, hz1, hz2⟩ := info_parts infoU
  have HX : Hid (xs.length ≤ 1048576) := hx
  have HY : Hid (ys.length ≤ 1048576) := hy
  have mx : xs.length ≤ 9223372036854775800 := by omega
  have my : ys.length ≤ 9223372036854775800 := by omega
  have LX : Hid (Lim xs) := h.lim
  have LY : Hid (Lim ys) := k.lim
  clear hx hy
  go_enter Try.func53, Try.ntmps53
  go_wp2
  go_loopw [5, 6, 7] (fun v q i wr => ∃ (j : Nat) (cr : Int) (ws : List Int), (j ≤ xs.length ∨ j ≤ ys.length) ∧ i = .int .i64 j ∧ q = .int .u64 cr ∧ 0 ≤ cr ∧ cr ≤ 1 ∧ wr.ownsRow w.heap.size 80 1 v j (ws.map (Value.int .u32)) ∧ Hid (ws.length = j ∧ Lim ws) ∧ Below w.heap.size w wr ∧ Hid (val ws + 4294967296 ^ j * cr = val (xs.take j) + val (ys.take j)))
    (fun _ _ i _ => (xs.length + ys.length) - (intOf i).toNat)
  case atStart => exact ⟨0, 0, [], .inl (Nat.zero_le _), rfl, rfl, by decide, by decide, ownsRow_empty1 _ _, ⟨rfl, Lim.nil⟩, below1 _ _, by simp [Hid, val]⟩
  case round =>
    obtain ⟨j, cr, ws, hj, rfl, rfl, c0, c1, hown, hw, hB, he⟩ := hrel
    have hm1 : j ≤ 9223372036854775800 := by rcases hj with h1 | h1 <;> omega
    have HJ : Hid (j + 1 ≤ maxLen ∧ (j + 1) * 4 ≤ 140737488355328) := by
      have h1 := HX.out
      have h2 := HY.out
      refine ⟨?_, ?_⟩
      · unfold maxLen; rcases hj with h3 | h3 <;> omega
      · rcases hj with h3 | h3 <;> omega
    have hx := LX.out.get j
    have hy := LY.out.get j
    have hr := add_round hw.out.1 he.out
    have hxs := h.below hB
    have hys := k.below hB
    have hsz := hB.size
    by_cases ha : j < xs.length
    · by_cases hb : j < ys.length
      · skip
        obtain ⟨b1, o1, rfl, hc1⟩ := hxs.cells (by intro e; simp [e] at ha)
        have g1 := hc1 j ha
        obtain ⟨b2, o2, rfl, hc2⟩ := hys.cells (by intro e; simp [e] at hb)
        have g2 := hc2 j hb
        have HR : Hid (val (ws ++ [(cr + xs[j]?.getD 0 + ys[j]?.getD 0) % 4294967296]) + 4294967296 ^ (j + 1) * ((cr + xs[j]?.getD 0 + ys[j]?.getD 0) / 4294967296) = val (xs.take (j + 1)) + val (ys.take (j + 1))) := hr
        have HW : Hid ((ws ++ [(cr + xs[j]?.getD 0 + ys[j]?.getD 0) % 4294967296]).length = j + 1 ∧ Lim (ws ++ [(cr + xs[j]?.getD 0 + ys[j]?.getD 0) % 4294967296])) := ⟨by simp [hw.out.1], hw.out.2.snoc (by omega)⟩
        have hjj : j + 1 ≤ xs.length ∨ j + 1 ≤ ys.length := by omega
        clear hr hxs hys h k he hw hj hc1 hc2
        generalize xs[j]?.getD 0 = x at *
        generalize ys[j]?.getD 0 = y at *
        go_wp2_with (at_builtin; refine wpList_append_own _ rfl (.tmp 45) (.tmp 48) 22 rfl w.heap.size 80 i0 (.int .u32 0) 1 4 Try.underlying22 hi hz0 hz1 hz2 rfl (by decide) _ j (ws.map (Value.int .u32)) rfl (hown.alloc _) ⟨wr.heap.size, 0, none⟩ 1 _ ([(cr + x + y) % 4294967296].map (Value.int .u32)) rfl rfl (one_new _ _ _) (ones _) HJ.out.1 HJ.out.2 (by simp <;> omega) ?_; intro v' w' hown' hgrow' _; have hB' : Below w.heap.size w w' := ((hB.trans ((below1 wr _).mono hsz)).grown hgrow' (by simp <;> omega) (fun q hq => (hown.lt q hq).1)); have hown2 := ownsRow_snoc hown'; clear hown' hgrow')
        clear HJ
        exact ⟨⟨j + 1, (cr + x + y) / 4294967296, _, hjj, by go_num, rfl, by omega, by omega, hown2, HW, hB', HR⟩, by simp [intOf]; omega⟩
      · skip
        obtain ⟨b1, o1, rfl, hc1⟩ := hxs.cells (by intro e; simp [e] at ha)
        have g1 := hc1 j ha
        have ey : ys[j]?.getD 0 = 0 := by rw [List.getElem?_eq_none (by omega)]; rfl
        rw [ey] at hr
        simp only [Int.add_zero] at hr
        have HR : Hid (val (ws ++ [(cr + xs[j]?.getD 0) % 4294967296]) + 4294967296 ^ (j + 1) * ((cr + xs[j]?.getD 0) / 4294967296) = val (xs.take (j + 1)) + val (ys.take (j + 1))) := hr
        have HW : Hid ((ws ++ [(cr + xs[j]?.getD 0) % 4294967296]).length = j + 1 ∧ Lim (ws ++ [(cr + xs[j]?.getD 0) % 4294967296])) := ⟨by simp [hw.out.1], hw.out.2.snoc (by omega)⟩
        have hjj : j + 1 ≤ xs.length ∨ j + 1 ≤ ys.length := by omega
        clear hr hxs hys h k he hw hj hc1 ey hy
        generalize xs[j]?.getD 0 = x at *
        go_wp2_with (at_builtin; refine wpList_append_own _ rfl (.tmp 45) (.tmp 48) 22 rfl w.heap.size 80 i0 (.int .u32 0) 1 4 Try.underlying22 hi hz0 hz1 hz2 rfl (by decide) _ j (ws.map (Value.int .u32)) rfl (hown.alloc _) ⟨wr.heap.size, 0, none⟩ 1 _ ([(cr + x) % 4294967296].map (Value.int .u32)) rfl rfl (one_new _ _ _) (ones _) HJ.out.1 HJ.out.2 (by simp <;> omega) ?_; intro v' w' hown' hgrow' _; have hB' : Below w.heap.size w w' := ((hB.trans ((below1 wr _).mono hsz)).grown hgrow' (by simp <;> omega) (fun q hq => (hown.lt q hq).1)); have hown2 := ownsRow_snoc hown'; clear hown' hgrow')
        clear HJ
        exact ⟨⟨j + 1, (cr + x) / 4294967296, _, hjj, by go_num, rfl, by omega, by omega, hown2, HW, hB', HR⟩, by simp [intOf]; omega⟩
    · by_cases hb : j < ys.length
      · skip
        have ex : xs[j]?.getD 0 = 0 := by rw [List.getElem?_eq_none (by omega)]; rfl
        rw [ex] at hr
        obtain ⟨b2, o2, rfl, hc2⟩ := hys.cells (by intro e; simp [e] at hb)
        have g2 := hc2 j hb
        simp only [Int.add_zero] at hr
        have HR : Hid (val (ws ++ [(cr + ys[j]?.getD 0) % 4294967296]) + 4294967296 ^ (j + 1) * ((cr + ys[j]?.getD 0) / 4294967296) = val (xs.take (j + 1)) + val (ys.take (j + 1))) := hr
        have HW : Hid ((ws ++ [(cr + ys[j]?.getD 0) % 4294967296]).length = j + 1 ∧ Lim (ws ++ [(cr + ys[j]?.getD 0) % 4294967296])) := ⟨by simp [hw.out.1], hw.out.2.snoc (by omega)⟩
        have hjj : j + 1 ≤ xs.length ∨ j + 1 ≤ ys.length := by omega
        clear hr hxs hys h k he hw hj ex hx hc2
        generalize ys[j]?.getD 0 = y at *
        go_wp2_with (at_builtin; refine wpList_append_own _ rfl (.tmp 45) (.tmp 48) 22 rfl w.heap.size 80 i0 (.int .u32 0) 1 4 Try.underlying22 hi hz0 hz1 hz2 rfl (by decide) _ j (ws.map (Value.int .u32)) rfl (hown.alloc _) ⟨wr.heap.size, 0, none⟩ 1 _ ([(cr + y) % 4294967296].map (Value.int .u32)) rfl rfl (one_new _ _ _) (ones _) HJ.out.1 HJ.out.2 (by simp <;> omega) ?_; intro v' w' hown' hgrow' _; have hB' : Below w.heap.size w w' := ((hB.trans ((below1 wr _).mono hsz)).grown hgrow' (by simp <;> omega) (fun q hq => (hown.lt q hq).1)); have hown2 := ownsRow_snoc hown'; clear hown' hgrow')
        clear HJ
        exact ⟨⟨j + 1, (cr + y) / 4294967296, _, hjj, by go_num, rfl, by omega, by omega, hown2, HW, hB', HR⟩, by simp [intOf]; omega⟩
      · have E : Hid (val ws + 4294967296 ^ j * cr = val xs + val ys) := by
          have := he.out
          rw [List.take_of_length_le (by omega), List.take_of_length_le (by omega)] at this
          exact this
        clear hr hxs hys h k he hx hy
        go_wp2_with (at_builtin; refine wpList_append_own _ rfl (.tmp 52) (.tmp 55) 22 rfl w.heap.size 80 i0 (.int .u32 0) 1 4 Try.underlying22 hi hz0 hz1 hz2 rfl (by decide) _ j (ws.map (Value.int .u32)) rfl (hown.alloc _) ⟨wr.heap.size, 0, none⟩ 1 _ ([cr].map (Value.int .u32)) rfl rfl (one_new _ _ _) (ones _) HJ.out.1 HJ.out.2 (by simp <;> omega) ?_; intro v' w' hown' hgrow' _; have hB' : Below w.heap.size w w' := ((hB.trans ((below1 wr _).mono hsz)).grown hgrow' (by simp <;> omega) (fun q hq => (hown.lt q hq).1)); have hown2 := ownsRow_snoc hown'; clear hown' hgrow')
        obtain ⟨g, cap', hv, ho⟩ := Own.of_append hown2 (hw.out.2.snoc (by omega)) (by omega)
        go_ret
        refine ⟨_, _, _, by rw [hv]; rfl, ho, ?_, ?_, hB'⟩
        · rw [val_snoc, hw.out.1]; exact E.out
        · have h1 := hw.out.1
          simp only [List.length_append, List.length_singleton, h1]
          omega
theorem Own.of_owns {w : World} {base e n : Nat} {v : Value} {xs : List Int} (h : w.ownsRow base e 1 v n (xs.map (Value.int .u32))) (hl : Lim xs) :
    ∃ a cap, v = .slice a xs.length cap ∧ Own base w a cap xs := by
  rcases Nat.eq_zero_or_pos n with h0 | h0
  · have h1 : xs.length = 0 := by have := h.1; simp at this; omega
    obtain rfl : xs = [] := List.eq_nil_of_length_eq_zero h1
    rcases h.2 with ⟨rfl, _⟩ | ⟨g, cap, cur, rfl, _, _, _, hm, _⟩
    · exact ⟨none, 0, rfl, Own.nil _ _⟩
    · subst h0
      exact ⟨_, cap, rfl, ⟨⟨Lim.nil, by simp, hm, fun h => absurd rfl h⟩, .inr ⟨_, _, rfl⟩⟩, fun _ _ _ h => absurd rfl h⟩
  · obtain ⟨g, cap, hv, ho⟩ := Own.of_append h hl h0
    exact ⟨_, cap, hv, ho⟩

set_option maxHeartbeats 2000000 in
theorem l1SubMagC (a b : Option Addr) (c d : Nat) (xs ys : List Int) (w : World) (h : Sees w a c xs) (k : Sees w b d ys) (hx : xs.length ≤ 2097152) (hl : ys.length ≤ xs.length) (hv : val ys ≤ val xs) :
    Calls Try.prog 43 #[.slice a xs.length c, .slice b ys.length d] w fun e w' => ∃ a' c' zs, e = .returned (.slice a' zs.length c') ∧ Own w.heap.size w' a' c' zs ∧ val zs = val xs - val ys ∧ zs.length = xs.length ∧ Below w.heap.size w w' := by
  obtain ⟨i0, hi, hz0, hz1, hz2⟩ := info_parts infoU
  have HX : Hid (xs.length ≤ 2097152) := hx
  have HV : Hid (val ys ≤ val xs) := hv
  have mx : xs.length ≤ 9223372036854775800 := by omega
  have LX : Hid (Lim xs) := h.lim
  have LY : Hid (Lim ys) := k.lim
  clear hx hv
  go_enter Try.func43, Try.ntmps43
  go_wp2
  go_loopw [5, 6, 7] (fun v q i wr => ∃ (j : Nat) (cr : Int) (ws : List Int), j ≤ xs.length ∧ i = .int .i64 j ∧ q = .int .u64 cr ∧ 0 ≤ cr ∧ cr ≤ 1 ∧ wr.ownsRow w.heap.size 80 1 v j (ws.map (Value.int .u32)) ∧ Hid (ws.length = j ∧ Lim ws) ∧ Below w.heap.size w wr ∧ Hid (val ws - 4294967296 ^ j * cr = val (xs.take j) - 1 * val (ys.take j)))
    (fun _ _ i _ => xs.length - (intOf i).toNat)
  case atStart => exact ⟨0, 0, [], Nat.zero_le _, rfl, rfl, by decide, by decide, ownsRow_empty1 _ _, ⟨rfl, Lim.nil⟩, below1 _ _, by simp [Hid, val]⟩
  case round =>
    obtain ⟨j, cr, ws, hj, rfl, rfl, c0, c1, hown, hw, hB, he⟩ := hrel
    have HJ : Hid (j + 1 ≤ maxLen ∧ (j + 1) * 4 ≤ 140737488355328) := by
      have h1 := HX.out
      refine ⟨?_, ?_⟩
      · unfold maxLen; omega
      · omega
    have hx := LX.out.get j
    have hy := LY.out.get j
    have hr := fun x q hxq => sub_round (x := x) (q := q) hw.out.1 he.out hxq
    have hxs := h.below hB
    have hys := k.below hB
    have hsz := hB.size
    by_cases ha : j < xs.length
    · obtain ⟨b1, o1, rfl, hc1⟩ := hxs.cells (by intro e; simp [e] at ha)
      have g1 := hc1 j ha
      by_cases hb : j < ys.length
      · obtain ⟨b2, o2, rfl, hc2⟩ := hys.cells (by intro e; simp [e] at hb)
        have g2 := hc2 j hb
        have HR : Hid (val (ws ++ [(xs[j]?.getD 0 + 4294967296 - cr - ys[j]?.getD 0) % 4294967296]) - 4294967296 ^ (j + 1) * (1 - (xs[j]?.getD 0 + 4294967296 - cr - ys[j]?.getD 0) / 4294967296) = val (xs.take (j + 1)) - 1 * val (ys.take (j + 1))) := hr _ _ (by omega)
        have HW : Hid ((ws ++ [(xs[j]?.getD 0 + 4294967296 - cr - ys[j]?.getD 0) % 4294967296]).length = j + 1 ∧ Lim (ws ++ [(xs[j]?.getD 0 + 4294967296 - cr - ys[j]?.getD 0) % 4294967296])) := ⟨by simp [hw.out.1], hw.out.2.snoc (by omega)⟩
        clear hr hxs hys h k he hw hj hc1 hc2
        generalize xs[j]?.getD 0 = x at *
        generalize ys[j]?.getD 0 = y at *
        go_wp2_with (at_builtin; refine wpList_append_own _ rfl (.tmp 35) (.tmp 38) 22 rfl w.heap.size 80 i0 (.int .u32 0) 1 4 Try.underlying22 hi hz0 hz1 hz2 rfl (by decide) _ j (ws.map (Value.int .u32)) rfl (hown.alloc _) ⟨wr.heap.size, 0, none⟩ 1 _ ([(x + 4294967296 - cr - y) % 4294967296].map (Value.int .u32)) rfl rfl (one_new _ _ _) (ones _) HJ.out.1 HJ.out.2 (by simp <;> omega) ?_; intro v' w' hown' hgrow' _; have hB' : Below w.heap.size w w' := ((hB.trans ((below1 wr _).mono hsz)).grown hgrow' (by simp <;> omega) (fun q hq => (hown.lt q hq).1)); have hown2 := ownsRow_snoc hown'; clear hown' hgrow')
        clear HJ
        exact ⟨⟨j + 1, 1 - (x + 4294967296 - cr - y) / 4294967296, _, by omega, by go_num, rfl, by omega, by omega, hown2, HW, hB', HR⟩, by simp [intOf]; omega⟩
      · have ey : ys[j]?.getD 0 = 0 := by rw [List.getElem?_eq_none (by omega)]; rfl
        have HR : Hid (val (ws ++ [(xs[j]?.getD 0 + 4294967296 - cr) % 4294967296]) - 4294967296 ^ (j + 1) * (1 - (xs[j]?.getD 0 + 4294967296 - cr) / 4294967296) = val (xs.take (j + 1)) - 1 * val (ys.take (j + 1))) := hr _ _ (by omega)
        have HW : Hid ((ws ++ [(xs[j]?.getD 0 + 4294967296 - cr) % 4294967296]).length = j + 1 ∧ Lim (ws ++ [(xs[j]?.getD 0 + 4294967296 - cr) % 4294967296])) := ⟨by simp [hw.out.1], hw.out.2.snoc (by omega)⟩
        clear hr hxs hys h k he hw hj hc1 ey hy
        generalize xs[j]?.getD 0 = x at *
        go_wp2_with (at_builtin; refine wpList_append_own _ rfl (.tmp 35) (.tmp 38) 22 rfl w.heap.size 80 i0 (.int .u32 0) 1 4 Try.underlying22 hi hz0 hz1 hz2 rfl (by decide) _ j (ws.map (Value.int .u32)) rfl (hown.alloc _) ⟨wr.heap.size, 0, none⟩ 1 _ ([(x + 4294967296 - cr) % 4294967296].map (Value.int .u32)) rfl rfl (one_new _ _ _) (ones _) HJ.out.1 HJ.out.2 (by simp <;> omega) ?_; intro v' w' hown' hgrow' _; have hB' : Below w.heap.size w w' := ((hB.trans ((below1 wr _).mono hsz)).grown hgrow' (by simp <;> omega) (fun q hq => (hown.lt q hq).1)); have hown2 := ownsRow_snoc hown'; clear hown' hgrow')
        clear HJ
        exact ⟨⟨j + 1, 1 - (x + 4294967296 - cr) / 4294967296, _, by omega, by go_num, rfl, by omega, by omega, hown2, HW, hB', HR⟩, by simp [intOf]; omega⟩
    · have hjx : xs.length = j := by omega
      have E : Hid (val ws - 4294967296 ^ xs.length * cr = val xs - val ys) := by
        have := he.out
        rw [List.take_of_length_le (by omega), List.take_of_length_le (by omega), Int.one_mul, ← hjx] at this
        exact this
      have HJX : Hid (xs.length = j) := hjx
      clear hr hxs hys h k he hx hy hjx
      obtain ⟨a2, c2, rfl, ho⟩ := Own.of_owns hown hw.out.2
      go_wp2
      go_ret
      refine ⟨_, _, _, rfl, ho, ?_, by rw [hw.out.1, HJX.out], hB⟩
      have h1 := E.out
      have h2 := HV.out
      have h3 := val_lt hw.out.2
      have h4 := val_nonneg hw.out.2
      have h6 := val_nonneg LY.out
      have h7 := val_lt LX.out
      rw [hw.out.1, ← HJX.out] at h3
      have h5 := p_pos xs.length
      by_cases hc : cr = 0
      · subst hc; simp at h1; omega
      · have : 4294967296 ^ xs.length * 1 ≤ 4294967296 ^ xs.length * cr := Int.mul_le_mul_of_nonneg_left (by omega) (by omega)
        omega
end Go.Proofs.Ytnefdfgonolafaa
