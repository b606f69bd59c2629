/- The program's sums of limbs: impl.addInto, impl.addMag. -/
import Derived.Test.YtnefdfgonolafaaArith
import Derived.Test.YtnefdfgonolafaaTrim
import Derived.Test.YtnefdfgonolafaaNums
namespace Go.Proofs.Ytnefdfgonolafaa
open Go.RowKit

set_option maxHeartbeats 1000000 in
theorem addIntoC (base : Nat) (a b : Option Addr) (c d : Nat) (us ys : List Int) (w : World) (h : Own base w a c us) (k : Sees w b d ys) (hl : ys.length ≤ us.length)
    (hap : ∀ q off, b = some ⟨q, off, none⟩ → ys ≠ [] → rowOf a us ≠ some q) :
    Calls Try.prog 67 #[.slice a us.length c, .slice b ys.length d] w fun e w' => ∃ zs cr, e = .returned (.bool (decide (0 < cr))) ∧ Own base w' a c zs ∧ zs.length = us.length ∧ Wrote w w' a us.length (rowOf a us) ∧ 0 ≤ cr ∧ val zs + 4294967296 ^ us.length * cr = val us + val ys := by
  have hm := h.max
  have hf := h.fits
  have hm2 := k.max
  have hf2 := k.fits
  unfold maxLen at hm hm2
  have HY : Hid (Lim ys) := k.lim
  have HU : Hid (Lim us) := h.lim
  go_enter Try.func67, Try.ntmps67
  go_wp2
  go_loopw [5, 9] (fun q i wr => ∃ (j : Nat) (cr : Int) (ws : List Int), j ≤ us.length ∧ i = .int .i64 j ∧ q = .int .u64 cr ∧ 0 ≤ cr ∧ cr ≤ 1 ∧ Hid (ws.length = j) ∧ Own base wr a c (ws ++ us.drop j) ∧ Wrote w wr a us.length (rowOf a us) ∧ Hid (val ws + 4294967296 ^ j * cr = val (us.take j) + val (ys.take j))) (fun _ i _ => us.length - (intOf i).toNat)
  case atStart => exact ⟨0, 0, [], Nat.zero_le _, rfl, rfl, by decide, by decide, rfl, by simpa using h, Wrote.refl _ _ _ _, by simp [Hid, val]⟩
  case round =>
    obtain ⟨j, cr, ws, hj, rfl, rfl, c0, c1, hw, hown, hg, he⟩ := hrel
    by_cases hlt : j < us.length
    · have hne : us ≠ [] := by intro e; simp [e] at hlt
      obtain ⟨b1, o1, rfl, _⟩ := h.cells hne
      have hlen := row_length hw.out hj
      have hne2 : ws ++ us.drop j ≠ [] := by intro e; rw [e] at hlen; simp at hlen; omega
      obtain ⟨b2, o2, e2, hc⟩ := hown.cells hne2
      simp only [Option.some.injEq, Addr.mk.injEq] at e2
      obtain ⟨rfl, rfl, _⟩ := e2
      have g1 := hc j (by omega)
      rw [row_get hw.out hlt] at g1
      have g2 := (hown.new b1 o1 rfl hne2).2 j (by omega)
      have hx := HU.out.get j
      have hy := HY.out.get j
      have hr := add_round hw.out he.out
      have hg' := fun u => hg.setCell (j := j) (by simp [rowOf, hne]) hlt u
      have hst := fun v hv => hown.store (j := j) rfl (by omega) (v := v) hv
      simp only [row_step hw.out hlt] at hst
      have hk := k.kept hg.1 hap
      have hwl : Hid ((ws ++ [(cr + us[j]?.getD 0 + ys[j]?.getD 0) % 4294967296]).length = j + 1) := by show _ = _; simp [hw.out]
      by_cases hy2 : j < ys.length
      · have hne3 : ys ≠ [] := by intro e; simp [e] at hy2
        obtain ⟨b3, o3, rfl, hc3⟩ := hk.cells hne3
        have g3 := hc3 j hy2
        have HR : Hid (val (ws ++ [(cr + us[j]?.getD 0 + ys[j]?.getD 0) % 4294967296]) + 4294967296 ^ (j + 1) * ((cr + us[j]?.getD 0 + ys[j]?.getD 0) / 4294967296) = val (us.take (j + 1)) + val (ys.take (j + 1))) := hr
        have HST := hst ((cr + us[j]?.getD 0 + ys[j]?.getD 0) % 4294967296) (by omega)
        have HG := hg' (.int .u32 ((cr + us[j]?.getD 0 + ys[j]?.getD 0) % 4294967296))
        clear hc hc3 hown hne2 hlen h k hst hg' hr hk hw he hap hne hne3 hg
        generalize us[j]?.getD 0 = x at *
        generalize ys[j]?.getD 0 = y at *
        go_wp2
        go_roundw
        case rel => exact ⟨j + 1, (cr + x + y) / 4294967296, _, by omega, by go_num, rfl, by omega, by omega, hwl, HST, HG, HR⟩
        case measure => simp [intOf]; omega
      · have e0 : ys[j]?.getD 0 = 0 := by rw [List.getElem?_eq_none (by omega)]; rfl
        rw [e0] at hr hwl
        simp only [Int.add_zero] at hr hwl
        have HR : Hid (val (ws ++ [(cr + us[j]?.getD 0) % 4294967296]) + 4294967296 ^ (j + 1) * ((cr + us[j]?.getD 0) / 4294967296) = val (us.take (j + 1)) + val (ys.take (j + 1))) := hr
        have HST := hst ((cr + us[j]?.getD 0) % 4294967296) (by omega)
        have HG := hg' (.int .u32 ((cr + us[j]?.getD 0) % 4294967296))
        clear hc hown hne2 hlen h k hst hg' hr hk hw he hap hne hg e0 hy
        generalize us[j]?.getD 0 = x at *
        go_wp2
        go_roundw
        case rel => exact ⟨j + 1, (cr + x) / 4294967296, _, by omega, by go_num, rfl, by omega, by omega, hwl, HST, HG, HR⟩
        case measure => simp [intOf]; omega
    · obtain rfl : j = us.length := by omega
      go_wp2
      go_ret
      refine ⟨ws, cr, rfl, by simpa using hown, hw.out, hg, c0, ?_⟩
      have := he.out
      rw [List.take_length, List.take_of_length_le hl] at this
      exact this
theorem sizeU : (Try.prog.info? 80).map (·.size) = some 1 := by kernel_rfl

/-- What is behind the making and the copy: xs, and a nought on top. -/
theorem laid_copy {w : World} {g : Nat} {e : TypeId} {base : Nat} {xs : List Int} (h : w.heap[g]? = some (.cells (splice (List.replicate (xs.length + 1) (Value.int .u32 0)) 0 (xs.map (Value.int .u32))).toArray e (0, 0)))
    (hl : Lim xs) (hm : xs.length + 1 ≤ maxLen) (hb : base ≤ g) : Own base w (some ⟨g, 0, none⟩) (xs.length + 1) (xs ++ [0]) := by
  rw [splice_front xs _ (by omega), show xs.length + 1 - xs.length = 1 by omega] at h
  have := Own.of_heap (base := base) h (hl.append (Lim.zeros 1)) (by simpa using hm) hb
  simpa using this

theorem made_list (n : Nat) : (madeCells (Value.cells (.int .u32 0)) (n * 1)).toList = List.replicate n (Value.int .u32 0) := by
  rw [Nat.mul_one]; exact toList_madeCells_one _ _
theorem Came.all {w : World} {a : Option Addr} {c : Nat} {xs : List Int} (h : Came w a c xs) (hp : 0 < (xs.map (Value.int .u32)).length) :
    ∃ ad, a = some ad ∧ ∀ j v, (xs.map (Value.int .u32))[j]? = some v → w.cell? (ad.add j) = some v := by
  have hne : xs ≠ [] := by intro e; simp [e] at hp
  obtain ⟨b, off, rfl, hc⟩ := h.cells hne
  refine ⟨_, rfl, ?_⟩
  have := h.news (j := xs.length) (Nat.le_refl _)
  rwa [List.take_length] at this

/-- One limb more holds the sum: nothing is carried out of it. -/
theorem sum_exact {xs ys zs : List Int} {cr r : Int} (hx : Lim xs) (hy : Lim ys) (hv : val zs + 4294967296 ^ (xs.length + 1) * cr = val (xs ++ [0]) + val ys) (hz : Lim zs)
    (h0 : 0 ≤ cr) (hxy : ys.length ≤ xs.length) (hr : val xs + val ys = r) : val zs = r := by
  rw [val_snoc, Int.mul_zero, Int.add_zero] at hv
  have h1 := val_lt hx
  have h2 := val_lt hy
  have h3 := p_mono ys.length (xs.length - ys.length)
  rw [show ys.length + (xs.length - ys.length) = xs.length by omega] at h3
  have h4 := val_nonneg hz
  have h5 := p_pos xs.length
  rw [Int.pow_succ] at hv
  by_cases hc : cr = 0
  · subst hc; simp at hv; omega
  · have : 4294967296 ^ xs.length * 4294967296 * 1 ≤ 4294967296 ^ xs.length * 4294967296 * cr := Int.mul_le_mul_of_nonneg_left (by omega) (by omega)
    omega

set_option maxHeartbeats 1000000 in
theorem addMagC (a b : Option Addr) (c d : Nat) (xs ys : List Int) (w : World) (h : Sees w a c xs) (k : Sees w b d ys) (hx : xs.length ≤ 1048576) (hy : ys.length ≤ 1048576) :
    Calls Try.prog 58 #[.slice a xs.length c, .slice b ys.length d] w fun e w' => ∃ a' c' zs, e = .returned (.slice a' zs.length c') ∧ Own w.heap.size w' a' c' zs ∧ Nrm zs ∧ val zs = val xs + val ys ∧ (zs.length ≤ xs.length + 1 ∨ zs.length ≤ ys.length + 1) ∧ Below w.heap.size w w' := by
  obtain ⟨i0, hi, hz0, hz1, hz2⟩ := info_parts infoU
  have HX : Hid (xs.length ≤ 1048576) := hx
  have HY : Hid (ys.length ≤ 1048576) := hy
  have mx : xs.length ≤ 9223372036854775800 := by omega
  have my : ys.length ≤ 9223372036854775800 := by omega
  clear hx hy
  by_cases hlt : xs.length < ys.length
  · have hlen : (ys ++ [0]).length = ys.length + 1 := by simp
    have HLEN : Hid ((ys ++ [0]).length = ys.length + 1) := hlen
    clear hlen
    go_enter Try.func58, Try.ntmps58
    go_wp2_with (first
      | (at_make; refine wpList_make_full _ rfl _ _ 22 rfl w.heap.size 80 i0 (.int .u32 0) 1 Try.underlying22 hi hz0 hz1 .i64 .i64 _ _ (ys.length + 1) rfl rfl ?m1 ?m2 ?m3 ?m4 (Nat.le_refl _) ?_; (case m1 => omega); (case m2 => omega); (case m3 => rw [hz2]; have := HY.out; omega); (case m4 => have := HY.out; unfold maxLen; omega); intro w0 hown0 hgrow0; rw [made_list] at hown0; have HH : Hid (w0.heap[w.heap.size]? = some (.cells (List.replicate (ys.length + 1) (Value.int .u32 0)).toArray 80 (0, 0))) := heap_of_made hown0; have B0 : Below w.heap.size w w0 := ((Below.refl _ _).grown hgrow0 (Nat.le_refl _) (fun k h => by cases h)); clear hown0 hgrow0)
      | (refine wpList_copy_splice rfl (.tmp 17) (.tmp 18) 22 22 rfl 80 Try.underlying22 sizeU _ _ _ _ _ _ rfl rfl w.heap.size 0 _ 80 HH.out (ys.map (Value.int .u32)) ?n1 (fun hp => ⟨rfl, (k.below B0).toCame.all hp⟩) ?n2 (ones _) w.heap.size w B0 (Nat.le_refl _) ?_; (case n1 => rw [List.length_map]; exact (Nat.min_eq_left (Nat.le_succ _)).symm); (case n2 => simp); intro w1 hh1 B1; clear HH B0))
    have ho1 := laid_copy (base := w.heap.size) hh1.out k.lim (by have := HY.out; unfold maxLen; omega) (Nat.le_refl _)
    clear hh1
    have hq := addIntoC w.heap.size _ a _ c _ xs w1 ho1 (h.below B1) (by rw [HLEN.out]; omega) (by intro q off e1 e2 e3; have := h.lt e1 e2; exact row_ne_low ho1 this e3.symm)
    rw [HLEN.out] at hq
    refine hq.mono ?_
    clear hq
    rintro e w2 ⟨zs, cr, rfl, hoz, hzl, hg, hc0, hv⟩
    have B2 := B1.trans (below_of_grown ho1 hg.1 B1.size)
    clear hg ho1
    have HZ : Hid (zs.length = ys.length + 1) := hzl
    have HV : Hid (val zs + 4294967296 ^ (ys.length + 1) * cr = val (ys ++ [0]) + val xs) := hv
    clear hv hzl
    go_wp2_with fail
    have hq := trimmedC w.heap.size _ _ zs w2 hoz
    rw [HZ.out] at hq
    refine hq.mono ?_
    clear hq
    rintro e w3 ⟨rfl, a3, j, rfl, hj, ha, hn, hv⟩
    have HJ : Hid (val (zs.take j) = val zs) := hv
    clear hv
    go_wp2
    go_ret
    have hl2 : (zs.take j).length = j := by rw [List.length_take, HZ.out]; omega
    refine ⟨a3, j, zs.take j, by rw [hl2]; rfl, hoz.cut (by rw [HZ.out]; exact hj) ha, hn, ?_, by rw [hl2]; exact .inr hj, B2⟩
    rw [HJ.out]
    exact sum_exact k.lim h.lim HV.out hoz.lim hc0 (by omega) (Int.add_comm _ _)
  · have hlen : (xs ++ [0]).length = xs.length + 1 := by simp
    have HLEN : Hid ((xs ++ [0]).length = xs.length + 1) := hlen
    clear hlen
    go_enter Try.func58, Try.ntmps58
    go_wp2_with (first
      | (at_make; refine wpList_make_full _ rfl _ _ 22 rfl w.heap.size 80 i0 (.int .u32 0) 1 Try.underlying22 hi hz0 hz1 .i64 .i64 _ _ (xs.length + 1) rfl rfl ?m1 ?m2 ?m3 ?m4 (Nat.le_refl _) ?_; (case m1 => omega); (case m2 => omega); (case m3 => rw [hz2]; have := HX.out; omega); (case m4 => have := HX.out; unfold maxLen; omega); intro w0 hown0 hgrow0; rw [made_list] at hown0; have HH : Hid (w0.heap[w.heap.size]? = some (.cells (List.replicate (xs.length + 1) (Value.int .u32 0)).toArray 80 (0, 0))) := heap_of_made hown0; have B0 : Below w.heap.size w w0 := ((Below.refl _ _).grown hgrow0 (Nat.le_refl _) (fun k h => by cases h)); clear hown0 hgrow0)
      | (refine wpList_copy_splice rfl (.tmp 17) (.tmp 18) 22 22 rfl 80 Try.underlying22 sizeU _ _ _ _ _ _ rfl rfl w.heap.size 0 _ 80 HH.out (xs.map (Value.int .u32)) ?n1 (fun hp => ⟨rfl, (h.below B0).toCame.all hp⟩) ?n2 (ones _) w.heap.size w B0 (Nat.le_refl _) ?_; (case n1 => rw [List.length_map]; exact (Nat.min_eq_left (Nat.le_succ _)).symm); (case n2 => simp); intro w1 hh1 B1; clear HH B0))
    have ho1 := laid_copy (base := w.heap.size) hh1.out h.lim (by have := HX.out; unfold maxLen; omega) (Nat.le_refl _)
    clear hh1
    have hq := addIntoC w.heap.size _ b _ d _ ys w1 ho1 (k.below B1) (by rw [HLEN.out]; omega) (by intro q off e1 e2 e3; have := k.lt e1 e2; exact row_ne_low ho1 this e3.symm)
    rw [HLEN.out] at hq
    refine hq.mono ?_
    clear hq
    rintro e w2 ⟨zs, cr, rfl, hoz, hzl, hg, hc0, hv⟩
    have B2 := B1.trans (below_of_grown ho1 hg.1 B1.size)
    clear hg ho1
    have HZ : Hid (zs.length = xs.length + 1) := hzl
    have HV : Hid (val zs + 4294967296 ^ (xs.length + 1) * cr = val (xs ++ [0]) + val ys) := hv
    clear hv hzl
    go_wp2_with fail
    have hq := trimmedC w.heap.size _ _ zs w2 hoz
    rw [HZ.out] at hq
    refine hq.mono ?_
    clear hq
    rintro e w3 ⟨rfl, a3, j, rfl, hj, ha, hn, hv⟩
    have HJ : Hid (val (zs.take j) = val zs) := hv
    clear hv
    go_wp2
    go_ret
    have hl2 : (zs.take j).length = j := by rw [List.length_take, HZ.out]; omega
    refine ⟨a3, j, zs.take j, by rw [hl2]; rfl, hoz.cut (by rw [HZ.out]; exact hj) ha, hn, ?_, by rw [hl2]; exact .inl hj, B2⟩
    rw [HJ.out]
    exact sum_exact h.lim k.lim HV.out hoz.lim hc0 (by omega) rfl
end Go.Proofs.Ytnefdfgonolafaa
