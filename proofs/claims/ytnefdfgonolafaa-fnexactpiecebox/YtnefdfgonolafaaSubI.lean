/- The program's differences of limbs: slices.Clone, impl.takeTimes, impl.subMag. -/
import Derived.Test.YtnefdfgonolafaaArith
import Derived.Test.YtnefdfgonolafaaTrim
import Derived.Test.YtnefdfgonolafaaNums
import Derived.WalkSpells
namespace Go.Proofs.Ytnefdfgonolafaa
open Go.RowKit

set_option maxHeartbeats 1000000 in
theorem takeTimesC (base : Nat) (a b : Option Addr) (c d : Nat) (us ys : List Int) (t : Int) (w : World) (h : Own base w a c us) (k : Sees w b d ys) (hl : ys.length ≤ us.length) (ht : 0 ≤ t ∧ t ≤ 4294967295)
    (hap : ∀ q off, b = some ⟨q, off, none⟩ → ys ≠ [] → rowOf a us ≠ some q) :
    Calls Try.prog 68 #[.slice a us.length c, .slice b ys.length d, .int .u64 t] w fun e w' => ∃ zs ow, e = .returned (.bool (decide (0 < ow))) ∧ Own base w' a c zs ∧ zs.length = us.length ∧ Wrote w w' a us.length (rowOf a us) ∧ 0 ≤ ow ∧ val zs - 4294967296 ^ us.length * ow = val us - t * val ys := by
  have hm := h.max
  have hf := h.fits
  have hm2 := k.max
  have hf2 := k.fits
  obtain ⟨t0, t1⟩ := ht
  unfold maxLen at hm hm2
  have HY : Hid (Lim ys) := k.lim
  have HU : Hid (Lim us) := h.lim
  go_enter Try.func68, Try.ntmps68
  go_wp2
  go_loopw [7, 12] (fun q i wr => ∃ (j : Nat) (ow : Int) (ws : List Int), j ≤ us.length ∧ i = .int .i64 j ∧ q = .int .u64 ow ∧ 0 ≤ ow ∧ ow ≤ 4294967295 ∧ Hid (ws.length = j) ∧ Own base wr a c (ws ++ us.drop j) ∧ Wrote w wr a us.length (rowOf a us) ∧ Hid (val ws - 4294967296 ^ j * ow = val (us.take j) - t * val (ys.take j))) (fun _ i _ => us.length - (intOf i).toNat)
  case atStart => exact ⟨0, 0, [], Nat.zero_le _, rfl, rfl, by decide, by decide, rfl, by simpa using h, Wrote.refl _ _ _ _, by simp [Hid, val]⟩
  case round =>
    obtain ⟨j, ow, ws, hj, rfl, rfl, c0, c1, hw, hown, hg, he⟩ := hrel
    by_cases hlt : j < us.length
    · have hne : us ≠ [] := by intro e; simp [e] at hlt
      obtain ⟨b1, o1, rfl, _⟩ := h.cells hne
      have hlen := row_length hw.out hj
      have hne2 : ws ++ us.drop j ≠ [] := by intro e; rw [e] at hlen; simp at hlen; omega
      obtain ⟨b2, o2, e2, hc⟩ := hown.cells hne2
      simp only [Option.some.injEq, Addr.mk.injEq] at e2
      obtain ⟨rfl, rfl, _⟩ := e2
      have g1 := hc j (by omega)
      rw [row_get hw.out hlt] at g1
      have g2 := (hown.new b1 o1 rfl hne2).2 j (by omega)
      have hx := HU.out.get j
      have hy := HY.out.get j
      have hr := fun x q hxq => sub_round (x := x) (q := q) hw.out he.out hxq
      have hg' := fun u => hg.setCell (j := j) (by simp [rowOf, hne]) hlt u
      have hst := fun v hv => hown.store (j := j) rfl (by omega) (v := v) hv
      simp only [row_step hw.out hlt] at hst
      have hk := k.kept hg.1 hap
      have hwl : ∀ x : Int, Hid ((ws ++ [x]).length = j + 1) := fun x => by show _ = _; simp [hw.out]
      by_cases hy2 : j < ys.length
      · have hne3 : ys ≠ [] := by intro e; simp [e] at hy2
        obtain ⟨b3, o3, rfl, hc3⟩ := hk.cells hne3
        have g3 := hc3 j hy2
        have HR : Hid (∀ x q : Int, x - 4294967296 * q = us[j]?.getD 0 - (ow + t * ys[j]?.getD 0) → val (ws ++ [x]) - 4294967296 ^ (j + 1) * q = val (us.take (j + 1)) - t * val (ys.take (j + 1))) := hr
        have HST := fun v hv => hst v hv
        clear hc hc3 hown hne2 hlen h k hr hk hw he hap hne hne3 hg hst
        generalize us[j]?.getD 0 = x at *
        generalize ys[j]?.getD 0 = y at *
        obtain ⟨y0, y1⟩ := hy
        obtain ⟨x0, x1⟩ := hx
        have p0 : 0 ≤ t * y := Int.mul_nonneg t0 y0
        have p1 : t * y ≤ 18446744065119617025 := Int.le_trans (Int.mul_le_mul t1 (show y ≤ 4294967295 by omega) y0 (by decide)) (by decide)
        by_cases hcmp : x < (ow + t * y) % 4294967296
        · have H1 := HR.out ((x - (ow + t * y)) % 4294967296) ((ow + t * y) / 4294967296 + 1) (by generalize t * y = p at *; omega)
          have H2 := HST ((x - (ow + t * y)) % 4294967296) (by omega)
          have H3 := hg' (.int .u32 ((x - (ow + t * y)) % 4294967296))
          have q1 : (ow + t * y) / 4294967296 + 1 ≤ 4294967295 := by generalize t * y = p at *; omega
          have q0 : 0 ≤ (ow + t * y) / 4294967296 + 1 := by generalize t * y = p at *; omega
          have HH : Hid (val (ws ++ [(x - (ow + t * y)) % 4294967296]) - 4294967296 ^ (j + 1) * ((ow + t * y) / 4294967296 + 1) = val (us.take (j + 1)) - t * val (ys.take (j + 1))) := H1
          clear HR HST H1 hg'
          go_wp2
          go_roundw
          case rel => exact ⟨j + 1, _, _, by omega, by go_num, rfl, q0, q1, hwl _, H2, H3, HH⟩
          case measure => simp [intOf]; omega
        · have H1 := HR.out (x - (ow + t * y) % 4294967296) ((ow + t * y) / 4294967296) (by generalize t * y = p at *; omega)
          have H2 := HST (x - (ow + t * y) % 4294967296) (by omega)
          have H3 := hg' (.int .u32 (x - (ow + t * y) % 4294967296))
          have q1 : (ow + t * y) / 4294967296 ≤ 4294967295 := by generalize t * y = p at *; omega
          have q0 : 0 ≤ (ow + t * y) / 4294967296 := by generalize t * y = p at *; omega
          have HH : Hid (val (ws ++ [x - (ow + t * y) % 4294967296]) - 4294967296 ^ (j + 1) * ((ow + t * y) / 4294967296) = val (us.take (j + 1)) - t * val (ys.take (j + 1))) := H1
          clear HR HST H1 hg'
          go_wp2
          go_roundw
          case rel => exact ⟨j + 1, _, _, by omega, by go_num, rfl, q0, q1, hwl _, H2, H3, HH⟩
          case measure => simp [intOf]; omega
      · have e0 : ys[j]?.getD 0 = 0 := by rw [List.getElem?_eq_none (by omega)]; rfl
        rw [e0] at hr
        simp only [Int.mul_zero, Int.add_zero] at hr
        have HR : Hid (∀ x q : Int, x - 4294967296 * q = us[j]?.getD 0 - ow → val (ws ++ [x]) - 4294967296 ^ (j + 1) * q = val (us.take (j + 1)) - t * val (ys.take (j + 1))) := hr
        have HST := fun v hv => hst v hv
        clear hc hown hne2 hlen h k hr hk hw he hap hne hg hst e0 hy
        generalize us[j]?.getD 0 = x at *
        obtain ⟨x0, x1⟩ := hx
        by_cases hcmp : x < ow
        · have H2 := HST ((x - ow) % 4294967296) (by omega)
          have H3 := hg' (.int .u32 ((x - ow) % 4294967296))
          have HH : Hid (val (ws ++ [(x - ow) % 4294967296]) - 4294967296 ^ (j + 1) * (ow / 4294967296 + 1) = val (us.take (j + 1)) - t * val (ys.take (j + 1))) := HR.out ((x - ow) % 4294967296) (ow / 4294967296 + 1) (by omega)
          clear HR HST hg'
          go_wp2
          go_roundw
          case rel => exact ⟨j + 1, _, _, by omega, by go_num, rfl, by omega, by omega, hwl _, H2, H3, HH⟩
          case measure => simp [intOf]; omega
        · have H2 := HST (x - ow) (by omega)
          have H3 := hg' (.int .u32 (x - ow))
          have HH : Hid (val (ws ++ [x - ow]) - 4294967296 ^ (j + 1) * (ow / 4294967296) = val (us.take (j + 1)) - t * val (ys.take (j + 1))) := HR.out (x - ow) (ow / 4294967296) (by omega)
          clear HR HST hg'
          go_wp2
          go_roundw
          case rel => exact ⟨j + 1, _, _, by omega, by go_num, rfl, by omega, by omega, hwl _, H2, H3, HH⟩
          case measure => simp [intOf]; omega
    · obtain rfl : j = us.length := by omega
      go_wp2
      go_ret
      refine ⟨ws, ow, rfl, by simpa using hown, hw.out, hg, c0, ?_⟩
      have := he.out
      rw [List.take_length, List.take_of_length_le hl] at this
      exact this
set_option maxHeartbeats 1000000 in
theorem cloneC (a : Option Addr) (c : Nat) (xs : List Int) (w : World) (h : Sees w a c xs) (hx : xs.length ≤ 2097152) :
    Calls Try.prog 61 #[.slice a xs.length c] w fun e w' => ∃ a' c', e = .returned (.slice a' xs.length c') ∧ Own w.heap.size w' a' c' xs ∧ Below w.heap.size w w' := by
  have he := fun w n => Lib.run_eql_slice_nil (P := Try.prog) w 22 80 a n c 0 0 Try.underlying22
  rcases h.shape with ⟨rfl, rfl⟩ | ⟨b, off, rfl⟩
  · have e0 : xs = [] := by
      by_cases e : xs = []
      · exact e
      · obtain ⟨b, off, hb, _⟩ := h.cells e
        cases hb
    subst e0
    clear h hx
    go_enter Try.func61, Try.ntmps61
    go_wp2
    go_ret
    exact ⟨none, 0, rfl, Own.nil _ _, Below.refl _ _⟩
  · by_cases h0 : xs.length = 0
    · have e0 : xs = [] := List.eq_nil_of_length_eq_zero h0
      subst e0
      clear h hx h0
      go_enter Try.func61, Try.ntmps61
      go_wp2
      go_ret
      exact ⟨_, 0, rfl, Own.empty _ _ _ _, below1 _ _⟩
    · obtain ⟨i0, hi, hz0, hz1, hz2⟩ := info_parts infoU
      have HJ : Hid (xs.length * 4 ≤ 140737488355328) := by show _ ≤ _; omega
      have HM : Hid (xs.length ≤ maxLen) := Nat.le_trans h.fits h.max
      have HL : Lim xs := h.lim
      have HK : ∀ o1, Hid (∀ q u, (xs.map (Value.int .u32))[q]? = some u → (w.alloc o1).cell? ((⟨b, off, none⟩ : Addr).add q) = some u) := fun o1 => by
        have := (h.below (below1 w o1)).toCame.news (j := xs.length) (Nat.le_refl _)
        rwa [List.take_length] at this
      clear h hx
      go_enter Try.func61, Try.ntmps61
      go_wp2_with (at_builtin; refine wpList_append_own _ rfl (.tmp 5) (.tmp 6) 22 rfl w.heap.size 80 i0 (.int .u32 0) 1 4 Try.underlying22 hi hz0 hz1 hz2 rfl (by decide) (.slice (some ⟨w.heap.size, 0, none⟩) 0 0) 0 [] rfl (ownsRow_empty1 _ _) ⟨b, off, none⟩ xs.length _ (xs.map (Value.int .u32)) rfl (by rw [List.length_map, Nat.mul_one]) ((HK _).out) (ones _) (by rw [Nat.zero_add]; exact HM.out) (by rw [Nat.zero_add]; exact HJ.out) (by simp) ?_; intro v' w' hown' hgrow' _; obtain ⟨g, cap', hv, ho⟩ := Own.of_append hown' HL (by omega); rw [hv]; have hB : Below w.heap.size w w' := ((below1 _ _).grown hgrow' (by simp) (by intro k hk; simp [Value.ownBlock] at hk; omega)); clear hown' hgrow' hv)
      go_ret
      exact ⟨_, _, rfl, ho, hB⟩

set_option maxHeartbeats 1000000 in
theorem subMagC (a b : Option Addr) (c d : Nat) (xs ys : List Int) (w : World) (h : Sees w a c xs) (k : Sees w b d ys) (hx : xs.length ≤ 2097152) (hl : ys.length ≤ xs.length) (hv : val ys ≤ val xs) :
    Calls Try.prog 59 #[.slice a xs.length c, .slice b ys.length d] w fun e w' => ∃ a' c' zs, e = .returned (.slice a' zs.length c') ∧ Own w.heap.size w' a' c' zs ∧ Nrm zs ∧ val zs = val xs - val ys ∧ zs.length ≤ xs.length ∧ Below w.heap.size w w' := by
  have HV : Hid (val ys ≤ val xs) := hv
  have HX : Hid (xs.length ≤ 2097152) := hx
  clear hv hx
  go_enter Try.func59, Try.ntmps59
  go_wp2_with fail
  refine (cloneC a c xs _ h HX.out).mono ?_
  rintro e w1 ⟨a1, c1, rfl, ho1, B1⟩
  have k1 := k.below B1
  go_wp2_with fail
  refine (takeTimesC w.heap.size a1 b c1 d xs ys 1 _ ho1 k1 hl (by decide) (by intro q off e1 e2 e3; have := k.lt e1 e2; exact row_ne_low ho1 this e3.symm)).mono ?_
  rintro e w2 ⟨zs, ow, rfl, hoz, hzl, hg, hc0, hv⟩
  have B2 := B1.trans (below_of_grown ho1 hg.1 B1.size)
  have HZ : Hid (zs.length = xs.length) := hzl
  have HW : Hid (val zs - 4294967296 ^ xs.length * ow = val xs - 1 * val ys) := hv
  clear hv hzl hg B1 k1 ho1
  go_wp2_with fail
  have hq := trimmedC w.heap.size _ _ zs w2 hoz
  rw [HZ.out] at hq
  refine hq.mono ?_
  clear hq
  rintro e w3 ⟨rfl, a3, j, rfl, hj, ha, hn, hv⟩
  have HJ : Hid (val (zs.take j) = val zs) := hv
  clear hv
  go_wp2
  go_ret
  have hl2 : (zs.take j).length = j := by rw [List.length_take, HZ.out]; omega
  refine ⟨a3, j, zs.take j, by rw [hl2]; rfl, hoz.cut (by rw [HZ.out]; exact hj) ha, hn, ?_, by rw [hl2]; exact hj, B2⟩
  rw [HJ.out]
  have h1 := HW.out
  have h2 := HV.out
  have h3 := val_lt hoz.lim
  have h4 := val_nonneg hoz.lim
  have h6 := val_nonneg k.lim
  have h7 := val_lt h.lim
  rw [HZ.out] at h3
  rw [Int.one_mul] at h1
  have h5 := p_pos xs.length
  by_cases hc : ow = 0
  · subst hc; simp at h1; omega
  · have : 4294967296 ^ xs.length * 1 ≤ 4294967296 ^ xs.length * ow := Int.mul_le_mul_of_nonneg_left (by omega) (by omega)
    omega
end Go.Proofs.Ytnefdfgonolafaa
