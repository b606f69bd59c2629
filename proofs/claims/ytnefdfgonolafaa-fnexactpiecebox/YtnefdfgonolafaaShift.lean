/- Limbs shifted up and down by less than a limb's bits: impl.shiftedUp, impl.shiftedDown. -/
import Derived.Test.YtnefdfgonolafaaAddI
import Derived.Test.YtnefdfgonolafaaDivA
namespace Go.Proofs.Ytnefdfgonolafaa
open Go.RowKit

theorem p2_le {s : Nat} (hs : s ≤ 31) : (2 : Int) ^ s ≤ 2147483648 := by
  have e : (2147483648 : Int) = 2 ^ s * 2 ^ (31 - s) := by
    rw [← Int.pow_add, show s + (31 - s) = 31 by omega]; decide
  have h1 := p2_pos s
  have h2 := p2_pos (31 - s)
  rw [e]
  have : (2 : Int) ^ s * 1 ≤ 2 ^ s * 2 ^ (31 - s) := Int.mul_le_mul_of_nonneg_left (by omega) (by omega)
  omega
/-- What is carried into a limb that was shifted. -/
theorem or_shl {x cr : Int} {s : Nat} (hx : 0 ≤ x ∧ x < 4294967296) (hc : 0 ≤ cr ∧ cr < 2 ^ s) (hs : s ≤ 31) :
    x * 2 ^ s % 18446744073709551616 = x * 2 ^ s ∧ bits BinOp.or IntKind.u64 cr (x * 2 ^ s) = cr + x * 2 ^ s ∧ 0 ≤ (cr + x * 2 ^ s) / 4294967296 ∧ (cr + x * 2 ^ s) / 4294967296 < 2 ^ s ∧ 0 ≤ cr + x * 2 ^ s ∧ cr + x * 2 ^ s < 18446744073709551616 := by
  have hp := p2_pos s
  have hq := p2_le hs
  have h0 : 0 ≤ x * 2 ^ s := Int.mul_nonneg hx.1 (by omega)
  have h1 : x * 2 ^ s ≤ 4294967295 * 2 ^ s := Int.mul_le_mul_of_nonneg_right (by omega) (by omega)
  have hor : bits BinOp.or IntKind.u64 cr (x * 2 ^ s) = cr + x * 2 ^ s := by
    rw [u64_or cr (x * 2 ^ s) hc.1 (by omega) h0 (by omega)]
    obtain ⟨n, rfl⟩ := Int.eq_ofNat_of_zero_le hx.1
    obtain ⟨m, rfl⟩ := Int.eq_ofNat_of_zero_le hc.1
    have e2 : ((n : Int) * 2 ^ s).toNat = n * 2 ^ s := by
      have : ((n : Int) * 2 ^ s) = ((n * 2 ^ s : Nat) : Int) := by simp
      rw [this]; exact Int.toNat_natCast _
    have hm : m < 2 ^ s := by
      have h := hc.2
      have : ((2 : Int) ^ s) = ((2 ^ s : Nat) : Int) := by simp
      rw [this] at h
      exact Int.ofNat_lt.1 h
    rw [e2, Int.toNat_natCast, Nat.or_comm, nat_join s _ _ (Nat.mul_mod_left _ _) hm]
    simp
    omega
  refine ⟨Int.emod_eq_of_lt h0 (by omega), hor, by omega, ?_, by omega, by omega⟩
  generalize x * 2 ^ s = p at *
  omega

theorem shift_round {ws xs : List Int} {j : Nat} {cr f t : Int} (hw : ws.length = j) (h : val ws + 4294967296 ^ j * cr = val (xs.take j) * f) (ht : t = cr + xs[j]?.getD 0 * f) :
    val (ws ++ [t % 4294967296]) + 4294967296 ^ (j + 1) * (t / 4294967296) = val (xs.take (j + 1)) * f := by
  rw [val_snoc, hw, val_take_succ, Int.pow_succ]
  have e := digit_step (4294967296 ^ j) t
  rw [ht, Int.mul_add] at e
  rw [← ht] at e
  rw [Int.add_mul, Int.mul_assoc (4294967296 ^ j) (xs[j]?.getD 0) f]
  omega

set_option maxHeartbeats 1000000 in
theorem shiftedUpC (a : Option Addr) (c : Nat) (xs : List Int) (s : Nat) (w : World) (h : Sees w a c xs) (hs : s ≤ 31) (hx : xs.length ≤ 1048576) :
    Calls Try.prog 63 #[.slice a xs.length c, .int .i64 s] w fun e w' => ∃ zs, e = .returned (.slice (some ⟨w.heap.size, 0, none⟩) (xs.length + 1) (xs.length + 1)) ∧ Own w.heap.size w' (some ⟨w.heap.size, 0, none⟩) (xs.length + 1) zs ∧ zs.length = xs.length + 1 ∧ val zs = val xs * 2 ^ s ∧ Below w.heap.size w w' := by
  obtain ⟨i0, hi, hz0, hz1, hz2⟩ := info_parts infoU
  have HX : Hid (xs.length ≤ 1048576) := hx
  have mx : xs.length ≤ 4611686018427387900 := by omega
  clear hx
  go_enter Try.func63, Try.ntmps63
  go_wp2_with (at_make; refine wpList_make_full _ rfl _ _ 22 rfl w.heap.size 80 i0 (.int .u32 0) 1 Try.underlying22 hi hz0 hz1 .i64 .i64 _ _ (xs.length + 1) rfl rfl ?m1 ?m2 ?b2 ?b3 (Nat.le_refl _) ?_; (case m1 => omega); (case m2 => omega); (case b2 => rw [hz2]; have := HX.out; omega); (case b3 => have := HX.out; unfold maxLen; omega); intro w0 hown0 hgrow0; rw [made_list] at hown0; have ho := (Own.of_row (xs := List.replicate (xs.length + 1) 0) (by rw [List.map_replicate]; exact hown0) (Lim.zeros _)).1; have hb0 : Below w.heap.size w w0 := ((Below.refl _ _).grown hgrow0 (Nat.le_refl _) (fun k h => by cases h)); clear hown0 hgrow0)
  have LX : Hid (Lim xs) := h.lim
  have HL : Hid ((List.replicate (xs.length + 1) (0 : Int)).length = xs.length + 1) := by show _ = _; simp
  generalize List.replicate (xs.length + 1) (0 : Int) = us at *
  have P0 : (0 : Int) < 2 ^ s := p2_pos s
  have P1 : (2 : Int) ^ s ≤ 2147483648 := p2_le hs
  clear hi hz0 hz1 hz2
  go_loopw [6, 15] (fun q i wr => ∃ (j : Nat) (cr : Int) (ws : List Int), j ≤ xs.length ∧ i = .int .i64 j ∧ q = .int .u64 cr ∧ 0 ≤ cr ∧ cr < 2 ^ s ∧ Hid (ws.length = j) ∧ Own w.heap.size wr (some ⟨w.heap.size, 0, none⟩) (xs.length + 1) (ws ++ us.drop j) ∧ Hid (val ws + 4294967296 ^ j * cr = val (xs.take j) * 2 ^ s) ∧ Below w.heap.size w wr) (fun _ i _ => xs.length - (intOf i).toNat)
  case atStart => exact ⟨0, 0, [], Nat.zero_le _, rfl, rfl, by decide, P0, rfl, by simpa using ho, by simp [Hid, val], hb0⟩
  case round =>
    obtain ⟨j, cr, ws, hj, rfl, rfl, c0, c1, hw, hown, he, hB⟩ := hrel
    clear ho hb0
    have hne : ws ++ us.drop j ≠ [] := by intro e; have := row_length hw.out (show j ≤ us.length by rw [HL.out]; omega); rw [e, HL.out] at this; simp at this
    obtain ⟨b2, o2, e2, hc⟩ := hown.cells hne
    simp only [Option.some.injEq, Addr.mk.injEq] at e2
    obtain ⟨rfl, rfl, _⟩ := e2
    have hlen := row_length hw.out (show j ≤ us.length by rw [HL.out]; omega)
    rw [HL.out] at hlen
    have g1 := hc j (by omega)
    have g2 := (hown.new _ _ rfl hne).2 j (by omega)
    have hst := fun v hv => hown.store (j := j) rfl (by omega) (v := v) hv
    have hbs := fun u => hB.setCell (p := ⟨w.heap.size, j, none⟩) (Nat.le_refl _) u
    simp only [row_step hw.out (show j < us.length by rw [HL.out]; omega)] at hst
    simp only [Nat.zero_add] at g1 g2 hst
    clear hlen hc hne
    generalize (ws ++ us.drop j)[j]?.getD 0 = z at *
    by_cases hlt : j < xs.length
    · obtain ⟨b1, o1, rfl, hc1⟩ := (h.below hB).cells (by intro e; simp [e] at hlt)
      have g3 := hc1 j hlt
      have hxb := LX.out.get j
      obtain ⟨o1', o2', o3', o4', o5', o6'⟩ := or_shl hxb ⟨c0, c1⟩ hs
      have HR : Hid _ := shift_round hw.out he.out (t := cr + xs[j]?.getD 0 * 2 ^ s) rfl
      have HW : Hid ((ws ++ [(cr + xs[j]?.getD 0 * 2 ^ s) % 4294967296]).length = j + 1) := by show _ = _; simp [hw.out]
      have O1 := hst ((cr + xs[j]?.getD 0 * 2 ^ s) % 4294967296) (by omega)
      have B1 := hbs (.int .u32 ((cr + xs[j]?.getD 0 * 2 ^ s) % 4294967296))
      clear hc1 hw he hown hB hst hbs h
      generalize xs[j]?.getD 0 = x at *
      go_wp2
      go_roundw
      case rel => exact ⟨j + 1, _, _, by omega, by go_num, rfl, o3', o4', HW, O1, HR, B1⟩
      case measure => simp [intOf]; omega
    · obtain rfl : j = xs.length := by omega
      have O1 := hst cr (by omega)
      have B1 := hbs (.int .u32 cr)
      have HW : Hid ((ws ++ [cr] ++ us.drop (xs.length + 1)).length = xs.length + 1) := by
        show _ = _
        have := hw.out
        have := HL.out
        simp; omega
      have HV : Hid (val (ws ++ [cr] ++ us.drop (xs.length + 1)) = val xs * 2 ^ s) := by
        show _ = _
        rw [List.drop_eq_nil_of_le (Nat.le_of_eq HL.out), List.append_nil, val_snoc, hw.out, he.out, List.take_length]
      clear hown hB hst hbs h hw he
      go_wp2
      go_ret
      exact ⟨_, rfl, O1, HW.out, HV.out, B1⟩

/-- The limbs of what is shifted down. -/
def dn (f : Int) : List Int → List Int
  | [] => []
  | x :: r => (r.headD 0 * 4294967296 + x) / f % 4294967296 :: dn f r
theorem dn_length (f : Int) : ∀ xs : List Int, (dn f xs).length = xs.length
  | [] => rfl
  | x :: r => by simp [dn, dn_length f r]
theorem dn_limb {f g x y v : Int} (hf : 0 < f) (hg : 0 < g) (hfg : f * g = 4294967296) (hx : 0 ≤ x ∧ x < 4294967296) (hv : v % f = y % f) :
    (y * 4294967296 + x) / f % 4294967296 + 4294967296 * (v / f) = (x + 4294967296 * v) / f := by
  have e1 : (y * 4294967296 + x) / f = x / f + g * y := by
    rw [← hfg, show y * (f * g) + x = x + f * (g * y) by rw [Int.mul_comm y, Int.mul_assoc]; omega, Int.add_mul_ediv_left _ _ (by omega)]
  have e2 : (x + 4294967296 * v) / f = x / f + g * v := by
    rw [← hfg, Int.mul_assoc, Int.add_mul_ediv_left _ _ (by omega)]
  have q0 : 0 ≤ x / f := Int.ediv_nonneg hx.1 (by omega)
  have q1 : x / f < g := Int.ediv_lt_of_lt_mul hf (by rw [Int.mul_comm, hfg]; exact hx.2)
  have r0 : 0 ≤ y % f := Int.emod_nonneg _ (by omega)
  have r1 : y % f < f := Int.emod_lt_of_pos _ hf
  have e3 : g * y = g * (y % f) + 4294967296 * (y / f) := by
    rw [← hfg]
    have := Int.mul_ediv_add_emod y f
    rw [Int.mul_comm f g, Int.mul_assoc, ← Int.mul_add, Int.add_comm, this]
  have e4 : g * v = g * (y % f) + 4294967296 * (v / f) := by
    rw [← hfg]
    have := Int.mul_ediv_add_emod v f
    rw [Int.mul_comm f g, Int.mul_assoc, ← Int.mul_add, Int.add_comm, ← hv, this]
  have s1 : g * (y % f) ≤ g * (f - 1) := Int.mul_le_mul_of_nonneg_left (by omega) (by omega)
  rw [Int.mul_sub, Int.mul_comm g f, hfg, Int.mul_one] at s1
  have s0 : 0 ≤ g * (y % f) := Int.mul_nonneg (by omega) r0
  rw [e1, e2, e3, e4]
  generalize g * (y % f) = p at *
  have : (x / f + (p + 4294967296 * (y / f))) % 4294967296 = x / f + p := by
    rw [← Int.add_assoc, Int.add_mul_emod_self_left]
    exact Int.emod_eq_of_lt (by omega) (by omega)
  rw [this]
  omega
theorem dn_val {f g : Int} (hf : 0 < f) (hg : 0 < g) (hfg : f * g = 4294967296) : ∀ xs : List Int, Lim xs → val (dn f xs) = val xs / f
  | [], _ => by simp [dn, val]
  | x :: r, h => by
    obtain ⟨hx, hr⟩ := h.cons
    have hv : val r % f = r.headD 0 % f := by
      cases r with
      | nil => simp [val]
      | cons y t =>
        simp only [val, List.headD_cons]
        rw [← hfg, Int.mul_assoc, Int.add_mul_emod_self_left]
    simp only [dn, val, dn_val hf hg hfg r hr]
    exact dn_limb hf hg hfg hx hv
theorem dn_step {f : Int} {xs : List Int} {i : Nat} (hi : i < xs.length) {v : Int} (hv : v = ((xs.drop (i + 1)).headD 0 * 4294967296 + xs[i]?.getD 0) / f % 4294967296) :
    (List.replicate (i + 1) 0 ++ dn f (xs.drop (i + 1))).set i v = List.replicate i 0 ++ dn f (xs.drop i) := by
  have e : dn f (xs.drop i) = v :: dn f (xs.drop (i + 1)) := by
    rw [List.drop_eq_getElem_cons hi, hv, List.getElem?_eq_getElem hi]
    rfl
  rw [e, List.replicate_succ', List.append_assoc, List.set_append, if_neg (by simp)]
  simp
theorem head_drop {xs : List Int} {i : Nat} : (xs.drop i).headD 0 = xs[i]?.getD 0 := by
  rw [List.headD_eq_head?_getD, List.head?_drop]
theorem above_or {ab x : Int} (hx : 0 ≤ x ∧ x < 4294967296) : bits BinOp.or IntKind.u64 (IntKind.u64.wrap (ab * 4294967296)) x = ab % 4294967296 * 4294967296 + x := by
  have e0 : IntKind.u64.wrap (ab * 4294967296) = ab * 4294967296 % 18446744073709551616 := rfl
  have e : ab * 4294967296 % 18446744073709551616 = ab % 4294967296 * 4294967296 := by omega
  rw [e0, e, u64_or _ x (by omega) (by omega) hx.1 (by omega), nat_join 32 _ _ (by omega) (by omega)]
  omega

set_option maxHeartbeats 1000000 in
theorem shiftedDownC (a : Option Addr) (c : Nat) (xs : List Int) (s : Nat) (w : World) (h : Sees w a c xs) (hs : s ≤ 31) (hx : xs.length ≤ 2097152) :
    Calls Try.prog 66 #[.slice a xs.length c, .int .i64 s] w fun e w' => ∃ zs, e = .returned (.slice (some ⟨w.heap.size, 0, none⟩) xs.length xs.length) ∧ Own w.heap.size w' (some ⟨w.heap.size, 0, none⟩) xs.length zs ∧ zs.length = xs.length ∧ val zs = val xs / 2 ^ s ∧ Below w.heap.size w w' := by
  obtain ⟨i0, hi, hz0, hz1, hz2⟩ := info_parts infoU
  have HX : Hid (xs.length ≤ 2097152) := hx
  have mx : xs.length ≤ 4611686018427387900 := by omega
  clear hx
  go_enter Try.func66, Try.ntmps66
  go_wp2_with (at_make; refine wpList_make_full _ rfl _ _ 22 rfl w.heap.size 80 i0 (.int .u32 0) 1 Try.underlying22 hi hz0 hz1 .i64 .i64 _ _ xs.length rfl rfl rfl rfl ?b2 ?b3 (Nat.le_refl _) ?_; (case b2 => rw [hz2]; have := HX.out; omega); (case b3 => have := HX.out; unfold maxLen; omega); intro w0 hown0 hgrow0; rw [made_list] at hown0; have ho := (Own.of_row (xs := List.replicate xs.length 0) (by rw [List.map_replicate]; exact hown0) (Lim.zeros _)).1; have hb0 : Below w.heap.size w w0 := ((Below.refl _ _).grown hgrow0 (Nat.le_refl _) (fun k h => by cases h)); clear hown0 hgrow0)
  have LX : Hid (Lim xs) := h.lim
  have P0 : (0 : Int) < 2 ^ s := p2_pos s
  have P1 : (2 : Int) ^ s ≤ 2147483648 := p2_le hs
  clear hi hz0 hz1 hz2
  go_loopw [6, 7] (fun q i wr => ∃ (j : Nat) (ab : Int), j ≤ xs.length ∧ i = .int .i64 ((j : Int) - 1) ∧ q = .int .u64 ab ∧ 0 ≤ ab ∧ ab < 18446744073709551616 ∧ Hid (ab % 4294967296 = (xs.drop j).headD 0) ∧ Own w.heap.size wr (some ⟨w.heap.size, 0, none⟩) xs.length (List.replicate j 0 ++ dn (2 ^ s) (xs.drop j)) ∧ Below w.heap.size w wr) (fun _ i _ => (intOf i + 1).toNat)
  case atStart => exact ⟨xs.length, 0, Nat.le_refl _, rfl, rfl, by decide, by decide, by simp [Hid], by simpa [dn] using ho, hb0⟩
  case round =>
    obtain ⟨j, ab, hj, rfl, rfl, a0, a1, he, hown, hB⟩ := hrel
    clear ho hb0
    by_cases h0 : j = 0
    · subst h0
      have HV : Hid (val (dn (2 ^ s) xs) = val xs / 2 ^ s) := dn_val P0 (p2_pos (32 - s)) (by rw [← Int.pow_add, show s + (32 - s) = 32 by omega]; decide) xs LX.out
      have O1 : Own w.heap.size wr (some ⟨w.heap.size, 0, none⟩) xs.length (dn (2 ^ s) xs) := by simpa using hown
      clear hown he
      go_wp2
      go_ret
      exact ⟨_, rfl, O1, dn_length _ _, HV.out, hB⟩
    · obtain ⟨i, rfl⟩ : ∃ i, j = i + 1 := ⟨j - 1, by omega⟩
      have hlen : (List.replicate (i + 1) 0 ++ dn (2 ^ s) (xs.drop (i + 1))).length = xs.length := by simp [dn_length]; omega
      have hne : List.replicate (i + 1) 0 ++ dn (2 ^ s) (xs.drop (i + 1)) ≠ [] := by intro e; rw [e] at hlen; simp at hlen; omega
      obtain ⟨b2, o2, e2, hc⟩ := hown.cells hne
      simp only [Option.some.injEq, Addr.mk.injEq] at e2
      obtain ⟨rfl, rfl, _⟩ := e2
      have g1 := hc i (by omega)
      have g2 := (hown.new _ _ rfl hne).2 i (by omega)
      obtain ⟨b1, o1, rfl, hc1⟩ := (h.below hB).cells (by intro e; simp [e] at hj)
      have g3 := hc1 i (by omega)
      have hxb := LX.out.get i
      have hor := above_or (ab := ab) hxb
      rw [he.out] at hor
      have hy : 0 ≤ (xs.drop (i + 1)).headD 0 ∧ (xs.drop (i + 1)).headD 0 < 4294967296 := by rw [head_drop]; exact LX.out.get (i + 1)
      have q0 : 0 ≤ ((xs.drop (i + 1)).headD 0 * 4294967296 + xs[i]?.getD 0) / 2 ^ s := Int.ediv_nonneg (by omega) (by omega)
      have O1 := hown.store (j := i) rfl (by omega) (v := ((xs.drop (i + 1)).headD 0 * 4294967296 + xs[i]?.getD 0) / 2 ^ s % 4294967296) (by omega)
      rw [dn_step (show i < xs.length by omega) rfl] at O1
      have B1 := hB.setCell (p := ⟨w.heap.size, i, none⟩) (Nat.le_refl _) (.int .u32 (((xs.drop (i + 1)).headD 0 * 4294967296 + xs[i]?.getD 0) / 2 ^ s % 4294967296))
      have HE : Hid (((xs.drop (i + 1)).headD 0 * 4294967296 + xs[i]?.getD 0) % 4294967296 = (xs.drop i).headD 0) := by
        show _ = _
        rw [head_drop (i := i)]
        omega
      simp only [Nat.zero_add] at g1 g2 O1
      clear hc hc1 hlen hne hown he h
      generalize (List.replicate (i + 1) 0 ++ dn (2 ^ s) (xs.drop (i + 1)))[i]?.getD 0 = z at *
      generalize (xs.drop (i + 1)).headD 0 = y at *
      generalize xs[i]?.getD 0 = x at *
      obtain ⟨x0, x1⟩ := hxb
      obtain ⟨y0, y1⟩ := hy
      go_wp2
      go_roundw
      case rel => exact ⟨i, _, by omega, by go_num, rfl, by omega, by omega, HE, O1, B1⟩
      case measure => simp [intOf]
end Go.Proofs.Ytnefdfgonolafaa
