import Derived.Test.YthafgldgidmnlaaGreatEq
import Derived.Test.YthafgldgidmnlaaGreatCmp
import Derived.Deep.RegionHeld3
/- Products limb by limb: the arithmetic. No program is named here. -/
namespace Go.Proofs.YthafgldgidmnlaaGreat
open Go.RowKit

theorem val_set : ∀ {zs : List Int} {j : Nat} {x : Int}, j < zs.length → val (zs.set j x) = val zs + 4294967296 ^ j * (x - zs[j]?.getD 0)
  | [], j, x, h => by simp at h
  | z :: r, 0, x, _ => by simp [val]; omega
  | z :: r, j + 1, x, h => by
    have := val_set (zs := r) (j := j) (x := x) (by simpa using h)
    simp only [List.set_cons_succ, val, this, List.getElem?_cons_succ, Int.pow_succ]
    rw [Int.mul_add, ← Int.mul_assoc, Int.mul_comm 4294967296 (4294967296 ^ j)]
    omega
theorem Lim.set {zs : List Int} (h : Lim zs) (j : Nat) {x : Int} (hx : 0 ≤ x ∧ x < 4294967296) : Lim (zs.set j x) := by
  intro y hy
  rcases List.mem_or_eq_of_mem_set hy with hy | rfl
  · exact h y hy
  · exact hx

/-- One limb of a row of a product: at place i + j. -/
theorem mul_round {zs ys : List Int} {i j : Nat} {x cr s : Int} {v0 : Int} (hj : i + j < zs.length)
    (h : val zs + 4294967296 ^ (i + j) * cr = v0 + 4294967296 ^ i * (x * val (ys.take j))) (hs : s = x * (ys[j]?.getD 0) + zs[i + j]?.getD 0 + cr) :
    val (zs.set (i + j) (s % 4294967296)) + 4294967296 ^ (i + (j + 1)) * (s / 4294967296) = v0 + 4294967296 ^ i * (x * val (ys.take (j + 1))) := by
  rw [val_set hj, val_take_succ, ← Nat.add_assoc, Int.pow_succ, Int.mul_sub]
  have e := digit_step (4294967296 ^ (i + j)) s
  rw [hs, Int.mul_add, Int.mul_add] at e
  rw [← hs] at e
  rw [Int.mul_add x, Int.mul_add]
  have e2 : (4294967296 : Int) ^ i * (x * (4294967296 ^ j * ys[j]?.getD 0)) = 4294967296 ^ (i + j) * (x * ys[j]?.getD 0) := by
    rw [Int.pow_add, Int.mul_assoc, ← Int.mul_assoc x, Int.mul_comm x (4294967296 ^ j), Int.mul_assoc]
  rw [e2]
  omega

/-- The row's last limb: it was 0. -/
theorem mul_row {zs ys : List Int} {i : Nat} {x cr v0 : Int} (hj : i + ys.length < zs.length) (hz : zs[i + ys.length]?.getD 0 = 0)
    (h : val zs + 4294967296 ^ (i + ys.length) * cr = v0 + 4294967296 ^ i * (x * val (ys.take ys.length))) :
    val (zs.set (i + ys.length) cr) = v0 + 4294967296 ^ i * (x * val ys) := by
  rw [val_set hj, hz, Int.sub_zero]
  rw [List.take_length] at h
  exact h

theorem get_set_ne {zs : List Int} {i j : Nat} {x : Int} (h : j ≠ i) : (zs.set i x)[j]?.getD 0 = zs[j]?.getD 0 := by
  rw [List.getElem?_set_ne (by omega)]

/-- One row more. -/
theorem mul_next (xs ys : List Int) (i : Nat) (v0 : Int) (h : v0 = val (xs.take i) * val ys) : v0 + 4294967296 ^ i * (xs[i]?.getD 0 * val ys) = val (xs.take (i + 1)) * val ys := by
  rw [val_take_succ, Int.add_mul, h, Int.mul_assoc]
theorem mul_limb {x y z cr : Int} (hx : 0 ≤ x ∧ x < 4294967296) (hy : 0 ≤ y ∧ y < 4294967296) (hz : 0 ≤ z ∧ z < 4294967296) (hc : 0 ≤ cr ∧ cr < 4294967296) :
    0 ≤ x * y ∧ x * y ≤ 18446744065119617025 ∧ 0 ≤ (x * y + z + cr) / 4294967296 ∧ (x * y + z + cr) / 4294967296 < 4294967296 := by
  have p0 : 0 ≤ x * y := Int.mul_nonneg hx.1 hy.1
  have p1 : x * y ≤ 18446744065119617025 := Int.le_trans (Int.mul_le_mul (show x ≤ 4294967295 by omega) (show y ≤ 4294967295 by omega) hy.1 (by decide)) (by decide)
  refine ⟨p0, p1, ?_, ?_⟩
  all_goals
    generalize x * y = p at *
    omega
end Go.Proofs.YthafgldgidmnlaaGreat

/- The program's sums of limbs: impl.addInto, impl.addMag. -/
namespace Go.Proofs.YthafgldgidmnlaaGreat
open Go.RowKit

set_option maxHeartbeats 1000000 in
theorem addIntoC (base : Nat) (a b : Option Addr) (c d : Nat) (us ys : List Int) (w : World) (h : Own base w a c us) (k : Sees w b d ys) (hl : ys.length ≤ us.length)
    (hap : ∀ q off, b = some ⟨q, off, none⟩ → ys ≠ [] → rowOf a us ≠ some q) :
    Calls Tryz.prog 138 #[.slice a us.length c, .slice b ys.length d] w fun e w' => ∃ zs cr, e = .returned (.bool (decide (0 < cr))) ∧ Own base w' a c zs ∧ zs.length = us.length ∧ Wrote w w' a us.length (rowOf a us) ∧ 0 ≤ cr ∧ val zs + 4294967296 ^ us.length * cr = val us + val ys := by
  have hm := h.max
  have hf := h.fits
  have hm2 := k.max
  have hf2 := k.fits
  unfold maxLen at hm hm2
  have HY : Hid (Lim ys) := k.lim
  have HU : Hid (Lim us) := h.lim
  go_enter Tryz.func138, Tryz.ntmps138
  go_wp2
  go_loopw [5, 9] (fun q i wr => ∃ (j : Nat) (cr : Int) (ws : List Int), j ≤ us.length ∧ i = .int .i64 j ∧ q = .int .u64 cr ∧ 0 ≤ cr ∧ cr ≤ 1 ∧ Hid (ws.length = j) ∧ Own base wr a c (ws ++ us.drop j) ∧ Wrote w wr a us.length (rowOf a us) ∧ Hid (val ws + 4294967296 ^ j * cr = val (us.take j) + val (ys.take j))) (fun _ i _ => us.length - (intOf i).toNat)
  case atStart => exact ⟨0, 0, [], Nat.zero_le _, rfl, rfl, by decide, by decide, rfl, by simpa using h, Wrote.refl _ _ _ _, by simp [Hid, val]⟩
  case round =>
    obtain ⟨j, cr, ws, hj, rfl, rfl, c0, c1, hw, hown, hg, he⟩ := hrel
    by_cases hlt : j < us.length
    · have hne : us ≠ [] := by intro e; simp [e] at hlt
      obtain ⟨b1, o1, rfl, _⟩ := h.cells hne
      have hlen := row_length hw.out hj
      have hne2 : ws ++ us.drop j ≠ [] := by intro e; rw [e] at hlen; simp at hlen; omega
      obtain ⟨b2, o2, e2, hc⟩ := hown.cells hne2
      simp only [Option.some.injEq, Addr.mk.injEq] at e2
      obtain ⟨rfl, rfl, _⟩ := e2
      have g1 := hc j (by omega)
      rw [row_get hw.out hlt] at g1
      have g2 := (hown.new b1 o1 rfl hne2).2 j (by omega)
      have hx := HU.out.get j
      have hy := HY.out.get j
      have hr := add_round hw.out he.out
      have hg' := fun u => hg.setCell (j := j) (by simp [rowOf, hne]) hlt u
      have hst := fun v hv => hown.store (j := j) rfl (by omega) (v := v) hv
      simp only [row_step hw.out hlt] at hst
      have hk := k.kept hg.1 hap
      have hwl : Hid ((ws ++ [(cr + us[j]?.getD 0 + ys[j]?.getD 0) % 4294967296]).length = j + 1) := by show _ = _; simp [hw.out]
      by_cases hy2 : j < ys.length
      · have hne3 : ys ≠ [] := by intro e; simp [e] at hy2
        obtain ⟨b3, o3, rfl, hc3⟩ := hk.cells hne3
        have g3 := hc3 j hy2
        have HR : Hid (val (ws ++ [(cr + us[j]?.getD 0 + ys[j]?.getD 0) % 4294967296]) + 4294967296 ^ (j + 1) * ((cr + us[j]?.getD 0 + ys[j]?.getD 0) / 4294967296) = val (us.take (j + 1)) + val (ys.take (j + 1))) := hr
        have HST := hst ((cr + us[j]?.getD 0 + ys[j]?.getD 0) % 4294967296) (by omega)
        have HG := hg' (.int .u32 ((cr + us[j]?.getD 0 + ys[j]?.getD 0) % 4294967296))
        clear hc hc3 hown hne2 hlen h k hst hg' hr hk hw he hap hne hne3 hg
        generalize us[j]?.getD 0 = x at *
        generalize ys[j]?.getD 0 = y at *
        go_wp2
        go_roundw
        case rel => exact ⟨j + 1, (cr + x + y) / 4294967296, _, by omega, by go_num, rfl, by omega, by omega, hwl, HST, HG, HR⟩
        case measure => simp [intOf]; omega
      · have e0 : ys[j]?.getD 0 = 0 := by rw [List.getElem?_eq_none (by omega)]; rfl
        rw [e0] at hr hwl
        simp only [Int.add_zero] at hr hwl
        have HR : Hid (val (ws ++ [(cr + us[j]?.getD 0) % 4294967296]) + 4294967296 ^ (j + 1) * ((cr + us[j]?.getD 0) / 4294967296) = val (us.take (j + 1)) + val (ys.take (j + 1))) := hr
        have HST := hst ((cr + us[j]?.getD 0) % 4294967296) (by omega)
        have HG := hg' (.int .u32 ((cr + us[j]?.getD 0) % 4294967296))
        clear hc hown hne2 hlen h k hst hg' hr hk hw he hap hne hg e0 hy
        generalize us[j]?.getD 0 = x at *
        go_wp2
        go_roundw
        case rel => exact ⟨j + 1, (cr + x) / 4294967296, _, by omega, by go_num, rfl, by omega, by omega, hwl, HST, HG, HR⟩
        case measure => simp [intOf]; omega
    · obtain rfl : j = us.length := by omega
      go_wp2
      go_ret
      refine ⟨ws, cr, rfl, by simpa using hown, hw.out, hg, c0, ?_⟩
      have := he.out
      rw [List.take_length, List.take_of_length_le hl] at this
      exact this
theorem sizeU : (Tryz.prog.info? 81).map (·.size) = some 1 := by kernel_rfl

/-- What is behind the making and the copy: xs, and a nought on top. -/
theorem laid_copy {w : World} {g : Nat} {e : TypeId} {base : Nat} {xs : List Int} (h : w.heap[g]? = some (.cells (splice (List.replicate (xs.length + 1) (Value.int .u32 0)) 0 (xs.map (Value.int .u32))).toArray e (0, 0)))
    (hl : Lim xs) (hm : xs.length + 1 ≤ maxLen) (hb : base ≤ g) : Own base w (some ⟨g, 0, none⟩) (xs.length + 1) (xs ++ [0]) := by
  rw [splice_front xs _ (by omega), show xs.length + 1 - xs.length = 1 by omega] at h
  have := Own.of_heap (base := base) h (hl.append (Lim.zeros 1)) (by simpa using hm) hb
  simpa using this

theorem made_list (n : Nat) : (madeCells (Value.cells (.int .u32 0)) (n * 1)).toList = List.replicate n (Value.int .u32 0) := by
  rw [Nat.mul_one]; exact toList_madeCells_one _ _
theorem Came.all {w : World} {a : Option Addr} {c : Nat} {xs : List Int} (h : Came w a c xs) (hp : 0 < (xs.map (Value.int .u32)).length) :
    ∃ ad, a = some ad ∧ ∀ j v, (xs.map (Value.int .u32))[j]? = some v → w.cell? (ad.add j) = some v := by
  have hne : xs ≠ [] := by intro e; simp [e] at hp
  obtain ⟨b, off, rfl, hc⟩ := h.cells hne
  refine ⟨_, rfl, ?_⟩
  have := h.news (j := xs.length) (Nat.le_refl _)
  rwa [List.take_length] at this

/-- One limb more holds the sum: nothing is carried out of it. -/
theorem sum_exact {xs ys zs : List Int} {cr r : Int} (hx : Lim xs) (hy : Lim ys) (hv : val zs + 4294967296 ^ (xs.length + 1) * cr = val (xs ++ [0]) + val ys) (hz : Lim zs)
    (h0 : 0 ≤ cr) (hxy : ys.length ≤ xs.length) (hr : val xs + val ys = r) : val zs = r := by
  rw [val_snoc, Int.mul_zero, Int.add_zero] at hv
  have h1 := val_lt hx
  have h2 := val_lt hy
  have h3 := p_mono ys.length (xs.length - ys.length)
  rw [show ys.length + (xs.length - ys.length) = xs.length by omega] at h3
  have h4 := val_nonneg hz
  have h5 := p_pos xs.length
  rw [Int.pow_succ] at hv
  by_cases hc : cr = 0
  · subst hc; simp at hv; omega
  · have : 4294967296 ^ xs.length * 4294967296 * 1 ≤ 4294967296 ^ xs.length * 4294967296 * cr := Int.mul_le_mul_of_nonneg_left (by omega) (by omega)
    omega

set_option maxHeartbeats 1000000 in
theorem addMagC (a b : Option Addr) (c d : Nat) (xs ys : List Int) (w : World) (h : Sees w a c xs) (k : Sees w b d ys) (hx : xs.length ≤ 1048576) (hy : ys.length ≤ 1048576) :
    Calls Tryz.prog 136 #[.slice a xs.length c, .slice b ys.length d] w fun e w' => ∃ a' c' zs, e = .returned (.slice a' zs.length c') ∧ Own w.heap.size w' a' c' zs ∧ Nrm zs ∧ val zs = val xs + val ys ∧ (zs.length ≤ xs.length + 1 ∨ zs.length ≤ ys.length + 1) ∧ Below w.heap.size w w' := by
  obtain ⟨i0, hi, hz0, hz1, hz2⟩ := info_parts infoU
  have HX : Hid (xs.length ≤ 1048576) := hx
  have HY : Hid (ys.length ≤ 1048576) := hy
  have mx : xs.length ≤ 9223372036854775800 := by omega
  have my : ys.length ≤ 9223372036854775800 := by omega
  clear hx hy
  by_cases hlt : xs.length < ys.length
  · have hlen : (ys ++ [0]).length = ys.length + 1 := by simp
    have HLEN : Hid ((ys ++ [0]).length = ys.length + 1) := hlen
    clear hlen
    go_enter Tryz.func136, Tryz.ntmps136
    go_wp2_with (first
      | (at_make; refine wpList_make_full _ rfl _ _ 25 rfl w.heap.size 81 i0 (.int .u32 0) 1 Tryz.underlying25 hi hz0 hz1 .i64 .i64 _ _ (ys.length + 1) rfl rfl ?m1 ?m2 ?m3 ?m4 (Nat.le_refl _) ?_; (case m1 => omega); (case m2 => omega); (case m3 => rw [hz2]; have := HY.out; omega); (case m4 => have := HY.out; unfold maxLen; omega); intro w0 hown0 hgrow0; rw [made_list] at hown0; have HH : Hid (w0.heap[w.heap.size]? = some (.cells (List.replicate (ys.length + 1) (Value.int .u32 0)).toArray 81 (0, 0))) := heap_of_made hown0; have B0 : Below w.heap.size w w0 := ((Below.refl _ _).grown hgrow0 (Nat.le_refl _) (fun k h => by cases h)); clear hown0 hgrow0)
      | (refine wpList_copy_splice rfl (.tmp 17) (.tmp 18) 25 25 rfl 81 Tryz.underlying25 sizeU _ _ _ _ _ _ rfl rfl w.heap.size 0 _ 81 HH.out (ys.map (Value.int .u32)) ?n1 (fun hp => ⟨rfl, (k.below B0).toCame.all hp⟩) ?n2 (ones _) w.heap.size w B0 (Nat.le_refl _) ?_; (case n1 => rw [List.length_map]; exact (Nat.min_eq_left (Nat.le_succ _)).symm); (case n2 => simp); intro w1 hh1 B1; clear HH B0))
    have ho1 := laid_copy (base := w.heap.size) hh1.out k.lim (by have := HY.out; unfold maxLen; omega) (Nat.le_refl _)
    clear hh1
    have hq := addIntoC w.heap.size _ a _ c _ xs w1 ho1 (h.below B1) (by rw [HLEN.out]; omega) (by intro q off e1 e2 e3; have := h.lt e1 e2; exact row_ne_low ho1 this e3.symm)
    rw [HLEN.out] at hq
    refine hq.mono ?_
    clear hq
    rintro e w2 ⟨zs, cr, rfl, hoz, hzl, hg, hc0, hv⟩
    have B2 := B1.trans (below_of_grown ho1 hg.1 B1.size)
    clear hg ho1
    have HZ : Hid (zs.length = ys.length + 1) := hzl
    have HV : Hid (val zs + 4294967296 ^ (ys.length + 1) * cr = val (ys ++ [0]) + val xs) := hv
    clear hv hzl
    go_wp2_with fail
    have hq := trimmedC w.heap.size _ _ zs w2 hoz
    rw [HZ.out] at hq
    refine hq.mono ?_
    clear hq
    rintro e w3 ⟨rfl, a3, j, rfl, hj, ha, hn, hv⟩
    have HJ : Hid (val (zs.take j) = val zs) := hv
    clear hv
    go_wp2
    go_ret
    have hl2 : (zs.take j).length = j := by rw [List.length_take, HZ.out]; omega
    refine ⟨a3, j, zs.take j, by rw [hl2]; rfl, hoz.cut (by rw [HZ.out]; exact hj) ha, hn, ?_, by rw [hl2]; exact .inr hj, B2⟩
    rw [HJ.out]
    exact sum_exact k.lim h.lim HV.out hoz.lim hc0 (by omega) (Int.add_comm _ _)
  · have hlen : (xs ++ [0]).length = xs.length + 1 := by simp
    have HLEN : Hid ((xs ++ [0]).length = xs.length + 1) := hlen
    clear hlen
    go_enter Tryz.func136, Tryz.ntmps136
    go_wp2_with (first
      | (at_make; refine wpList_make_full _ rfl _ _ 25 rfl w.heap.size 81 i0 (.int .u32 0) 1 Tryz.underlying25 hi hz0 hz1 .i64 .i64 _ _ (xs.length + 1) rfl rfl ?m1 ?m2 ?m3 ?m4 (Nat.le_refl _) ?_; (case m1 => omega); (case m2 => omega); (case m3 => rw [hz2]; have := HX.out; omega); (case m4 => have := HX.out; unfold maxLen; omega); intro w0 hown0 hgrow0; rw [made_list] at hown0; have HH : Hid (w0.heap[w.heap.size]? = some (.cells (List.replicate (xs.length + 1) (Value.int .u32 0)).toArray 81 (0, 0))) := heap_of_made hown0; have B0 : Below w.heap.size w w0 := ((Below.refl _ _).grown hgrow0 (Nat.le_refl _) (fun k h => by cases h)); clear hown0 hgrow0)
      | (refine wpList_copy_splice rfl (.tmp 17) (.tmp 18) 25 25 rfl 81 Tryz.underlying25 sizeU _ _ _ _ _ _ rfl rfl w.heap.size 0 _ 81 HH.out (xs.map (Value.int .u32)) ?n1 (fun hp => ⟨rfl, (h.below B0).toCame.all hp⟩) ?n2 (ones _) w.heap.size w B0 (Nat.le_refl _) ?_; (case n1 => rw [List.length_map]; exact (Nat.min_eq_left (Nat.le_succ _)).symm); (case n2 => simp); intro w1 hh1 B1; clear HH B0))
    have ho1 := laid_copy (base := w.heap.size) hh1.out h.lim (by have := HX.out; unfold maxLen; omega) (Nat.le_refl _)
    clear hh1
    have hq := addIntoC w.heap.size _ b _ d _ ys w1 ho1 (k.below B1) (by rw [HLEN.out]; omega) (by intro q off e1 e2 e3; have := k.lt e1 e2; exact row_ne_low ho1 this e3.symm)
    rw [HLEN.out] at hq
    refine hq.mono ?_
    clear hq
    rintro e w2 ⟨zs, cr, rfl, hoz, hzl, hg, hc0, hv⟩
    have B2 := B1.trans (below_of_grown ho1 hg.1 B1.size)
    clear hg ho1
    have HZ : Hid (zs.length = xs.length + 1) := hzl
    have HV : Hid (val zs + 4294967296 ^ (xs.length + 1) * cr = val (xs ++ [0]) + val ys) := hv
    clear hv hzl
    go_wp2_with fail
    have hq := trimmedC w.heap.size _ _ zs w2 hoz
    rw [HZ.out] at hq
    refine hq.mono ?_
    clear hq
    rintro e w3 ⟨rfl, a3, j, rfl, hj, ha, hn, hv⟩
    have HJ : Hid (val (zs.take j) = val zs) := hv
    clear hv
    go_wp2
    go_ret
    have hl2 : (zs.take j).length = j := by rw [List.length_take, HZ.out]; omega
    refine ⟨a3, j, zs.take j, by rw [hl2]; rfl, hoz.cut (by rw [HZ.out]; exact hj) ha, hn, ?_, by rw [hl2]; exact .inl hj, B2⟩
    rw [HJ.out]
    exact sum_exact h.lim k.lim HV.out hoz.lim hc0 (by omega) rfl
end Go.Proofs.YthafgldgidmnlaaGreat

/- The program's products of limbs: impl.mulMag. -/
namespace Go.Proofs.YthafgldgidmnlaaGreat
open Go.RowKit

/-- What holds of the row ahead of row i of a product. -/
def MulAt (xs ys : List Int) (i : Nat) (zs : List Int) : Prop :=
  zs.length = xs.length + ys.length ∧ val zs = val (xs.take i) * val ys ∧ ∀ q, i + ys.length ≤ q → zs[q]?.getD 0 = 0
/-- .. and within row i, ahead of place j. -/
def MulIn (xs ys : List Int) (i j : Nat) (cr : Int) (zs : List Int) : Prop :=
  zs.length = xs.length + ys.length ∧ val zs + 4294967296 ^ (i + j) * cr = val (xs.take i) * val ys + 4294967296 ^ i * (xs[i]?.getD 0 * val (ys.take j)) ∧ ∀ q, i + ys.length ≤ q → zs[q]?.getD 0 = 0

theorem MulAt.start (xs ys : List Int) : MulAt xs ys 0 (List.replicate (xs.length + ys.length) 0) := by
  refine ⟨by simp, by rw [val_zeros]; simp [val], fun q _ => ?_⟩
  rw [List.getElem?_replicate]
  split <;> rfl
theorem MulAt.into {xs ys zs : List Int} {i : Nat} (h : MulAt xs ys i zs) : MulIn xs ys i 0 0 zs :=
  ⟨h.1, by rw [h.2.1]; simp [val], h.2.2⟩
theorem MulIn.step {xs ys zs : List Int} {i j : Nat} {cr s : Int} (h : MulIn xs ys i j cr zs) (hi : i < xs.length) (hj : j < ys.length)
    (hs : s = xs[i]?.getD 0 * (ys[j]?.getD 0) + zs[i + j]?.getD 0 + cr) : MulIn xs ys i (j + 1) (s / 4294967296) (zs.set (i + j) (s % 4294967296)) := by
  refine ⟨by rw [List.length_set]; exact h.1, mul_round (by rw [h.1]; omega) h.2.1 hs, fun q hq => ?_⟩
  rw [get_set_ne (by omega)]
  exact h.2.2 q hq
theorem MulIn.out {xs ys zs : List Int} {i : Nat} {cr : Int} (h : MulIn xs ys i ys.length cr zs) (hi : i < xs.length) : MulAt xs ys (i + 1) (zs.set (i + ys.length) cr) := by
  refine ⟨by rw [List.length_set]; exact h.1, ?_, fun q hq => ?_⟩
  · rw [mul_row (by rw [h.1]; omega) (h.2.2 _ (Nat.le_refl _)) h.2.1]
    exact mul_next xs ys i _ rfl
  · rw [get_set_ne (by omega)]
    exact h.2.2 q (by omega)

set_option maxHeartbeats 2000000 in
theorem mulMagC (a b : Option Addr) (c d : Nat) (xs ys : List Int) (w : World) (h : Sees w a c xs) (k : Sees w b d ys) (hx : xs.length + ys.length ≤ 1048576) :
    Calls Tryz.prog 132 #[.slice a xs.length c, .slice b ys.length d] w fun e w' => ∃ a' c' zs, e = .returned (.slice a' zs.length c') ∧ Own w.heap.size w' a' c' zs ∧ Nrm zs ∧ val zs = val xs * val ys ∧ zs.length ≤ xs.length + ys.length ∧ Below w.heap.size w w' := by
  obtain ⟨i0, hi, hz0, hz1, hz2⟩ := info_parts infoU
  have HX : Hid (xs.length + ys.length ≤ 1048576) := hx
  have mx : xs.length ≤ 4611686018427387900 := by omega
  have my : ys.length ≤ 4611686018427387900 := by omega
  clear hx
  go_enter Tryz.func132, Tryz.ntmps132
  go_wp2_with (at_make; refine wpList_make_full _ rfl _ _ 25 rfl w.heap.size 81 i0 (.int .u32 0) 1 Tryz.underlying25 hi hz0 hz1 .i64 .i64 _ _ (xs.length + ys.length) rfl rfl ?m1 ?m2 ?b2 ?b3 (Nat.le_refl _) ?_; (case m1 => omega); (case m2 => omega); (case b2 => rw [hz2]; have := HX.out; omega); (case b3 => have := HX.out; unfold maxLen; omega); intro w0 hown0 hgrow0; rw [made_list] at hown0; have ho := (Own.of_row (xs := List.replicate (xs.length + ys.length) 0) (by rw [List.map_replicate]; exact hown0) (Lim.zeros _)).1; have hb0 : Below w.heap.size w w0 := ((Below.refl _ _).grown hgrow0 (Nat.le_refl _) (fun k h => by cases h)); clear hown0 hgrow0)
  have HN : Hid (xs.length + ys.length ≤ maxLen) := by have := HX.out; show _ ≤ _; unfold maxLen; omega
  have LX : Hid (Lim xs) := h.lim
  have LY : Hid (Lim ys) := k.lim
  clear hi hz0 hz1 hz2
  go_loopw [19] (fun s wr => ∃ (i : Nat) (zs : List Int), i ≤ xs.length ∧ s = .int .i64 i ∧ Own w.heap.size wr (some ⟨w.heap.size, 0, none⟩) (xs.length + ys.length) zs ∧ Hid (MulAt xs ys i zs) ∧ Below w.heap.size w wr) (fun s _ => xs.length - (intOf s).toNat)
  case atStart => exact ⟨0, _, Nat.zero_le _, rfl, ho, MulAt.start xs ys, hb0⟩
  case round =>
    obtain ⟨i, zs, hil, rfl, hown, hat, hB⟩ := hrel
    clear ho hb0
    by_cases hlt : i < xs.length
    · have hxs := h.below hB
      obtain ⟨b1, o1, rfl, hc1⟩ := hxs.cells (by intro e; simp [e] at hlt)
      have g1 := hc1 i hlt
      have hxb := LX.out.get i
      have HIN : Hid (MulIn xs ys i 0 0 zs) := hat.out.into
      clear hc1 hxs hat
      obtain ⟨x, hxe⟩ : ∃ x, Hid (xs[i]?.getD 0 = x) := ⟨_, rfl⟩
      rw [hxe.out] at g1 hxb
      obtain ⟨x0, x1⟩ := hxb
      go_wp2
      go_loopw [8, 26] (fun q s wi => ∃ (j : Nat) (cr : Int) (zs' : List Int), j ≤ ys.length ∧ s = .int .i64 j ∧ q = .int .u64 cr ∧ 0 ≤ cr ∧ cr < 4294967296 ∧ Own w.heap.size wi (some ⟨w.heap.size, 0, none⟩) (xs.length + ys.length) zs' ∧ Hid (MulIn xs ys i j cr zs') ∧ Below w.heap.size w wi) (fun _ s _ => ys.length - (intOf s).toNat)
      case atStart => exact ⟨0, 0, zs, Nat.zero_le _, rfl, rfl, by decide, by decide, hown, HIN, hB⟩
      case round =>
        obtain ⟨j, cr, zs', hjl, rfl, rfl, c0, c1, hown', hin, hB'⟩ := hrel
        clear hown HIN hB g1
        have hne : zs' ≠ [] := by intro e; have := hin.out.1; rw [e] at this; simp at this; omega
        obtain ⟨b2, o2, e2, hc⟩ := hown'.cells hne
        simp only [Option.some.injEq, Addr.mk.injEq] at e2
        obtain ⟨rfl, rfl, _⟩ := e2
        have hlen : Hid (zs'.length = xs.length + ys.length) := hin.out.1
        by_cases hjt : j < ys.length
        · have hys := k.below hB'
          obtain ⟨b3, o3, rfl, hc3⟩ := hys.cells (by intro e; simp [e] at hjt)
          have g3 := hc3 j hjt
          have g4 := hc (i + j) (by rw [hlen.out]; omega)
          have g5 := (hown'.new _ _ rfl hne).2 (i + j) (by rw [hlen.out]; omega)
          simp only [Nat.zero_add] at g4 g5
          have hyb := LY.out.get j
          have hzb := hown'.lim.get (i + j)
          have HST := fun s hs => hin.out.step (s := s) hlt hjt hs
          rw [hxe.out] at HST
          have hst := fun v hv => hown'.store (j := i + j) rfl (by rw [hlen.out]; omega) (v := v) hv
          simp only [Nat.zero_add] at hst
          have hbs := fun u => hB'.setCell (p := ⟨w.heap.size, i + j, none⟩) (Nat.le_refl _) u
          have LM := mul_limb ⟨x0, x1⟩ hyb hzb ⟨c0, c1⟩
          clear hc hc3 hys hin hown' hB' hne h k hlen
          generalize ys[j]?.getD 0 = y at *
          generalize zs'[i + j]?.getD 0 = z at *
          obtain ⟨y0, y1⟩ := hyb
          obtain ⟨z0, z1⟩ := hzb
          obtain ⟨l0, l1, l2, l3⟩ := LM
          have hs2 : cr + (x * y + z) = x * y + z + cr := by omega
          have l2' : 0 ≤ (cr + (x * y + z)) / 4294967296 := by rw [hs2]; exact l2
          have l3' : (cr + (x * y + z)) / 4294967296 < 4294967296 := by rw [hs2]; exact l3
          have M1 : Hid (MulIn xs ys i (j + 1) ((cr + (x * y + z)) / 4294967296) (zs'.set (i + j) ((cr + (x * y + z)) % 4294967296))) := HST _ hs2
          have O1 := hst ((cr + (x * y + z)) % 4294967296) (by omega)
          have B1 := hbs (.int .u32 ((cr + (x * y + z)) % 4294967296))
          clear HST hst hbs hs2 l2 l3
          go_wp2
          go_roundw
          case rel => exact ⟨j + 1, _, _, by omega, by go_num, rfl, l2', l3', O1, M1, B1⟩
          case measure => simp [intOf]; omega
        · obtain rfl : j = ys.length := by omega
          have g4 := hc (i + ys.length) (by rw [hlen.out]; omega)
          have g5 := (hown'.new _ _ rfl hne).2 (i + ys.length) (by rw [hlen.out]; omega)
          simp only [Nat.zero_add] at g4 g5
          have O1 := hown'.store (j := i + ys.length) rfl (by rw [hlen.out]; omega) (v := cr) ⟨c0, c1⟩
          simp only [Nat.zero_add] at O1
          have B1 := hB'.setCell (p := ⟨w.heap.size, i + ys.length, none⟩) (Nat.le_refl _) (.int .u32 cr)
          have M1 : Hid (MulAt xs ys (i + 1) (zs'.set (i + ys.length) cr)) := hin.out.out hlt
          clear hc hin hown' hB' hne h k hlen
          generalize zs'[i + ys.length]?.getD 0 = z at *
          go_wp2
          go_roundw
          case rel => exact ⟨i + 1, _, by omega, by go_num, O1, M1, B1⟩
          case measure => simp [intOf]; omega
    · obtain rfl : i = xs.length := by omega
      have HL : Hid (zs.length = xs.length + ys.length) := hat.out.1
      go_wp2_with fail
      have hq := trimmedC w.heap.size _ _ zs wr hown
      rw [HL.out] at hq
      refine hq.mono ?_
      clear hq
      rintro e w3 ⟨rfl, a3, j, rfl, hj, ha, hn, hv⟩
      have HJ : Hid (val (zs.take j) = val zs) := hv
      clear hv
      go_wp2
      go_ret
      have hl2 : (zs.take j).length = j := by rw [List.length_take, HL.out]; omega
      refine ⟨a3, j, zs.take j, by rw [hl2]; rfl, hown.cut (by rw [HL.out]; exact hj) ha, hn, ?_, by rw [hl2]; exact hj, hB⟩
      rw [HJ.out, hat.out.2.1, List.take_length]
end Go.Proofs.YthafgldgidmnlaaGreat

/- The program's products of numbers of any size: impl.product. -/
namespace Go.Proofs.YthafgldgidmnlaaGreat
open Go.RowKit

theorem sg_mul (g g' : Bool) (v u : Int) : sg (g != g') (v * u) = sg g v * sg g' u := by
  cases g <;> cases g' <;> simp [sg, Int.mul_neg, Int.neg_mul]

set_option maxRecDepth 20000 in
set_option maxHeartbeats 4000000 in
theorem productC (g g' : Bool) (a b : Option Addr) (c d : Nat) (xs ys : List Int) (w : World) (h : Sees w a c xs) (k : Sees w b d ys) (hs : xs.length + ys.length ≤ 1048576) :
    Calls Tryz.prog 128 #[.agg #[.bool g, .slice a xs.length c], .agg #[.bool g', .slice b ys.length d]] w fun e w' => ∃ v, e = .returned v ∧ IsNum w.heap.size w' v (sg (g != g') (val xs * val ys)) ∧ Below w.heap.size w w' := by
  have HS : Hid (xs.length + ys.length ≤ 1048576) := hs
  clear hs
  go_enter Tryz.func128, Tryz.ntmps128
  go_wp2_with fail
  go_region_held3 (fun w' => w'.cell? ⟨w.heap.size, 0, none⟩ = some (.bool g) ∧ w'.cell? ⟨w.heap.size, 1, none⟩ = some (.slice a xs.length c) ∧ w'.cell? ⟨w.heap.size + 1, 0, none⟩ = some (.bool g') ∧ w'.cell? ⟨w.heap.size + 1, 1, none⟩ = some (.slice b ys.length d))
    (first | exact k1 | exact k2 | exact ⟨(cell_put (by omega)).trans k2.1, (cell_put (by omega)).trans k2.2.1, (cell_put (by omega)).trans k2.2.2.1, (cell_put (by omega)).trans k2.2.2.2⟩ | (simp [go_sem, World.cell?_alloc_past]))
    (first
    | (go_at_call 132; refine (mulMagC a b c d xs ys _ ?_ ?_ HS.out).mono ?_; exact h.below (below3 _ _ _ _).drew; exact k.below (below3 _ _ _ _).drew; rintro e w1 ⟨a1, c1, zs, rfl, ho1, hn1, hv1, hl1, hb1⟩; have B1 := (below3 w _ _ _).drew.trans (hb1.mono (by simp <;> omega)); obtain ⟨q1, _⟩ := at_block hb1 (b := w.heap.size) (by simp <;> omega); obtain ⟨q2, _⟩ := at_block hb1 (b := w.heap.size + 1) (by simp <;> omega); obtain ⟨q3, q4⟩ := at_block hb1 (b := w.heap.size + 2) (by simp); have z1 : w.heap.size + 2 < w1.heap.size := (by have := hb1.size; simp at this; omega); have k1 : w1.cell? ⟨w.heap.size, 0, none⟩ = some (.bool g) ∧ w1.cell? ⟨w.heap.size, 1, none⟩ = some (.slice a xs.length c) ∧ w1.cell? ⟨w.heap.size + 1, 0, none⟩ = some (.bool g') ∧ w1.cell? ⟨w.heap.size + 1, 1, none⟩ = some (.slice b ys.length d) := (by simp [q1, q2, go_sem, World.cell?_alloc_past]); have E : Hid (sg (g != g') (val zs) = sg (g != g') (val xs * val ys)) := (by rw [hv1]; exact rfl); have ho2 := ho1.base_le (show w.heap.size + 3 ≤ _ by simp); clear hb1 q1 q2 hv1 hn1 hl1 ho1)
    | (go_at_call 131; refine (signedC (w.heap.size + 3) (g != g') a1 c1 zs _ ho2).mono ?_; rintro e w2 ⟨v, rfl, hI, hb2⟩; have B2 := B1.trans (hb2.mono B1.size); have k2 : w2.cell? ⟨w.heap.size, 0, none⟩ = some (.bool g) ∧ w2.cell? ⟨w.heap.size, 1, none⟩ = some (.slice a xs.length c) ∧ w2.cell? ⟨w.heap.size + 1, 0, none⟩ = some (.bool g') ∧ w2.cell? ⟨w.heap.size + 1, 1, none⟩ = some (.slice b ys.length d) := ⟨bat hb2 k1.1, bat hb2 k1.2.1, bat hb2 k1.2.2.1, bat hb2 k1.2.2.2⟩; have qa2 := (fun o => (hb2.cell (p := ⟨w.heap.size + 2, o, none⟩) z1).trans (q3 o)); have qb2 := (fun o => (hb2.frozen (p := ⟨w.heap.size + 2, o, none⟩) z1).trans (q4 o)); have z2 : w.heap.size + 2 < w2.heap.size := (by have := hb2.size; omega); have hJ := hI.eq E.out; obtain ⟨g5, a5, l5, c5, rfl⟩ := hI.shape; clear hb2 q3 q4))
  all_goals
    go_wp2
    exact bodyPost_ret (v := .agg #[.bool g5, .slice a5 l5 c5]) (by simp [results, Tryz.results128, go_sem, qa2]) rfl ⟨_, rfl, hJ.put' (by omega) (by omega), below_put' B2 (by omega) _ _⟩
end Go.Proofs.YthafgldgidmnlaaGreat

/- Fractions compared: impl.Frac's compared, impl.CmpFrac. -/
namespace Go.Proofs.YthafgldgidmnlaaGreat
open Go.RowKit

theorem sg_of_mg (z : Int) : sg (decide (z < 0)) (mg z) = z := by
  unfold sg mg
  by_cases h : z < 0
  · rw [decide_eq_true h, if_pos rfl, if_pos h]; omega
  · rw [decide_eq_false h, if_neg h]; simp
theorem flag_nil {ys : List Int} {z : Int} (hv : val ys = mg z) : ys = [] → decide (z < 0) = false := by
  rintro rfl
  have : mg z = 0 := by rw [← hv]; rfl
  unfold mg at this
  simp
  split at this <;> omega

theorem box8 (w : World) (s t s' t' : Bool) (a b a' b' : Option Addr) (n m n' m' c d c' d' : Nat) (T : TypeId) :
    ((w.alloc (.cells #[.bool s, .slice a n c, .bool t, .slice b m d] T)).alloc (.cells #[.bool s', .slice a' n' c', .bool t', .slice b' m' d'] T)).cell? ⟨w.heap.size, 0, none⟩ = some (.bool s) ∧ ((w.alloc (.cells #[.bool s, .slice a n c, .bool t, .slice b m d] T)).alloc (.cells #[.bool s', .slice a' n' c', .bool t', .slice b' m' d'] T)).cell? ⟨w.heap.size, 1, none⟩ = some (.slice a n c) ∧ ((w.alloc (.cells #[.bool s, .slice a n c, .bool t, .slice b m d] T)).alloc (.cells #[.bool s', .slice a' n' c', .bool t', .slice b' m' d'] T)).cell? ⟨w.heap.size, 2, none⟩ = some (.bool t) ∧ ((w.alloc (.cells #[.bool s, .slice a n c, .bool t, .slice b m d] T)).alloc (.cells #[.bool s', .slice a' n' c', .bool t', .slice b' m' d'] T)).cell? ⟨w.heap.size, 3, none⟩ = some (.slice b m d) ∧ ((w.alloc (.cells #[.bool s, .slice a n c, .bool t, .slice b m d] T)).alloc (.cells #[.bool s', .slice a' n' c', .bool t', .slice b' m' d'] T)).cell? ⟨w.heap.size + 1, 0, none⟩ = some (.bool s') ∧ ((w.alloc (.cells #[.bool s, .slice a n c, .bool t, .slice b m d] T)).alloc (.cells #[.bool s', .slice a' n' c', .bool t', .slice b' m' d'] T)).cell? ⟨w.heap.size + 1, 1, none⟩ = some (.slice a' n' c') ∧ ((w.alloc (.cells #[.bool s, .slice a n c, .bool t, .slice b m d] T)).alloc (.cells #[.bool s', .slice a' n' c', .bool t', .slice b' m' d'] T)).cell? ⟨w.heap.size + 1, 2, none⟩ = some (.bool t') ∧ ((w.alloc (.cells #[.bool s, .slice a n c, .bool t, .slice b m d] T)).alloc (.cells #[.bool s', .slice a' n' c', .bool t', .slice b' m' d'] T)).cell? ⟨w.heap.size + 1, 3, none⟩ = some (.slice b' m' d') := by
  refine ⟨by simp [go_sem], by simp [go_sem], by simp [go_sem], by simp [go_sem], by simp [go_sem], by simp [go_sem], by simp [go_sem], by simp [go_sem]⟩

set_option maxRecDepth 20000 in
set_option maxHeartbeats 4000000 in
theorem fcomparedC (s t s' t' : Bool) (a b a' b' : Option Addr) (c d c' d' : Nat) (ns ds ns' ds' : List Int) (w : World) (h1 : Sees w a c ns) (h2 : Sees w b d ds) (k1 : Sees w a' c' ns') (k2 : Sees w b' d' ds') (l1 : ns.length ≤ 24) (l2 : ds.length ≤ 24) (l3 : ns'.length ≤ 24) (l4 : ds'.length ≤ 24) :
    Calls Tryz.prog 126 #[.agg #[.bool s, .slice a ns.length c, .bool t, .slice b ds.length d], .agg #[.bool s', .slice a' ns'.length c', .bool t', .slice b' ds'.length d']] w fun e w' => e = .returned (.int .i64 (cmpZ (sg s (val ns) * sg t' (val ds')) (sg s' (val ns') * sg t (val ds)))) ∧ Below w.heap.size w w' := by
  obtain ⟨z1, hz1⟩ : ∃ z, Hid (sg (s != t') (val ns * val ds') = z) := ⟨_, rfl⟩
  obtain ⟨z2, hz2⟩ : ∃ z, Hid (sg (s' != t) (val ns' * val ds) = z) := ⟨_, rfl⟩
  have E : Hid (cmpZ (sg s (val ns) * sg t' (val ds')) (sg s' (val ns') * sg t (val ds)) = cmpZ z1 z2) := by show _ = _; rw [← hz1.out, ← hz2.out, sg_mul, sg_mul]
  have B0 := below2 w (.cells #[.bool s, .slice a ns.length c, .bool t, .slice b ds.length d] 39) (.cells #[.bool s', .slice a' ns'.length c', .bool t', .slice b' ds'.length d'] 39)
  have k0 := box8 w s t s' t' a b a' b' ns.length ds.length ns'.length ds'.length c d c' d' 39
  have h1' := h1.below B0
  have h2' := h2.below B0
  have k1' := k1.below B0
  have k2' := k2.below B0
  clear h1 h2 k1 k2
  go_enter Tryz.func126, Tryz.ntmps126
  go_wp2_with fail
  generalize (w.alloc (.cells #[.bool s, .slice a ns.length c, .bool t, .slice b ds.length d] 39)).alloc (.cells #[.bool s', .slice a' ns'.length c', .bool t', .slice b' ds'.length d'] 39) = W at *
  go_region_held3 (fun w' => w'.cell? ⟨w.heap.size, 0, none⟩ = some (.bool s) ∧ w'.cell? ⟨w.heap.size, 1, none⟩ = some (.slice a ns.length c) ∧ w'.cell? ⟨w.heap.size, 2, none⟩ = some (.bool t) ∧ w'.cell? ⟨w.heap.size, 3, none⟩ = some (.slice b ds.length d) ∧ w'.cell? ⟨w.heap.size + 1, 0, none⟩ = some (.bool s') ∧ w'.cell? ⟨w.heap.size + 1, 1, none⟩ = some (.slice a' ns'.length c') ∧ w'.cell? ⟨w.heap.size + 1, 2, none⟩ = some (.bool t') ∧ w'.cell? ⟨w.heap.size + 1, 3, none⟩ = some (.slice b' ds'.length d'))
    (first | exact k0 | exact m1 | exact m2 | exact m3 | (simp [*]))
    (first
    | (go_at_call_of 128 (Value.agg #[Value.bool s, Value.slice a ns.length c]); refine (productC s t' a b' c d' ns ds' _ ?_ ?_ ?_).mono ?_; exact h1'.below (Below.refl _ _).drew; exact k2'.below (Below.refl _ _).drew; omega; rintro e w1 ⟨v, rfl, hI, hb1⟩; have B1 : Below W.heap.size W w1 := (Below.refl _ _).drew.trans hb1; have m1 : w1.cell? ⟨w.heap.size, 0, none⟩ = some (.bool s) ∧ w1.cell? ⟨w.heap.size, 1, none⟩ = some (.slice a ns.length c) ∧ w1.cell? ⟨w.heap.size, 2, none⟩ = some (.bool t) ∧ w1.cell? ⟨w.heap.size, 3, none⟩ = some (.slice b ds.length d) ∧ w1.cell? ⟨w.heap.size + 1, 0, none⟩ = some (.bool s') ∧ w1.cell? ⟨w.heap.size + 1, 1, none⟩ = some (.slice a' ns'.length c') ∧ w1.cell? ⟨w.heap.size + 1, 2, none⟩ = some (.bool t') ∧ w1.cell? ⟨w.heap.size + 1, 3, none⟩ = some (.slice b' ds'.length d') := ⟨bat B1 k0.1, bat B1 k0.2.1, bat B1 k0.2.2.1, bat B1 k0.2.2.2.1, bat B1 k0.2.2.2.2.1, bat B1 k0.2.2.2.2.2.1, bat B1 k0.2.2.2.2.2.2.1, bat B1 k0.2.2.2.2.2.2.2⟩; rw [hz1.out] at hI; obtain ⟨p1, q1, u1, rfl, o1, n1, v1⟩ := hI; clear hb1)
    | (go_at_call_of 128 (Value.agg #[Value.bool s', Value.slice a' ns'.length c']); refine (productC s' t a' b c' d ns' ds _ ?_ ?_ ?_).mono ?_; exact k1'.below B1; exact h2'.below B1; omega; rintro e w2 ⟨v, rfl, hI, hb2⟩; have B2 : Below W.heap.size W w2 := B1.trans (hb2.mono B1.size); have m2 : w2.cell? ⟨w.heap.size, 0, none⟩ = some (.bool s) ∧ w2.cell? ⟨w.heap.size, 1, none⟩ = some (.slice a ns.length c) ∧ w2.cell? ⟨w.heap.size, 2, none⟩ = some (.bool t) ∧ w2.cell? ⟨w.heap.size, 3, none⟩ = some (.slice b ds.length d) ∧ w2.cell? ⟨w.heap.size + 1, 0, none⟩ = some (.bool s') ∧ w2.cell? ⟨w.heap.size + 1, 1, none⟩ = some (.slice a' ns'.length c') ∧ w2.cell? ⟨w.heap.size + 1, 2, none⟩ = some (.bool t') ∧ w2.cell? ⟨w.heap.size + 1, 3, none⟩ = some (.slice b' ds'.length d') := ⟨bat B2 k0.1, bat B2 k0.2.1, bat B2 k0.2.2.1, bat B2 k0.2.2.2.1, bat B2 k0.2.2.2.2.1, bat B2 k0.2.2.2.2.2.1, bat B2 k0.2.2.2.2.2.2.1, bat B2 k0.2.2.2.2.2.2.2⟩; rw [hz2.out] at hI; obtain ⟨p2, q2, u2, rfl, o2, n2, v2⟩ := hI; have o1' := o1.below hb2; clear hb2)
    | (go_at_call 50; refine (comparedC (decide (z1 < 0)) (decide (z2 < 0)) p1 p2 q1 q2 u1 u2 _ o1'.toSees o2.toSees n1 n2 (flag_nil v1) (flag_nil v2)).mono ?_; rintro e w3 ⟨rfl, hb3⟩; have B3 : Below W.heap.size W w3 := B2.trans (hb3.mono B2.size); have m3 : w3.cell? ⟨w.heap.size, 0, none⟩ = some (.bool s) ∧ w3.cell? ⟨w.heap.size, 1, none⟩ = some (.slice a ns.length c) ∧ w3.cell? ⟨w.heap.size, 2, none⟩ = some (.bool t) ∧ w3.cell? ⟨w.heap.size, 3, none⟩ = some (.slice b ds.length d) ∧ w3.cell? ⟨w.heap.size + 1, 0, none⟩ = some (.bool s') ∧ w3.cell? ⟨w.heap.size + 1, 1, none⟩ = some (.slice a' ns'.length c') ∧ w3.cell? ⟨w.heap.size + 1, 2, none⟩ = some (.bool t') ∧ w3.cell? ⟨w.heap.size + 1, 3, none⟩ = some (.slice b' ds'.length d') := ⟨bat B3 k0.1, bat B3 k0.2.1, bat B3 k0.2.2.1, bat B3 k0.2.2.2.1, bat B3 k0.2.2.2.2.1, bat B3 k0.2.2.2.2.2.1, bat B3 k0.2.2.2.2.2.2.1, bat B3 k0.2.2.2.2.2.2.2⟩; rw [v1, v2, sg_of_mg, sg_of_mg]; clear hb3))
  all_goals
    go_wp2
    go_ret
    exact ⟨by rw [E.out]; rfl, B0.trans (B3.mono B0.size)⟩
end Go.Proofs.YthafgldgidmnlaaGreat
