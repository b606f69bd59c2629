import Derived.Test.YtonbmeepfgejmaaGreatDoorBoxP
import Derived.WalkSpells
/- Noughts on top are cut off: impl.trimmed, impl.signed. -/
namespace Go.Proofs.YtonbmeepfgejmaaGreatDoor
open Go.RowKit

set_option maxHeartbeats 400000 in
theorem trimmedC (base : Nat) (a : Option Addr) (c : Nat) (xs : List Int) (w : World) (h : Own base w a c xs) :
    Calls Tryz.prog 83 #[.slice a xs.length c] w fun e w' => w' = w ∧ ∃ a' j, e = .returned (.slice a' j j) ∧ j ≤ xs.length ∧ ((j = 0 ∧ a' = none) ∨ a' = a) ∧ Nrm (xs.take j) ∧ val (xs.take j) = val xs := by
  have hm := h.max
  have hf := h.fits
  unfold maxLen at hm
  go_enter Tryz.func83, Tryz.ntmps83
  go_wp2
  go_loop [3] (fun n => ∃ j : Nat, j ≤ xs.length ∧ n = .int .i64 j ∧ Hid (∀ i, j ≤ i → xs[i]?.getD 0 = 0)) (fun n => (intOf n).toNat)
  case atStart => exact ⟨xs.length, Nat.le_refl _, rfl, fun i hi => by rw [List.getElem?_eq_none hi]; rfl⟩
  case round =>
    obtain ⟨j, hj, rfl, hz⟩ := hrel
    by_cases h0 : j = 0
    · have H : Hid (val (xs.take j) = val xs) := (cut_facts hj hz.out (.inl h0)).2.1
      subst h0
      clear hz
      go_wp2
      go_ret
      exact ⟨rfl, none, 0, rfl, Nat.zero_le _, .inl ⟨rfl, rfl⟩, trivial, H.out⟩
    · have hne : xs ≠ [] := by intro e; simp [e] at hj; omega
      obtain ⟨b, off, rfl, hc⟩ := h.cells hne
      have g1 := hc (j - 1) (by omega)
      have hp : (0 : Int) < j := by omega
      clear hc
      by_cases hx : xs[j - 1]?.getD 0 = 0
      · rw [hx] at g1
        have hz' : Hid (∀ i, j - 1 ≤ i → xs[i]?.getD 0 = 0) := zeros_step hz.out hx
        clear hz hx h
        go_wp2
        go_round
        case rel => exact ⟨j - 1, by omega, by go_num, hz'⟩
        case measure => simp [intOf]; omega
      · have H := cut_facts hj hz.out (.inr hx)
        have hj0 : ((j : Int) == 0) = false := by simpa using h0
        have hx' : (xs[j - 1]?.getD 0 == 0) = false := by simpa using hx
        generalize xs[j - 1]?.getD 0 = x at g1 hx'
        have HH : Hid (Nrm (xs.take j) ∧ val (xs.take j) = val xs ∧ (xs.take j).length = j) := H
        clear hz hx h H
        go_wp2
        go_ret
        exact ⟨rfl, _, j, rfl, hj, .inr rfl, HH.out.1, HH.out.2.1⟩

set_option maxHeartbeats 400000 in
theorem signedC (base : Nat) (neg : Bool) (a : Option Addr) (c : Nat) (xs : List Int) (w : World) (h : Own base w a c xs) :
    Calls Tryz.prog 76 #[.bool neg, .slice a xs.length c] w fun e w' => ∃ v, e = .returned v ∧ IsNum base w' v (sg neg (val xs)) ∧ Below w.heap.size w w' := by
  go_enter Tryz.func76, Tryz.ntmps76
  go_wp2_with fail
  refine (trimmedC base a c xs _ (h.below (below1 _ _))).mono ?_
  rintro e w' ⟨rfl, a', j, rfl, hj, ha, hn, hv⟩
  have hl : (xs.take j).length = j := by simp; omega
  have hm := h.max
  have hf := h.fits
  unfold maxLen at hm
  have key : ∀ o, IsNum base (w.alloc o) (.agg #[.bool (neg && decide (0 < j)), .slice a' j j]) (sg neg (val xs)) := fun o => by
    have := IsNum.mk (neg := neg) (h.below (below1 w o) |>.cut hj ha) hn
    rw [hv, hl] at this
    exact this
  clear h hn hv hl ha
  have K : Hid (∀ o, IsNum base (w.alloc o) (.agg #[.bool (neg && decide (0 < j)), .slice a' j j]) (sg neg (val xs))) := key
  clear key
  cases neg
  · go_wp2
    exact bodyPost_ret (v := .agg #[.bool (false && decide (0 < j)), .slice a' j j]) (by simp [results, Tryz.results76, go_sem]) rfl ⟨_, rfl, K.out _, below1 _ _⟩
  · by_cases h0 : 0 < j
    · have hp : (0 : Int) < j := by omega
      go_wp2
      exact bodyPost_ret (v := .agg #[.bool (true && decide (0 < j)), .slice a' j j]) (by simp [results, Tryz.results76, go_sem, h0]) rfl ⟨_, rfl, K.out _, below1 _ _⟩
    · obtain rfl : j = 0 := by omega
      go_wp2
      exact bodyPost_ret (v := .agg #[.bool (true && decide (0 < 0)), .slice a' 0 0]) (by simp [results, Tryz.results76, go_sem]) rfl ⟨_, rfl, K.out _, below1 _ _⟩

end Go.Proofs.YtonbmeepfgejmaaGreatDoor

/- Numbers of an int: impl.Of, spec.Of. -/
namespace Go.Proofs.YtonbmeepfgejmaaGreatDoor
open Go.RowKit

theorem val2 (x y : Int) : val [x, y] = x + 4294967296 * y := by simp [val]

theorem signed2 (base : Nat) (neg : Bool) (a : Option Addr) (x y : Int) (w : World) (h : Own base w a 2 [x, y]) :
    Calls Tryz.prog 76 #[.bool neg, .slice a 2 2] w fun e w' => ∃ v, e = .returned v ∧ IsNum base w' v (sg neg (x + 4294967296 * y)) ∧ Below w.heap.size w w' := by
  have := signedC base neg a 2 [x, y] w h
  rw [val2] at this
  exact this
theorem wrap_neg {n : Int} (h1 : -9223372036854775808 ≤ n) (h0 : n < 0) : IntKind.u64.wrap (-IntKind.u64.wrap n) = -n := by
  simp only [IntKind.wrap, IntKind.bits, IntKind.signed]
  simp
  omega

theorem sg_two {n : Int} (_h : ¬ n < 0) : sg false (n % 4294967296 + 4294967296 * (n / 4294967296)) = n := by simp only [sg]; simp; omega
theorem sg_two' {n : Int} (_h : n < 0) : sg true (-n % 4294967296 + 4294967296 * (-n / 4294967296)) = n := by simp only [sg]; simp; omega

set_option maxHeartbeats 1000000 in
theorem implOf (n : Int) (w : World) (h1 : -9223372036854775808 ≤ n) (h2 : n ≤ 9223372036854775807) :
    Calls Tryz.prog 66 #[.int .i64 n] w fun e w' => ∃ v, e = .returned v ∧ IsNum w.heap.size w' v n ∧ Below w.heap.size w w' := by
  by_cases h0 : n < 0
  · have hw := wrap_neg h1 h0
    have E : Hid (_ = n) := sg_two' h0
    have ho := fun o => Own.lit2 (w.alloc o) 102 (-n % 4294967296) (-n / 4294967296) (by omega) (by omega)
    simp only [World.size_alloc] at ho
    have HO : Hid (∀ o, Own (w.heap.size + 1) ((w.alloc o).alloc (.cells #[.int .u32 (-n % 4294967296), .int .u32 (-n / 4294967296)] 102)) (some ⟨w.heap.size + 1, 0, none⟩) 2 [-n % 4294967296, -n / 4294967296]) := ho
    clear ho
    go_enter Tryz.func66, Tryz.ntmps66
    go_wp2_with fail
    refine (signed2 (w.heap.size + 1) true _ _ _ _ (HO.out _)).mono ?_
    rintro e w' ⟨v, rfl, hI, hb⟩
    replace hI := hI.eq E.out
    obtain ⟨g, a', l, c', rfl⟩ := hI.shape
    obtain ⟨q1, q2⟩ := at_block hb (b := w.heap.size) (by simp; omega)
    have hz : w.heap.size < w'.heap.size := by have := hb.size; simp at this; omega
    have hB := (below2 _ _ _).trans (hb.mono (by simp; omega))
    clear hb HO
    go_wp2
    exact bodyPost_ret (v := .agg #[.bool g, .slice a' l c']) (by simp [results, Tryz.results66, go_sem, q1]) rfl ⟨_, rfl, hI.put (Nat.lt_succ_self _), below_put hB _ _⟩
  · have E : Hid (_ = n) := sg_two h0
    have ho := fun o => Own.lit2 (w.alloc o) 102 (n % 4294967296) (n / 4294967296) (by omega) (by omega)
    simp only [World.size_alloc] at ho
    have HO : Hid (∀ o, Own (w.heap.size + 1) ((w.alloc o).alloc (.cells #[.int .u32 (n % 4294967296), .int .u32 (n / 4294967296)] 102)) (some ⟨w.heap.size + 1, 0, none⟩) 2 [n % 4294967296, n / 4294967296]) := ho
    clear ho
    go_enter Tryz.func66, Tryz.ntmps66
    go_wp2_with fail
    refine (signed2 (w.heap.size + 1) false _ _ _ _ (HO.out _)).mono ?_
    rintro e w' ⟨v, rfl, hI, hb⟩
    replace hI := hI.eq E.out
    obtain ⟨g, a', l, c', rfl⟩ := hI.shape
    obtain ⟨q1, q2⟩ := at_block hb (b := w.heap.size) (by simp; omega)
    have hz : w.heap.size < w'.heap.size := by have := hb.size; simp at this; omega
    have hB := (below2 _ _ _).trans (hb.mono (by simp; omega))
    clear hb HO
    go_wp2
    exact bodyPost_ret (v := .agg #[.bool g, .slice a' l c']) (by simp [results, Tryz.results66, go_sem, q1]) rfl ⟨_, rfl, hI.put (Nat.lt_succ_self _), below_put hB _ _⟩

end Go.Proofs.YtonbmeepfgejmaaGreatDoor

/- The program's sums of limbs: impl.addInto, impl.addMag. -/
namespace Go.Proofs.YtonbmeepfgejmaaGreatDoor
open Go.RowKit

set_option maxHeartbeats 1000000 in
theorem addIntoC (base : Nat) (a b : Option Addr) (c d : Nat) (us ys : List Int) (w : World) (h : Own base w a c us) (k : Sees w b d ys) (hl : ys.length ≤ us.length)
    (hap : ∀ q off, b = some ⟨q, off, none⟩ → ys ≠ [] → rowOf a us ≠ some q) :
    Calls Tryz.prog 82 #[.slice a us.length c, .slice b ys.length d] w fun e w' => ∃ zs cr, e = .returned (.bool (decide (0 < cr))) ∧ Own base w' a c zs ∧ zs.length = us.length ∧ Wrote w w' a us.length (rowOf a us) ∧ 0 ≤ cr ∧ val zs + 4294967296 ^ us.length * cr = val us + val ys := by
  have hm := h.max
  have hf := h.fits
  have hm2 := k.max
  have hf2 := k.fits
  unfold maxLen at hm hm2
  have HY : Hid (Lim ys) := k.lim
  have HU : Hid (Lim us) := h.lim
  go_enter Tryz.func82, Tryz.ntmps82
  go_wp2
  go_loopw [5, 9] (fun q i wr => ∃ (j : Nat) (cr : Int) (ws : List Int), j ≤ us.length ∧ i = .int .i64 j ∧ q = .int .u64 cr ∧ 0 ≤ cr ∧ cr ≤ 1 ∧ Hid (ws.length = j) ∧ Own base wr a c (ws ++ us.drop j) ∧ Wrote w wr a us.length (rowOf a us) ∧ Hid (val ws + 4294967296 ^ j * cr = val (us.take j) + val (ys.take j))) (fun _ i _ => us.length - (intOf i).toNat)
  case atStart => exact ⟨0, 0, [], Nat.zero_le _, rfl, rfl, by decide, by decide, rfl, by simpa using h, Wrote.refl _ _ _ _, by simp [Hid, val]⟩
  case round =>
    obtain ⟨j, cr, ws, hj, rfl, rfl, c0, c1, hw, hown, hg, he⟩ := hrel
    by_cases hlt : j < us.length
    · have hne : us ≠ [] := by intro e; simp [e] at hlt
      obtain ⟨b1, o1, rfl, _⟩ := h.cells hne
      have hlen := row_length hw.out hj
      have hne2 : ws ++ us.drop j ≠ [] := by intro e; rw [e] at hlen; simp at hlen; omega
      obtain ⟨b2, o2, e2, hc⟩ := hown.cells hne2
      simp only [Option.some.injEq, Addr.mk.injEq] at e2
      obtain ⟨rfl, rfl, _⟩ := e2
      have g1 := hc j (by omega)
      rw [row_get hw.out hlt] at g1
      have g2 := (hown.new b1 o1 rfl hne2).2 j (by omega)
      have hx := HU.out.get j
      have hy := HY.out.get j
      have hr := add_round hw.out he.out
      have hg' := fun u => hg.setCell (j := j) (by simp [rowOf, hne]) hlt u
      have hst := fun v hv => hown.store (j := j) rfl (by omega) (v := v) hv
      simp only [row_step hw.out hlt] at hst
      have hk := k.kept hg.1 hap
      have hwl : Hid ((ws ++ [(cr + us[j]?.getD 0 + ys[j]?.getD 0) % 4294967296]).length = j + 1) := by show _ = _; simp [hw.out]
      by_cases hy2 : j < ys.length
      · have hne3 : ys ≠ [] := by intro e; simp [e] at hy2
        obtain ⟨b3, o3, rfl, hc3⟩ := hk.cells hne3
        have g3 := hc3 j hy2
        have HR : Hid (val (ws ++ [(cr + us[j]?.getD 0 + ys[j]?.getD 0) % 4294967296]) + 4294967296 ^ (j + 1) * ((cr + us[j]?.getD 0 + ys[j]?.getD 0) / 4294967296) = val (us.take (j + 1)) + val (ys.take (j + 1))) := hr
        have HST := hst ((cr + us[j]?.getD 0 + ys[j]?.getD 0) % 4294967296) (by omega)
        have HG := hg' (.int .u32 ((cr + us[j]?.getD 0 + ys[j]?.getD 0) % 4294967296))
        clear hc hc3 hown hne2 hlen h k hst hg' hr hk hw he hap hne hne3 hg
        generalize us[j]?.getD 0 = x at *
        generalize ys[j]?.getD 0 = y at *
        go_wp2
        go_roundw
        case rel => exact ⟨j + 1, (cr + x + y) / 4294967296, _, by omega, by go_num, rfl, by omega, by omega, hwl, HST, HG, HR⟩
        case measure => simp [intOf]; omega
      · have e0 : ys[j]?.getD 0 = 0 := by rw [List.getElem?_eq_none (by omega)]; rfl
        rw [e0] at hr hwl
        simp only [Int.add_zero] at hr hwl
        have HR : Hid (val (ws ++ [(cr + us[j]?.getD 0) % 4294967296]) + 4294967296 ^ (j + 1) * ((cr + us[j]?.getD 0) / 4294967296) = val (us.take (j + 1)) + val (ys.take (j + 1))) := hr
        have HST := hst ((cr + us[j]?.getD 0) % 4294967296) (by omega)
        have HG := hg' (.int .u32 ((cr + us[j]?.getD 0) % 4294967296))
        clear hc hown hne2 hlen h k hst hg' hr hk hw he hap hne hg e0 hy
        generalize us[j]?.getD 0 = x at *
        go_wp2
        go_roundw
        case rel => exact ⟨j + 1, (cr + x) / 4294967296, _, by omega, by go_num, rfl, by omega, by omega, hwl, HST, HG, HR⟩
        case measure => simp [intOf]; omega
    · obtain rfl : j = us.length := by omega
      go_wp2
      go_ret
      refine ⟨ws, cr, rfl, by simpa using hown, hw.out, hg, c0, ?_⟩
      have := he.out
      rw [List.take_length, List.take_of_length_le hl] at this
      exact this
theorem sizeU : (Tryz.prog.info? 102).map (·.size) = some 1 := by kernel_rfl

/-- What is behind the making and the copy: xs, and a nought on top. -/
theorem laid_copy {w : World} {g : Nat} {e : TypeId} {base : Nat} {xs : List Int} (h : w.heap[g]? = some (.cells (splice (List.replicate (xs.length + 1) (Value.int .u32 0)) 0 (xs.map (Value.int .u32))).toArray e (0, 0)))
    (hl : Lim xs) (hm : xs.length + 1 ≤ maxLen) (hb : base ≤ g) : Own base w (some ⟨g, 0, none⟩) (xs.length + 1) (xs ++ [0]) := by
  rw [splice_front xs _ (by omega), show xs.length + 1 - xs.length = 1 by omega] at h
  have := Own.of_heap (base := base) h (hl.append (Lim.zeros 1)) (by simpa using hm) hb
  simpa using this

theorem made_list (n : Nat) : (madeCells (Value.cells (.int .u32 0)) (n * 1)).toList = List.replicate n (Value.int .u32 0) := by
  rw [Nat.mul_one]; exact toList_madeCells_one _ _
theorem Came.all {w : World} {a : Option Addr} {c : Nat} {xs : List Int} (h : Came w a c xs) (hp : 0 < (xs.map (Value.int .u32)).length) :
    ∃ ad, a = some ad ∧ ∀ j v, (xs.map (Value.int .u32))[j]? = some v → w.cell? (ad.add j) = some v := by
  have hne : xs ≠ [] := by intro e; simp [e] at hp
  obtain ⟨b, off, rfl, hc⟩ := h.cells hne
  refine ⟨_, rfl, ?_⟩
  have := h.news (j := xs.length) (Nat.le_refl _)
  rwa [List.take_length] at this

/-- One limb more holds the sum: nothing is carried out of it. -/
theorem sum_exact {xs ys zs : List Int} {cr r : Int} (hx : Lim xs) (hy : Lim ys) (hv : val zs + 4294967296 ^ (xs.length + 1) * cr = val (xs ++ [0]) + val ys) (hz : Lim zs)
    (h0 : 0 ≤ cr) (hxy : ys.length ≤ xs.length) (hr : val xs + val ys = r) : val zs = r := by
  rw [val_snoc, Int.mul_zero, Int.add_zero] at hv
  have h1 := val_lt hx
  have h2 := val_lt hy
  have h3 := p_mono ys.length (xs.length - ys.length)
  rw [show ys.length + (xs.length - ys.length) = xs.length by omega] at h3
  have h4 := val_nonneg hz
  have h5 := p_pos xs.length
  rw [Int.pow_succ] at hv
  by_cases hc : cr = 0
  · subst hc; simp at hv; omega
  · have : 4294967296 ^ xs.length * 4294967296 * 1 ≤ 4294967296 ^ xs.length * 4294967296 * cr := Int.mul_le_mul_of_nonneg_left (by omega) (by omega)
    omega

set_option maxHeartbeats 1000000 in
theorem addMagC (a b : Option Addr) (c d : Nat) (xs ys : List Int) (w : World) (h : Sees w a c xs) (k : Sees w b d ys) (hx : xs.length ≤ 1048576) (hy : ys.length ≤ 1048576) :
    Calls Tryz.prog 74 #[.slice a xs.length c, .slice b ys.length d] w fun e w' => ∃ a' c' zs, e = .returned (.slice a' zs.length c') ∧ Own w.heap.size w' a' c' zs ∧ Nrm zs ∧ val zs = val xs + val ys ∧ (zs.length ≤ xs.length + 1 ∨ zs.length ≤ ys.length + 1) ∧ Below w.heap.size w w' := by
  obtain ⟨i0, hi, hz0, hz1, hz2⟩ := info_parts infoU
  have HX : Hid (xs.length ≤ 1048576) := hx
  have HY : Hid (ys.length ≤ 1048576) := hy
  have mx : xs.length ≤ 9223372036854775800 := by omega
  have my : ys.length ≤ 9223372036854775800 := by omega
  clear hx hy
  by_cases hlt : xs.length < ys.length
  · have hlen : (ys ++ [0]).length = ys.length + 1 := by simp
    have HLEN : Hid ((ys ++ [0]).length = ys.length + 1) := hlen
    clear hlen
    go_enter Tryz.func74, Tryz.ntmps74
    go_wp2_with (first
      | (at_make; refine wpList_make_full _ rfl _ _ 92 rfl w.heap.size 102 i0 (.int .u32 0) 1 Tryz.underlying92 hi hz0 hz1 .i64 .i64 _ _ (ys.length + 1) rfl rfl ?m1 ?m2 ?m3 ?m4 (Nat.le_refl _) ?_; (case m1 => omega); (case m2 => omega); (case m3 => rw [hz2]; have := HY.out; omega); (case m4 => have := HY.out; unfold maxLen; omega); intro w0 hown0 hgrow0; rw [made_list] at hown0; have HH : Hid (w0.heap[w.heap.size]? = some (.cells (List.replicate (ys.length + 1) (Value.int .u32 0)).toArray 102 (0, 0))) := heap_of_made hown0; have B0 : Below w.heap.size w w0 := ((Below.refl _ _).grown hgrow0 (Nat.le_refl _) (fun k h => by cases h)); clear hown0 hgrow0)
      | (refine wpList_copy_splice rfl (.tmp 17) (.tmp 18) 92 92 rfl 102 Tryz.underlying92 sizeU _ _ _ _ _ _ rfl rfl w.heap.size 0 _ 102 HH.out (ys.map (Value.int .u32)) ?n1 (fun hp => ⟨rfl, (k.below B0).toCame.all hp⟩) ?n2 (ones _) w.heap.size w B0 (Nat.le_refl _) ?_; (case n1 => rw [List.length_map]; exact (Nat.min_eq_left (Nat.le_succ _)).symm); (case n2 => simp); intro w1 hh1 B1; clear HH B0))
    have ho1 := laid_copy (base := w.heap.size) hh1.out k.lim (by have := HY.out; unfold maxLen; omega) (Nat.le_refl _)
    clear hh1
    have hq := addIntoC w.heap.size _ a _ c _ xs w1 ho1 (h.below B1) (by rw [HLEN.out]; omega) (by intro q off e1 e2 e3; have := h.lt e1 e2; exact row_ne_low ho1 this e3.symm)
    rw [HLEN.out] at hq
    refine hq.mono ?_
    clear hq
    rintro e w2 ⟨zs, cr, rfl, hoz, hzl, hg, hc0, hv⟩
    have B2 := B1.trans (below_of_grown ho1 hg.1 B1.size)
    clear hg ho1
    have HZ : Hid (zs.length = ys.length + 1) := hzl
    have HV : Hid (val zs + 4294967296 ^ (ys.length + 1) * cr = val (ys ++ [0]) + val xs) := hv
    clear hv hzl
    go_wp2_with fail
    have hq := trimmedC w.heap.size _ _ zs w2 hoz
    rw [HZ.out] at hq
    refine hq.mono ?_
    clear hq
    rintro e w3 ⟨rfl, a3, j, rfl, hj, ha, hn, hv⟩
    have HJ : Hid (val (zs.take j) = val zs) := hv
    clear hv
    go_wp2
    go_ret
    have hl2 : (zs.take j).length = j := by rw [List.length_take, HZ.out]; omega
    refine ⟨a3, j, zs.take j, by rw [hl2]; rfl, hoz.cut (by rw [HZ.out]; exact hj) ha, hn, ?_, by rw [hl2]; exact .inr hj, B2⟩
    rw [HJ.out]
    exact sum_exact k.lim h.lim HV.out hoz.lim hc0 (by omega) (Int.add_comm _ _)
  · have hlen : (xs ++ [0]).length = xs.length + 1 := by simp
    have HLEN : Hid ((xs ++ [0]).length = xs.length + 1) := hlen
    clear hlen
    go_enter Tryz.func74, Tryz.ntmps74
    go_wp2_with (first
      | (at_make; refine wpList_make_full _ rfl _ _ 92 rfl w.heap.size 102 i0 (.int .u32 0) 1 Tryz.underlying92 hi hz0 hz1 .i64 .i64 _ _ (xs.length + 1) rfl rfl ?m1 ?m2 ?m3 ?m4 (Nat.le_refl _) ?_; (case m1 => omega); (case m2 => omega); (case m3 => rw [hz2]; have := HX.out; omega); (case m4 => have := HX.out; unfold maxLen; omega); intro w0 hown0 hgrow0; rw [made_list] at hown0; have HH : Hid (w0.heap[w.heap.size]? = some (.cells (List.replicate (xs.length + 1) (Value.int .u32 0)).toArray 102 (0, 0))) := heap_of_made hown0; have B0 : Below w.heap.size w w0 := ((Below.refl _ _).grown hgrow0 (Nat.le_refl _) (fun k h => by cases h)); clear hown0 hgrow0)
      | (refine wpList_copy_splice rfl (.tmp 17) (.tmp 18) 92 92 rfl 102 Tryz.underlying92 sizeU _ _ _ _ _ _ rfl rfl w.heap.size 0 _ 102 HH.out (xs.map (Value.int .u32)) ?n1 (fun hp => ⟨rfl, (h.below B0).toCame.all hp⟩) ?n2 (ones _) w.heap.size w B0 (Nat.le_refl _) ?_; (case n1 => rw [List.length_map]; exact (Nat.min_eq_left (Nat.le_succ _)).symm); (case n2 => simp); intro w1 hh1 B1; clear HH B0))
    have ho1 := laid_copy (base := w.heap.size) hh1.out h.lim (by have := HX.out; unfold maxLen; omega) (Nat.le_refl _)
    clear hh1
    have hq := addIntoC w.heap.size _ b _ d _ ys w1 ho1 (k.below B1) (by rw [HLEN.out]; omega) (by intro q off e1 e2 e3; have := k.lt e1 e2; exact row_ne_low ho1 this e3.symm)
    rw [HLEN.out] at hq
    refine hq.mono ?_
    clear hq
    rintro e w2 ⟨zs, cr, rfl, hoz, hzl, hg, hc0, hv⟩
    have B2 := B1.trans (below_of_grown ho1 hg.1 B1.size)
    clear hg ho1
    have HZ : Hid (zs.length = xs.length + 1) := hzl
    have HV : Hid (val zs + 4294967296 ^ (xs.length + 1) * cr = val (xs ++ [0]) + val ys) := hv
    clear hv hzl
    go_wp2_with fail
    have hq := trimmedC w.heap.size _ _ zs w2 hoz
    rw [HZ.out] at hq
    refine hq.mono ?_
    clear hq
    rintro e w3 ⟨rfl, a3, j, rfl, hj, ha, hn, hv⟩
    have HJ : Hid (val (zs.take j) = val zs) := hv
    clear hv
    go_wp2
    go_ret
    have hl2 : (zs.take j).length = j := by rw [List.length_take, HZ.out]; omega
    refine ⟨a3, j, zs.take j, by rw [hl2]; rfl, hoz.cut (by rw [HZ.out]; exact hj) ha, hn, ?_, by rw [hl2]; exact .inl hj, B2⟩
    rw [HJ.out]
    exact sum_exact h.lim k.lim HV.out hoz.lim hc0 (by omega) rfl
end Go.Proofs.YtonbmeepfgejmaaGreatDoor

/- The program's differences of limbs: slices.Clone, impl.takeTimes, impl.subMag. -/
namespace Go.Proofs.YtonbmeepfgejmaaGreatDoor
open Go.RowKit

set_option maxHeartbeats 1000000 in
theorem takeTimesC (base : Nat) (a b : Option Addr) (c d : Nat) (us ys : List Int) (t : Int) (w : World) (h : Own base w a c us) (k : Sees w b d ys) (hl : ys.length ≤ us.length) (ht : 0 ≤ t ∧ t ≤ 4294967295)
    (hap : ∀ q off, b = some ⟨q, off, none⟩ → ys ≠ [] → rowOf a us ≠ some q) :
    Calls Tryz.prog 85 #[.slice a us.length c, .slice b ys.length d, .int .u64 t] w fun e w' => ∃ zs ow, e = .returned (.bool (decide (0 < ow))) ∧ Own base w' a c zs ∧ zs.length = us.length ∧ Wrote w w' a us.length (rowOf a us) ∧ 0 ≤ ow ∧ val zs - 4294967296 ^ us.length * ow = val us - t * val ys := by
  have hm := h.max
  have hf := h.fits
  have hm2 := k.max
  have hf2 := k.fits
  obtain ⟨t0, t1⟩ := ht
  unfold maxLen at hm hm2
  have HY : Hid (Lim ys) := k.lim
  have HU : Hid (Lim us) := h.lim
  go_enter Tryz.func85, Tryz.ntmps85
  go_wp2
  go_loopw [7, 12] (fun q i wr => ∃ (j : Nat) (ow : Int) (ws : List Int), j ≤ us.length ∧ i = .int .i64 j ∧ q = .int .u64 ow ∧ 0 ≤ ow ∧ ow ≤ 4294967295 ∧ Hid (ws.length = j) ∧ Own base wr a c (ws ++ us.drop j) ∧ Wrote w wr a us.length (rowOf a us) ∧ Hid (val ws - 4294967296 ^ j * ow = val (us.take j) - t * val (ys.take j))) (fun _ i _ => us.length - (intOf i).toNat)
  case atStart => exact ⟨0, 0, [], Nat.zero_le _, rfl, rfl, by decide, by decide, rfl, by simpa using h, Wrote.refl _ _ _ _, by simp [Hid, val]⟩
  case round =>
    obtain ⟨j, ow, ws, hj, rfl, rfl, c0, c1, hw, hown, hg, he⟩ := hrel
    by_cases hlt : j < us.length
    · have hne : us ≠ [] := by intro e; simp [e] at hlt
      obtain ⟨b1, o1, rfl, _⟩ := h.cells hne
      have hlen := row_length hw.out hj
      have hne2 : ws ++ us.drop j ≠ [] := by intro e; rw [e] at hlen; simp at hlen; omega
      obtain ⟨b2, o2, e2, hc⟩ := hown.cells hne2
      simp only [Option.some.injEq, Addr.mk.injEq] at e2
      obtain ⟨rfl, rfl, _⟩ := e2
      have g1 := hc j (by omega)
      rw [row_get hw.out hlt] at g1
      have g2 := (hown.new b1 o1 rfl hne2).2 j (by omega)
      have hx := HU.out.get j
      have hy := HY.out.get j
      have hr := fun x q hxq => sub_round (x := x) (q := q) hw.out he.out hxq
      have hg' := fun u => hg.setCell (j := j) (by simp [rowOf, hne]) hlt u
      have hst := fun v hv => hown.store (j := j) rfl (by omega) (v := v) hv
      simp only [row_step hw.out hlt] at hst
      have hk := k.kept hg.1 hap
      have hwl : ∀ x : Int, Hid ((ws ++ [x]).length = j + 1) := fun x => by show _ = _; simp [hw.out]
      by_cases hy2 : j < ys.length
      · have hne3 : ys ≠ [] := by intro e; simp [e] at hy2
        obtain ⟨b3, o3, rfl, hc3⟩ := hk.cells hne3
        have g3 := hc3 j hy2
        have HR : Hid (∀ x q : Int, x - 4294967296 * q = us[j]?.getD 0 - (ow + t * ys[j]?.getD 0) → val (ws ++ [x]) - 4294967296 ^ (j + 1) * q = val (us.take (j + 1)) - t * val (ys.take (j + 1))) := hr
        have HST := fun v hv => hst v hv
        clear hc hc3 hown hne2 hlen h k hr hk hw he hap hne hne3 hg hst
        generalize us[j]?.getD 0 = x at *
        generalize ys[j]?.getD 0 = y at *
        obtain ⟨y0, y1⟩ := hy
        obtain ⟨x0, x1⟩ := hx
        have p0 : 0 ≤ t * y := Int.mul_nonneg t0 y0
        have p1 : t * y ≤ 18446744065119617025 := Int.le_trans (Int.mul_le_mul t1 (show y ≤ 4294967295 by omega) y0 (by decide)) (by decide)
        by_cases hcmp : x < (ow + t * y) % 4294967296
        · have H1 := HR.out ((x - (ow + t * y)) % 4294967296) ((ow + t * y) / 4294967296 + 1) (by generalize t * y = p at *; omega)
          have H2 := HST ((x - (ow + t * y)) % 4294967296) (by omega)
          have H3 := hg' (.int .u32 ((x - (ow + t * y)) % 4294967296))
          have q1 : (ow + t * y) / 4294967296 + 1 ≤ 4294967295 := by generalize t * y = p at *; omega
          have q0 : 0 ≤ (ow + t * y) / 4294967296 + 1 := by generalize t * y = p at *; omega
          have HH : Hid (val (ws ++ [(x - (ow + t * y)) % 4294967296]) - 4294967296 ^ (j + 1) * ((ow + t * y) / 4294967296 + 1) = val (us.take (j + 1)) - t * val (ys.take (j + 1))) := H1
          clear HR HST H1 hg'
          go_wp2
          go_roundw
          case rel => exact ⟨j + 1, _, _, by omega, by go_num, rfl, q0, q1, hwl _, H2, H3, HH⟩
          case measure => simp [intOf]; omega
        · have H1 := HR.out (x - (ow + t * y) % 4294967296) ((ow + t * y) / 4294967296) (by generalize t * y = p at *; omega)
          have H2 := HST (x - (ow + t * y) % 4294967296) (by omega)
          have H3 := hg' (.int .u32 (x - (ow + t * y) % 4294967296))
          have q1 : (ow + t * y) / 4294967296 ≤ 4294967295 := by generalize t * y = p at *; omega
          have q0 : 0 ≤ (ow + t * y) / 4294967296 := by generalize t * y = p at *; omega
          have HH : Hid (val (ws ++ [x - (ow + t * y) % 4294967296]) - 4294967296 ^ (j + 1) * ((ow + t * y) / 4294967296) = val (us.take (j + 1)) - t * val (ys.take (j + 1))) := H1
          clear HR HST H1 hg'
          go_wp2
          go_roundw
          case rel => exact ⟨j + 1, _, _, by omega, by go_num, rfl, q0, q1, hwl _, H2, H3, HH⟩
          case measure => simp [intOf]; omega
      · have e0 : ys[j]?.getD 0 = 0 := by rw [List.getElem?_eq_none (by omega)]; rfl
        rw [e0] at hr
        simp only [Int.mul_zero, Int.add_zero] at hr
        have HR : Hid (∀ x q : Int, x - 4294967296 * q = us[j]?.getD 0 - ow → val (ws ++ [x]) - 4294967296 ^ (j + 1) * q = val (us.take (j + 1)) - t * val (ys.take (j + 1))) := hr
        have HST := fun v hv => hst v hv
        clear hc hown hne2 hlen h k hr hk hw he hap hne hg hst e0 hy
        generalize us[j]?.getD 0 = x at *
        obtain ⟨x0, x1⟩ := hx
        by_cases hcmp : x < ow
        · have H2 := HST ((x - ow) % 4294967296) (by omega)
          have H3 := hg' (.int .u32 ((x - ow) % 4294967296))
          have HH : Hid (val (ws ++ [(x - ow) % 4294967296]) - 4294967296 ^ (j + 1) * (ow / 4294967296 + 1) = val (us.take (j + 1)) - t * val (ys.take (j + 1))) := HR.out ((x - ow) % 4294967296) (ow / 4294967296 + 1) (by omega)
          clear HR HST hg'
          go_wp2
          go_roundw
          case rel => exact ⟨j + 1, _, _, by omega, by go_num, rfl, by omega, by omega, hwl _, H2, H3, HH⟩
          case measure => simp [intOf]; omega
        · have H2 := HST (x - ow) (by omega)
          have H3 := hg' (.int .u32 (x - ow))
          have HH : Hid (val (ws ++ [x - ow]) - 4294967296 ^ (j + 1) * (ow / 4294967296) = val (us.take (j + 1)) - t * val (ys.take (j + 1))) := HR.out (x - ow) (ow / 4294967296) (by omega)
          clear HR HST hg'
          go_wp2
          go_roundw
          case rel => exact ⟨j + 1, _, _, by omega, by go_num, rfl, by omega, by omega, hwl _, H2, H3, HH⟩
          case measure => simp [intOf]; omega
    · obtain rfl : j = us.length := by omega
      go_wp2
      go_ret
      refine ⟨ws, ow, rfl, by simpa using hown, hw.out, hg, c0, ?_⟩
      have := he.out
      rw [List.take_length, List.take_of_length_le hl] at this
      exact this
set_option maxHeartbeats 1000000 in
theorem cloneC (a : Option Addr) (c : Nat) (xs : List Int) (w : World) (h : Sees w a c xs) (hx : xs.length ≤ 2097152) :
    Calls Tryz.prog 84 #[.slice a xs.length c] w fun e w' => ∃ a' c', e = .returned (.slice a' xs.length c') ∧ Own w.heap.size w' a' c' xs ∧ Below w.heap.size w w' := by
  have he := fun w n => Lib.run_eql_slice_nil (P := Tryz.prog) w 92 102 a n c 0 0 Tryz.underlying92
  rcases h.shape with ⟨rfl, rfl⟩ | ⟨b, off, rfl⟩
  · have e0 : xs = [] := by
      by_cases e : xs = []
      · exact e
      · obtain ⟨b, off, hb, _⟩ := h.cells e
        cases hb
    subst e0
    clear h hx
    go_enter Tryz.func84, Tryz.ntmps84
    go_wp2
    go_ret
    exact ⟨none, 0, rfl, Own.nil _ _, Below.refl _ _⟩
  · by_cases h0 : xs.length = 0
    · have e0 : xs = [] := List.eq_nil_of_length_eq_zero h0
      subst e0
      clear h hx h0
      go_enter Tryz.func84, Tryz.ntmps84
      go_wp2
      go_ret
      exact ⟨_, 0, rfl, Own.empty _ _ _ _, below1 _ _⟩
    · obtain ⟨i0, hi, hz0, hz1, hz2⟩ := info_parts infoU
      have HJ : Hid (xs.length * 4 ≤ 140737488355328) := by show _ ≤ _; omega
      have HM : Hid (xs.length ≤ maxLen) := Nat.le_trans h.fits h.max
      have HL : Lim xs := h.lim
      have HK : ∀ o1, Hid (∀ q u, (xs.map (Value.int .u32))[q]? = some u → (w.alloc o1).cell? ((⟨b, off, none⟩ : Addr).add q) = some u) := fun o1 => by
        have := (h.below (below1 w o1)).toCame.news (j := xs.length) (Nat.le_refl _)
        rwa [List.take_length] at this
      clear h hx
      go_enter Tryz.func84, Tryz.ntmps84
      go_wp2_with (at_builtin; refine wpList_append_own _ rfl (.tmp 5) (.tmp 6) 92 rfl w.heap.size 102 i0 (.int .u32 0) 1 4 Tryz.underlying92 hi hz0 hz1 hz2 rfl (by decide) (.slice (some ⟨w.heap.size, 0, none⟩) 0 0) 0 [] rfl (ownsRow_empty1 _ _) ⟨b, off, none⟩ xs.length _ (xs.map (Value.int .u32)) rfl (by rw [List.length_map, Nat.mul_one]) ((HK _).out) (ones _) (by rw [Nat.zero_add]; exact HM.out) (by rw [Nat.zero_add]; exact HJ.out) (by simp) ?_; intro v' w' hown' hgrow' _; obtain ⟨g, cap', hv, ho⟩ := Own.of_append hown' HL (by omega); rw [hv]; have hB : Below w.heap.size w w' := ((below1 _ _).grown hgrow' (by simp) (by intro k hk; simp [Value.ownBlock] at hk; omega)); clear hown' hgrow' hv)
      go_ret
      exact ⟨_, _, rfl, ho, hB⟩

set_option maxHeartbeats 1000000 in
theorem subMagC (a b : Option Addr) (c d : Nat) (xs ys : List Int) (w : World) (h : Sees w a c xs) (k : Sees w b d ys) (hx : xs.length ≤ 2097152) (hl : ys.length ≤ xs.length) (hv : val ys ≤ val xs) :
    Calls Tryz.prog 77 #[.slice a xs.length c, .slice b ys.length d] w fun e w' => ∃ a' c' zs, e = .returned (.slice a' zs.length c') ∧ Own w.heap.size w' a' c' zs ∧ Nrm zs ∧ val zs = val xs - val ys ∧ zs.length ≤ xs.length ∧ Below w.heap.size w w' := by
  have HV : Hid (val ys ≤ val xs) := hv
  have HX : Hid (xs.length ≤ 2097152) := hx
  clear hv hx
  go_enter Tryz.func77, Tryz.ntmps77
  go_wp2_with fail
  refine (cloneC a c xs _ h HX.out).mono ?_
  rintro e w1 ⟨a1, c1, rfl, ho1, B1⟩
  have k1 := k.below B1
  go_wp2_with fail
  refine (takeTimesC w.heap.size a1 b c1 d xs ys 1 _ ho1 k1 hl (by decide) (by intro q off e1 e2 e3; have := k.lt e1 e2; exact row_ne_low ho1 this e3.symm)).mono ?_
  rintro e w2 ⟨zs, ow, rfl, hoz, hzl, hg, hc0, hv⟩
  have B2 := B1.trans (below_of_grown ho1 hg.1 B1.size)
  have HZ : Hid (zs.length = xs.length) := hzl
  have HW : Hid (val zs - 4294967296 ^ xs.length * ow = val xs - 1 * val ys) := hv
  clear hv hzl hg B1 k1 ho1
  go_wp2_with fail
  have hq := trimmedC w.heap.size _ _ zs w2 hoz
  rw [HZ.out] at hq
  refine hq.mono ?_
  clear hq
  rintro e w3 ⟨rfl, a3, j, rfl, hj, ha, hn, hv⟩
  have HJ : Hid (val (zs.take j) = val zs) := hv
  clear hv
  go_wp2
  go_ret
  have hl2 : (zs.take j).length = j := by rw [List.length_take, HZ.out]; omega
  refine ⟨a3, j, zs.take j, by rw [hl2]; rfl, hoz.cut (by rw [HZ.out]; exact hj) ha, hn, ?_, by rw [hl2]; exact hj, B2⟩
  rw [HJ.out]
  have h1 := HW.out
  have h2 := HV.out
  have h3 := val_lt hoz.lim
  have h4 := val_nonneg hoz.lim
  have h6 := val_nonneg k.lim
  have h7 := val_lt h.lim
  rw [HZ.out] at h3
  rw [Int.one_mul] at h1
  have h5 := p_pos xs.length
  by_cases hc : ow = 0
  · subst hc; simp at h1; omega
  · have : 4294967296 ^ xs.length * 1 ≤ 4294967296 ^ xs.length * ow := Int.mul_le_mul_of_nonneg_left (by omega) (by omega)
    omega
end Go.Proofs.YtonbmeepfgejmaaGreatDoor
