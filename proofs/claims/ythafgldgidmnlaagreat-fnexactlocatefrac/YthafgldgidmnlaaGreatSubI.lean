import Derived.Test.YthafgldgidmnlaaGreatEq
import Derived.Test.YthafgldgidmnlaaGreatCmp
import Derived.WalkSpells
import Derived.Test.YthafgldgidmnlaaGreatMulA
/- The program's differences of limbs: slices.Clone, impl.takeTimes, impl.subMag. -/
namespace Go.Proofs.YthafgldgidmnlaaGreat
open Go.RowKit

set_option maxHeartbeats 1000000 in
theorem takeTimesC (base : Nat) (a b : Option Addr) (c d : Nat) (us ys : List Int) (t : Int) (w : World) (h : Own base w a c us) (k : Sees w b d ys) (hl : ys.length ≤ us.length) (ht : 0 ≤ t ∧ t ≤ 4294967295)
    (hap : ∀ q off, b = some ⟨q, off, none⟩ → ys ≠ [] → rowOf a us ≠ some q) :
    Calls Tryz.prog 140 #[.slice a us.length c, .slice b ys.length d, .int .u64 t] w fun e w' => ∃ zs ow, e = .returned (.bool (decide (0 < ow))) ∧ Own base w' a c zs ∧ zs.length = us.length ∧ Wrote w w' a us.length (rowOf a us) ∧ 0 ≤ ow ∧ val zs - 4294967296 ^ us.length * ow = val us - t * val ys := by
  have hm := h.max
  have hf := h.fits
  have hm2 := k.max
  have hf2 := k.fits
  obtain ⟨t0, t1⟩ := ht
  unfold maxLen at hm hm2
  have HY : Hid (Lim ys) := k.lim
  have HU : Hid (Lim us) := h.lim
  go_enter Tryz.func140, Tryz.ntmps140
  go_wp2
  go_loopw [7, 12] (fun q i wr => ∃ (j : Nat) (ow : Int) (ws : List Int), j ≤ us.length ∧ i = .int .i64 j ∧ q = .int .u64 ow ∧ 0 ≤ ow ∧ ow ≤ 4294967295 ∧ Hid (ws.length = j) ∧ Own base wr a c (ws ++ us.drop j) ∧ Wrote w wr a us.length (rowOf a us) ∧ Hid (val ws - 4294967296 ^ j * ow = val (us.take j) - t * val (ys.take j))) (fun _ i _ => us.length - (intOf i).toNat)
  case atStart => exact ⟨0, 0, [], Nat.zero_le _, rfl, rfl, by decide, by decide, rfl, by simpa using h, Wrote.refl _ _ _ _, by simp [Hid, val]⟩
  case round =>
    obtain ⟨j, ow, ws, hj, rfl, rfl, c0, c1, hw, hown, hg, he⟩ := hrel
    by_cases hlt : j < us.length
    · have hne : us ≠ [] := by intro e; simp [e] at hlt
      obtain ⟨b1, o1, rfl, _⟩ := h.cells hne
      have hlen := row_length hw.out hj
      have hne2 : ws ++ us.drop j ≠ [] := by intro e; rw [e] at hlen; simp at hlen; omega
      obtain ⟨b2, o2, e2, hc⟩ := hown.cells hne2
      simp only [Option.some.injEq, Addr.mk.injEq] at e2
      obtain ⟨rfl, rfl, _⟩ := e2
      have g1 := hc j (by omega)
      rw [row_get hw.out hlt] at g1
      have g2 := (hown.new b1 o1 rfl hne2).2 j (by omega)
      have hx := HU.out.get j
      have hy := HY.out.get j
      have hr := fun x q hxq => sub_round (x := x) (q := q) hw.out he.out hxq
      have hg' := fun u => hg.setCell (j := j) (by simp [rowOf, hne]) hlt u
      have hst := fun v hv => hown.store (j := j) rfl (by omega) (v := v) hv
      simp only [row_step hw.out hlt] at hst
      have hk := k.kept hg.1 hap
      have hwl : ∀ x : Int, Hid ((ws ++ [x]).length = j + 1) := fun x => by show _ = _; simp [hw.out]
      by_cases hy2 : j < ys.length
      · have hne3 : ys ≠ [] := by intro e; simp [e] at hy2
        obtain ⟨b3, o3, rfl, hc3⟩ := hk.cells hne3
        have g3 := hc3 j hy2
        have HR : Hid (∀ x q : Int, x - 4294967296 * q = us[j]?.getD 0 - (ow + t * ys[j]?.getD 0) → val (ws ++ [x]) - 4294967296 ^ (j + 1) * q = val (us.take (j + 1)) - t * val (ys.take (j + 1))) := hr
        have HST := fun v hv => hst v hv
        clear hc hc3 hown hne2 hlen h k hr hk hw he hap hne hne3 hg hst
        generalize us[j]?.getD 0 = x at *
        generalize ys[j]?.getD 0 = y at *
        obtain ⟨y0, y1⟩ := hy
        obtain ⟨x0, x1⟩ := hx
        have p0 : 0 ≤ t * y := Int.mul_nonneg t0 y0
        have p1 : t * y ≤ 18446744065119617025 := Int.le_trans (Int.mul_le_mul t1 (show y ≤ 4294967295 by omega) y0 (by decide)) (by decide)
        by_cases hcmp : x < (ow + t * y) % 4294967296
        · have H1 := HR.out ((x - (ow + t * y)) % 4294967296) ((ow + t * y) / 4294967296 + 1) (by generalize t * y = p at *; omega)
          have H2 := HST ((x - (ow + t * y)) % 4294967296) (by omega)
          have H3 := hg' (.int .u32 ((x - (ow + t * y)) % 4294967296))
          have q1 : (ow + t * y) / 4294967296 + 1 ≤ 4294967295 := by generalize t * y = p at *; omega
          have q0 : 0 ≤ (ow + t * y) / 4294967296 + 1 := by generalize t * y = p at *; omega
          have HH : Hid (val (ws ++ [(x - (ow + t * y)) % 4294967296]) - 4294967296 ^ (j + 1) * ((ow + t * y) / 4294967296 + 1) = val (us.take (j + 1)) - t * val (ys.take (j + 1))) := H1
          clear HR HST H1 hg'
          go_wp2
          go_roundw
          case rel => exact ⟨j + 1, _, _, by omega, by go_num, rfl, q0, q1, hwl _, H2, H3, HH⟩
          case measure => simp [intOf]; omega
        · have H1 := HR.out (x - (ow + t * y) % 4294967296) ((ow + t * y) / 4294967296) (by generalize t * y = p at *; omega)
          have H2 := HST (x - (ow + t * y) % 4294967296) (by omega)
          have H3 := hg' (.int .u32 (x - (ow + t * y) % 4294967296))
          have q1 : (ow + t * y) / 4294967296 ≤ 4294967295 := by generalize t * y = p at *; omega
          have q0 : 0 ≤ (ow + t * y) / 4294967296 := by generalize t * y = p at *; omega
          have HH : Hid (val (ws ++ [x - (ow + t * y) % 4294967296]) - 4294967296 ^ (j + 1) * ((ow + t * y) / 4294967296) = val (us.take (j + 1)) - t * val (ys.take (j + 1))) := H1
          clear HR HST H1 hg'
          go_wp2
          go_roundw
          case rel => exact ⟨j + 1, _, _, by omega, by go_num, rfl, q0, q1, hwl _, H2, H3, HH⟩
          case measure => simp [intOf]; omega
      · have e0 : ys[j]?.getD 0 = 0 := by rw [List.getElem?_eq_none (by omega)]; rfl
        rw [e0] at hr
        simp only [Int.mul_zero, Int.add_zero] at hr
        have HR : Hid (∀ x q : Int, x - 4294967296 * q = us[j]?.getD 0 - ow → val (ws ++ [x]) - 4294967296 ^ (j + 1) * q = val (us.take (j + 1)) - t * val (ys.take (j + 1))) := hr
        have HST := fun v hv => hst v hv
        clear hc hown hne2 hlen h k hr hk hw he hap hne hg hst e0 hy
        generalize us[j]?.getD 0 = x at *
        obtain ⟨x0, x1⟩ := hx
        by_cases hcmp : x < ow
        · have H2 := HST ((x - ow) % 4294967296) (by omega)
          have H3 := hg' (.int .u32 ((x - ow) % 4294967296))
          have HH : Hid (val (ws ++ [(x - ow) % 4294967296]) - 4294967296 ^ (j + 1) * (ow / 4294967296 + 1) = val (us.take (j + 1)) - t * val (ys.take (j + 1))) := HR.out ((x - ow) % 4294967296) (ow / 4294967296 + 1) (by omega)
          clear HR HST hg'
          go_wp2
          go_roundw
          case rel => exact ⟨j + 1, _, _, by omega, by go_num, rfl, by omega, by omega, hwl _, H2, H3, HH⟩
          case measure => simp [intOf]; omega
        · have H2 := HST (x - ow) (by omega)
          have H3 := hg' (.int .u32 (x - ow))
          have HH : Hid (val (ws ++ [x - ow]) - 4294967296 ^ (j + 1) * (ow / 4294967296) = val (us.take (j + 1)) - t * val (ys.take (j + 1))) := HR.out (x - ow) (ow / 4294967296) (by omega)
          clear HR HST hg'
          go_wp2
          go_roundw
          case rel => exact ⟨j + 1, _, _, by omega, by go_num, rfl, by omega, by omega, hwl _, H2, H3, HH⟩
          case measure => simp [intOf]; omega
    · obtain rfl : j = us.length := by omega
      go_wp2
      go_ret
      refine ⟨ws, ow, rfl, by simpa using hown, hw.out, hg, c0, ?_⟩
      have := he.out
      rw [List.take_length, List.take_of_length_le hl] at this
      exact this
set_option maxHeartbeats 1000000 in
theorem cloneC (a : Option Addr) (c : Nat) (xs : List Int) (w : World) (h : Sees w a c xs) (hx : xs.length ≤ 2097152) :
    Calls Tryz.prog 139 #[.slice a xs.length c] w fun e w' => ∃ a' c', e = .returned (.slice a' xs.length c') ∧ Own w.heap.size w' a' c' xs ∧ Below w.heap.size w w' := by
  have he := fun w n => Lib.run_eql_slice_nil (P := Tryz.prog) w 25 81 a n c 0 0 Tryz.underlying25
  rcases h.shape with ⟨rfl, rfl⟩ | ⟨b, off, rfl⟩
  · have e0 : xs = [] := by
      by_cases e : xs = []
      · exact e
      · obtain ⟨b, off, hb, _⟩ := h.cells e
        cases hb
    subst e0
    clear h hx
    go_enter Tryz.func139, Tryz.ntmps139
    go_wp2
    go_ret
    exact ⟨none, 0, rfl, Own.nil _ _, Below.refl _ _⟩
  · by_cases h0 : xs.length = 0
    · have e0 : xs = [] := List.eq_nil_of_length_eq_zero h0
      subst e0
      clear h hx h0
      go_enter Tryz.func139, Tryz.ntmps139
      go_wp2
      go_ret
      exact ⟨_, 0, rfl, Own.empty _ _ _ _, below1 _ _⟩
    · obtain ⟨i0, hi, hz0, hz1, hz2⟩ := info_parts infoU
      have HJ : Hid (xs.length * 4 ≤ 140737488355328) := by show _ ≤ _; omega
      have HM : Hid (xs.length ≤ maxLen) := Nat.le_trans h.fits h.max
      have HL : Lim xs := h.lim
      have HK : ∀ o1, Hid (∀ q u, (xs.map (Value.int .u32))[q]? = some u → (w.alloc o1).cell? ((⟨b, off, none⟩ : Addr).add q) = some u) := fun o1 => by
        have := (h.below (below1 w o1)).toCame.news (j := xs.length) (Nat.le_refl _)
        rwa [List.take_length] at this
      clear h hx
      go_enter Tryz.func139, Tryz.ntmps139
      go_wp2_with (at_builtin; refine wpList_append_own _ rfl (.tmp 5) (.tmp 6) 25 rfl w.heap.size 81 i0 (.int .u32 0) 1 4 Tryz.underlying25 hi hz0 hz1 hz2 rfl (by decide) (.slice (some ⟨w.heap.size, 0, none⟩) 0 0) 0 [] rfl (ownsRow_empty1 _ _) ⟨b, off, none⟩ xs.length _ (xs.map (Value.int .u32)) rfl (by rw [List.length_map, Nat.mul_one]) ((HK _).out) (ones _) (by rw [Nat.zero_add]; exact HM.out) (by rw [Nat.zero_add]; exact HJ.out) (by simp) ?_; intro v' w' hown' hgrow' _; obtain ⟨g, cap', hv, ho⟩ := Own.of_append hown' HL (by omega); rw [hv]; have hB : Below w.heap.size w w' := ((below1 _ _).grown hgrow' (by simp) (by intro k hk; simp [Value.ownBlock] at hk; omega)); clear hown' hgrow' hv)
      go_ret
      exact ⟨_, _, rfl, ho, hB⟩

set_option maxHeartbeats 1000000 in
theorem subMagC (a b : Option Addr) (c d : Nat) (xs ys : List Int) (w : World) (h : Sees w a c xs) (k : Sees w b d ys) (hx : xs.length ≤ 2097152) (hl : ys.length ≤ xs.length) (hv : val ys ≤ val xs) :
    Calls Tryz.prog 137 #[.slice a xs.length c, .slice b ys.length d] w fun e w' => ∃ a' c' zs, e = .returned (.slice a' zs.length c') ∧ Own w.heap.size w' a' c' zs ∧ Nrm zs ∧ val zs = val xs - val ys ∧ zs.length ≤ xs.length ∧ Below w.heap.size w w' := by
  have HV : Hid (val ys ≤ val xs) := hv
  have HX : Hid (xs.length ≤ 2097152) := hx
  clear hv hx
  go_enter Tryz.func137, Tryz.ntmps137
  go_wp2_with fail
  refine (cloneC a c xs _ h HX.out).mono ?_
  rintro e w1 ⟨a1, c1, rfl, ho1, B1⟩
  have k1 := k.below B1
  go_wp2_with fail
  refine (takeTimesC w.heap.size a1 b c1 d xs ys 1 _ ho1 k1 hl (by decide) (by intro q off e1 e2 e3; have := k.lt e1 e2; exact row_ne_low ho1 this e3.symm)).mono ?_
  rintro e w2 ⟨zs, ow, rfl, hoz, hzl, hg, hc0, hv⟩
  have B2 := B1.trans (below_of_grown ho1 hg.1 B1.size)
  have HZ : Hid (zs.length = xs.length) := hzl
  have HW : Hid (val zs - 4294967296 ^ xs.length * ow = val xs - 1 * val ys) := hv
  clear hv hzl hg B1 k1 ho1
  go_wp2_with fail
  have hq := trimmedC w.heap.size _ _ zs w2 hoz
  rw [HZ.out] at hq
  refine hq.mono ?_
  clear hq
  rintro e w3 ⟨rfl, a3, j, rfl, hj, ha, hn, hv⟩
  have HJ : Hid (val (zs.take j) = val zs) := hv
  clear hv
  go_wp2
  go_ret
  have hl2 : (zs.take j).length = j := by rw [List.length_take, HZ.out]; omega
  refine ⟨a3, j, zs.take j, by rw [hl2]; rfl, hoz.cut (by rw [HZ.out]; exact hj) ha, hn, ?_, by rw [hl2]; exact hj, B2⟩
  rw [HJ.out]
  have h1 := HW.out
  have h2 := HV.out
  have h3 := val_lt hoz.lim
  have h4 := val_nonneg hoz.lim
  have h6 := val_nonneg k.lim
  have h7 := val_lt h.lim
  rw [HZ.out] at h3
  rw [Int.one_mul] at h1
  have h5 := p_pos xs.length
  by_cases hc : ow = 0
  · subst hc; simp at h1; omega
  · have : 4294967296 ^ xs.length * 1 ≤ 4294967296 ^ xs.length * ow := Int.mul_le_mul_of_nonneg_left (by omega) (by omega)
    omega
end Go.Proofs.YthafgldgidmnlaaGreat

/- The program's sums of any number of parts: impl.sum. -/
namespace Go.Proofs.YthafgldgidmnlaaGreat
open Go.RowKit

/-- The first k parts' sum. -/
def psum (pg : Nat → Bool) (px : Nat → List Int) : Nat → Int
  | 0 => 0
  | k + 1 => psum pg px k + sg (pg k) (val (px k))

/-- The parts as they lie: k numbers, each of at most L limbs. -/
structure Parts (w : World) (pb k L : Nat) (pg : Nat → Bool) (pa : Nat → Option Addr) (pc : Nat → Nat) (px : Nat → List Int) : Prop where
  at0 : ∀ j, j < k → w.cell? ⟨pb, j * 2, none⟩ = some (.bool (pg j))
  at1 : ∀ j, j < k → w.cell? ⟨pb, j * 2 + 1, none⟩ = some (.slice (pa j) (px j).length (pc j))
  sees : ∀ j, j < k → Sees w (pa j) (pc j) (px j)
  nrm : ∀ j, j < k → Nrm (px j)
  len : ∀ j, j < k → (px j).length ≤ L

theorem Parts.below {w w' : World} {pb k L : Nat} {pg : Nat → Bool} {pa : Nat → Option Addr} {pc : Nat → Nat} {px : Nat → List Int} (h : Parts w pb k L pg pa pc px) (hb : Below w.heap.size w w') : Parts w' pb k L pg pa pc px :=
  ⟨fun j hj => bat hb (h.at0 j hj), fun j hj => bat hb (h.at1 j hj), fun j hj => (h.sees j hj).below hb, h.nrm, h.len⟩

set_option maxHeartbeats 2000000 in
theorem sumC (pb k L : Nat) (pg : Nat → Bool) (pa : Nat → Option Addr) (pc : Nat → Nat) (px : Nat → List Int) (w : World) (h : Parts w pb k L pg pa pc px) (hL : L + k ≤ 1048576) :
    Calls Tryz.prog 133 #[.slice (some ⟨pb, 0, none⟩) k k] w fun e w' => ∃ v, e = .returned v ∧ IsNum w.heap.size w' v (psum pg px k) ∧ Below w.heap.size w w' := by
  have HL : Hid (L + k ≤ 1048576) := hL
  have hk : k ≤ 9223372036854775800 := by omega
  clear hL
  go_enter Tryz.func133, Tryz.ntmps133
  go_wp2
  go_loopw [3, 4, 9] (fun u d i wr => ∃ (j : Nat) (au ad : Option Addr) (cu cd : Nat) (us ds : List Int), j ≤ k ∧ i = .int .i64 j ∧ u = .slice au us.length cu ∧ d = .slice ad ds.length cd ∧
      Own (w.heap.size + 1) wr au cu us ∧ Own (w.heap.size + 1) wr ad cd ds ∧ Nrm us ∧ Nrm ds ∧ Hid (us.length ≤ L + j) ∧ Hid (ds.length ≤ L + j) ∧ Hid (val us - val ds = psum pg px j) ∧ Below (w.heap.size + 1) (w.alloc (.cells #[.bool false, .slice none 0 0] 37)) wr) (fun _ _ i _ => k - (intOf i).toNat)
  case atStart => exact ⟨0, none, none, 0, 0, [], [], Nat.zero_le _, rfl, rfl, rfl, Own.nil _ _, Own.nil _ _, trivial, trivial, Nat.zero_le _, Nat.zero_le _, rfl, Below.refl _ _⟩
  case round =>
    obtain ⟨j, au, ad, cu, cd, us, ds, hj, rfl, rfl, rfl, hu, hd, nu, nd, lu, ld, hv, hB⟩ := hrel
    by_cases hlt : j < k
    · have hw : Below w.heap.size w wr := (below1 _ _).trans (hB.mono (by omega))
      have hp := h.below hw
      have g0 := hp.at0 j hlt
      have g1 := hp.at1 j hlt
      have hlt2 := World.block_lt_of_cell? _ _ g0
      by_cases hg : pg j = true
      · have hlp := h.len j hlt
        go_wp2_with fail
        have b1 := below1 wr (.cells #[.bool true, .slice (pa j) (px j).length (pc j)] 37)
        refine (addMagC ad (pa j) cd (pc j) ds (px j) _ (hd.toSees.below b1) ((hp.sees j hlt).below b1) (Nat.le_trans ld.out (by have := HL.out; omega)) (Nat.le_trans hlp (by have := HL.out; omega))).mono ?_
        rintro e w2 ⟨a', c', zs, rfl, ho, hn, hv2, hlz, hb⟩
        have hbb := b1.trans (hb.mono b1.size)
        have hs1 := hB.size
        simp only [World.size_alloc] at hs1 ho
        replace ho := ho.base_le (show w.heap.size + 1 ≤ wr.heap.size + 1 by omega)
        have hu' : Own (w.heap.size + 1) w2 au cu us := hu.below hbb
        have HU : Hid (us.length ≤ L + (j + 1)) := Nat.le_trans lu.out (by omega)
        have HZ : Hid (zs.length ≤ L + (j + 1)) := by
          have h1 := ld.out
          show _ ≤ _
          rcases hlz with h2 | h2 <;> omega
        have HV : Hid (val us - val zs = psum pg px (j + 1)) := by
          have h1 := hv.out
          show _ = _
          simp only [psum, hg, sg]
          simp
          omega
        have hB' := hB.trans (hbb.mono hs1)
        clear hbb hb b1 hlz hv2 hv lu ld hlp hp g0 g1 hw hu hd hB
        go_wp2
        go_roundw
        case rel => exact ⟨j + 1, au, a', cu, c', us, zs, by omega, by go_num, rfl, rfl, hu', ho, nu, hn, HU, HZ, HV, hB'⟩
        case measure => simp [intOf]; omega
      · have hg : pg j = false := by simpa using hg
        have hlp := h.len j hlt
        go_wp2_with fail
        have b1 := below1 wr (.cells #[.bool false, .slice (pa j) (px j).length (pc j)] 37)
        refine (addMagC au (pa j) cu (pc j) us (px j) _ (hu.toSees.below b1) ((hp.sees j hlt).below b1) (Nat.le_trans lu.out (by have := HL.out; omega)) (Nat.le_trans hlp (by have := HL.out; omega))).mono ?_
        rintro e w2 ⟨a', c', zs, rfl, ho, hn, hv2, hlz, hb⟩
        have hbb := b1.trans (hb.mono b1.size)
        have hs1 := hB.size
        simp only [World.size_alloc] at hs1 ho
        replace ho := ho.base_le (show w.heap.size + 1 ≤ wr.heap.size + 1 by omega)
        have hd' : Own (w.heap.size + 1) w2 ad cd ds := hd.below hbb
        have HD : Hid (ds.length ≤ L + (j + 1)) := Nat.le_trans ld.out (by omega)
        have HZ : Hid (zs.length ≤ L + (j + 1)) := by
          have h1 := lu.out
          show _ ≤ _
          rcases hlz with h2 | h2 <;> omega
        have HV : Hid (val zs - val ds = psum pg px (j + 1)) := by
          have h1 := hv.out
          show _ = _
          simp only [psum, hg, sg]
          simp
          omega
        have hB' := hB.trans (hbb.mono hs1)
        clear hbb hb b1 hlz hv2 hv lu ld hlp hp g0 g1 hw hu hd hB
        go_wp2
        go_roundw
        case rel => exact ⟨j + 1, a', ad, c', cd, zs, ds, by omega, by go_num, rfl, rfl, ho, hd', hn, nd, HZ, HD, HV, hB'⟩
        case measure => simp [intOf]; omega
    · have hjk : k = j := by omega
      subst hjk
      by_cases hc : val us < val ds
      · have E : cmpZ (val us) (val ds) = -1 := by unfold cmpZ; rw [if_pos hc]
        have hll : us.length ≤ ds.length := by
          rcases Nat.lt_or_ge ds.length us.length with h1 | h1
          · exfalso; have := cmp_len hd.lim hu.lim nu h1; omega
          · exact h1
        have HC : Hid (val us < val ds) := hc
        clear hc
        go_wp2_with fail
        refine (cmpMagC au ad cu cd us ds _ hu.toSees hd.toSees nu nd).mono ?_
        rintro e w2 ⟨rfl, n, rfl⟩
        rw [E]
        go_wp2_with fail
        refine (subMagC ad au cd cu ds us _ (hd.toSees.below (below_drewN (Below.refl _ _) n)) (hu.toSees.below (below_drewN (Below.refl _ _) n)) (Nat.le_trans ld.out (by have := HL.out; omega)) hll (by have := HC.out; omega)).mono ?_
        rintro e w3 ⟨a3, c3, zs, rfl, ho, hn, hz, _, hb⟩
        have hZ : Hid (sg true (val zs) = psum pg px k) := by
          have h1 := hv.out
          show _ = _
          simp only [sg]
          simp
          omega
        have hs1 := hB.size
        simp only [World.size_alloc] at hs1
        have hB2 : Below (w.heap.size + 1) (w.alloc (.cells #[.bool false, .slice none 0 0] 37)) w3 := (below_drewN hB n).trans (hb.mono hs1)
        have hs3 := Nat.le_trans hs1 hb.size
        replace ho := ho.base_le (show w.heap.size + 1 ≤ _ from hs1)
        clear hb hB hz hu hd
        go_wp2_with fail
        refine (signedC (w.heap.size + 1) true a3 c3 zs _ ho).mono ?_
        rintro e w4 ⟨v, rfl, hI, hb⟩
        replace hI := hI.eq hZ.out
        obtain ⟨g, a4, l, c4, rfl⟩ := hI.shape
        have hB3 := hB2.trans (hb.mono hs3)
        obtain ⟨q1, q2⟩ := at_block (W := w.alloc (.cells #[.bool false, .slice none 0 0] 37)) (by simpa using hB3) (b := w.heap.size) (by simp)
        have hz : w.heap.size < w4.heap.size := by have := hB3.size; simp at this; omega
        have hF := (below1 w _).trans (hB3.mono (Nat.le_succ _))
        clear hb hB2 hB3 ho
        go_wp2
        exact bodyPost_ret (v := .agg #[.bool g, .slice a4 l c4]) (by simp [results, Tryz.results133, go_sem, q1]) rfl ⟨_, rfl, hI.put (Nat.lt_succ_self _), below_put hF _ _⟩
      · have E : 0 ≤ cmpZ (val us) (val ds) := by unfold cmpZ; rw [if_neg hc]; split <;> decide
        have hll : ds.length ≤ us.length := by
          rcases Nat.lt_or_ge us.length ds.length with h1 | h1
          · exfalso; have := cmp_len hu.lim hd.lim nd h1; omega
          · exact h1
        have HC : Hid (¬ val us < val ds) := hc
        clear hc
        go_wp2_with fail
        refine (cmpMagC au ad cu cd us ds _ hu.toSees hd.toSees nu nd).mono ?_
        rintro e w2 ⟨rfl, n, rfl⟩
        generalize cmpZ (val us) (val ds) = z at E ⊢
        go_wp2_with fail
        refine (subMagC au ad cu cd us ds _ (hu.toSees.below (below_drewN (Below.refl _ _) n)) (hd.toSees.below (below_drewN (Below.refl _ _) n)) (Nat.le_trans lu.out (by have := HL.out; omega)) hll (by have := HC.out; omega)).mono ?_
        rintro e w3 ⟨a3, c3, zs, rfl, ho, hn, hz, _, hb⟩
        have hZ : Hid (sg false (val zs) = psum pg px k) := by
          have h1 := hv.out
          show _ = _
          simp only [sg]
          simp
          omega
        have hs1 := hB.size
        simp only [World.size_alloc] at hs1
        have hB2 : Below (w.heap.size + 1) (w.alloc (.cells #[.bool false, .slice none 0 0] 37)) w3 := (below_drewN hB n).trans (hb.mono hs1)
        have hs3 := Nat.le_trans hs1 hb.size
        replace ho := ho.base_le (show w.heap.size + 1 ≤ _ from hs1)
        clear hb hB hz hu hd
        go_wp2_with fail
        refine (signedC (w.heap.size + 1) false a3 c3 zs _ ho).mono ?_
        rintro e w4 ⟨v, rfl, hI, hb⟩
        replace hI := hI.eq hZ.out
        obtain ⟨g, a4, l, c4, rfl⟩ := hI.shape
        have hB3 := hB2.trans (hb.mono hs3)
        obtain ⟨q1, q2⟩ := at_block (W := w.alloc (.cells #[.bool false, .slice none 0 0] 37)) (by simpa using hB3) (b := w.heap.size) (by simp)
        have hz : w.heap.size < w4.heap.size := by have := hB3.size; simp at this; omega
        have hF := (below1 w _).trans (hB3.mono (Nat.le_succ _))
        clear hb hB2 hB3 ho
        go_wp2
        exact bodyPost_ret (v := .agg #[.bool g, .slice a4 l c4]) (by simp [results, Tryz.results133, go_sem, q1]) rfl ⟨_, rfl, hI.put (Nat.lt_succ_self _), below_put hF _ _⟩
end Go.Proofs.YthafgldgidmnlaaGreat

/- Parts of sums as they lie; a result that is put into its variable. No function of the program is walked here. -/
namespace Go.Proofs.YthafgldgidmnlaaGreat
open Go.RowKit

theorem Parts.one {w : World} {pb c L : Nat} {g : Bool} {a : Option Addr} {xs : List Int} (h0 : w.cell? ⟨pb, 0, none⟩ = some (.bool g)) (h1 : w.cell? ⟨pb, 1, none⟩ = some (.slice a xs.length c)) (hs : Sees w a c xs) (hn : Nrm xs) (hl : xs.length ≤ L) :
    Parts w pb 1 L (fun _ => g) (fun _ => a) (fun _ => c) (fun _ => xs) := by
  refine ⟨fun j hj => ?_, fun j hj => ?_, fun _ _ => hs, fun _ _ => hn, fun _ _ => hl⟩
  · obtain rfl : j = 0 := by omega
    exact h0
  · obtain rfl : j = 0 := by omega
    exact h1
theorem Parts.two {w : World} {pb c c' L : Nat} {g g' : Bool} {a a' : Option Addr} {xs ys : List Int} (h0 : w.cell? ⟨pb, 0, none⟩ = some (.bool g)) (h1 : w.cell? ⟨pb, 1, none⟩ = some (.slice a xs.length c))
    (h2 : w.cell? ⟨pb, 2, none⟩ = some (.bool g')) (h3 : w.cell? ⟨pb, 3, none⟩ = some (.slice a' ys.length c')) (hs : Sees w a c xs) (ks : Sees w a' c' ys) (hn : Nrm xs) (kn : Nrm ys) (hl : xs.length ≤ L) (kl : ys.length ≤ L) :
    Parts w pb 2 L (fun j => if j = 0 then g else g') (fun j => if j = 0 then a else a') (fun j => if j = 0 then c else c') (fun j => if j = 0 then xs else ys) := by
  refine ⟨fun j hj => ?_, fun j hj => ?_, fun j hj => ?_, fun j hj => ?_, fun j hj => ?_⟩
  all_goals
    have : j = 0 ∨ j = 1 := by omega
    rcases this with rfl | rfl
  · exact h0
  · exact h2
  · exact h1
  · exact h3
  · exact hs
  · exact ks
  · exact hn
  · exact kn
  · exact hl
  · exact kl

theorem psum_one (g : Bool) (xs : List Int) : psum (fun _ => g) (fun _ => xs) 1 = sg g (val xs) := by simp [psum]
theorem psum_two (g g' : Bool) (xs ys : List Int) : psum (fun j => if j = 0 then g else g') (fun j => if j = 0 then xs else ys) 2 = sg g (val xs) + sg g' (val ys) := by simp [psum]

theorem neg_flag {g : Bool} {xs : List Int} (h : xs = [] → g = false) : sg (!g && decide (0 < xs.length)) (val xs) = - sg g (val xs) := by
  by_cases e : xs = []
  · subst e; rw [h rfl]; simp [sg, val]
  · have : 0 < xs.length := List.length_pos_iff.2 e
    rw [decide_eq_true this, Bool.and_true]
    cases g <;> simp [sg]
end Go.Proofs.YthafgldgidmnlaaGreat

/- What is negated: impl.negated. -/
namespace Go.Proofs.YthafgldgidmnlaaGreat
open Go.RowKit

theorem negatedC (g : Bool) (a : Option Addr) (c n : Nat) (w : World) (hn : n ≤ 9223372036854775807) :
    Calls Tryz.prog 134 #[.agg #[.bool g, .slice a n c]] w fun e w' => e = .returned (.agg #[.bool (!g && decide (0 < n)), .slice a n c]) ∧ Below w.heap.size w w' := by
  by_cases h0 : 0 < n
  · rw [decide_eq_true h0, Bool.and_true]
    have hp : (0 : Int) < n := by omega
    rcases g with _ | _
    · go_enter Tryz.func134, Tryz.ntmps134
      go_wp2
      exact bodyPost_ret (v := .agg #[.bool (!false), .slice a n c]) (by simp [results, Tryz.results134, go_sem]) rfl ⟨rfl, below2 _ _ _⟩
    · go_enter Tryz.func134, Tryz.ntmps134
      go_wp2
      exact bodyPost_ret (v := .agg #[.bool (!true), .slice a n c]) (by simp [results, Tryz.results134, go_sem]) rfl ⟨rfl, below2 _ _ _⟩
  · obtain rfl : n = 0 := by omega
    rcases g with _ | _
    · go_enter Tryz.func134, Tryz.ntmps134
      go_wp2
      exact bodyPost_ret (v := .agg #[.bool (!false && decide (0 < 0)), .slice a 0 c]) (by simp [results, Tryz.results134, go_sem]) rfl ⟨rfl, below2 _ _ _⟩
    · go_enter Tryz.func134, Tryz.ntmps134
      go_wp2
      exact bodyPost_ret (v := .agg #[.bool (!true && decide (0 < 0)), .slice a 0 c]) (by simp [results, Tryz.results134, go_sem]) rfl ⟨rfl, below2 _ _ _⟩
end Go.Proofs.YthafgldgidmnlaaGreat
