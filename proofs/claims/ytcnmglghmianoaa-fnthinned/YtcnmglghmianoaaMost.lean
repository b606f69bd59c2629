import Derived.Test.YtcnmglghmianoaaAddI
import Derived.Test.YtcnmglghmianoaaBase
import Derived.Test.YtcnmglghmianoaaEq
import Derived.Lib.BitFns
/- One limb of a quotient: impl.takeMost. -/
namespace Go.Proofs.Ytcnmglghmianoaa
open Go.RowKit

/-- The guess from the highest limbs is not too small. -/
theorem guess_ge {us vs : List Int} {n : Nat} (hu : Lim us) (hv : Lim vs) (hl : us.length = n + 2) (hl2 : vs.length = n + 1) (hp : 0 < vs[n]?.getD 0) :
    val us / val vs ≤ (us[n + 1]?.getD 0 * 4294967296 + us[n]?.getD 0) / (vs[n]?.getD 0) ∧ 0 < val vs := by
  have eu : val us = val (us.take n) + 4294967296 ^ n * (us[n + 1]?.getD 0 * 4294967296 + us[n]?.getD 0) := by
    have h1 := val_take_succ us (n + 1)
    have h2 := val_take_succ us n
    rw [List.take_of_length_le (by omega), h2, Int.pow_succ] at h1
    rw [h1, Int.mul_add, Int.mul_comm (us[n + 1]?.getD 0), ← Int.mul_assoc]
    omega
  have ev : val vs = val (vs.take n) + 4294967296 ^ n * (vs[n]?.getD 0) := by
    have h2 := val_take_succ vs n
    rw [List.take_of_length_le (by omega)] at h2
    exact h2
  have hq := p_pos n
  have b1 := val_lt (hu.take n)
  rw [List.length_take, Nat.min_eq_left (by omega)] at b1
  have b2 := val_nonneg (hv.take n)
  have b3 := val_nonneg hu
  generalize us[n + 1]?.getD 0 * 4294967296 + us[n]?.getD 0 = T at *
  generalize vs[n]?.getD 0 = t at *
  have hpt : 4294967296 ^ n * 1 ≤ 4294967296 ^ n * t := Int.mul_le_mul_of_nonneg_left (by omega) (by omega)
  have hV : 0 < val vs := by omega
  refine ⟨?_, hV⟩
  rw [Int.le_ediv_iff_mul_le hp]
  have d1 : val vs * (val us / val vs) ≤ val us := by
    have e1 := Int.mul_ediv_add_emod (val us) (val vs)
    have e2 := Int.emod_nonneg (val us) (show val vs ≠ 0 by omega)
    omega
  have q0 : 0 ≤ val us / val vs := Int.ediv_nonneg b3 (by omega)
  generalize val us / val vs = Q at *
  have d2 : (4294967296 ^ n * t) * Q ≤ val vs * Q := Int.mul_le_mul_of_nonneg_right (by omega) q0
  have d3 : 4294967296 ^ n * (Q * t) < 4294967296 ^ n * (T + 1) := by
    rw [Int.mul_add, Int.mul_one, Int.mul_comm Q t, ← Int.mul_assoc]
    omega
  have := Int.lt_of_mul_lt_mul_left d3 (by omega)
  omega

/-- What holds while too much is taken: t times v are taken from u, in limbs that may have wrapped round once. -/
def Took (U V M t o Z : Int) : Prop := Z - M * o = U - t * V ∧ U / V ≤ t ∧ t ≤ 4294967295 ∧ 0 ≤ t ∧ (o = 0 ∨ o = 1)
theorem Took.start {U V M t o Z : Int} (h : Z - M * o = U - t * V) (hq : U / V ≤ t) (ht : 0 ≤ t) (ht2 : t ≤ 4294967295) (hZ : 0 ≤ Z ∧ Z < M) (hU : 0 ≤ U ∧ U < M) (hV : 0 < V ∧ V * 4294967296 ≤ M) (ho : 0 ≤ o) : Took U V M t o Z := by
  refine ⟨h, hq, ht2, ht, ?_⟩
  have h1 : t * V ≤ 4294967295 * V := Int.mul_le_mul_of_nonneg_right ht2 (by omega)
  have h2 : 0 ≤ t * V := Int.mul_nonneg ht (by omega)
  by_cases h3 : o ≤ 1
  · omega
  · have : M * 2 ≤ M * o := Int.mul_le_mul_of_nonneg_left (by omega) (by omega)
    omega
theorem Took.next {U V M t Z Z' cr : Int} (h : Took U V M t 1 Z) (hc : Z' + M * cr = Z + V) (h0 : 0 ≤ cr) (hZ : 0 ≤ Z ∧ Z < M) (hZ' : 0 ≤ Z' ∧ Z' < M) (hU : 0 ≤ U) (hV : 0 < V ∧ V * 4294967296 ≤ M) :
    Took U V M (t - 1) (1 - cr) Z' ∧ 1 ≤ t ∧ (cr = 0 ∨ cr = 1) := by
  obtain ⟨h1, h2, h3, h4, _⟩ := h
  have hcr : cr = 0 ∨ cr = 1 := by
    by_cases h5 : cr ≤ 1
    · omega
    · have : M * 2 ≤ M * cr := Int.mul_le_mul_of_nonneg_left (by omega) (by omega)
      omega
  have hq : U / V < t := by
    refine Int.ediv_lt_of_lt_mul hV.1 ?_
    omega
  have q0 : 0 ≤ U / V := Int.ediv_nonneg hU (by omega)
  refine ⟨⟨?_, by omega, by omega, by omega, by omega⟩, by omega, hcr⟩
  rw [Int.sub_mul, Int.one_mul, Int.mul_sub, Int.mul_one]
  omega
theorem Took.pos {U V M t Z : Int} (h : Took U V M t 1 Z) (hU : 0 ≤ U) (hV : 0 < V) (hZ : Z < M) : 1 ≤ t := by
  obtain ⟨h1, h2, _, h4, _⟩ := h
  have q0 : 0 ≤ U / V := Int.ediv_nonneg hU (by omega)
  by_cases h0 : t = 0
  · subst h0; simp at h1; omega
  · omega
theorem Took.done {U V M t Z : Int} (h : Took U V M t 0 Z) (hZ : 0 ≤ Z) (hV : 0 < V) : t = U / V ∧ Z = U % V := by
  obtain ⟨h1, h2, h3, h4, _⟩ := h
  have e : t = U / V := by
    have : t ≤ U / V := by
      rw [Int.le_ediv_iff_mul_le hV]
      simp at h1
      omega
    omega
  refine ⟨e, ?_⟩
  have := Int.mul_ediv_add_emod U V
  rw [← e, Int.mul_comm] at this
  simp at h1
  omega

theorem top_or {x y : Int} (hx : 0 ≤ x ∧ x < 4294967296) (hy : 0 ≤ y ∧ y < 4294967296) : bits BinOp.or IntKind.u64 (x * 4294967296) y = x * 4294967296 + y := by
  rw [u64_or _ y (by omega) (by omega) hy.1 (by omega), nat_join 32 _ _ (by omega) (by omega)]
  omega

set_option maxHeartbeats 2000000 in
theorem takeMostC (base : Nat) (a b : Option Addr) (c d : Nat) (us vs : List Int) (n : Nat) (w : World) (ho : Own base w a c us) (kv : Sees w b d vs) (hl : us.length = n + 2) (hl2 : vs.length = n + 1) (hp : 0 < vs[n]?.getD 0)
    (hap : ∀ q off, b = some ⟨q, off, none⟩ → vs ≠ [] → rowOf a us ≠ some q) (hlt : val us < 4294967296 * val vs) :
    Calls Try.prog 80 #[.slice a (n + 2 : Nat) c, .slice b (n + 1 : Nat) d] w fun e w' => ∃ zs, e = .returned (.int .u32 (val us / val vs)) ∧ Own base w' a c zs ∧ zs.length = n + 2 ∧ val zs = val us % val vs ∧ Wrote w w' a us.length (rowOf a us) := by
  have hm := ho.max
  have hf := ho.fits
  have hm2 := kv.max
  have hf2 := kv.fits
  unfold maxLen at hm hm2
  obtain ⟨G1, V0⟩ := guess_ge ho.lim kv.lim hl hl2 hp
  have hne : us ≠ [] := by intro e; simp [e] at hl
  have hne2 : vs ≠ [] := by intro e; simp [e] at hl2
  obtain ⟨b1, o1, ea, hc1⟩ := ho.cells hne
  obtain ⟨b2, o2, eb, hc2⟩ := kv.cells hne2
  have g1 := hc1 (n + 1) (by omega)
  have g2 := hc1 n (by omega)
  have g3 := hc2 n (by omega)
  have hx1 := ho.lim.get (n + 1)
  have hx2 := ho.lim.get n
  have hx3 := kv.lim.get n
  have hor := top_or hx1 hx2
  have HV : Hid (0 < val vs) := V0
  have HL : Hid (us.length = n + 2) := hl
  have HL2 : Hid (vs.length = n + 1) := hl2
  have HM : Hid (0 < val vs ∧ val vs * 4294967296 ≤ 4294967296 ^ (n + 2)) := by
    refine ⟨V0, ?_⟩
    have e := val_lt kv.lim
    rw [hl2] at e
    rw [show n + 2 = (n + 1) + 1 by omega, Int.pow_succ]
    omega
  have TK : Hid (∀ t : Int, (t = (us[n + 1]?.getD 0 * 4294967296 + us[n]?.getD 0) / (vs[n]?.getD 0) ∧ t ≤ 4294967295) ∨ t = 4294967295 → val us / val vs ≤ t ∧ 0 ≤ t ∧ t ≤ 4294967295) := by
    intro t ht
    have q1 : val us / val vs < 4294967296 := Int.ediv_lt_of_lt_mul V0 hlt
    have q0 : 0 ≤ val us / val vs := Int.ediv_nonneg (val_nonneg ho.lim) (by omega)
    rcases ht with ⟨rfl, h2⟩ | rfl
    · exact ⟨G1, by omega, h2⟩
    · exact ⟨by omega, by omega, by omega⟩
  clear hc1 hc2 G1 V0 hl hl2 hlt
  rw [HL.out] at hf
  rw [HL2.out] at hf2
  subst ea eb
  generalize us[n + 1]?.getD 0 = x1 at *
  generalize us[n]?.getD 0 = x2 at *
  generalize vs[n]?.getD 0 = x3 at *
  obtain ⟨x10, x11⟩ := hx1
  obtain ⟨x20, x21⟩ := hx2
  obtain ⟨x30, x31⟩ := hx3
  go_enter Try.func80, Try.ntmps80
  go_wp2
  go_quiet (fail)
  go_wp2_with fail
  · have TT := TK.out (4294967295) (.inr rfl)
    obtain ⟨t0, t1, t2⟩ := TT
    have hq := takeTimesC base (some ⟨b1, o1, none⟩) (some ⟨b2, o2, none⟩) c d us vs (4294967295) (w.drewN nq) (ho.below (below_drewN (Below.refl _ _) nq)) (kv.below (below_drewN (Below.refl _ _) nq)) (by rw [HL.out, HL2.out]; omega) ⟨t1, t2⟩ hap
    rw [HL.out, HL2.out] at hq
    refine hq.mono ?_
    clear hq
    rintro e w2 ⟨zs, ow, rfl, hoz, hzl, hg, hc0, hv⟩
    have T0 : Hid (Took (val us) (val vs) (4294967296 ^ (n + 2)) (4294967295) ow (val zs)) := by
      have e1 := val_lt hoz.lim
      rw [hzl] at e1
      have e2 := val_lt ho.lim
      rw [HL.out] at e2
      exact Took.start hv t0 t1 t2 ⟨val_nonneg hoz.lim, e1⟩ ⟨val_nonneg ho.lim, e2⟩ HM.out hc0
    have HZ0 : Hid (zs.length = n + 2) := hzl
    have W0 : Wrote w w2 (some ⟨b1, o1, none⟩) us.length (rowOf (some ⟨b1, o1, none⟩) us) := by rw [HL.out]; exact ((Wrote.refl w _ _ _).drewN nq).trans hg
    clear hzl hv hg t0
    go_wp2
    go_loopw [7, 8] (fun t bl wr => ∃ (tt o : Int) (zs' : List Int), t = .int .u64 tt ∧ bl = .bool (decide (0 < o)) ∧ Hid (Took (val us) (val vs) (4294967296 ^ (n + 2)) tt o (val zs')) ∧ 0 ≤ tt ∧ tt ≤ 4294967295 ∧ Hid (zs'.length = n + 2) ∧ Own base wr (some ⟨b1, o1, none⟩) c zs' ∧ Wrote w wr (some ⟨b1, o1, none⟩) us.length (rowOf (some ⟨b1, o1, none⟩) us)) (fun t _ _ => (intOf t).toNat)
    case atStart => exact ⟨_, ow, zs, rfl, rfl, T0, t1, t2, HZ0, hoz, W0⟩
    case round =>
      obtain ⟨tt, o, zs', rfl, rfl, hT, tt0, tt1, hzl, hown, hW⟩ := hrel
      clear T0 HZ0 W0 hoz
      rcases hT.out.2.2.2.2 with rfl | rfl
      · obtain ⟨E1, E2⟩ := hT.out.done (val_nonneg hown.lim) HV.out
        have HE : Hid (val zs' = val us % val vs) := E2
        clear hT E2
        have hd : decide ((0 : Int) < 0) = false := by decide
        rw [hd]
        go_wp2
        go_ret
        exact ⟨zs', by rw [← E1]; rfl, hown, hzl.out, HE.out, hW⟩
      · have hd : decide ((0 : Int) < 1) = true := by decide
        rw [hd]
        have tp : 1 ≤ tt := hT.out.pos (val_nonneg ho.lim) HV.out (by have := val_lt hown.lim; rw [hzl.out] at this; exact this)
        go_wp2_with fail
        have hne' : zs' ≠ [] := by intro e; have := hzl.out; rw [e] at this; simp at this
        have er : rowOf (some (⟨b1, o1, none⟩ : Addr)) zs' = rowOf (some ⟨b1, o1, none⟩) us := by unfold rowOf; rw [if_neg hne', if_neg hne]
        have hq := addIntoC base (some ⟨b1, o1, none⟩) (some ⟨b2, o2, none⟩) c d zs' vs _ hown (kv.kept hW.1 hap) (by rw [hzl.out, HL2.out]; omega) (by rw [er]; exact hap)
        rw [hzl.out, HL2.out, er] at hq
        refine hq.mono ?_
        clear hq
        rintro e w3 ⟨zs3, cr, rfl, hoz3, hzl3, hg3, hc3, hv3⟩
        have e1 := val_lt hoz3.lim
        have e2 := val_lt hown.lim
        rw [hzl3] at e1
        rw [hzl.out] at e2
        obtain ⟨N1, N2, N3⟩ := hT.out.next hv3 hc3 ⟨val_nonneg hown.lim, e2⟩ ⟨val_nonneg hoz3.lim, e1⟩ (val_nonneg ho.lim) HM.out
        have NT : Hid (Took (val us) (val vs) (4294967296 ^ (n + 2)) (tt - 1) (1 - cr) (val zs3)) := N1
        have NL : Hid (zs3.length = n + 2) := hzl3
        have NW : Wrote w w3 (some ⟨b1, o1, none⟩) us.length (rowOf (some ⟨b1, o1, none⟩) us) := hW.trans (by rw [HL.out]; exact hg3)
        have hb : Hid ((!decide (0 < cr)) = decide (0 < 1 - cr)) := by show _ = _; rcases N3 with rfl | rfl <;> decide
        clear hv3 e1 e2 N1 hzl3 hg3 hW hown hT er hne' N3
        go_wp2
        go_roundw
        case rel => exact ⟨tt - 1, 1 - cr, zs3, by go_num, by rw [hb.out], NT, by omega, by omega, NL, hoz3, NW⟩
        case measure => simp [intOf]; omega
  · have TT := TK.out ((x1 * 4294967296 + x2) / x3) (.inl ⟨rfl, h⟩)
    obtain ⟨t0, t1, t2⟩ := TT
    have hq := takeTimesC base (some ⟨b1, o1, none⟩) (some ⟨b2, o2, none⟩) c d us vs ((x1 * 4294967296 + x2) / x3) (w.drewN nq) (ho.below (below_drewN (Below.refl _ _) nq)) (kv.below (below_drewN (Below.refl _ _) nq)) (by rw [HL.out, HL2.out]; omega) ⟨t1, t2⟩ hap
    rw [HL.out, HL2.out] at hq
    refine hq.mono ?_
    clear hq
    rintro e w2 ⟨zs, ow, rfl, hoz, hzl, hg, hc0, hv⟩
    have T0 : Hid (Took (val us) (val vs) (4294967296 ^ (n + 2)) ((x1 * 4294967296 + x2) / x3) ow (val zs)) := by
      have e1 := val_lt hoz.lim
      rw [hzl] at e1
      have e2 := val_lt ho.lim
      rw [HL.out] at e2
      exact Took.start hv t0 t1 t2 ⟨val_nonneg hoz.lim, e1⟩ ⟨val_nonneg ho.lim, e2⟩ HM.out hc0
    have HZ0 : Hid (zs.length = n + 2) := hzl
    have W0 : Wrote w w2 (some ⟨b1, o1, none⟩) us.length (rowOf (some ⟨b1, o1, none⟩) us) := by rw [HL.out]; exact ((Wrote.refl w _ _ _).drewN nq).trans hg
    clear hzl hv hg t0
    go_wp2
    go_loopw [7, 8] (fun t bl wr => ∃ (tt o : Int) (zs' : List Int), t = .int .u64 tt ∧ bl = .bool (decide (0 < o)) ∧ Hid (Took (val us) (val vs) (4294967296 ^ (n + 2)) tt o (val zs')) ∧ 0 ≤ tt ∧ tt ≤ 4294967295 ∧ Hid (zs'.length = n + 2) ∧ Own base wr (some ⟨b1, o1, none⟩) c zs' ∧ Wrote w wr (some ⟨b1, o1, none⟩) us.length (rowOf (some ⟨b1, o1, none⟩) us)) (fun t _ _ => (intOf t).toNat)
    case atStart => exact ⟨_, ow, zs, rfl, rfl, T0, t1, t2, HZ0, hoz, W0⟩
    case round =>
      obtain ⟨tt, o, zs', rfl, rfl, hT, tt0, tt1, hzl, hown, hW⟩ := hrel
      clear T0 HZ0 W0 hoz
      rcases hT.out.2.2.2.2 with rfl | rfl
      · obtain ⟨E1, E2⟩ := hT.out.done (val_nonneg hown.lim) HV.out
        have HE : Hid (val zs' = val us % val vs) := E2
        clear hT E2
        have hd : decide ((0 : Int) < 0) = false := by decide
        rw [hd]
        go_wp2
        go_ret
        exact ⟨zs', by rw [← E1]; rfl, hown, hzl.out, HE.out, hW⟩
      · have hd : decide ((0 : Int) < 1) = true := by decide
        rw [hd]
        have tp : 1 ≤ tt := hT.out.pos (val_nonneg ho.lim) HV.out (by have := val_lt hown.lim; rw [hzl.out] at this; exact this)
        go_wp2_with fail
        have hne' : zs' ≠ [] := by intro e; have := hzl.out; rw [e] at this; simp at this
        have er : rowOf (some (⟨b1, o1, none⟩ : Addr)) zs' = rowOf (some ⟨b1, o1, none⟩) us := by unfold rowOf; rw [if_neg hne', if_neg hne]
        have hq := addIntoC base (some ⟨b1, o1, none⟩) (some ⟨b2, o2, none⟩) c d zs' vs _ hown (kv.kept hW.1 hap) (by rw [hzl.out, HL2.out]; omega) (by rw [er]; exact hap)
        rw [hzl.out, HL2.out, er] at hq
        refine hq.mono ?_
        clear hq
        rintro e w3 ⟨zs3, cr, rfl, hoz3, hzl3, hg3, hc3, hv3⟩
        have e1 := val_lt hoz3.lim
        have e2 := val_lt hown.lim
        rw [hzl3] at e1
        rw [hzl.out] at e2
        obtain ⟨N1, N2, N3⟩ := hT.out.next hv3 hc3 ⟨val_nonneg hown.lim, e2⟩ ⟨val_nonneg hoz3.lim, e1⟩ (val_nonneg ho.lim) HM.out
        have NT : Hid (Took (val us) (val vs) (4294967296 ^ (n + 2)) (tt - 1) (1 - cr) (val zs3)) := N1
        have NL : Hid (zs3.length = n + 2) := hzl3
        have NW : Wrote w w3 (some ⟨b1, o1, none⟩) us.length (rowOf (some ⟨b1, o1, none⟩) us) := hW.trans (by rw [HL.out]; exact hg3)
        have hb : Hid ((!decide (0 < cr)) = decide (0 < 1 - cr)) := by show _ = _; rcases N3 with rfl | rfl <;> decide
        clear hv3 e1 e2 N1 hzl3 hg3 hW hown hT er hne' N3
        go_wp2
        go_roundw
        case rel => exact ⟨tt - 1, 1 - cr, zs3, by go_num, by rw [hb.out], NT, by omega, by omega, NL, hoz3, NW⟩
        case measure => simp [intOf]; omega
end Go.Proofs.Ytcnmglghmianoaa

/- Limbs shifted up and down by less than a limb's bits: impl.shiftedUp, impl.shiftedDown. -/
namespace Go.Proofs.Ytcnmglghmianoaa
open Go.RowKit

theorem p2_le {s : Nat} (hs : s ≤ 31) : (2 : Int) ^ s ≤ 2147483648 := by
  have e : (2147483648 : Int) = 2 ^ s * 2 ^ (31 - s) := by
    rw [← Int.pow_add, show s + (31 - s) = 31 by omega]; decide
  have h1 := p2_pos s
  have h2 := p2_pos (31 - s)
  rw [e]
  have : (2 : Int) ^ s * 1 ≤ 2 ^ s * 2 ^ (31 - s) := Int.mul_le_mul_of_nonneg_left (by omega) (by omega)
  omega
/-- What is carried into a limb that was shifted. -/
theorem or_shl {x cr : Int} {s : Nat} (hx : 0 ≤ x ∧ x < 4294967296) (hc : 0 ≤ cr ∧ cr < 2 ^ s) (hs : s ≤ 31) :
    x * 2 ^ s % 18446744073709551616 = x * 2 ^ s ∧ bits BinOp.or IntKind.u64 cr (x * 2 ^ s) = cr + x * 2 ^ s ∧ 0 ≤ (cr + x * 2 ^ s) / 4294967296 ∧ (cr + x * 2 ^ s) / 4294967296 < 2 ^ s ∧ 0 ≤ cr + x * 2 ^ s ∧ cr + x * 2 ^ s < 18446744073709551616 := by
  have hp := p2_pos s
  have hq := p2_le hs
  have h0 : 0 ≤ x * 2 ^ s := Int.mul_nonneg hx.1 (by omega)
  have h1 : x * 2 ^ s ≤ 4294967295 * 2 ^ s := Int.mul_le_mul_of_nonneg_right (by omega) (by omega)
  have hor : bits BinOp.or IntKind.u64 cr (x * 2 ^ s) = cr + x * 2 ^ s := by
    rw [u64_or cr (x * 2 ^ s) hc.1 (by omega) h0 (by omega)]
    obtain ⟨n, rfl⟩ := Int.eq_ofNat_of_zero_le hx.1
    obtain ⟨m, rfl⟩ := Int.eq_ofNat_of_zero_le hc.1
    have e2 : ((n : Int) * 2 ^ s).toNat = n * 2 ^ s := by
      have : ((n : Int) * 2 ^ s) = ((n * 2 ^ s : Nat) : Int) := by simp
      rw [this]; exact Int.toNat_natCast _
    have hm : m < 2 ^ s := by
      have h := hc.2
      have : ((2 : Int) ^ s) = ((2 ^ s : Nat) : Int) := by simp
      rw [this] at h
      exact Int.ofNat_lt.1 h
    rw [e2, Int.toNat_natCast, Nat.or_comm, nat_join s _ _ (Nat.mul_mod_left _ _) hm]
    simp
    omega
  refine ⟨Int.emod_eq_of_lt h0 (by omega), hor, by omega, ?_, by omega, by omega⟩
  generalize x * 2 ^ s = p at *
  omega

theorem shift_round {ws xs : List Int} {j : Nat} {cr f t : Int} (hw : ws.length = j) (h : val ws + 4294967296 ^ j * cr = val (xs.take j) * f) (ht : t = cr + xs[j]?.getD 0 * f) :
    val (ws ++ [t % 4294967296]) + 4294967296 ^ (j + 1) * (t / 4294967296) = val (xs.take (j + 1)) * f := by
  rw [val_snoc, hw, val_take_succ, Int.pow_succ]
  have e := digit_step (4294967296 ^ j) t
  rw [ht, Int.mul_add] at e
  rw [← ht] at e
  rw [Int.add_mul, Int.mul_assoc (4294967296 ^ j) (xs[j]?.getD 0) f]
  omega

set_option maxHeartbeats 1000000 in
theorem shiftedUpC (a : Option Addr) (c : Nat) (xs : List Int) (s : Nat) (w : World) (h : Sees w a c xs) (hs : s ≤ 31) (hx : xs.length ≤ 1048576) :
    Calls Try.prog 79 #[.slice a xs.length c, .int .i64 s] w fun e w' => ∃ zs, e = .returned (.slice (some ⟨w.heap.size, 0, none⟩) (xs.length + 1) (xs.length + 1)) ∧ Own w.heap.size w' (some ⟨w.heap.size, 0, none⟩) (xs.length + 1) zs ∧ zs.length = xs.length + 1 ∧ val zs = val xs * 2 ^ s ∧ Below w.heap.size w w' := by
  obtain ⟨i0, hi, hz0, hz1, hz2⟩ := info_parts infoU
  have HX : Hid (xs.length ≤ 1048576) := hx
  have mx : xs.length ≤ 4611686018427387900 := by omega
  clear hx
  go_enter Try.func79, Try.ntmps79
  go_wp2_with (at_make; refine wpList_make_full _ rfl _ _ 33 rfl w.heap.size 74 i0 (.int .u32 0) 1 Try.underlying33 hi hz0 hz1 .i64 .i64 _ _ (xs.length + 1) rfl rfl ?m1 ?m2 ?b2 ?b3 (Nat.le_refl _) ?_; (case m1 => omega); (case m2 => omega); (case b2 => rw [hz2]; have := HX.out; omega); (case b3 => have := HX.out; unfold maxLen; omega); intro w0 hown0 hgrow0; rw [made_list] at hown0; have ho := (Own.of_row (xs := List.replicate (xs.length + 1) 0) (by rw [List.map_replicate]; exact hown0) (Lim.zeros _)).1; have hb0 : Below w.heap.size w w0 := ((Below.refl _ _).grown hgrow0 (Nat.le_refl _) (fun k h => by cases h)); clear hown0 hgrow0)
  have LX : Hid (Lim xs) := h.lim
  have HL : Hid ((List.replicate (xs.length + 1) (0 : Int)).length = xs.length + 1) := by show _ = _; simp
  generalize List.replicate (xs.length + 1) (0 : Int) = us at *
  have P0 : (0 : Int) < 2 ^ s := p2_pos s
  have P1 : (2 : Int) ^ s ≤ 2147483648 := p2_le hs
  clear hi hz0 hz1 hz2
  go_loopw [6, 15] (fun q i wr => ∃ (j : Nat) (cr : Int) (ws : List Int), j ≤ xs.length ∧ i = .int .i64 j ∧ q = .int .u64 cr ∧ 0 ≤ cr ∧ cr < 2 ^ s ∧ Hid (ws.length = j) ∧ Own w.heap.size wr (some ⟨w.heap.size, 0, none⟩) (xs.length + 1) (ws ++ us.drop j) ∧ Hid (val ws + 4294967296 ^ j * cr = val (xs.take j) * 2 ^ s) ∧ Below w.heap.size w wr) (fun _ i _ => xs.length - (intOf i).toNat)
  case atStart => exact ⟨0, 0, [], Nat.zero_le _, rfl, rfl, by decide, P0, rfl, by simpa using ho, by simp [Hid, val], hb0⟩
  case round =>
    obtain ⟨j, cr, ws, hj, rfl, rfl, c0, c1, hw, hown, he, hB⟩ := hrel
    clear ho hb0
    have hne : ws ++ us.drop j ≠ [] := by intro e; have := row_length hw.out (show j ≤ us.length by rw [HL.out]; omega); rw [e, HL.out] at this; simp at this
    obtain ⟨b2, o2, e2, hc⟩ := hown.cells hne
    simp only [Option.some.injEq, Addr.mk.injEq] at e2
    obtain ⟨rfl, rfl, _⟩ := e2
    have hlen := row_length hw.out (show j ≤ us.length by rw [HL.out]; omega)
    rw [HL.out] at hlen
    have g1 := hc j (by omega)
    have g2 := (hown.new _ _ rfl hne).2 j (by omega)
    have hst := fun v hv => hown.store (j := j) rfl (by omega) (v := v) hv
    have hbs := fun u => hB.setCell (p := ⟨w.heap.size, j, none⟩) (Nat.le_refl _) u
    simp only [row_step hw.out (show j < us.length by rw [HL.out]; omega)] at hst
    simp only [Nat.zero_add] at g1 g2 hst
    clear hlen hc hne
    generalize (ws ++ us.drop j)[j]?.getD 0 = z at *
    by_cases hlt : j < xs.length
    · obtain ⟨b1, o1, rfl, hc1⟩ := (h.below hB).cells (by intro e; simp [e] at hlt)
      have g3 := hc1 j hlt
      have hxb := LX.out.get j
      obtain ⟨o1', o2', o3', o4', o5', o6'⟩ := or_shl hxb ⟨c0, c1⟩ hs
      have HR : Hid _ := shift_round hw.out he.out (t := cr + xs[j]?.getD 0 * 2 ^ s) rfl
      have HW : Hid ((ws ++ [(cr + xs[j]?.getD 0 * 2 ^ s) % 4294967296]).length = j + 1) := by show _ = _; simp [hw.out]
      have O1 := hst ((cr + xs[j]?.getD 0 * 2 ^ s) % 4294967296) (by omega)
      have B1 := hbs (.int .u32 ((cr + xs[j]?.getD 0 * 2 ^ s) % 4294967296))
      clear hc1 hw he hown hB hst hbs h
      generalize xs[j]?.getD 0 = x at *
      go_wp2
      go_roundw
      case rel => exact ⟨j + 1, _, _, by omega, by go_num, rfl, o3', o4', HW, O1, HR, B1⟩
      case measure => simp [intOf]; omega
    · obtain rfl : j = xs.length := by omega
      have O1 := hst cr (by omega)
      have B1 := hbs (.int .u32 cr)
      have HW : Hid ((ws ++ [cr] ++ us.drop (xs.length + 1)).length = xs.length + 1) := by
        show _ = _
        have := hw.out
        have := HL.out
        simp; omega
      have HV : Hid (val (ws ++ [cr] ++ us.drop (xs.length + 1)) = val xs * 2 ^ s) := by
        show _ = _
        rw [List.drop_eq_nil_of_le (Nat.le_of_eq HL.out), List.append_nil, val_snoc, hw.out, he.out, List.take_length]
      clear hown hB hst hbs h hw he
      go_wp2
      go_ret
      exact ⟨_, rfl, O1, HW.out, HV.out, B1⟩

/-- The limbs of what is shifted down. -/
def dn (f : Int) : List Int → List Int
  | [] => []
  | x :: r => (r.headD 0 * 4294967296 + x) / f % 4294967296 :: dn f r
theorem dn_length (f : Int) : ∀ xs : List Int, (dn f xs).length = xs.length
  | [] => rfl
  | x :: r => by simp [dn, dn_length f r]
theorem dn_limb {f g x y v : Int} (hf : 0 < f) (hg : 0 < g) (hfg : f * g = 4294967296) (hx : 0 ≤ x ∧ x < 4294967296) (hv : v % f = y % f) :
    (y * 4294967296 + x) / f % 4294967296 + 4294967296 * (v / f) = (x + 4294967296 * v) / f := by
  have e1 : (y * 4294967296 + x) / f = x / f + g * y := by
    rw [← hfg, show y * (f * g) + x = x + f * (g * y) by rw [Int.mul_comm y, Int.mul_assoc]; omega, Int.add_mul_ediv_left _ _ (by omega)]
  have e2 : (x + 4294967296 * v) / f = x / f + g * v := by
    rw [← hfg, Int.mul_assoc, Int.add_mul_ediv_left _ _ (by omega)]
  have q0 : 0 ≤ x / f := Int.ediv_nonneg hx.1 (by omega)
  have q1 : x / f < g := Int.ediv_lt_of_lt_mul hf (by rw [Int.mul_comm, hfg]; exact hx.2)
  have r0 : 0 ≤ y % f := Int.emod_nonneg _ (by omega)
  have r1 : y % f < f := Int.emod_lt_of_pos _ hf
  have e3 : g * y = g * (y % f) + 4294967296 * (y / f) := by
    rw [← hfg]
    have := Int.mul_ediv_add_emod y f
    rw [Int.mul_comm f g, Int.mul_assoc, ← Int.mul_add, Int.add_comm, this]
  have e4 : g * v = g * (y % f) + 4294967296 * (v / f) := by
    rw [← hfg]
    have := Int.mul_ediv_add_emod v f
    rw [Int.mul_comm f g, Int.mul_assoc, ← Int.mul_add, Int.add_comm, ← hv, this]
  have s1 : g * (y % f) ≤ g * (f - 1) := Int.mul_le_mul_of_nonneg_left (by omega) (by omega)
  rw [Int.mul_sub, Int.mul_comm g f, hfg, Int.mul_one] at s1
  have s0 : 0 ≤ g * (y % f) := Int.mul_nonneg (by omega) r0
  rw [e1, e2, e3, e4]
  generalize g * (y % f) = p at *
  have : (x / f + (p + 4294967296 * (y / f))) % 4294967296 = x / f + p := by
    rw [← Int.add_assoc, Int.add_mul_emod_self_left]
    exact Int.emod_eq_of_lt (by omega) (by omega)
  rw [this]
  omega
theorem dn_val {f g : Int} (hf : 0 < f) (hg : 0 < g) (hfg : f * g = 4294967296) : ∀ xs : List Int, Lim xs → val (dn f xs) = val xs / f
  | [], _ => by simp [dn, val]
  | x :: r, h => by
    obtain ⟨hx, hr⟩ := h.cons
    have hv : val r % f = r.headD 0 % f := by
      cases r with
      | nil => simp [val]
      | cons y t =>
        simp only [val, List.headD_cons]
        rw [← hfg, Int.mul_assoc, Int.add_mul_emod_self_left]
    simp only [dn, val, dn_val hf hg hfg r hr]
    exact dn_limb hf hg hfg hx hv
theorem dn_step {f : Int} {xs : List Int} {i : Nat} (hi : i < xs.length) {v : Int} (hv : v = ((xs.drop (i + 1)).headD 0 * 4294967296 + xs[i]?.getD 0) / f % 4294967296) :
    (List.replicate (i + 1) 0 ++ dn f (xs.drop (i + 1))).set i v = List.replicate i 0 ++ dn f (xs.drop i) := by
  have e : dn f (xs.drop i) = v :: dn f (xs.drop (i + 1)) := by
    rw [List.drop_eq_getElem_cons hi, hv, List.getElem?_eq_getElem hi]
    rfl
  rw [e, List.replicate_succ', List.append_assoc, List.set_append, if_neg (by simp)]
  simp
theorem head_drop {xs : List Int} {i : Nat} : (xs.drop i).headD 0 = xs[i]?.getD 0 := by
  rw [List.headD_eq_head?_getD, List.head?_drop]
theorem above_or {ab x : Int} (hx : 0 ≤ x ∧ x < 4294967296) : bits BinOp.or IntKind.u64 (IntKind.u64.wrap (ab * 4294967296)) x = ab % 4294967296 * 4294967296 + x := by
  have e0 : IntKind.u64.wrap (ab * 4294967296) = ab * 4294967296 % 18446744073709551616 := rfl
  have e : ab * 4294967296 % 18446744073709551616 = ab % 4294967296 * 4294967296 := by omega
  rw [e0, e, u64_or _ x (by omega) (by omega) hx.1 (by omega), nat_join 32 _ _ (by omega) (by omega)]
  omega

set_option maxHeartbeats 1000000 in
theorem shiftedDownC (a : Option Addr) (c : Nat) (xs : List Int) (s : Nat) (w : World) (h : Sees w a c xs) (hs : s ≤ 31) (hx : xs.length ≤ 2097152) :
    Calls Try.prog 81 #[.slice a xs.length c, .int .i64 s] w fun e w' => ∃ zs, e = .returned (.slice (some ⟨w.heap.size, 0, none⟩) xs.length xs.length) ∧ Own w.heap.size w' (some ⟨w.heap.size, 0, none⟩) xs.length zs ∧ zs.length = xs.length ∧ val zs = val xs / 2 ^ s ∧ Below w.heap.size w w' := by
  obtain ⟨i0, hi, hz0, hz1, hz2⟩ := info_parts infoU
  have HX : Hid (xs.length ≤ 2097152) := hx
  have mx : xs.length ≤ 4611686018427387900 := by omega
  clear hx
  go_enter Try.func81, Try.ntmps81
  go_wp2_with (at_make; refine wpList_make_full _ rfl _ _ 33 rfl w.heap.size 74 i0 (.int .u32 0) 1 Try.underlying33 hi hz0 hz1 .i64 .i64 _ _ xs.length rfl rfl rfl rfl ?b2 ?b3 (Nat.le_refl _) ?_; (case b2 => rw [hz2]; have := HX.out; omega); (case b3 => have := HX.out; unfold maxLen; omega); intro w0 hown0 hgrow0; rw [made_list] at hown0; have ho := (Own.of_row (xs := List.replicate xs.length 0) (by rw [List.map_replicate]; exact hown0) (Lim.zeros _)).1; have hb0 : Below w.heap.size w w0 := ((Below.refl _ _).grown hgrow0 (Nat.le_refl _) (fun k h => by cases h)); clear hown0 hgrow0)
  have LX : Hid (Lim xs) := h.lim
  have P0 : (0 : Int) < 2 ^ s := p2_pos s
  have P1 : (2 : Int) ^ s ≤ 2147483648 := p2_le hs
  clear hi hz0 hz1 hz2
  go_loopw [6, 7] (fun q i wr => ∃ (j : Nat) (ab : Int), j ≤ xs.length ∧ i = .int .i64 ((j : Int) - 1) ∧ q = .int .u64 ab ∧ 0 ≤ ab ∧ ab < 18446744073709551616 ∧ Hid (ab % 4294967296 = (xs.drop j).headD 0) ∧ Own w.heap.size wr (some ⟨w.heap.size, 0, none⟩) xs.length (List.replicate j 0 ++ dn (2 ^ s) (xs.drop j)) ∧ Below w.heap.size w wr) (fun _ i _ => (intOf i + 1).toNat)
  case atStart => exact ⟨xs.length, 0, Nat.le_refl _, rfl, rfl, by decide, by decide, by simp [Hid], by simpa [dn] using ho, hb0⟩
  case round =>
    obtain ⟨j, ab, hj, rfl, rfl, a0, a1, he, hown, hB⟩ := hrel
    clear ho hb0
    by_cases h0 : j = 0
    · subst h0
      have HV : Hid (val (dn (2 ^ s) xs) = val xs / 2 ^ s) := dn_val P0 (p2_pos (32 - s)) (by rw [← Int.pow_add, show s + (32 - s) = 32 by omega]; decide) xs LX.out
      have O1 : Own w.heap.size wr (some ⟨w.heap.size, 0, none⟩) xs.length (dn (2 ^ s) xs) := by simpa using hown
      clear hown he
      go_wp2
      go_ret
      exact ⟨_, rfl, O1, dn_length _ _, HV.out, hB⟩
    · obtain ⟨i, rfl⟩ : ∃ i, j = i + 1 := ⟨j - 1, by omega⟩
      have hlen : (List.replicate (i + 1) 0 ++ dn (2 ^ s) (xs.drop (i + 1))).length = xs.length := by simp [dn_length]; omega
      have hne : List.replicate (i + 1) 0 ++ dn (2 ^ s) (xs.drop (i + 1)) ≠ [] := by intro e; rw [e] at hlen; simp at hlen; omega
      obtain ⟨b2, o2, e2, hc⟩ := hown.cells hne
      simp only [Option.some.injEq, Addr.mk.injEq] at e2
      obtain ⟨rfl, rfl, _⟩ := e2
      have g1 := hc i (by omega)
      have g2 := (hown.new _ _ rfl hne).2 i (by omega)
      obtain ⟨b1, o1, rfl, hc1⟩ := (h.below hB).cells (by intro e; simp [e] at hj)
      have g3 := hc1 i (by omega)
      have hxb := LX.out.get i
      have hor := above_or (ab := ab) hxb
      rw [he.out] at hor
      have hy : 0 ≤ (xs.drop (i + 1)).headD 0 ∧ (xs.drop (i + 1)).headD 0 < 4294967296 := by rw [head_drop]; exact LX.out.get (i + 1)
      have q0 : 0 ≤ ((xs.drop (i + 1)).headD 0 * 4294967296 + xs[i]?.getD 0) / 2 ^ s := Int.ediv_nonneg (by omega) (by omega)
      have O1 := hown.store (j := i) rfl (by omega) (v := ((xs.drop (i + 1)).headD 0 * 4294967296 + xs[i]?.getD 0) / 2 ^ s % 4294967296) (by omega)
      rw [dn_step (show i < xs.length by omega) rfl] at O1
      have B1 := hB.setCell (p := ⟨w.heap.size, i, none⟩) (Nat.le_refl _) (.int .u32 (((xs.drop (i + 1)).headD 0 * 4294967296 + xs[i]?.getD 0) / 2 ^ s % 4294967296))
      have HE : Hid (((xs.drop (i + 1)).headD 0 * 4294967296 + xs[i]?.getD 0) % 4294967296 = (xs.drop i).headD 0) := by
        show _ = _
        rw [head_drop (i := i)]
        omega
      simp only [Nat.zero_add] at g1 g2 O1
      clear hc hc1 hlen hne hown he h
      generalize (List.replicate (i + 1) 0 ++ dn (2 ^ s) (xs.drop (i + 1)))[i]?.getD 0 = z at *
      generalize (xs.drop (i + 1)).headD 0 = y at *
      generalize xs[i]?.getD 0 = x at *
      obtain ⟨x0, x1⟩ := hxb
      obtain ⟨y0, y1⟩ := hy
      go_wp2
      go_roundw
      case rel => exact ⟨i, _, by omega, by go_num, rfl, by omega, by omega, HE, O1, B1⟩
      case measure => simp [intOf]
end Go.Proofs.Ytcnmglghmianoaa

/- How many bits a limb has: math/bits.Len32, math/bits.LeadingZeros32. -/
namespace Go.Proofs.Ytcnmglghmianoaa
open Go.RowKit

theorem bits_at (y : Int) (h0 : 0 ≤ y) (h1 : y ≤ 255) : Lib.len8 y = (Lib.bitLen y.toNat : Int) ∧ 0 ≤ Lib.len8 y ∧ Lib.len8 y ≤ 8 := by
  have l := Lib.bitLen_le8' y h0 h1
  rw [Lib.len8_of y h0 h1]
  exact ⟨rfl, by omega, by omega⟩

set_option maxHeartbeats 4000000 in
set_option maxRecDepth 100000 in
theorem len32C (x : Int) (w : World) (h0 : 0 ≤ x) (h1 : x ≤ 4294967295) :
    Calls Try.prog 87 #[.int .u32 x] w fun e w' => e = .returned (.int .i64 (Lib.bitLen x.toNat)) ∧ w' = w := by
  by_cases hx : x < 256
  · obtain ⟨e1, e2, e3⟩ := bits_at x h0 (by omega)
    have E : Hid (Lib.len8 x = (Lib.bitLen x.toNat : Int)) := e1
    have b1 : x ≤ 255 := by omega
    clear e1
    go_enter Try.func87, Try.ntmps87
    go_wp2
    go_ret
    exact ⟨by rw [← E.out]; rfl, rfl⟩
  · by_cases hy : x < 65536
    · obtain ⟨e1, e2, e3⟩ := bits_at (x / 256) (by omega) (by omega)
      have E : Hid (Lib.len8 (x / 256) = (Lib.bitLen (x / 256).toNat : Int)) := e1
      have S : Hid (Lib.bitLen x.toNat = 8 + Lib.bitLen (x / 256).toNat) := by
        have := Lib.bitLen_shift8 x.toNat (by omega) (by omega)
        rw [show x.toNat / 256 = (x / 256).toNat by omega] at this
        exact this
      have b0 : 0 ≤ x / 256 := by omega
      have b1 : x / 256 ≤ 255 := by omega
      clear e1
      go_enter Try.func87, Try.ntmps87
      go_wp2
      go_ret
      exact ⟨by rw [S.out, Int.natCast_add, ← E.out]; rfl, rfl⟩
    · by_cases hz : x < 16777216
      · obtain ⟨e1, e2, e3⟩ := bits_at (x / 65536) (by omega) (by omega)
        have E : Hid (Lib.len8 (x / 65536) = (Lib.bitLen (x / 65536).toNat : Int)) := e1
        have S : Hid (Lib.bitLen x.toNat = 16 + Lib.bitLen (x / 65536).toNat) := by
          have := Lib.bitLen_shift16 x.toNat (by omega) (by omega)
          rw [show x.toNat / 65536 = (x / 65536).toNat by omega] at this
          exact this
        have b0 : 0 ≤ x / 65536 := by omega
        have b1 : x / 65536 ≤ 255 := by omega
        clear e1
        go_enter Try.func87, Try.ntmps87
        go_wp2
        go_ret
        exact ⟨by rw [S.out, Int.natCast_add, ← E.out]; rfl, rfl⟩
      · obtain ⟨e1, e2, e3⟩ := bits_at (x / 65536 / 256) (by omega) (by omega)
        have E : Hid (Lib.len8 (x / 65536 / 256) = (Lib.bitLen (x / 65536 / 256).toNat : Int)) := e1
        have S : Hid (Lib.bitLen x.toNat = 24 + Lib.bitLen (x / 65536 / 256).toNat) := by
          have := Lib.bitLen_shift24 x.toNat (by omega) (by omega)
          rw [show x.toNat / 16777216 = (x / 65536 / 256).toNat by omega] at this
          exact this
        have b0 : 0 ≤ x / 65536 / 256 := by omega
        have b1 : x / 65536 / 256 ≤ 255 := by omega
        have b2 : 256 ≤ x / 65536 := by omega
        clear e1
        go_enter Try.func87, Try.ntmps87
        go_wp2
        go_ret
        exact ⟨by rw [S.out, Int.natCast_add, ← E.out]; rfl, rfl⟩

theorem lt_bits : ∀ (f x : Nat), x < 2 ^ f → x < 2 ^ Lib.bitLenAux f x
  | 0, x, h => by simpa [Lib.bitLenAux] using h
  | f + 1, x, h => by
    unfold Lib.bitLenAux
    by_cases h0 : x = 0
    · rw [if_pos h0, h0]; decide
    · rw [if_neg h0]
      have := lt_bits f (x / 2) (by rw [Nat.pow_succ] at h; omega)
      rw [Nat.add_comm, Nat.pow_succ]
      omega

theorem lzC (x : Int) (w : World) (h0 : 0 < x) (h1 : x ≤ 4294967295) :
    Calls Try.prog 78 #[.int .u32 x] w fun e w' => (∃ s : Nat, e = .returned (.int .i64 s) ∧ s ≤ 31 ∧ (x + 1) * 2 ^ s ≤ 4294967296) ∧ w' = w := by
  have l := Lib.bitLen_le x.toNat 32 (by omega) (by omega)
  have lp : 0 < Lib.bitLen x.toNat := by
    show 0 < Lib.bitLenAux (63 + 1) x.toNat
    unfold Lib.bitLenAux
    rw [if_neg (by omega)]
    omega
  have hlt : x.toNat < 2 ^ Lib.bitLen x.toNat := lt_bits 64 x.toNat (by omega)
  go_enter Try.func78, Try.ntmps78
  go_wp2_with (go_at_call 87; refine (len32C x _ (by omega) h1).mono ?_; rintro e w' ⟨rfl, rfl⟩)
  go_ret
  generalize Lib.bitLen x.toNat = L at *
  refine ⟨⟨32 - L, ?_, by omega, ?_⟩, rfl⟩
  · have e3 : (32 : Int) - L = ((32 - L : Nat) : Int) := by omega
    rw [← e3]
    rfl
  · have e1 : (x + 1) * 2 ^ (32 - L) ≤ 2 ^ L * 2 ^ (32 - L) := by
      refine Int.mul_le_mul_of_nonneg_right ?_ (Int.le_of_lt (by have := Int.pow_pos (n := 2) (m := 32 - L) (by decide); exact this))
      have e2 : ((x.toNat + 1 : Nat) : Int) ≤ ((2 ^ L : Nat) : Int) := Int.ofNat_le.2 hlt
      rw [Int.natCast_pow, show ((2 : Nat) : Int) = 2 from rfl, Int.natCast_add, Int.toNat_of_nonneg (by omega)] at e2
      exact e2
    rw [← Int.pow_add, show L + (32 - L) = 32 by omega] at e1
    exact e1
end Go.Proofs.Ytcnmglghmianoaa

/- A part of a row that is written: what the row is then. And the arithmetic of a long division. No program is named here. -/
namespace Go.Proofs.Ytcnmglghmianoaa
open Go.RowKit

theorem Lim.drop {xs : List Int} (h : Lim xs) (n : Nat) : Lim (xs.drop n) := fun x hx => h x (List.mem_of_mem_drop hx)
theorem get_window (rs : List Int) (i m j : Nat) (h : j < m) : ((rs.drop i).take m)[j]?.getD 0 = rs[i + j]?.getD 0 := by
  rw [List.getElem?_take, if_pos h, List.getElem?_drop]

theorem Own.window {base : Nat} {w : World} {b off c : Nat} {rs : List Int} (h : Own base w (some ⟨b, off, none⟩) c rs) {i m : Nat} (hm : i + m ≤ rs.length) : Own base w (some ⟨b, off + i, none⟩) (c - i) ((rs.drop i).take m) := by
  have hf := h.fits
  have hl : ((rs.drop i).take m).length = m := by simp; omega
  refine ⟨⟨⟨(h.lim.drop i).take m, by omega, by have := h.max; omega, fun hne => ⟨b, off + i, rfl, fun j hj => ?_⟩⟩, .inr ⟨b, off + i, rfl⟩⟩, fun b1 off1 e hne => ?_⟩
  · rw [hl] at hj
    have hn : rs ≠ [] := by intro e; simp [e] at hm; omega
    obtain ⟨b', off', e, hc⟩ := h.cells hn
    simp only [Option.some.injEq, Addr.mk.injEq] at e
    obtain ⟨rfl, rfl, _⟩ := e
    rw [get_window rs i m j hj, Nat.add_assoc]
    exact hc (i + j) (by omega)
  · simp only [Option.some.injEq, Addr.mk.injEq] at e
    obtain ⟨rfl, rfl, _⟩ := e
    have hn : rs ≠ [] := by intro e; simp [e] at hne
    obtain ⟨h1, h2⟩ := h.new _ _ rfl hn
    refine ⟨h1, fun j hj => ?_⟩
    rw [hl] at hj
    rw [Nat.add_assoc]
    exact h2 (i + j) (by omega)

/-- The row when its window reads otherwise. -/
def patch (rs us : List Int) (i m : Nat) : List Int := rs.take i ++ (us ++ rs.drop (i + m))
theorem patch_length {rs us : List Int} {i m : Nat} (hl : us.length = m) (hm : i + m ≤ rs.length) : (patch rs us i m).length = rs.length := by simp [patch]; omega
theorem patch_get {rs us : List Int} {i m : Nat} (hl : us.length = m) (hm : i + m ≤ rs.length) (j : Nat) :
    (patch rs us i m)[j]?.getD 0 = if j < i then rs[j]?.getD 0 else if j < i + m then us[j - i]?.getD 0 else rs[j]?.getD 0 := by
  have h1 : (rs.take i).length = i := by simp; omega
  unfold patch
  by_cases c1 : j < i
  · rw [if_pos c1, List.getElem?_append_left (by omega), List.getElem?_take, if_pos c1]
  · rw [if_neg c1, List.getElem?_append_right (by omega), h1]
    by_cases c2 : j < i + m
    · rw [if_pos c2, List.getElem?_append_left (by omega)]
    · rw [if_neg c2, List.getElem?_append_right (by omega), List.getElem?_drop, hl, show i + m + (j - i - m) = j by omega]
theorem Own.patch {base : Nat} {w w' : World} {b off c c' : Nat} {rs us : List Int} {i m : Nat} (h : Own base w (some ⟨b, off, none⟩) c rs) (hm : i + m ≤ rs.length) (k : Own base w' (some ⟨b, off + i, none⟩) c' us) (hl : us.length = m)
    (hs : Still w w' (some ⟨b, off + i, none⟩) m) : Own base w' (some ⟨b, off, none⟩) c (patch rs us i m) := by
  have hpl := patch_length hl hm
  refine ⟨⟨⟨?_, by rw [hpl]; exact h.fits, h.max, fun hne => ⟨b, off, rfl, fun j hj => ?_⟩⟩, .inr ⟨b, off, rfl⟩⟩, fun b1 off1 e hne => ?_⟩
  · exact (h.lim.take i).append (k.lim.append (h.lim.drop _))
  · rw [hpl] at hj
    have hn : rs ≠ [] := by intro e; simp [e] at hj
    obtain ⟨b', off', e, hc⟩ := h.cells hn
    simp only [Option.some.injEq, Addr.mk.injEq] at e
    obtain ⟨rfl, rfl, _⟩ := e
    rw [patch_get hl hm]
    by_cases c1 : j < i
    · rw [if_pos c1, (hs b _ rfl (off + j) (.inl (by omega))).1]
      exact hc j hj
    · rw [if_neg c1]
      by_cases c2 : j < i + m
      · rw [if_pos c2]
        obtain ⟨b2, off2, e, hc2⟩ := k.cells (by intro e; simp [e] at hl; omega)
        simp only [Option.some.injEq, Addr.mk.injEq] at e
        obtain ⟨rfl, rfl, _⟩ := e
        have := hc2 (j - i) (by omega)
        rw [show off + i + (j - i) = off + j by omega] at this
        exact this
      · rw [if_neg c2, (hs b _ rfl (off + j) (.inr (by omega))).1]
        exact hc j hj
  · simp only [Option.some.injEq, Addr.mk.injEq] at e
    obtain ⟨rfl, rfl, _⟩ := e
    have hn : rs ≠ [] := by intro e; have : (Go.Proofs.Ytcnmglghmianoaa.patch rs us i m).length = 0 := by rw [hpl, e]; rfl
                            exact hne (List.eq_nil_of_length_eq_zero this)
    obtain ⟨h1, h2⟩ := h.new _ _ rfl hn
    refine ⟨h1, fun j hj => ?_⟩
    rw [hpl] at hj
    by_cases c1 : j < i
    · rw [(hs b _ rfl (off + j) (.inl (by omega))).2]
      exact h2 j hj
    · by_cases c2 : j < i + m
      · have hk := (k.new _ _ rfl (by intro e; simp [e] at hl; omega)).2 (j - i) (by omega)
        rw [show off + i + (j - i) = off + j by omega] at hk
        exact hk
      · rw [(hs b _ rfl (off + j) (.inr (by omega))).2]
        exact h2 j hj

/-- A row in three parts. -/
theorem val_parts (rs us : List Int) (i m : Nat) (hl : us.length = m) (hi : i ≤ rs.length) : val (patch rs us i m) = val (rs.take i) + 4294967296 ^ i * (val us + 4294967296 ^ m * val (rs.drop (i + m))) := by
  unfold patch
  rw [val_append, val_append, hl, List.length_take, Nat.min_eq_left hi]
theorem patch_self (rs : List Int) (i m : Nat) : patch rs ((rs.drop i).take m) i m = rs := by
  unfold patch
  rw [← List.drop_drop, List.take_append_drop, List.take_append_drop]

/-- What holds of a long division with j limbs of the quotient still to come. -/
def LongAt (X V : Int) (K j : Nat) (qs rs : List Int) : Prop := qs.length = K ∧ val qs * V + val rs = X ∧ val rs < V * 4294967296 ^ j ∧ ∀ p, p < j → qs[p]?.getD 0 = 0

theorem LongAt.window {X V : Int} {K i m : Nat} {qs rs : List Int} (h : LongAt X V K (i + 1) qs rs) (hr : Lim rs) (hV : V < 4294967296 ^ m) (hl : i + m + 1 ≤ rs.length) :
    val (rs.drop (i + (m + 1))) = 0 ∧ val ((rs.drop i).take (m + 1)) < 4294967296 * V := by
  have hw : ((rs.drop i).take (m + 1)).length = m + 1 := by simp; omega
  have e := val_parts rs ((rs.drop i).take (m + 1)) i (m + 1) hw (by omega)
  rw [patch_self] at e
  have h1 := h.2.2.1
  have t0 := val_nonneg (hr.take i)
  have u0 := val_nonneg ((hr.drop i).take (m + 1))
  have d0 := val_nonneg (hr.drop (i + (m + 1)))
  have hp := p_pos i
  have hq := p_pos (m + 1)
  generalize val ((rs.drop i).take (m + 1)) = U at *
  generalize val (rs.drop (i + (m + 1))) = D at *
  generalize val (rs.take i) = T at *
  rw [Int.pow_succ] at h1
  have a1 : 4294967296 ^ i * (U + 4294967296 ^ (m + 1) * D) < 4294967296 ^ i * (4294967296 * V) := by
    have : V * (4294967296 ^ i * 4294967296) = 4294967296 ^ i * (4294967296 * V) := by
      rw [Int.mul_comm V, Int.mul_assoc]
    omega
  have a2 := Int.lt_of_mul_lt_mul_left a1 (by omega)
  have a3 : 4294967296 * V < 4294967296 ^ (m + 1) := by rw [Int.pow_succ]; omega
  have dz : D = 0 := by
    by_cases hd : D ≤ 0
    · omega
    · have : 4294967296 ^ (m + 1) * 1 ≤ 4294967296 ^ (m + 1) * D := Int.mul_le_mul_of_nonneg_left (by omega) (by omega)
      omega
  rw [dz] at a2
  exact ⟨dz, by simpa using a2⟩

theorem LongAt.step {X V : Int} {K i m : Nat} {qs rs us : List Int} (h : LongAt X V K (i + 1) qs rs) (hr : Lim rs) (hV0 : 0 < V) (hl : i + m + 1 ≤ rs.length) (hi : i < K) (hul : us.length = m + 1)
    (hz : val (rs.drop (i + (m + 1))) = 0) (hu : val us = val ((rs.drop i).take (m + 1)) % V) : LongAt X V K i (qs.set i (val ((rs.drop i).take (m + 1)) / V)) (patch rs us i (m + 1)) := by
  have hw : ((rs.drop i).take (m + 1)).length = m + 1 := by simp; omega
  have e := val_parts rs ((rs.drop i).take (m + 1)) i (m + 1) hw (by omega)
  have e2 := val_parts rs us i (m + 1) hul (by omega)
  rw [patch_self, hz, Int.mul_zero, Int.add_zero] at e
  rw [hz, Int.mul_zero, Int.add_zero] at e2
  obtain ⟨h1, h2, h3, h4⟩ := h
  have hd := Int.mul_ediv_add_emod (val ((rs.drop i).take (m + 1))) V
  have hlt := Int.emod_lt_of_pos (val ((rs.drop i).take (m + 1))) hV0
  have t1 := val_lt (hr.take i)
  rw [List.length_take, Nat.min_eq_left (by omega)] at t1
  refine ⟨by rw [List.length_set]; exact h1, ?_, ?_, fun p hp => ?_⟩
  · rw [val_set (by omega), h4 i (by omega), Int.sub_zero, Int.add_mul, e2, hu, ← h2, e]
    generalize val ((rs.drop i).take (m + 1)) / V = t at *
    generalize val ((rs.drop i).take (m + 1)) % V = r at *
    rw [← hd, Int.mul_add, Int.mul_comm V t, Int.mul_assoc]
    omega
  · rw [e2, hu]
    generalize val ((rs.drop i).take (m + 1)) % V = r at *
    have hp := p_pos i
    have : 4294967296 ^ i * r ≤ 4294967296 ^ i * (V - 1) := Int.mul_le_mul_of_nonneg_left (by omega) (by omega)
    rw [Int.mul_sub, Int.mul_one, Int.mul_comm _ V] at this
    omega
  · rw [get_set_ne (by omega)]
    exact h4 p (by omega)
theorem LongAt.done {X V : Int} {K : Nat} {qs rs : List Int} (h : LongAt X V K 0 qs rs) (hr : 0 ≤ val rs) (hV : 0 < V) : val qs = X / V ∧ val rs = X % V := by
  obtain ⟨_, h2, h3, _⟩ := h
  simp at h3
  have := (Int.ediv_emod_unique (a := X) (b := V) (r := val rs) (q := val qs) hV).2 ⟨by rw [Int.mul_comm]; omega, hr, h3⟩
  exact ⟨this.1.symm, this.2.symm⟩
/-- Both shifted up: the same quotient, and the rest shifted up. -/
theorem shift_div {x y f : Int} (hf : 0 < f) (hy : 0 < y) : x * f / (y * f) = x / y ∧ x * f % (y * f) / f = x % y := by
  have e := Int.mul_ediv_add_emod x y
  have r0 := Int.emod_nonneg x (show y ≠ 0 by omega)
  have r1 := Int.emod_lt_of_pos x hy
  have r2 : x % y * f < y * f := Int.mul_lt_mul_of_pos_right r1 hf
  have key := (Int.ediv_emod_unique (a := x * f) (b := y * f) (r := x % y * f) (q := x / y) (Int.mul_pos hy hf)).2 ⟨by
    rw [Int.mul_comm y f, Int.mul_assoc, Int.mul_comm (x % y), ← Int.mul_add, Int.mul_comm x f, Int.add_comm, e], Int.mul_nonneg r0 (by omega), r2⟩
  refine ⟨key.1, ?_⟩
  rw [key.2, Int.mul_ediv_cancel _ (by omega)]

/-- Another row is written. -/
theorem Own.other {base : Nat} {w : World} {a : Option Addr} {cap : Nat} {xs : List Int} (h : Own base w a cap xs) {p : Addr} (u : Value) (hp : ∀ b off, a = some ⟨b, off, none⟩ → b ≠ p.block) : Own base (w.setCell p u) a cap xs :=
  h.kept (grownBy_setCell (grownBy_refl w (some p.block)) rfl u) (fun b off ha _ e => by simp at e; exact hp b off ha e.symm)

/-- The quotient's row and the rest's. -/
structure Divs (B : Nat) (w : World) (qb rb : Nat) (qs rs : List Int) (N M : Nat) : Prop where
  q : Own B w (some ⟨qb, 0, none⟩) N qs
  r : Own B w (some ⟨rb, 0, none⟩) M rs
  ql : qs.length = N
  rl : rs.length = M
  ne : qb ≠ rb

theorem Divs.cellR {B : Nat} {w : World} {qb rb : Nat} {qs rs : List Int} {N M : Nat} (h : Divs B w qb rb qs rs N M) {j : Nat} (hj : j < M) :
    w.cell? ⟨rb, j, none⟩ = some (.int .u32 (rs[j]?.getD 0)) ∧ w.frozen? ⟨rb, j, none⟩ = false := by
  have hne : rs ≠ [] := by intro e; have := h.rl; rw [e] at this; simp at this; omega
  obtain ⟨b, off, e, hc⟩ := h.r.cells hne
  simp only [Option.some.injEq, Addr.mk.injEq] at e
  obtain ⟨rfl, rfl, _⟩ := e
  have h1 := hc j (by rw [h.rl]; exact hj)
  have h2 := (h.r.new _ _ rfl hne).2 j (by rw [h.rl]; exact hj)
  rw [Nat.zero_add] at h1 h2
  exact ⟨h1, h2⟩
theorem Divs.cellQ {B : Nat} {w : World} {qb rb : Nat} {qs rs : List Int} {N M : Nat} (h : Divs B w qb rb qs rs N M) {j : Nat} (hj : j < N) :
    w.cell? ⟨qb, j, none⟩ = some (.int .u32 (qs[j]?.getD 0)) ∧ w.frozen? ⟨qb, j, none⟩ = false := by
  have hne : qs ≠ [] := by intro e; have := h.ql; rw [e] at this; simp at this; omega
  obtain ⟨b, off, e, hc⟩ := h.q.cells hne
  simp only [Option.some.injEq, Addr.mk.injEq] at e
  obtain ⟨rfl, rfl, _⟩ := e
  have h1 := hc j (by rw [h.ql]; exact hj)
  have h2 := (h.q.new _ _ rfl hne).2 j (by rw [h.ql]; exact hj)
  rw [Nat.zero_add] at h1 h2
  exact ⟨h1, h2⟩
theorem Divs.setR {B : Nat} {w : World} {qb rb : Nat} {qs rs : List Int} {N M : Nat} (h : Divs B w qb rb qs rs N M) {j : Nat} (hj : j < M) {v : Int} (hv : 0 ≤ v ∧ v < 4294967296) :
    Divs B (w.setCell ⟨rb, j, none⟩ (.int .u32 v)) qb rb qs (rs.set j v) N M := by
  have := h.r.store (j := j) rfl (by rw [h.rl]; exact hj) hv
  rw [Nat.zero_add] at this
  exact ⟨h.q.other _ (by intro b off e; simp only [Option.some.injEq, Addr.mk.injEq] at e; rw [← e.1]; exact h.ne), this, h.ql, by rw [List.length_set]; exact h.rl, h.ne⟩
theorem Divs.setQ {B : Nat} {w : World} {qb rb : Nat} {qs rs : List Int} {N M : Nat} (h : Divs B w qb rb qs rs N M) {j : Nat} (hj : j < N) {v : Int} (hv : 0 ≤ v ∧ v < 4294967296) :
    Divs B (w.setCell ⟨qb, j, none⟩ (.int .u32 v)) qb rb (qs.set j v) rs N M := by
  have := h.q.store (j := j) rfl (by rw [h.ql]; exact hj) hv
  rw [Nat.zero_add] at this
  exact ⟨this, h.r.other _ (by intro b off e; simp only [Option.some.injEq, Addr.mk.injEq] at e; rw [← e.1]; exact h.ne.symm), by rw [List.length_set]; exact h.ql, h.rl, h.ne⟩
theorem Divs.drewN {B : Nat} {w : World} {qb rb : Nat} {qs rs : List Int} {N M : Nat} (h : Divs B w qb rb qs rs N M) (n : Nat) : Divs B (w.drewN n) qb rb qs rs N M :=
  ⟨h.q.below ((Below.refl _ _).trans ⟨rfl, rfl, rfl, Nat.le_refl _, fun _ _ => rfl⟩), h.r.below ((Below.refl _ _).trans ⟨rfl, rfl, rfl, Nat.le_refl _, fun _ _ => rfl⟩), h.ql, h.rl, h.ne⟩

theorem Divs.took {B : Nat} {w w' : World} {qb rb : Nat} {qs rs us : List Int} {N M i m c' : Nat} (h : Divs B w qb rb qs rs N M) (hm : i + m ≤ M) (k : Own B w' (some ⟨rb, i, none⟩) c' us) (hl : us.length = m)
    (hs : Wrote w w' (some ⟨rb, i, none⟩) m (some rb)) : Divs B w' qb rb qs (patch rs us i m) N M := by
  refine ⟨h.q.kept hs.1 ?_, ?_, h.ql, ?_, h.ne⟩
  · intro b off e _ e2
    simp only [Option.some.injEq, Addr.mk.injEq] at e e2
    exact h.ne (e.1.trans e2.symm)
  · have := h.r.patch (i := i) (m := m) (w' := w') (us := us) (c' := c') (by rw [h.rl]; exact hm) (by rw [Nat.zero_add]; exact k) hl (by rw [Nat.zero_add]; exact hs.2)
    exact this
  · rw [patch_length hl (by rw [h.rl]; exact hm)]; exact h.rl

/-! ### Lengths of rows -/
theorem top_pos {ys : List Int} {n : Nat} (hl : Lim ys) (hn : Nrm ys) (h : ys.length = n + 1) : 0 < ys[n]?.getD 0 := by
  have h1 := hl.get n
  have h2 : ys[n]?.getD 0 ≠ 0 := by
    have e : ys.getLast? = some (ys[n]?.getD 0) := by
      rw [List.getLast?_eq_getElem?, h, Nat.add_sub_cancel, List.getElem?_eq_getElem (by omega)]
      rfl
    exact last_of_Nrm hn _ e
  omega
theorem len_of_val {vs : List Int} {n : Nat} (hl : Lim vs) (hn : Nrm vs) (h1 : 4294967296 ^ n ≤ val vs) (h2 : val vs < 4294967296 ^ (n + 1)) : vs.length = n + 1 := by
  have hne : vs ≠ [] := by
    rintro rfl
    have := p_pos n
    simp only [val] at h1
    omega
  have a1 := val_lt hl
  have a2 := val_ge hl hn hne
  have hp : 0 < vs.length := List.length_pos_iff.2 hne
  by_cases c1 : vs.length ≤ n
  · have := p_mono vs.length (n - vs.length)
    rw [show vs.length + (n - vs.length) = n by omega] at this
    omega
  · by_cases c2 : n + 2 ≤ vs.length
    · have := p_mono (n + 1) (vs.length - 1 - (n + 1))
      rw [show n + 1 + (vs.length - 1 - (n + 1)) = vs.length - 1 by omega] at this
      omega
    · omega
theorem len_le_of_val {xs zs : List Int} (hx : Lim xs) (hz : Lim zs) (nz : Nrm zs) (h : val zs ≤ val xs) : zs.length ≤ xs.length := by
  by_cases c : zs.length ≤ xs.length
  · exact c
  · have := cmp_len hx hz nz (by omega)
    omega
/-- What is divided by, shifted up until its limb on top is full. -/
theorem by_bounds {ys : List Int} {n : Nat} {f : Int} (hl : Lim ys) (hn : Nrm ys) (h : ys.length = n + 1) (hf : 0 < f) (ht : (ys[n]?.getD 0 + 1) * f ≤ 4294967296) : 4294967296 ^ n * f ≤ val ys * f ∧ 4294967296 ^ n ≤ val ys * f ∧ val ys * f < 4294967296 ^ (n + 1) := by
  have hne : ys ≠ [] := by rintro rfl; simp at h
  have a2 := val_ge hl hn hne
  rw [h, Nat.add_sub_cancel] at a2
  have e := val_take_succ ys n
  rw [List.take_of_length_le (by omega)] at e
  have b1 := val_lt (hl.take n)
  rw [List.length_take, Nat.min_eq_left (by omega)] at b1
  have hp := p_pos n
  have m1 : 4294967296 ^ n * f ≤ val ys * f := Int.mul_le_mul_of_nonneg_right a2 (by omega)
  have m2 : (4294967296 : Int) ^ n * 1 ≤ 4294967296 ^ n * f := Int.mul_le_mul_of_nonneg_left (by omega) (by omega)
  refine ⟨m1, by omega, ?_⟩
  have m3 : val ys < 4294967296 ^ n * (ys[n]?.getD 0 + 1) := by rw [Int.mul_add, Int.mul_one]; omega
  have m4 : val ys * f < 4294967296 ^ n * (ys[n]?.getD 0 + 1) * f := Int.mul_lt_mul_of_pos_right m3 hf
  rw [Int.mul_assoc] at m4
  have m5 : (4294967296 : Int) ^ n * ((ys[n]?.getD 0 + 1) * f) ≤ 4294967296 ^ n * 4294967296 := Int.mul_le_mul_of_nonneg_left ht (by omega)
  rw [Int.pow_succ]
  omega
theorem LongAt.start {xs rs vs : List Int} {V f : Int} {n K : Nat} (hx : Lim xs) (hK : K + n = xs.length) (hr : val rs = val xs * f) (hf : 0 < f) (hV : 4294967296 ^ n * f ≤ V) (hv : val vs = V) : LongAt (val xs * f) (val vs) K K (List.replicate K 0) rs := by
  refine ⟨by simp, by rw [val_zeros, hr]; omega, ?_, fun p hp => ?_⟩
  · rw [hr, hv]
    have h1 := val_lt hx
    have h2 : val xs * f < 4294967296 ^ xs.length * f := Int.mul_lt_mul_of_pos_right h1 hf
    have h3 : 4294967296 ^ n * f * 4294967296 ^ K ≤ V * 4294967296 ^ K := Int.mul_le_mul_of_nonneg_right hV (by have := p_pos K; omega)
    have h4 : (4294967296 : Int) ^ n * f * 4294967296 ^ K = 4294967296 ^ xs.length * f := by
      rw [← hK, Int.pow_add, Int.mul_assoc, Int.mul_comm f, ← Int.mul_assoc, Int.mul_comm (4294967296 ^ n)]
    omega
  · rw [List.getElem?_replicate]
    split <;> rfl
end Go.Proofs.Ytcnmglghmianoaa
