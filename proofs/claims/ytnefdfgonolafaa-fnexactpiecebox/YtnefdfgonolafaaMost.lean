/- One limb of a quotient: impl.takeMost. -/
import Derived.Test.YtnefdfgonolafaaAddI
import Derived.Test.YtnefdfgonolafaaSubI
import Derived.Test.YtnefdfgonolafaaDivA
namespace Go.Proofs.Ytnefdfgonolafaa
open Go.RowKit

/-- The guess from the highest limbs is not too small. -/
theorem guess_ge {us vs : List Int} {n : Nat} (hu : Lim us) (hv : Lim vs) (hl : us.length = n + 2) (hl2 : vs.length = n + 1) (hp : 0 < vs[n]?.getD 0) :
    val us / val vs ≤ (us[n + 1]?.getD 0 * 4294967296 + us[n]?.getD 0) / (vs[n]?.getD 0) ∧ 0 < val vs := by
  have eu : val us = val (us.take n) + 4294967296 ^ n * (us[n + 1]?.getD 0 * 4294967296 + us[n]?.getD 0) := by
    have h1 := val_take_succ us (n + 1)
    have h2 := val_take_succ us n
    rw [List.take_of_length_le (by omega), h2, Int.pow_succ] at h1
    rw [h1, Int.mul_add, Int.mul_comm (us[n + 1]?.getD 0), ← Int.mul_assoc]
    omega
  have ev : val vs = val (vs.take n) + 4294967296 ^ n * (vs[n]?.getD 0) := by
    have h2 := val_take_succ vs n
    rw [List.take_of_length_le (by omega)] at h2
    exact h2
  have hq := p_pos n
  have b1 := val_lt (hu.take n)
  rw [List.length_take, Nat.min_eq_left (by omega)] at b1
  have b2 := val_nonneg (hv.take n)
  have b3 := val_nonneg hu
  generalize us[n + 1]?.getD 0 * 4294967296 + us[n]?.getD 0 = T at *
  generalize vs[n]?.getD 0 = t at *
  have hpt : 4294967296 ^ n * 1 ≤ 4294967296 ^ n * t := Int.mul_le_mul_of_nonneg_left (by omega) (by omega)
  have hV : 0 < val vs := by omega
  refine ⟨?_, hV⟩
  rw [Int.le_ediv_iff_mul_le hp]
  have d1 : val vs * (val us / val vs) ≤ val us := by
    have e1 := Int.mul_ediv_add_emod (val us) (val vs)
    have e2 := Int.emod_nonneg (val us) (show val vs ≠ 0 by omega)
    omega
  have q0 : 0 ≤ val us / val vs := Int.ediv_nonneg b3 (by omega)
  generalize val us / val vs = Q at *
  have d2 : (4294967296 ^ n * t) * Q ≤ val vs * Q := Int.mul_le_mul_of_nonneg_right (by omega) q0
  have d3 : 4294967296 ^ n * (Q * t) < 4294967296 ^ n * (T + 1) := by
    rw [Int.mul_add, Int.mul_one, Int.mul_comm Q t, ← Int.mul_assoc]
    omega
  have := Int.lt_of_mul_lt_mul_left d3 (by omega)
  omega

/-- What holds while too much is taken: t times v are taken from u, in limbs that may have wrapped round once. -/
def Took (U V M t o Z : Int) : Prop := Z - M * o = U - t * V ∧ U / V ≤ t ∧ t ≤ 4294967295 ∧ 0 ≤ t ∧ (o = 0 ∨ o = 1)
theorem Took.start {U V M t o Z : Int} (h : Z - M * o = U - t * V) (hq : U / V ≤ t) (ht : 0 ≤ t) (ht2 : t ≤ 4294967295) (hZ : 0 ≤ Z ∧ Z < M) (hU : 0 ≤ U ∧ U < M) (hV : 0 < V ∧ V * 4294967296 ≤ M) (ho : 0 ≤ o) : Took U V M t o Z := by
  refine ⟨h, hq, ht2, ht, ?_⟩
  have h1 : t * V ≤ 4294967295 * V := Int.mul_le_mul_of_nonneg_right ht2 (by omega)
  have h2 : 0 ≤ t * V := Int.mul_nonneg ht (by omega)
  by_cases h3 : o ≤ 1
  · omega
  · have : M * 2 ≤ M * o := Int.mul_le_mul_of_nonneg_left (by omega) (by omega)
    omega
theorem Took.next {U V M t Z Z' cr : Int} (h : Took U V M t 1 Z) (hc : Z' + M * cr = Z + V) (h0 : 0 ≤ cr) (hZ : 0 ≤ Z ∧ Z < M) (hZ' : 0 ≤ Z' ∧ Z' < M) (hU : 0 ≤ U) (hV : 0 < V ∧ V * 4294967296 ≤ M) :
    Took U V M (t - 1) (1 - cr) Z' ∧ 1 ≤ t ∧ (cr = 0 ∨ cr = 1) := by
  obtain ⟨h1, h2, h3, h4, _⟩ := h
  have hcr : cr = 0 ∨ cr = 1 := by
    by_cases h5 : cr ≤ 1
    · omega
    · have : M * 2 ≤ M * cr := Int.mul_le_mul_of_nonneg_left (by omega) (by omega)
      omega
  have hq : U / V < t := by
    refine Int.ediv_lt_of_lt_mul hV.1 ?_
    omega
  have q0 : 0 ≤ U / V := Int.ediv_nonneg hU (by omega)
  refine ⟨⟨?_, by omega, by omega, by omega, by omega⟩, by omega, hcr⟩
  rw [Int.sub_mul, Int.one_mul, Int.mul_sub, Int.mul_one]
  omega
theorem Took.pos {U V M t Z : Int} (h : Took U V M t 1 Z) (hU : 0 ≤ U) (hV : 0 < V) (hZ : Z < M) : 1 ≤ t := by
  obtain ⟨h1, h2, _, h4, _⟩ := h
  have q0 : 0 ≤ U / V := Int.ediv_nonneg hU (by omega)
  by_cases h0 : t = 0
  · subst h0; simp at h1; omega
  · omega
theorem Took.done {U V M t Z : Int} (h : Took U V M t 0 Z) (hZ : 0 ≤ Z) (hV : 0 < V) : t = U / V ∧ Z = U % V := by
  obtain ⟨h1, h2, h3, h4, _⟩ := h
  have e : t = U / V := by
    have : t ≤ U / V := by
      rw [Int.le_ediv_iff_mul_le hV]
      simp at h1
      omega
    omega
  refine ⟨e, ?_⟩
  have := Int.mul_ediv_add_emod U V
  rw [← e, Int.mul_comm] at this
  simp at h1
  omega

theorem top_or {x y : Int} (hx : 0 ≤ x ∧ x < 4294967296) (hy : 0 ≤ y ∧ y < 4294967296) : bits BinOp.or IntKind.u64 (x * 4294967296) y = x * 4294967296 + y := by
  rw [u64_or _ y (by omega) (by omega) hy.1 (by omega), nat_join 32 _ _ (by omega) (by omega)]
  omega

set_option maxHeartbeats 2000000 in
theorem takeMostC (base : Nat) (a b : Option Addr) (c d : Nat) (us vs : List Int) (n : Nat) (w : World) (ho : Own base w a c us) (kv : Sees w b d vs) (hl : us.length = n + 2) (hl2 : vs.length = n + 1) (hp : 0 < vs[n]?.getD 0)
    (hap : ∀ q off, b = some ⟨q, off, none⟩ → vs ≠ [] → rowOf a us ≠ some q) (hlt : val us < 4294967296 * val vs) :
    Calls Try.prog 65 #[.slice a (n + 2 : Nat) c, .slice b (n + 1 : Nat) d] w fun e w' => ∃ zs, e = .returned (.int .u32 (val us / val vs)) ∧ Own base w' a c zs ∧ zs.length = n + 2 ∧ val zs = val us % val vs ∧ Wrote w w' a us.length (rowOf a us) := by
  have hm := ho.max
  have hf := ho.fits
  have hm2 := kv.max
  have hf2 := kv.fits
  unfold maxLen at hm hm2
  obtain ⟨G1, V0⟩ := guess_ge ho.lim kv.lim hl hl2 hp
  have hne : us ≠ [] := by intro e; simp [e] at hl
  have hne2 : vs ≠ [] := by intro e; simp [e] at hl2
  obtain ⟨b1, o1, ea, hc1⟩ := ho.cells hne
  obtain ⟨b2, o2, eb, hc2⟩ := kv.cells hne2
  have g1 := hc1 (n + 1) (by omega)
  have g2 := hc1 n (by omega)
  have g3 := hc2 n (by omega)
  have hx1 := ho.lim.get (n + 1)
  have hx2 := ho.lim.get n
  have hx3 := kv.lim.get n
  have hor := top_or hx1 hx2
  have HV : Hid (0 < val vs) := V0
  have HL : Hid (us.length = n + 2) := hl
  have HL2 : Hid (vs.length = n + 1) := hl2
  have HM : Hid (0 < val vs ∧ val vs * 4294967296 ≤ 4294967296 ^ (n + 2)) := by
    refine ⟨V0, ?_⟩
    have e := val_lt kv.lim
    rw [hl2] at e
    rw [show n + 2 = (n + 1) + 1 by omega, Int.pow_succ]
    omega
  have TK : Hid (∀ t : Int, (t = (us[n + 1]?.getD 0 * 4294967296 + us[n]?.getD 0) / (vs[n]?.getD 0) ∧ t ≤ 4294967295) ∨ t = 4294967295 → val us / val vs ≤ t ∧ 0 ≤ t ∧ t ≤ 4294967295) := by
    intro t ht
    have q1 : val us / val vs < 4294967296 := Int.ediv_lt_of_lt_mul V0 hlt
    have q0 : 0 ≤ val us / val vs := Int.ediv_nonneg (val_nonneg ho.lim) (by omega)
    rcases ht with ⟨rfl, h2⟩ | rfl
    · exact ⟨G1, by omega, h2⟩
    · exact ⟨by omega, by omega, by omega⟩
  clear hc1 hc2 G1 V0 hl hl2 hlt
  rw [HL.out] at hf
  rw [HL2.out] at hf2
  subst ea eb
  generalize us[n + 1]?.getD 0 = x1 at *
  generalize us[n]?.getD 0 = x2 at *
  generalize vs[n]?.getD 0 = x3 at *
  obtain ⟨x10, x11⟩ := hx1
  obtain ⟨x20, x21⟩ := hx2
  obtain ⟨x30, x31⟩ := hx3
  go_enter Try.func65, Try.ntmps65
  go_wp2
  go_quiet (fail)
  go_wp2_with fail
  · have TT := TK.out (4294967295) (.inr rfl)
    obtain ⟨t0, t1, t2⟩ := TT
    have hq := takeTimesC base (some ⟨b1, o1, none⟩) (some ⟨b2, o2, none⟩) c d us vs (4294967295) (w.drewN nq) (ho.below (below_drewN (Below.refl _ _) nq)) (kv.below (below_drewN (Below.refl _ _) nq)) (by rw [HL.out, HL2.out]; omega) ⟨t1, t2⟩ hap
    rw [HL.out, HL2.out] at hq
    refine hq.mono ?_
    clear hq
    rintro e w2 ⟨zs, ow, rfl, hoz, hzl, hg, hc0, hv⟩
    have T0 : Hid (Took (val us) (val vs) (4294967296 ^ (n + 2)) (4294967295) ow (val zs)) := by
      have e1 := val_lt hoz.lim
      rw [hzl] at e1
      have e2 := val_lt ho.lim
      rw [HL.out] at e2
      exact Took.start hv t0 t1 t2 ⟨val_nonneg hoz.lim, e1⟩ ⟨val_nonneg ho.lim, e2⟩ HM.out hc0
    have HZ0 : Hid (zs.length = n + 2) := hzl
    have W0 : Wrote w w2 (some ⟨b1, o1, none⟩) us.length (rowOf (some ⟨b1, o1, none⟩) us) := by rw [HL.out]; exact ((Wrote.refl w _ _ _).drewN nq).trans hg
    clear hzl hv hg t0
    go_wp2
    go_loopw [7, 8] (fun t bl wr => ∃ (tt o : Int) (zs' : List Int), t = .int .u64 tt ∧ bl = .bool (decide (0 < o)) ∧ Hid (Took (val us) (val vs) (4294967296 ^ (n + 2)) tt o (val zs')) ∧ 0 ≤ tt ∧ tt ≤ 4294967295 ∧ Hid (zs'.length = n + 2) ∧ Own base wr (some ⟨b1, o1, none⟩) c zs' ∧ Wrote w wr (some ⟨b1, o1, none⟩) us.length (rowOf (some ⟨b1, o1, none⟩) us)) (fun t _ _ => (intOf t).toNat)
    case atStart => exact ⟨_, ow, zs, rfl, rfl, T0, t1, t2, HZ0, hoz, W0⟩
    case round =>
      obtain ⟨tt, o, zs', rfl, rfl, hT, tt0, tt1, hzl, hown, hW⟩ := hrel
      clear T0 HZ0 W0 hoz
      rcases hT.out.2.2.2.2 with rfl | rfl
      · obtain ⟨E1, E2⟩ := hT.out.done (val_nonneg hown.lim) HV.out
        have HE : Hid (val zs' = val us % val vs) := E2
        clear hT E2
        have hd : decide ((0 : Int) < 0) = false := by decide
        rw [hd]
        go_wp2
        go_ret
        exact ⟨zs', by rw [← E1]; rfl, hown, hzl.out, HE.out, hW⟩
      · have hd : decide ((0 : Int) < 1) = true := by decide
        rw [hd]
        have tp : 1 ≤ tt := hT.out.pos (val_nonneg ho.lim) HV.out (by have := val_lt hown.lim; rw [hzl.out] at this; exact this)
        go_wp2_with fail
        have hne' : zs' ≠ [] := by intro e; have := hzl.out; rw [e] at this; simp at this
        have er : rowOf (some (⟨b1, o1, none⟩ : Addr)) zs' = rowOf (some ⟨b1, o1, none⟩) us := by unfold rowOf; rw [if_neg hne', if_neg hne]
        have hq := addIntoC base (some ⟨b1, o1, none⟩) (some ⟨b2, o2, none⟩) c d zs' vs _ hown (kv.kept hW.1 hap) (by rw [hzl.out, HL2.out]; omega) (by rw [er]; exact hap)
        rw [hzl.out, HL2.out, er] at hq
        refine hq.mono ?_
        clear hq
        rintro e w3 ⟨zs3, cr, rfl, hoz3, hzl3, hg3, hc3, hv3⟩
        have e1 := val_lt hoz3.lim
        have e2 := val_lt hown.lim
        rw [hzl3] at e1
        rw [hzl.out] at e2
        obtain ⟨N1, N2, N3⟩ := hT.out.next hv3 hc3 ⟨val_nonneg hown.lim, e2⟩ ⟨val_nonneg hoz3.lim, e1⟩ (val_nonneg ho.lim) HM.out
        have NT : Hid (Took (val us) (val vs) (4294967296 ^ (n + 2)) (tt - 1) (1 - cr) (val zs3)) := N1
        have NL : Hid (zs3.length = n + 2) := hzl3
        have NW : Wrote w w3 (some ⟨b1, o1, none⟩) us.length (rowOf (some ⟨b1, o1, none⟩) us) := hW.trans (by rw [HL.out]; exact hg3)
        have hb : Hid ((!decide (0 < cr)) = decide (0 < 1 - cr)) := by show _ = _; rcases N3 with rfl | rfl <;> decide
        clear hv3 e1 e2 N1 hzl3 hg3 hW hown hT er hne' N3
        go_wp2
        go_roundw
        case rel => exact ⟨tt - 1, 1 - cr, zs3, by go_num, by rw [hb.out], NT, by omega, by omega, NL, hoz3, NW⟩
        case measure => simp [intOf]; omega
  · have TT := TK.out ((x1 * 4294967296 + x2) / x3) (.inl ⟨rfl, h⟩)
    obtain ⟨t0, t1, t2⟩ := TT
    have hq := takeTimesC base (some ⟨b1, o1, none⟩) (some ⟨b2, o2, none⟩) c d us vs ((x1 * 4294967296 + x2) / x3) (w.drewN nq) (ho.below (below_drewN (Below.refl _ _) nq)) (kv.below (below_drewN (Below.refl _ _) nq)) (by rw [HL.out, HL2.out]; omega) ⟨t1, t2⟩ hap
    rw [HL.out, HL2.out] at hq
    refine hq.mono ?_
    clear hq
    rintro e w2 ⟨zs, ow, rfl, hoz, hzl, hg, hc0, hv⟩
    have T0 : Hid (Took (val us) (val vs) (4294967296 ^ (n + 2)) ((x1 * 4294967296 + x2) / x3) ow (val zs)) := by
      have e1 := val_lt hoz.lim
      rw [hzl] at e1
      have e2 := val_lt ho.lim
      rw [HL.out] at e2
      exact Took.start hv t0 t1 t2 ⟨val_nonneg hoz.lim, e1⟩ ⟨val_nonneg ho.lim, e2⟩ HM.out hc0
    have HZ0 : Hid (zs.length = n + 2) := hzl
    have W0 : Wrote w w2 (some ⟨b1, o1, none⟩) us.length (rowOf (some ⟨b1, o1, none⟩) us) := by rw [HL.out]; exact ((Wrote.refl w _ _ _).drewN nq).trans hg
    clear hzl hv hg t0
    go_wp2
    go_loopw [7, 8] (fun t bl wr => ∃ (tt o : Int) (zs' : List Int), t = .int .u64 tt ∧ bl = .bool (decide (0 < o)) ∧ Hid (Took (val us) (val vs) (4294967296 ^ (n + 2)) tt o (val zs')) ∧ 0 ≤ tt ∧ tt ≤ 4294967295 ∧ Hid (zs'.length = n + 2) ∧ Own base wr (some ⟨b1, o1, none⟩) c zs' ∧ Wrote w wr (some ⟨b1, o1, none⟩) us.length (rowOf (some ⟨b1, o1, none⟩) us)) (fun t _ _ => (intOf t).toNat)
    case atStart => exact ⟨_, ow, zs, rfl, rfl, T0, t1, t2, HZ0, hoz, W0⟩
    case round =>
      obtain ⟨tt, o, zs', rfl, rfl, hT, tt0, tt1, hzl, hown, hW⟩ := hrel
      clear T0 HZ0 W0 hoz
      rcases hT.out.2.2.2.2 with rfl | rfl
      · obtain ⟨E1, E2⟩ := hT.out.done (val_nonneg hown.lim) HV.out
        have HE : Hid (val zs' = val us % val vs) := E2
        clear hT E2
        have hd : decide ((0 : Int) < 0) = false := by decide
        rw [hd]
        go_wp2
        go_ret
        exact ⟨zs', by rw [← E1]; rfl, hown, hzl.out, HE.out, hW⟩
      · have hd : decide ((0 : Int) < 1) = true := by decide
        rw [hd]
        have tp : 1 ≤ tt := hT.out.pos (val_nonneg ho.lim) HV.out (by have := val_lt hown.lim; rw [hzl.out] at this; exact this)
        go_wp2_with fail
        have hne' : zs' ≠ [] := by intro e; have := hzl.out; rw [e] at this; simp at this
        have er : rowOf (some (⟨b1, o1, none⟩ : Addr)) zs' = rowOf (some ⟨b1, o1, none⟩) us := by unfold rowOf; rw [if_neg hne', if_neg hne]
        have hq := addIntoC base (some ⟨b1, o1, none⟩) (some ⟨b2, o2, none⟩) c d zs' vs _ hown (kv.kept hW.1 hap) (by rw [hzl.out, HL2.out]; omega) (by rw [er]; exact hap)
        rw [hzl.out, HL2.out, er] at hq
        refine hq.mono ?_
        clear hq
        rintro e w3 ⟨zs3, cr, rfl, hoz3, hzl3, hg3, hc3, hv3⟩
        have e1 := val_lt hoz3.lim
        have e2 := val_lt hown.lim
        rw [hzl3] at e1
        rw [hzl.out] at e2
        obtain ⟨N1, N2, N3⟩ := hT.out.next hv3 hc3 ⟨val_nonneg hown.lim, e2⟩ ⟨val_nonneg hoz3.lim, e1⟩ (val_nonneg ho.lim) HM.out
        have NT : Hid (Took (val us) (val vs) (4294967296 ^ (n + 2)) (tt - 1) (1 - cr) (val zs3)) := N1
        have NL : Hid (zs3.length = n + 2) := hzl3
        have NW : Wrote w w3 (some ⟨b1, o1, none⟩) us.length (rowOf (some ⟨b1, o1, none⟩) us) := hW.trans (by rw [HL.out]; exact hg3)
        have hb : Hid ((!decide (0 < cr)) = decide (0 < 1 - cr)) := by show _ = _; rcases N3 with rfl | rfl <;> decide
        clear hv3 e1 e2 N1 hzl3 hg3 hW hown hT er hne' N3
        go_wp2
        go_roundw
        case rel => exact ⟨tt - 1, 1 - cr, zs3, by go_num, by rw [hb.out], NT, by omega, by omega, NL, hoz3, NW⟩
        case measure => simp [intOf]; omega
end Go.Proofs.Ytnefdfgonolafaa
