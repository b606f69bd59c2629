/- A fraction's whole numbers, and the box around a piece: of the specification (l18Round, PieceBox). -/
import Derived.Test.YtnefdfgonolafaaPbI
import Derived.Test.YtnefdfgonolafaaSDivM
import Derived.Test.YtnefdfgonolafaaSSmall
import Derived.Test.YtnefdfgonolafaaBoxW
namespace Go.Proofs.Ytnefdfgonolafaa
open Go.RowKit

def rdQ (g : Bool) (xs : List Int) (h : Bool) (ys : List Int) : Int := tk g xs / tk h ys
def rdU (g : Bool) (xs : List Int) (h : Bool) (ys : List Int) : Int := -(-tk g xs / tk h ys)
/-- Whether a fraction is right, and both its whole numbers are coordinates. -/
def rdB (g : Bool) (xs : List Int) (h : Bool) (ys : List Int) : Bool := fOk g xs h ys && (inB (rdQ g xs h ys) (-10000000) 10000000 && inB (rdU g xs h ys) (-10000000) 10000000)

theorem ceil_of {n d : Int} (hd : 0 < d) : -(-n / d) = if n % d = 0 then n / d else n / d + 1 := by
  have e1 := Int.mul_ediv_add_emod n d
  have e2 := Int.mul_ediv_add_emod (-n) d
  have r0 := Int.emod_nonneg n (show d ≠ 0 by omega)
  have r1 := Int.emod_lt_of_pos n hd
  have s0 := Int.emod_nonneg (-n) (show d ≠ 0 by omega)
  have s1 := Int.emod_lt_of_pos (-n) hd
  generalize n % d = r at *
  generalize -n % d = s at *
  generalize n / d = q at *
  generalize -n / d = t at *
  have e3 : d * (q + t) = -(r + s) := by rw [Int.mul_add]; omega
  have h1 : q + t ≤ 0 := by
    rcases (show 0 < q + t ∨ q + t ≤ 0 by omega) with h | h
    · have : d * 1 ≤ d * (q + t) := Int.mul_le_mul_of_nonneg_left (by omega) (by omega)
      omega
    · exact h
  have h2 : -1 ≤ q + t := by
    rcases (show q + t < -1 ∨ -1 ≤ q + t by omega) with h | h
    · have : d * (q + t) ≤ d * (-2) := Int.mul_le_mul_of_nonneg_left (by omega) (by omega)
      omega
    · exact h
  rcases (show q + t = 0 ∨ q + t = -1 by omega) with h | h
  · rw [h, Int.mul_zero] at e3
    rw [if_pos (by omega)]; omega
  · rw [h] at e3
    rw [if_neg (by omega)]; omega
theorem rdU_le {g h : Bool} {xs ys : List Int} (hd : 0 < tk h ys) : rdQ g xs h ys ≤ rdU g xs h ys := by
  unfold rdQ rdU
  rw [ceil_of hd]
  split <;> omega

set_option maxRecDepth 20000 in
set_option maxHeartbeats 2000000 in
theorem specRound (g h : Bool) (a b : Option Addr) (c d : Nat) (xs ys : List Int) (w : World) (hx : Sees w a c xs) (hy : Sees w b d ys) :
    Calls Try.prog 11 #[.agg #[.bool g, .slice a xs.length c, .bool h, .slice b ys.length d]] w fun e w' => ∃ lo hi, e = .returned (.tuple #[.int .i64 lo, .int .i64 hi, .bool (rdB g xs h ys)]) ∧ (rdB g xs h ys = true → lo = rdQ g xs h ys ∧ hi = rdU g xs h ys) ∧ Below w.heap.size w w' := by
  have B := below1 w (.cells #[.bool g, .slice a xs.length c, .bool h, .slice b ys.length d] 38)
  have V := Box4.new w (Nat.le_refl _) (.bool g) (.slice a xs.length c) (.bool h) (.slice b ys.length d) 38
  replace hx := hx.below B
  replace hy := hy.below B
  obtain ⟨ok, HOK⟩ : ∃ x, Hid (rdB g xs h ys = x) := ⟨_, rfl⟩
  obtain ⟨Q, HQ⟩ : ∃ x, Hid (rdQ g xs h ys = x) := ⟨_, rfl⟩
  obtain ⟨U, HU⟩ : ∃ x, Hid (rdU g xs h ys = x) := ⟨_, rfl⟩
  rw [HOK.out, HQ.out, HU.out]
  go_enter Try.func11, Try.ntmps11
  go_wp2_with fail
  refine (specFracOk g h a b c d xs ys _ hx hy).mono ?_
  rintro e w1 ⟨rfl, hb⟩
  replace hx := hx.below hb
  replace hy := hy.below hb
  replace V := V.below hb
  replace B := B.trans (hb.mono B.size)
  clear hb
  cases hk : fOk g xs h ys
  · have HB : Hid _ := B
    obtain rfl : ok = false := by rw [← HOK.out]; unfold rdB; rw [hk]; rfl
    clear hx hy V B hk HOK HQ HU
    go_wp2
    exact bodyPost_ret (v := .tuple #[.int .i64 0, .int .i64 0, .bool false]) (by simp [results, Try.results11, go_sem]) rfl ⟨0, 0, rfl, fun e => (by cases e), HB.out⟩
  · obtain ⟨k1, k2⟩ := fOk_parts hk
    have hp := fOk_pos hk
    obtain ⟨bd1, bd2⟩ := tk_bounds g xs hx.lim
    have L : Hid (mg (tk g xs / tk h ys) < 4294967296 ^ 24) := ediv_bd hp bd1 bd2
    have CU := ceil_of (n := tk g xs) hp
    have DM := fun W hb => specDivMod g h a b c d xs ys W (hx.below hb) (hy.below hb)
    have HR : Hid (ok = (inB Q (-10000000) 10000000 && inB U (-10000000) 10000000)) := by show _ = _; rw [← HOK.out, ← HQ.out, ← HU.out]; unfold rdB; rw [hk]; rfl
    replace HQ : Hid (Q = tk g xs / tk h ys) := HQ.out.symm
    replace HU : Hid (U = if tk g xs % tk h ys = 0 then tk g xs / tk h ys else tk g xs / tk h ys + 1) := HU.out.symm.trans CU
    have er : rz (tk g xs) (tk h ys) = tk g xs % tk h ys := by unfold rz; rw [if_neg (by omega)]
    have ed : decide (tk h ys ≠ 0) = true := by simp; omega
    rw [er, ed] at DM
    clear CU er ed hk HOK k1 k2 hp bd1 bd2 hx hy
    generalize tk g xs / tk h ys = q at *
    generalize tk g xs % tk h ys = r at *
    replace DM : Hid _ := DM
    obtain ⟨v0, v1, v2, v3, _, _⟩ := id V
    go_wp2_with fail
    refine Calls.mono (DM.out _ (Below.refl _ _)) ?_
    rintro e w2 ⟨vq, vr, rfl, hT, hb⟩
    clear v0 v1 v2 v3 V DM
    replace B := B.trans (hb.mono B.size)
    clear hb
    obtain ⟨a1, c1, qs, a2, c2, rs, rfl, rfl, o1, o2, n1, n2, e1, e2, _⟩ := hT
    have l1 := len_le o1.lim n1 (by rw [e1]; exact L.out)
    have t1 := tk_isP o1.lim n1 l1 e1
    have hr : rs.length = 0 ↔ r = 0 := by
      constructor
      · intro h0
        have := List.eq_nil_of_length_eq_zero h0
        subst this
        unfold mg at e2
        simp only [val] at e2
        split at e2 <;> omega
      · intro h0
        subst h0
        rcases rs with _ | ⟨x, t⟩
        · rfl
        · have := val_pos o2.lim n2 (by simp)
          rw [e2] at this
          exact absurd this (by decide)
    have S1 := o1.toSees
    clear o1 o2 n1 n2 e1 e2 l1 L
    generalize decide (q < 0) = gq at *
    generalize decide (r < 0) = gr at *
    go_wp2_with fail
    refine (specSmall gq a1 c1 qs _ (S1.below (below2 _ _ _))).mono ?_
    rintro e w5 ⟨rfl, hb⟩
    rw [t1]
    have c6 := cell_new (w2.alloc (.cells #[.bool gq, .slice a1 qs.length c1] 36)) #[.bool gr, .slice a2 rs.length c2] 36 1 rfl
    rw [World.size_alloc] at c6
    replace c6 := bat hb c6
    have HB : Hid _ := (B.trans ((below2 w2 _ _).mono B.size)).trans (hb.mono (Nat.le_trans B.size (below2 w2 _ _).size))
    clear B hb S1 t1
    generalize rs.length = rl at *
    by_cases h0 : r = 0
    · obtain rfl : rl = 0 := hr.2 h0
      subst h0
      clear hr
      cases hs : smB q
      · obtain rfl : ok = false := by
          rw [HR.out, HQ.out]
          have : inB q (-10000000) 10000000 = false := by
            cases hi : inB q (-10000000) 10000000
            · rfl
            · obtain ⟨h1, h2⟩ := inB_true.1 hi
              rw [(sm_in (z := q) (by omega) (by omega)).2] at hs
              cases hs
          rw [this]; rfl
        generalize smZ q = z
        clear hs
        clear HQ HU HR
        go_wp2
        exact bodyPost_ret (v := .tuple #[.int .i64 z, .int .i64 z, .bool false]) (by simp [results, Try.results11, go_sem]) rfl ⟨z, z, rfl, fun e => (by cases e), HB.out⟩
      · have ez : smZ q = q := by unfold smZ; rw [if_pos hs]
        rw [ez]
        clear hs ez
        go_wp2_with fail
        refine (l1In_any q (-10000000) 10000000 _).mono ?_
        rintro e w6 ⟨rfl, rfl⟩
        by_cases hq : inB q (-10000000) 10000000 = true
        · obtain ⟨q1, q2⟩ := inB_true.1 hq
          rw [hq]
          go_wp2_with fail
          refine (l1In_any q (-10000000) 10000000 _).mono ?_
          rintro e w7 ⟨rfl, rfl⟩
          have HO : Hid (ok = inB q (-10000000) 10000000) := by show _ = _; rw [HR.out, HQ.out, HU.out]; simp [hq]
          rw [← HO.out]
          clear hq q1 q2
          go_wp2
          exact bodyPost_ret (v := .tuple #[.int .i64 q, .int .i64 q, .bool ok]) (by simp [results, Try.results11, go_sem]) rfl ⟨q, q, rfl, fun _ => ⟨HQ.out.symm, by rw [HU.out]; simp⟩, HB.out⟩
        · have hq' : inB q (-10000000) 10000000 = false := by simpa using hq
          obtain rfl : ok = false := by rw [HR.out, HQ.out, hq']; rfl
          rw [hq']
          clear hq hq'
          go_wp2
          exact bodyPost_ret (v := .tuple #[.int .i64 q, .int .i64 q, .bool false]) (by simp [results, Try.results11, go_sem]) rfl ⟨q, q, rfl, fun e => (by cases e), HB.out⟩
    · have hl : (0 : Int) < (rl : Int) := by
        rcases Nat.eq_zero_or_pos rl with e | e
        · exact absurd (hr.1 e) h0
        · omega
      clear hr
      cases hs : smB q
      · obtain rfl : ok = false := by
          rw [HR.out, HQ.out]
          have : inB q (-10000000) 10000000 = false := by
            cases hi : inB q (-10000000) 10000000
            · rfl
            · obtain ⟨h1, h2⟩ := inB_true.1 hi
              rw [(sm_in (z := q) (by omega) (by omega)).2] at hs
              cases hs
          rw [this]; rfl
        generalize smZ q = z
        clear hs
        clear HQ HU HR
        go_wp2
        exact bodyPost_ret (v := .tuple #[.int .i64 z, .int .i64 (wrap64 (z + 1)), .bool false]) (by simp [results, Try.results11, go_sem]) rfl ⟨z, (wrap64 (z + 1)), rfl, fun e => (by cases e), HB.out⟩
      · have ez : smZ q = q := by unfold smZ; rw [if_pos hs]
        rw [ez]
        clear hs ez
        go_wp2_with fail
        refine (l1In_any q (-10000000) 10000000 _).mono ?_
        rintro e w6 ⟨rfl, rfl⟩
        by_cases hq : inB q (-10000000) 10000000 = true
        · obtain ⟨q1, q2⟩ := inB_true.1 hq
          rw [hq]
          have ew : wrap64 (q + 1) = q + 1 := by unfold wrap64; omega
          rw [ew]
          clear ew
          go_wp2_with fail
          refine (l1In_any (q + 1) (-10000000) 10000000 _).mono ?_
          rintro e w7 ⟨rfl, rfl⟩
          have HO : Hid (ok = inB (q + 1) (-10000000) 10000000) := by show _ = _; rw [HR.out, HQ.out, HU.out]; simp [h0, hq]
          rw [← HO.out]
          clear hq q1 q2
          go_wp2
          exact bodyPost_ret (v := .tuple #[.int .i64 q, .int .i64 (q + 1), .bool ok]) (by simp [results, Try.results11, go_sem]) rfl ⟨q, (q + 1), rfl, fun _ => ⟨HQ.out.symm, by rw [HU.out]; simp [h0]⟩, HB.out⟩
        · have hq' : inB q (-10000000) 10000000 = false := by simpa using hq
          obtain rfl : ok = false := by rw [HR.out, HQ.out, hq']; rfl
          rw [hq']
          clear hq hq'
          go_wp2
          exact bodyPost_ret (v := .tuple #[.int .i64 q, .int .i64 (wrap64 (q + 1)), .bool false]) (by simp [results, Try.results11, go_sem]) rfl ⟨q, (wrap64 (q + 1)), rfl, fun e => (by cases e), HB.out⟩
end Go.Proofs.Ytnefdfgonolafaa
