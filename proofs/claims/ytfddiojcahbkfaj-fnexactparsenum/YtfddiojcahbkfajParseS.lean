/- The specification's ParseNum. -/
import Derived.Test.YtfddiojcahbkfajParse
import Derived.Test.YtfddiojcahbkfajSNum
import Derived.Test.YtfddiojcahbkfajSMul
import Derived.Test.YtfddiojcahbkfajSMag
import Derived.Test.YtfddiojcahbkfajTree
import Derived.Deep.RegionHeld3
import Derived.Deep.DeepCutAuto
namespace Go.Proofs.Ytfddiojcahbkfaj
open Go.RowKit

theorem l1In_any (x a b : Int) (w : World) : Calls Try.prog 26 #[.int .i64 x, .int .i64 a, .int .i64 b] w fun e w' => e = .returned (.bool (decide (a ≤ x) && decide (x ≤ b))) ∧ w' = w := by
  by_cases h1 : a ≤ x
  · by_cases h2 : x ≤ b
    all_goals
      go_enter Try.func26, Try.ntmps26
      go_wp2
      go_ret
      exact ⟨by simp [h1, h2], rfl⟩
  · have h1' : x < a := by omega
    go_enter Try.func26, Try.ntmps26
    go_wp2
    go_ret
    exact ⟨by rw [decide_eq_false (show ¬ a ≤ x by omega)]; rfl, rfl⟩
theorem sees_one (w : World) (y : Int) (t : TypeId) (h : 0 ≤ y ∧ y < 4294967296) : Sees (w.alloc (.cells #[.int .u32 y] t)) (some ⟨w.heap.size, 0, none⟩) 1 [y] := by
  refine ⟨⟨fun z hz => by simp at hz; omega, by simp, by simp [maxLen], fun _ => ⟨_, _, rfl, fun i hi => ?_⟩⟩, .inr ⟨_, _, rfl⟩⟩
  have : i = 0 := by simp at hi; omega
  subst this
  exact cell_new _ _ _ 0 rfl
theorem sees_two (w : World) (o : Obj) (y : Int) (t : TypeId) (h : 0 ≤ y ∧ y < 4294967296) : Sees ((w.alloc o).alloc (.cells #[.int .u32 y] t)) (some ⟨w.heap.size + 1, 0, none⟩) 1 [y] := by
  have := sees_one (w.alloc o) y t h
  rw [World.size_alloc] at this
  exact this
theorem field_magP (w : World) (g : Bool) (a : Option Addr) (n c : Nat) : Sem.run Try.prog (Instr.field 24 (Value.agg #[Value.bool g, Value.slice a n c]) 1) w = .ok (.slice a n c) w := by kernel_rfl

/-- The digits so far, in limbs of the call's own. -/
structure PsAt (w : World) (base : Nat) (v : Value) (z : Int) (k : Nat) : Prop where
  is' : ∃ a c xs, v = .slice a (List.length xs) c ∧ Own base w a c xs ∧ Nrm xs ∧ val xs = z ∧ xs.length ≤ k
theorem PsAt.below {w w' : World} {base k : Nat} {v : Value} {z : Int} (h : PsAt w base v z k) (hb : Below w.heap.size w w') : PsAt w' base v z k := by
  obtain ⟨a, c, xs, e, o, r⟩ := h.is'
  exact ⟨a, c, xs, e, o.below hb, r⟩

set_option maxRecDepth 20000 in
set_option maxHeartbeats 1000000 in
theorem specParse (s : ByteArray) (w : World) (hs : s.size ≤ 1048576) :
    Calls Try.prog 8 #[.string s] w fun e w' => ∃ v, e = .returned (.tuple #[v, .bool (pOk (mnB s) (pd s))]) ∧ IsNum w.heap.size w' v (pZ (mnB s) (pd s)) ∧ Below w.heap.size w w' := by
  have R0 := Box2.new w (Nat.le_refl _) (.bool false) (.slice none 0 0) 24
  have B0 := below1 w (.cells #[.bool false, .slice none 0 0] 24)
  obtain ⟨r0, r1, rf, _⟩ := id R0
  obtain ⟨g, hg⟩ : ∃ g, Hid (mnB s = g) := ⟨_, rfl⟩
  obtain ⟨f, hf⟩ : ∃ f : Nat, f = if g = true then 1 else 0 := ⟨_, rfl⟩
  have hf1 : f ≤ 1 := by rw [hf]; split <;> omega
  have hds : Hid ((pd s) = (bl s).drop f) := by
    show _ = _
    unfold pd
    rw [hg.out, hf]
    cases g <;> rfl
  have hfs : f ≤ s.size := by
    rw [hf]
    split
    · next h =>
      rw [h] at hg
      have := hg.out
      unfold mnB at this
      simp at this
      omega
    · omega
  have HLEN : Hid ((pd s).length = s.size - f) := by show _ = _; rw [hds.out, List.length_drop, bl_len]
  have HAT : Hid (∀ j, (pd s)[j]?.getD 0 = (bl s)[f + j]?.getD 0) := fun j => by rw [hds.out, List.getElem?_drop]
  rw [hg.out]
  have hfirst : (0 < s.size ∧ ((bl s)[0]?.getD 0 = 45) ∧ f = 1) ∨ (f = 0 ∧ (s.size = 0 ∨ (0 < s.size ∧ ¬ (bl s)[0]?.getD 0 = 45))) := by
    have := hg.out
    unfold mnB at this
    cases g
    · right
      refine ⟨by rw [hf]; rfl, ?_⟩
      simp at this
      by_cases h0 : s.size = 0
      · exact .inl h0
      · exact .inr ⟨by omega, this (by omega)⟩
    · left
      simp at this
      exact ⟨this.1, this.2, by rw [hf]; rfl⟩
  have HF : Hid (f = if g = true then 1 else 0) := hf
  clear hf
  obtain ⟨bz, hbz⟩ : ∃ bz, Hid (pOk g (pd s) = bz) := ⟨_, rfl⟩
  obtain ⟨zz, hzz⟩ : ∃ zz, Hid (pZ g (pd s) = zz) := ⟨_, rfl⟩
  rw [hbz.out, hzz.out]
  have hz1 : (w.alloc (.cells #[.bool false, .slice none 0 0] 24)).heap.size = w.heap.size + 1 := by simp
  go_enter Try.func8, Try.ntmps8
  go_upto_region 2 with fail
  generalize w.alloc (.cells #[.bool false, .slice none 0 0] 24) = W0 at *
  have hgf : (g = true ∧ f = 1) ∨ (g = false ∧ f = 0) := by
    have := HF.out
    cases g
    · exact .inr ⟨rfl, this⟩
    · exact .inl ⟨rfl, this⟩
  have HGF : Hid ((g = true ∧ f = 1) ∨ (g = false ∧ f = 0)) := hgf
  clear hgf
  go_cut [14] (fun s14 W => s14 = .bool g ∧ W = W0)
  case first =>
    rcases hfirst with ⟨h0, h1, hf⟩ | ⟨hf, h0 | ⟨h0, h1⟩⟩
    · obtain rfl : g = true := by rcases HGF.out with ⟨a, b⟩ | ⟨a, b⟩ <;> first | exact a | omega
      rw [bl_at h0] at h1
      have hb : ((s[0].toNat : Int) == 45) = true := by rw [beq_iff_eq]; exact h1
      clear h1 hf
      go_wp2
      go_meet
      case rel => exact ⟨rfl, rfl⟩
    · obtain rfl : g = false := by rcases HGF.out with ⟨a, b⟩ | ⟨a, b⟩ <;> first | exact a | omega
      have h0' : ¬ (0 : Int) < s.size := by omega
      clear hf
      go_wp2
      go_meet
      case rel => exact ⟨rfl, rfl⟩
    · obtain rfl : g = false := by rcases HGF.out with ⟨a, b⟩ | ⟨a, b⟩ <;> first | exact a | omega
      rw [bl_at h0] at h1
      have hb : ((s[0].toNat : Int) == 45) = false := by rw [beq_eq_false_iff_ne]; exact h1
      clear h1 hf
      go_wp2
      go_meet
      case rel => exact ⟨rfl, rfl⟩
  obtain ⟨rfl, rfl⟩ := hcut
  rename World => W0
  go_upto_if 14 with fail
  go_cut [4] (fun s4 W => s4 = .int .i64 f ∧ W = W0)
  case first =>
    rcases HGF.out with ⟨rfl, rfl⟩ | ⟨rfl, rfl⟩
    all_goals
      go_wp2
      go_meet
      case rel => exact ⟨by first | rfl | simp, rfl⟩
  obtain ⟨rfl, rfl⟩ := hcut
  rename World => W0
  have HBAD : Hid (pOk g (pd s) = false → bz = false ∧ zz = 0) := fun h => ⟨by rw [← hbz.out, h], by rw [← hzz.out]; exact pZ_bad h⟩
  go_upto_region 4 with fail
  by_cases hl : s.size = f ∨ 300 < s.size - f
  · obtain ⟨eb, ez⟩ := HBAD.out (by
      unfold pOk
      rw [HLEN.out]
      rcases hl with h | h
      · rw [decide_eq_false (show ¬ s.size - f ≠ 0 by omega)]; rfl
      · rw [decide_eq_false (show ¬ s.size - f ≤ 300 by omega)]; simp)
    have EB : Hid (bz = false) := eb
    have EZ : Hid (zz = 0) := ez
    clear eb ez HBAD
    rcases hl with h | h
    · have h0 : ((s.size : Int) == (f : Int)) = true := by rw [beq_iff_eq]; omega
      go_wp2
      exact bodyPost_ret (v := .tuple #[.agg #[.bool false, .slice none 0 0], .bool false]) (by simp [results, Try.results8, go_sem, r0, r1]) rfl ⟨_, by rw [EB.out], ⟨none, 0, [], by rw [EZ.out]; rfl, Own.nil _ _, trivial, by rw [EZ.out]; rfl⟩, below_put' B0 (Nat.le_refl _) _ _⟩
    · have h0 : ((s.size : Int) == (f : Int)) = false := by rw [beq_eq_false_iff_ne]; omega
      have h1 : (300 : Int) < s.size - f := by omega
      go_wp2
      exact bodyPost_ret (v := .tuple #[.agg #[.bool false, .slice none 0 0], .bool false]) (by simp [results, Try.results8, go_sem, r0, r1]) rfl ⟨_, by rw [EB.out], ⟨none, 0, [], by rw [EZ.out]; rfl, Own.nil _ _, trivial, by rw [EZ.out]; rfl⟩, below_put' B0 (Nat.le_refl _) _ _⟩
  · have h0 : ((s.size : Int) == (f : Int)) = false := by rw [beq_eq_false_iff_ne]; omega
    have h1 : ¬ (300 : Int) < s.size - f := by omega
    have hn0 : f < s.size := by omega
    have hn1 : s.size - f ≤ 300 := by omega
    clear hl
    go_wp2
    have P0 : PsAt (W0.alloc (.cells #[] 50)) (w.heap.size + 1) (.slice (some ⟨W0.heap.size, 0, none⟩) 0 0) (pv (pd s) 0) 0 := ⟨_, 0, [], rfl, Own.empty _ _ _ _, trivial, rfl, Nat.le_refl _⟩
    have R1 := R0.below (below1 W0 (.cells #[] 50))
    have B1 := B0.trans ((below1 W0 (.cells #[] 50)).mono B0.size)
    rw [hz1] at P0
    clear R0 B0 r0 r1 rf
    go_loopw [5, 6] (fun s5 s6 wr => ∃ (j : Nat) (v5 : Value), v5 = s5 ∧ j ≤ s.size - f ∧ s6 = .int .i64 ((f + j : Nat) : Int) ∧ PsAt wr (w.heap.size + 1) v5 (pv (pd s) j) j ∧ Hid (dOk (pd s) j = true) ∧ Box2 w.heap.size wr w.heap.size (.bool false) (.slice none 0 0) ∧ Below w.heap.size w wr) (fun _ s6 _ => s.size - (intOf s6).toNat)
    case atStart => exact ⟨0, _, rfl, Nat.zero_le _, by simp, P0, dOk_zero _, R1, B1⟩
    case round =>
      obtain ⟨j, v5, rfl, hj, rfl, hP, hD, R, B⟩ := hrel
      clear P0 R1 B1
      by_cases hlt : f + j < s.size
      · have bp := bl_at hlt
        have ba := HAT.out j
        rw [bp] at ba
        obtain ⟨x, hx⟩ : ∃ x : Int, Hid ((s[f + j].toNat : Int) = x) := ⟨(s[f + j].toNat : Int), (rfl : (s[f + j].toNat : Int) = (s[f + j].toNat : Int))⟩
        have hx0 : 0 ≤ x := by rw [← hx.out]; omega
        have hx1 : x < 256 := by rw [← hx.out]; have := s[f + j].toNat_lt; omega
        have hxe : (s[f + j].toNat : Int) = x := hx.out
        rw [hxe] at ba
        obtain ⟨a5, c5, xs, rfl, o5, n5, v5, l5⟩ := hP.is'
        clear bp hP hx
        cases hd : isD x
        · obtain ⟨eb, ez⟩ := HBAD.out (pOk_bad (j := j) (by rw [HLEN.out]; omega) (by rw [ba]; exact hd))
          have EB : Hid (bz = false) := eb
          have EZ : Hid (zz = 0) := ez
          obtain ⟨q0, q1, qf, _⟩ := id R
          clear eb ez ba hD n5 v5 l5 o5
          go_wp2_with (go_at_call 26; refine (l1In_any _ _ _ _).mono ?_; rintro e w2 ⟨rfl, rfl⟩; rw [show (decide ((48 : Int) ≤ x) && decide (x ≤ 57)) = false from hd])
          exact bodyPost_ret (v := .tuple #[.agg #[.bool false, .slice none 0 0], .bool false]) (by simp [results, Try.results8, go_sem, q0, q1]) rfl ⟨_, by rw [EB.out], ⟨none, 0, [], by rw [EZ.out]; rfl, Own.nil _ _, trivial, by rw [EZ.out]; rfl⟩, below_put' B (Nat.le_refl _) _ _⟩
        · obtain ⟨d0, d1⟩ := isD_true hd
          have hI2 : Hid (dOk (pd s) (j + 1) = true ∧ pv (pd s) (j + 1) = pv (pd s) j * 10 + (x - 48)) := ⟨dOk_step hD.out (by rw [HLEN.out]; omega) (by rw [ba]; exact hd), by simp only [pv]; rw [ba]⟩
          have hxd : 0 ≤ x - 48 ∧ x - 48 < 4294967296 := by omega
          have HV : Hid (val xs = pv (pd s) j) := v5
          have hxl : xs.length ≤ 300 := by omega
          have sB := B.size
          have lR := R.lt
          have key : ∀ (k : Nat) (hk : k < s.size), k = f + j → IntKind.u32.wrap (IntKind.u8.wrap ((s[k].toNat : Int) - 48)) = x - 48 := by
            rintro k hk rfl
            rw [hxe]
            simp only [IntKind.wrap, IntKind.bits, IntKind.signed]
            simp
            omega
          have KEY : Hid (∀ (k : Nat) (hk : k < s.size), k = f + j → IntKind.u32.wrap (IntKind.u8.wrap ((s[k].toNat : Int) - 48)) = x - 48) := key
          clear ba v5 n5 key
          go_wp2_with (go_at_call 26; refine (l1In_any _ _ _ _).mono ?_; rintro e w2 ⟨rfl, rfl⟩; rw [show (decide ((48 : Int) ≤ x) && decide (x ≤ 57)) = true from hd])
          rename World => wr
          have key2 := KEY.out (((f : Int) + (j : Int)).toNat) (by omega) (by omega)
          go_region_held3 (fun _ => True) (trivial)
            (first
            | (go_at_call 29; (refine (l1MulMagC a5 _ c5 1 xs [10] _ ?_ ?_ ?_).mono ?_; (first | exact o5.toSees.below (below1 _ _).drew | exact o5.toSees.below (below2 _ _ _).drew); (first | exact (sees_one _ 10 _ (by decide)).below (Below.refl _ _).drew | exact (sees_one _ 10 _ (by decide)).below (below1 _ _).drew | exact (sees_two _ _ 10 _ (by decide)).below (Below.refl _ _).drew); (simp; omega); rintro e x1 ⟨a1, c1, z1, rfl, o1, v1, s1, hb1⟩; have N1 : Below wr.heap.size wr x1 := (by first | exact (below1 _ _).drew.trans (hb1.mono (by simp)) | exact (below2 _ _ _).drew.trans (hb1.mono (by simp; omega))); (first | (have SD := ((sees_one _ (x - 48) 50 hxd).below (Below.refl _ _).drew).below hb1) | (have SD := ((sees_one _ (x - 48) 50 hxd).below (below1 _ _).drew).below hb1) | skip); have V1 : Hid (val z1 = val xs * 10) := (by show _ = _; rw [v1]; simp [val]); have s1' : z1.length ≤ 301 := (by rw [s1]; simp; omega); clear hb1 v1 s1))
            | (go_at_call 28; (refine (l1AddMagC a1 _ c1 1 z1 [x - 48] _ ?_ ?_ (by omega) (by simp)).mono ?_; (first | exact o1.toSees | exact o1.toSees.below (below1 _ _)); (first | exact SD | (rw [World.size_alloc] at SD; exact SD) | exact sees_one _ (x - 48) _ hxd); rintro e x2 ⟨a2, c2, z2, rfl, o2, v2, s2, hb2⟩; have N2 : Below wr.heap.size wr x2 := (by first | exact N1.trans (hb2.mono N1.size) | exact (N1.trans ((below1 _ _).mono N1.size)).trans (hb2.mono (by have := N1.size; simp; omega))); have V2 : Hid (val z2 = val xs * 10 + (x - 48)) := (by show _ = _; rw [v2, V1.out]; simp [val]); have s2' : z2.length ≤ 302 := (by rcases s2 with h | h; omega; (simp at h; omega)); clear hb2 v2 s2 V1 s1' o1))
            | (go_at_call 27; refine (l1NumC false a2 c2 z2 _ o2.toSees (by omega)).mono ?_; rintro e x3 ⟨u3, rfl, hI3, hb3⟩; have N3 := N2.trans (hb3.mono N2.size); obtain ⟨a3, c3, ys, rfl, o3, n3, v3⟩ := hI3; rw [mg_sg (val_nonneg o2.lim), V2.out] at v3; have sx := N2.size; replace o3 := o3.base_le (show w.heap.size + 1 ≤ x2.heap.size by omega); generalize decide (sg false (val z2) < 0) = gg at *; have hfd := (fun w => field_magP w gg a3 ys.length c3); clear hb3 o2 V2 s2'))
          all_goals
            have PV : PsAt x3 (w.heap.size + 1) (.slice a3 ys.length c3) (pv (pd s) (j + 1)) (j + 1) := ⟨a3, c3, ys, rfl, o3, n3, by rw [v3, hI2.out.2, HV.out], len_le o3.lim n3 (by rw [v3, HV.out, ← hI2.out.2]; exact pv_len (by rw [HLEN.out]; omega) hI2.out.1)⟩
            have R3 := R.below N3
            have B3 := B.trans (N3.mono B.size)
            have DK : Hid (dOk (pd s) (j + 1) = true) := hI2.out.1
            clear N1 N2 N3 R B o5 hI2 HV o3 n3 v3
            go_wp2
            go_roundw
            case rel => exact ⟨j + 1, _, rfl, by omega, by go_num, PV, DK, R3, B3⟩
            case measure => simp [intOf]; omega
      · obtain rfl : j = s.size - f := by omega
        have hfj : f + (s.size - f) = s.size := by omega
        have bf := bl_at hn0
        have ba := HAT.out 0
        rw [Nat.add_zero, bf] at ba
        obtain ⟨c0, hc0⟩ : ∃ x : Int, Hid ((s[f].toNat : Int) = x) := ⟨(s[f].toNat : Int), (rfl : (s[f].toNat : Int) = (s[f].toNat : Int))⟩
        have hce : (s[f].toNat : Int) = c0 := hc0.out
        rw [hce] at ba
        have hall : (pd s).all isD = true := dOk_all (by rw [HLEN.out]; exact hD.out)
        have DK := hD.out
        have hpos : c0 ≠ 48 → 0 < pv (pd s) (s.size - f) := fun h => pv_pos (pd s) (by rw [ba]; exact h) _ (by omega) (by rw [HLEN.out]; exact Nat.le_refl _) DK
        obtain ⟨q0, q1, qf, _⟩ := id R
        obtain ⟨a5, c5, xs, rfl, o5, n5, v5, l5⟩ := hP.is'
        have hpok : pOk g (pd s) = !(decide (c0 = 48) && (g || decide (1 < s.size - f))) := by
          unfold pOk
          rw [HLEN.out, hall, ba, decide_eq_true (show s.size - f ≠ 0 by omega), decide_eq_true (show s.size - f ≤ 300 by omega)]
          simp
        have hg1 : ((f : Int) == 1) = g := by
          rcases HGF.out with ⟨rfl, rfl⟩ | ⟨rfl, rfl⟩ <;> rfl
        have hxs : c0 ≠ 48 → 0 < xs.length := fun h => by
          have h1 := hpos h
          rw [← v5] at h1
          rcases Nat.eq_zero_or_pos xs.length with e | e
          · rw [List.eq_nil_of_length_eq_zero e] at h1; simp [val] at h1
          · exact e
        have hxz : c0 = 48 → s.size - f = 1 → xs.length = 0 := fun h h1 => by
          have hv : val xs = 0 := by
            rw [v5, h1]
            simp only [pv]
            rw [ba, h]
            rfl
          rcases Nat.eq_zero_or_pos xs.length with e | e
          · exact e
          · have := val_pos o5.lim n5 (List.length_pos_iff.1 e); omega
        have hxm : xs.length ≤ 300 := by omega
        have HV5 : Hid (val xs = pv (pd s) (s.size - f)) := v5
        clear bf ba hall DK hpos hD hc0 v5
        have HGOOD : Hid (pOk g (pd s) = true → bz = true ∧ zz = sg g (val xs)) := fun h => ⟨by rw [← hbz.out, h], by rw [← hzz.out]; unfold pZ; rw [if_pos h, HLEN.out, HV5.out]⟩
        by_cases hc : c0 = 48
        · subst hc
          have h48 : ((48 : Int) == 48) = true := rfl
          by_cases h1n : 1 < s.size - f
          · obtain ⟨eb, ez⟩ := HBAD.out (by rw [hpok, decide_eq_true h1n]; simp)
            have EB : Hid (bz = false) := eb
            have EZ : Hid (zz = 0) := ez
            have ht : ((f : Int) + 1) < s.size := by omega
            clear eb ez hpok hxs hxz HGOOD HBAD
            go_wp2
            exact bodyPost_ret (v := .tuple #[.agg #[.bool false, .slice none 0 0], .bool false]) (by simp [results, Try.results8, go_sem, q0, q1]) rfl ⟨_, by rw [EB.out], ⟨none, 0, [], by rw [EZ.out]; rfl, Own.nil _ _, trivial, by rw [EZ.out]; rfl⟩, below_put' B (Nat.le_refl _) _ _⟩
          · have hx0 := hxz rfl (by omega)
            have ht : ¬ ((f : Int) + 1) < s.size := by omega
            cases hgg : g
            · subst hgg
              obtain ⟨eb, ez⟩ := HGOOD.out (by rw [hpok, decide_eq_false h1n]; simp)
              have EB : Hid (bz = true) := eb
              have EZ : Hid (zz = sg false (val xs)) := ez
              clear eb ez hpok hxs hxz HGOOD HBAD hx0
              go_wp2_with fail
              refine (l1NumC _ a5 c5 xs _ o5.toSees (by omega)).mono ?_
              rintro e w3 ⟨u, rfl, hN, hb⟩
              obtain ⟨a7, c7, us, rfl, o7, n7, v7⟩ := hN
              replace B := B.trans (hb.mono B.size)
              have lw := R.lt
              replace R := R.below hb
              clear hb o5 q0 q1 qf
              obtain ⟨q0, q1, qf, _⟩ := id R
              generalize hgz : decide (sg _ (val xs) < 0) = gz at *
              go_wp2
              exact bodyPost_ret (v := .tuple #[.agg #[.bool gz, .slice a7 us.length c7], .bool true]) (by simp [results, Try.results8, go_sem, q0, q1]) rfl ⟨_, by rw [EB.out], ⟨a7, c7, us, by rw [EZ.out, hgz], ((o7.setCell (p := ⟨w.heap.size, 0, none⟩) (by dsimp only; omega) _).setCell (p := ⟨w.heap.size, 1, none⟩) (by dsimp only; omega) _).base_le (by omega), n7, by rw [EZ.out]; exact v7⟩, below_put' B (Nat.le_refl _) _ _⟩
            · subst hgg
              obtain ⟨eb, ez⟩ := HBAD.out (by rw [hpok]; simp)
              have EB : Hid (bz = false) := eb
              have EZ : Hid (zz = 0) := ez
              have hxe0 : ((xs.length : Int) == 0) = true := by rw [beq_iff_eq]; omega
              clear eb ez hpok hxs hxz HGOOD HBAD hx0
              go_wp2
              exact bodyPost_ret (v := .tuple #[.agg #[.bool false, .slice none 0 0], .bool false]) (by simp [results, Try.results8, go_sem, q0, q1]) rfl ⟨_, by rw [EB.out], ⟨none, 0, [], by rw [EZ.out]; rfl, Own.nil _ _, trivial, by rw [EZ.out]; rfl⟩, below_put' B (Nat.le_refl _) _ _⟩
        · have hc48 : (c0 == 48) = false := by rw [beq_eq_false_iff_ne]; exact hc
          have hx1 := hxs hc
          have hxe0 : ((xs.length : Int) == 0) = false := by rw [beq_eq_false_iff_ne]; omega
          obtain ⟨eb, ez⟩ := HGOOD.out (by rw [hpok, decide_eq_false hc]; simp)
          have EB : Hid (bz = true) := eb
          have EZ : Hid (zz = sg g (val xs)) := ez
          clear eb ez hpok hxs hxz HGOOD HBAD
          cases hgg : g
          · subst hgg
            go_wp2_with fail
            refine (l1NumC _ a5 c5 xs _ o5.toSees (by omega)).mono ?_
            rintro e w3 ⟨u, rfl, hN, hb⟩
            obtain ⟨a7, c7, us, rfl, o7, n7, v7⟩ := hN
            replace B := B.trans (hb.mono B.size)
            have lw := R.lt
            replace R := R.below hb
            clear hb o5 q0 q1 qf
            obtain ⟨q0, q1, qf, _⟩ := id R
            generalize hgz : decide (sg _ (val xs) < 0) = gz at *
            go_wp2
            exact bodyPost_ret (v := .tuple #[.agg #[.bool gz, .slice a7 us.length c7], .bool true]) (by simp [results, Try.results8, go_sem, q0, q1]) rfl ⟨_, by rw [EB.out], ⟨a7, c7, us, by rw [EZ.out, hgz], ((o7.setCell (p := ⟨w.heap.size, 0, none⟩) (by dsimp only; omega) _).setCell (p := ⟨w.heap.size, 1, none⟩) (by dsimp only; omega) _).base_le (by omega), n7, by rw [EZ.out]; exact v7⟩, below_put' B (Nat.le_refl _) _ _⟩
          · subst hgg
            go_wp2_with fail
            refine (l1NumC _ a5 c5 xs _ o5.toSees (by omega)).mono ?_
            rintro e w3 ⟨u, rfl, hN, hb⟩
            obtain ⟨a7, c7, us, rfl, o7, n7, v7⟩ := hN
            replace B := B.trans (hb.mono B.size)
            have lw := R.lt
            replace R := R.below hb
            clear hb o5 q0 q1 qf
            obtain ⟨q0, q1, qf, _⟩ := id R
            generalize hgz : decide (sg _ (val xs) < 0) = gz at *
            go_wp2
            exact bodyPost_ret (v := .tuple #[.agg #[.bool gz, .slice a7 us.length c7], .bool true]) (by simp [results, Try.results8, go_sem, q0, q1]) rfl ⟨_, by rw [EB.out], ⟨a7, c7, us, by rw [EZ.out, hgz], ((o7.setCell (p := ⟨w.heap.size, 0, none⟩) (by dsimp only; omega) _).setCell (p := ⟨w.heap.size, 1, none⟩) (by dsimp only; omega) _).base_le (by omega), n7, by rw [EZ.out]; exact v7⟩, below_put' B (Nat.le_refl _) _ _⟩
end Go.Proofs.Ytfddiojcahbkfaj
