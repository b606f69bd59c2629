/- The farthest of the points between two: impl.nought, impl.farthest. -/
import Derived.Test.YtcnmglghmianoaaThinM
import Derived.Test.YtcnmglghmianoaaGapJ
import Derived.Test.YtcnmglghmianoaaFCmp
import Derived.Test.YtcnmglghmianoaaRingI
import Derived.Test.YtcnmglghmianoaaHeld
import Derived.BigRegion
namespace Go.Proofs.Ytcnmglghmianoaa
open Go.RowKit

/-- Two numbers in memory that are a fraction's parts, not below 0; none of their limbs lies in block p. -/
structure Fr (w : World) (p : Nat) (a1 : Option Addr) (c1 : Nat) (qs : List Int) (a2 : Option Addr) (c2 : Nat) (rs : List Int) (n d : Int) : Prop where
  s1 : Sees w a1 c1 qs
  s2 : Sees w a2 c2 rs
  v1 : Nrm qs ∧ Hid (qs.length ≤ 24 ∧ val qs = n)
  v2 : Nrm rs ∧ Hid (rs.length ≤ 24 ∧ val rs = d)
  r1 : some p ≠ rowOf a1 qs
  r2 : some p ≠ rowOf a2 rs
theorem Fr.below {w w' : World} {p : Nat} {a1 : Option Addr} {c1 : Nat} {qs : List Int} {a2 : Option Addr} {c2 : Nat} {rs : List Int} {n d : Int} (h : Fr w p a1 c1 qs a2 c2 rs n d) (hb : Below w.heap.size w w') : Fr w' p a1 c1 qs a2 c2 rs n d :=
  ⟨h.s1.below hb, h.s2.below hb, h.v1, h.v2, h.r1, h.r2⟩
theorem Sees.ne {w : World} {a : Option Addr} {c p : Nat} {xs : List Int} (_ : Sees w a c xs) (r : some p ≠ rowOf a xs) : ∀ b off, a = some ⟨b, off, none⟩ → xs ≠ [] → some p ≠ some b := fun b off e hn q => r (by
  unfold rowOf
  rw [if_neg hn, e, q]
  rfl)
theorem Fr.keep {w w' : World} {p q : Nat} {a1 : Option Addr} {c1 : Nat} {qs : List Int} {a2 : Option Addr} {c2 : Nat} {rs : List Int} {n d : Int} (h : Fr w p a1 c1 qs a2 c2 rs n d) (g : w.grownBy w' (some q)) (r1 : some q ≠ rowOf a1 qs) (r2 : some q ≠ rowOf a2 rs) : Fr w' p a1 c1 qs a2 c2 rs n d :=
  ⟨h.s1.kept g (h.s1.ne r1), h.s2.kept g (h.s2.ne r2), h.v1, h.v2, h.r1, h.r2⟩
theorem grown4 (w : World) (p : Nat) (u0 u1 u2 u3 : Value) : w.grownBy ((((w.setCell ⟨p, 0, none⟩ u0).setCell ⟨p, 1, none⟩ u1).setCell ⟨p, 2, none⟩ u2).setCell ⟨p, 3, none⟩ u3) (some p) :=
  grownBy_setCell (p := ⟨p, 3, none⟩) (grownBy_setCell (p := ⟨p, 2, none⟩) (grownBy_setCell (p := ⟨p, 1, none⟩) (grownBy_setCell (p := ⟨p, 0, none⟩) (grownBy_refl _ _) rfl _) rfl _) rfl _) rfl _
theorem Fr.put {w : World} {p : Nat} {a1 : Option Addr} {c1 : Nat} {qs : List Int} {a2 : Option Addr} {c2 : Nat} {rs : List Int} {n d : Int} (h : Fr w p a1 c1 qs a2 c2 rs n d) (u0 u1 u2 u3 : Value) : Fr ((((w.setCell ⟨p, 0, none⟩ u0).setCell ⟨p, 1, none⟩ u1).setCell ⟨p, 2, none⟩ u2).setCell ⟨p, 3, none⟩ u3) p a1 c1 qs a2 c2 rs n d :=
  h.keep (grown4 w p u0 u1 u2 u3) h.r1 h.r2
theorem Fr.other {w : World} {p q : Nat} {a1 : Option Addr} {c1 : Nat} {qs : List Int} {a2 : Option Addr} {c2 : Nat} {rs : List Int} {n d : Int} (h : Fr w p a1 c1 qs a2 c2 rs n d) (r1 : some q ≠ rowOf a1 qs) (r2 : some q ≠ rowOf a2 rs) : Fr w q a1 c1 qs a2 c2 rs n d :=
  ⟨h.s1, h.s2, h.v1, h.v2, r1, r2⟩
theorem IsFrac.fr' {lo : Nat} {w : World} {v : Value} {n d : Int} (h : IsFrac lo w v n d) (hp : 0 ≤ n ∧ 0 < d) (hb : n < 4294967296 ^ 4 ∧ d < 4294967296 ^ 4) :
    ∃ a1 c1 qs a2 c2 rs, v = .agg #[.bool false, .slice a1 qs.length c1, .bool false, .slice a2 rs.length c2] ∧ ∀ p, p < lo ∨ w.heap.size ≤ p → Fr w p a1 c1 qs a2 c2 rs n d := by
  obtain ⟨a1, c1, qs, a2, c2, rs, e, o1, o2, n1, n2, v1, v2, _⟩ := h
  have m1 : mg n = n := by unfold mg; rw [if_neg (by omega)]
  have m2 : mg d = d := by unfold mg; rw [if_neg (by omega)]
  rw [decide_eq_false (by omega), decide_eq_false (by omega)] at e
  rw [m1] at v1
  rw [m2] at v2
  refine ⟨a1, c1, qs, a2, c2, rs, e, fun p hp => ⟨o1.toSees, o2.toSees, ⟨n1, Nat.le_trans (len_le (k := 4) o1.lim n1 (by rw [v1]; exact hb.1)) (by decide), v1⟩, ⟨n2, Nat.le_trans (len_le (k := 4) o2.lim n2 (by rw [v2]; exact hb.2)) (by decide), v2⟩, ?_, ?_⟩⟩
  · rcases hp with hp | hp
    · exact row_ne_low o1 hp
    · exact row_ne_high o1.toCame hp
  · rcases hp with hp | hp
    · exact row_ne_low o2 hp
    · exact row_ne_high o2.toCame hp
theorem cmpFr (p p' : Nat) (a1 a2 a3 a4 : Option Addr) (c1 c2 c3 c4 : Nat) (qs rs ts us : List Int) (n d n' d' : Int) (w : World) (h : Fr w p a1 c1 qs a2 c2 rs n d) (k : Fr w p' a3 c3 ts a4 c4 us n' d') :
    Calls Try.prog 23 #[.agg #[.bool false, .slice a1 qs.length c1, .bool false, .slice a2 rs.length c2], .agg #[.bool false, .slice a3 ts.length c3, .bool false, .slice a4 us.length c4]] w fun e w' => e = .returned (.int .i64 (cmpZ (n * d') (n' * d))) ∧ Below w.heap.size w w' := by
  have := fcomparedC false false false false a1 a2 a3 a4 c1 c2 c3 c4 qs rs ts us w h.s1 h.s2 k.s1 k.s2 h.v1.2.out.1 h.v2.2.out.1 k.v1.2.out.1 k.v2.2.out.1
  rw [h.v1.2.out.2, h.v2.2.out.2, k.v1.2.out.2, k.v2.2.out.2] at this
  exact this

set_option maxHeartbeats 1000000 in
theorem nought_any (w : World) :
    Calls Try.prog 39 #[] w fun e w' => ∃ v, e = .returned v ∧ IsFrac w.heap.size w' v 0 1 ∧ Below w.heap.size w w' := by
  have B0 := below1 w (.cells #[.bool false, .slice none 0 0, .bool false, .slice none 0 0] 37)
  go_enter Try.func39, Try.ntmps39
  go_wp2_with fail
  have V := Box4.new w (lo := w.heap.size) (Nat.le_refl _) (.bool false) (.slice none 0 0) (.bool false) (.slice none 0 0) 37
  have zz : (w.alloc (.cells #[.bool false, .slice none 0 0, .bool false, .slice none 0 0] 37)).heap.size = w.heap.size + 1 := World.size_alloc ..
  generalize w.alloc (.cells #[.bool false, .slice none 0 0, .bool false, .slice none 0 0] 37) = W0 at *
  refine (implOf 1 _ (by decide) (by decide)).mono ?_
  rintro e w2 ⟨v, rfl, hI, hb2⟩
  obtain ⟨a2, c2, ys, rfl, o2, n2, v2⟩ := hI
  have hJ := (IsFrac.two (a := none) (c := 0) (xs := []) (n := 0) (Own.nil W0.heap.size W0) trivial rfl hb2 o2 n2 v2 (Nat.le_refl _)).base_le (show w.heap.size + 1 ≤ _ by omega)
  have JP := hJ.put (b := w.heap.size) (b0 := w.heap.size) (by omega) (by omega) (.bool false) (.slice none 0 0) (.bool false) (.slice a2 ys.length c2)
  have BP := below_put4 (b := w.heap.size) (B0.trans (hb2.mono (by omega))) (by omega) (.bool false) (.slice none 0 0) (.bool false) (.slice a2 ys.length c2)
  have Z := (V.below hb2).put (.bool false) (.slice none 0 0) (.bool false) (.slice a2 ys.length c2)
  obtain ⟨d0, d1, d2, d3, df, _⟩ := V.below hb2
  obtain ⟨z0, z1, z2, z3, _, _⟩ := Z
  clear V hb2 o2 hJ B0
  go_wp2
  exact bodyPost_ret (v := .agg #[.bool false, .slice none 0 0, .bool false, .slice a2 ys.length c2]) (by simp [results, Try.results39, go_sem, z0, z1, z2, z3]) rfl ⟨_, rfl, JP, BP⟩

/-- A fraction in the box p; none of its limbs lies there, nor in block q. -/
structure FarAt (q p : Nat) (w : World) (n d : Int) : Prop where
  ex : ∃ a1 c1 qs a2 c2 rs, Box4 0 w p (.bool false) (.slice a1 qs.length c1) (.bool false) (.slice a2 rs.length c2) ∧ Fr w p a1 c1 qs a2 c2 rs n d ∧ ∀ q', q' ≤ q → some q' ≠ rowOf a1 qs ∧ some q' ≠ rowOf a2 rs
structure GapAt (b p : Nat) (w : World) (n d : Int) : Prop where
  ex : ∃ a1 c1 qs a2 c2 rs, Box4 0 w p (.bool false) (.slice a1 qs.length c1) (.bool false) (.slice a2 rs.length c2) ∧ Fr w p a1 c1 qs a2 c2 rs n d ∧ ∀ q, q < b → some q ≠ rowOf a1 qs ∧ some q ≠ rowOf a2 rs
theorem FarAt.below {q p : Nat} {w w' : World} {n d : Int} (h : FarAt q p w n d) (hb : Below w.heap.size w w') : FarAt q p w' n d := by
  obtain ⟨a1, c1, qs, a2, c2, rs, B, F, r⟩ := h.ex
  exact ⟨a1, c1, qs, a2, c2, rs, B.below hb, F.below hb, r⟩
theorem cmpZ_gt {a b : Int} (h : b < a) : cmpZ a b = 1 := by unfold cmpZ; rw [if_neg (by omega), if_neg (by omega)]
theorem cmpZ_le {a b : Int} (h : ¬ b < a) : cmpZ a b ≤ 0 := by unfold cmpZ; split <;> (try split) <;> omega
/-- The coordinates of a row are such. -/
def CrdL (ps : List (Int × Int)) : Prop := ∀ i, Crd (ptA ps i).1 ∧ Crd (ptA ps i).2
theorem gR_bound {ps : List (Int × Int)} (ok : CrdL ps) (f t i : Nat) : (gR ps f t i).1 < 4294967296 ^ 4 ∧ (gR ps f t i).2 < 4294967296 ^ 4 := by
  obtain ⟨ci, di⟩ := ok i
  obtain ⟨cf, df⟩ := ok f
  obtain ⟨ct, dt⟩ := ok t
  have := r_bound ((ptA ps t).1 - (ptA ps f).1) ((ptA ps t).2 - (ptA ps f).2) ((ptA ps i).1 - (ptA ps f).1) ((ptA ps i).2 - (ptA ps f).2) (ct.dif cf) (dt.dif df) (ci.dif cf) (di.dif df) (by have := ci.dif ct; rwa [show (ptA ps i).1 - (ptA ps f).1 - ((ptA ps t).1 - (ptA ps f).1) = (ptA ps i).1 - (ptA ps t).1 by omega]) (by have := di.dif dt; rwa [show (ptA ps i).2 - (ptA ps f).2 - ((ptA ps t).2 - (ptA ps f).2) = (ptA ps i).2 - (ptA ps t).2 by omega])
  have e4 : (4294967296 : Int) ^ 4 = 340282366920938463463374607431768211456 := by decide
  have e2 : (4294967296 : Int) ^ 2 = 18446744073709551616 := by decide
  unfold gR
  rw [e4, e2] at this
  rw [e4]
  dsimp only
  omega
set_option maxRecDepth 20000 in
set_option maxHeartbeats 2000000 in
theorem farthest_any (a : Option Addr) (c : Nat) (ps : List (Int × Int)) (f t : Nat) (w : World) (h : SeesP w a c ps) (ok : CrdL ps) (hft : f < t) (ht : t < ps.length) (hl : ps.length ≤ 500) :
    Calls Try.prog 22 #[.slice a ps.length c, .int .i64 f, .int .i64 t] w fun e w' => ∃ a1 c1 qs a2 c2 rs, e = .returned (.tuple #[.int .i64 (farL (gR ps f t) f (t - f - 1)).1, .agg #[.bool false, .slice a1 qs.length c1, .bool false, .slice a2 rs.length c2]]) ∧ (∀ p, p < w.heap.size ∨ w'.heap.size ≤ p → Fr w' p a1 c1 qs a2 c2 rs (farL (gR ps f t) f (t - f - 1)).2.1 (farL (gR ps f t) f (t - f - 1)).2.2) ∧ Below w.heap.size w w' := by
  have hm := h.max
  have hf := h.fits
  unfold maxLen at hm
  have HH : Hid (SeesP w a c ps) := h
  have OK : Hid (CrdL ps) := ok
  have B0 := below1 w (.cells #[.bool false, .slice none 0 0, .bool false, .slice none 0 0] 37)
  have V7 := Box4.new w (lo := w.heap.size) (Nat.le_refl _) (.bool false) (.slice none 0 0) (.bool false) (.slice none 0 0) 37
  have zz : (w.alloc (.cells #[.bool false, .slice none 0 0, .bool false, .slice none 0 0] 37)).heap.size = w.heap.size + 1 := World.size_alloc ..
  clear h ok
  go_enter Try.func22, Try.ntmps22
  go_wp2_with fail
  generalize w.alloc (.cells #[.bool false, .slice none 0 0, .bool false, .slice none 0 0] 37) = W0 at *
  refine (nought_any _).mono ?_
  rintro e w1 ⟨v, rfl, hI, hb⟩
  obtain ⟨a1, c1, qs, a2, c2, rs, e1, F1⟩ := hI.fr' (by decide) (by decide)
  subst e1
  have z1 : w.heap.size + 1 ≤ w1.heap.size := by have := hb.size; omega
  have F0 := (F1 w1.heap.size (.inr (Nat.le_refl _)))
  have Fp : Hid (∀ q, q ≤ w.heap.size → some q ≠ rowOf a1 qs ∧ some q ≠ rowOf a2 rs) := fun q hq => ⟨(F1 q (.inl (by omega))).r1, (F1 q (.inl (by omega))).r2⟩
  have bn := below1 w1 (.cells #[.bool false, .slice a1 qs.length c1, .bool false, .slice a2 rs.length c2] 37)
  have V9 := Box4.new w1 (lo := w.heap.size) (by have := hb.size; omega) (.bool false) (.slice a1 qs.length c1) (.bool false) (.slice a2 rs.length c2) 37
  replace hb := hb.trans (bn.mono hb.size)
  replace B0 := B0.trans (hb.mono (by omega))
  replace V7 := V7.below hb
  replace F0 := F0.below bn
  have G0 : Hid (farL (gR ps f t) f 0 = (f, (0, 1))) := rfl
  clear hb bn F1 hI
  go_wp2
  generalize w1.alloc (.cells #[.bool false, .slice a1 qs.length c1, .bool false, .slice a2 rs.length c2] 37) = W1 at *
  generalize w1.heap.size = p9 at *
  have FA : Hid (FarAt w.heap.size p9 W1 0 1) := ⟨a1, c1, qs, a2, c2, rs, ⟨V9.c0, V9.c1, V9.c2, V9.c3, V9.fr, Nat.zero_le _⟩, F0, Fp.out⟩
  have V7' : Hid (Box4 w.heap.size W1 w.heap.size (.bool false) (.slice none 0 0) (.bool false) (.slice none 0 0)) := V7
  clear V7 V9 F0 Fp
  go_loopw [8, 10] (fun s8 s10 wr => ∃ (j m : Nat), j ≤ t - f - 1 ∧ Hid (m = f + 1 + j) ∧ m ≤ t ∧ s8 = .int .i64 (farL (gR ps f t) f j).1 ∧ s10 = .int .i64 m ∧ Hid (FarAt w.heap.size p9 wr (farL (gR ps f t) f j).2.1 (farL (gR ps f t) f j).2.2) ∧ Hid (Box4 w.heap.size wr w.heap.size (.bool false) (.slice none 0 0) (.bool false) (.slice none 0 0)) ∧ Hid (Below w.heap.size w wr)) (fun _ s10 _ => t - (intOf s10).toNat)
  case atStart => exact ⟨0, f + 1, Nat.zero_le _, rfl, hft, rfl, by simp, FA, V7', B0⟩
  case round =>
    clear FA V7' B0
    obtain ⟨j, m, hj, hmj, hmt, rfl, rfl, FA, V7, B⟩ := hrel
    rename World => wr
    have hpl := farL_pos (gR_pos ps f t) f j
    have hp5 : p9 < wr.heap.size := by obtain ⟨_, _, _, _, _, _, q, _⟩ := FA.out.ex; exact q.lt
    by_cases hlt : m < t
    · have STEP : Hid (farL (gR ps f t) f (j + 1) = if (farL (gR ps f t) f j).2.1 * (gR ps f t m).2 < (gR ps f t m).1 * (farL (gR ps f t) f j).2.2 then (m, gR ps f t m) else farL (gR ps f t) f j) := by rw [hmj.out]; rfl
      have POS0 := gR_pos ps f t m
      obtain ⟨gn, hgn⟩ : ∃ z, Hid ((gR ps f t m).1 = z) := ⟨_, rfl⟩
      obtain ⟨gd, hgd⟩ : ∃ z, Hid ((gR ps f t m).2 = z) := ⟨_, rfl⟩
      have BND0 := gR_bound OK.out f t m
      rw [hgn.out, hgd.out] at POS0 BND0
      have POS : Hid (0 ≤ gn ∧ 0 < gd) := POS0
      have BND : Hid (gn < 4294967296 ^ 4 ∧ gd < 4294967296 ^ 4) := BND0
      rw [hgn.out, hgd.out] at STEP
      obtain ⟨b, off, rfl, hc⟩ := (HH.out.below B.out).cells (by intro e; simp [e] at ht)
      obtain ⟨i0, i1⟩ := hc m (by omega)
      obtain ⟨f0, f1⟩ := hc f (by omega)
      obtain ⟨t0, t1⟩ := hc t ht
      obtain ⟨ci, di⟩ := OK.out m
      obtain ⟨cf, df⟩ := OK.out f
      obtain ⟨ct, dt⟩ := OK.out t
      have GE : Hid (gR ps f t m = (rN ((ptA ps t).1 - (ptA ps f).1) ((ptA ps t).2 - (ptA ps f).2) ((ptA ps m).1 - (ptA ps f).1) ((ptA ps m).2 - (ptA ps f).2), rD ((ptA ps t).1 - (ptA ps f).1) ((ptA ps t).2 - (ptA ps f).2) ((ptA ps m).1 - (ptA ps f).1) ((ptA ps m).2 - (ptA ps f).2))) := rfl
      have GN : Hid (rN ((ptA ps t).1 - (ptA ps f).1) ((ptA ps t).2 - (ptA ps f).2) ((ptA ps m).1 - (ptA ps f).1) ((ptA ps m).2 - (ptA ps f).2) = gn ∧ rD ((ptA ps t).1 - (ptA ps f).1) ((ptA ps t).2 - (ptA ps f).2) ((ptA ps m).1 - (ptA ps f).1) ((ptA ps m).2 - (ptA ps f).2) = gd) := by
        rw [← hgn.out, ← hgd.out, GE.out]
        exact ⟨rfl, rfl⟩
      have GX : Hid ((gn, gd) = gR ps f t m) := by show _ = _; rw [← hgn.out, ← hgd.out]
      clear GE hgn hgd POS0 BND0
      have ei : ps[m]?.getD (0, 0) = ptA ps m := rfl
      have ef : ps[f]?.getD (0, 0) = ptA ps f := rfl
      have et : ps[t]?.getD (0, 0) = ptA ps t := rfl
      rw [ei] at i0 i1
      rw [ef] at f0 f1
      rw [et] at t0 t1
      clear hc ei ef et
      generalize (ptA ps m).1 = X1 at *
      generalize (ptA ps m).2 = Y1 at *
      generalize (ptA ps f).1 = X2 at *
      generalize (ptA ps f).2 = Y2 at *
      generalize (ptA ps t).1 = X3 at *
      generalize (ptA ps t).2 = Y3 at *
      generalize hF : farL (gR ps f t) f j = F at *
      obtain ⟨fp, fn, fd⟩ := F
      dsimp only at *
      go_wp2_with fail
      have lm : m < ps.length := by omega
      have lf : f < ps.length := by omega
      go_cut [11] (fun s11 W => ∃ p, s11 = .pointer (some ⟨p, 0, none⟩) ∧ Hid (GapAt wr.heap.size p W gn gd) ∧ wr.heap.size ≤ p ∧ Hid (Below wr.heap.size wr W))
      case first =>
        as_aux_lemma =>
          refine wp_region_held_drew (S := Below wr.heap.size wr) (by kernel_rfl) ((Below.refl _ _).drew) (fun hHeld => ?_)
          have N : Below wr.heap.size wr wr.drew := hHeld
          revert hHeld N
          generalize wr.drew = ww0
          intro hHeld N
          clear hHeld
          refine takeQ (i := 0) (gt rfl) (by kernel_rfl) (fun _ _ _ h => h) (by rfl) (by intro wq _; go_simp <;> with_reducible rfl) (by assumption) ?_
          try simp only [Act.put, sA, sB, sC]
          refine takeQ (i := 1) (gt rfl) (by kernel_rfl) (fun _ _ _ h => h) (by rfl) (by intro wq _; go_simp <;> with_reducible rfl) (by assumption) ?_
          try simp only [Act.put, sA, sB, sC]
          refine takeQ (i := 2) (gt rfl) (by kernel_rfl) (fun _ _ _ h => h) (by rfl) (by intro wq _; go_simp <;> with_reducible rfl) (by assumption) ?_
          try simp only [Act.put, sA, sB, sC]
          refine takeQ (i := 3) (gt rfl) (by kernel_rfl) (fun _ _ _ h => h) (by rfl) (by intro wq hSw; have q0 := bat hSw i0; have q1 := bat hSw i1; have q2 := bat hSw f0; have q3 := bat hSw f1; have q4 := bat hSw t0; have q5 := bat hSw t1; go_simp <;> with_reducible rfl) (by assumption) ?_
          try simp only [Act.put, sA, sB, sC]
          refine takeQ (i := 4) (gt rfl) (by kernel_rfl) (fun _ _ _ h => h) (by rfl) (by intro wq _; go_simp <;> with_reducible rfl) (by assumption) ?_
          try simp only [Act.put, sA, sB, sC]
          refine takeQ (i := 5) (gt rfl) (by kernel_rfl) (fun _ _ _ h => h) (by rfl) (by intro wq _; go_simp <;> with_reducible rfl) (by assumption) ?_
          try simp only [Act.put, sA, sB, sC]
          refine takeQ (i := 6) (gt rfl) (by kernel_rfl) (fun _ _ _ h => h) (by rfl) (by intro wq _; go_simp <;> with_reducible rfl) (by assumption) ?_
          try simp only [Act.put, sA, sB, sC]
          refine takeQ (i := 7) (gt rfl) (by kernel_rfl) (fun _ _ _ h => h) (by rfl) (by intro wq hSw; have q0 := bat hSw i0; have q1 := bat hSw i1; have q2 := bat hSw f0; have q3 := bat hSw f1; have q4 := bat hSw t0; have q5 := bat hSw t1; go_simp <;> with_reducible rfl) (by assumption) ?_
          try simp only [Act.put, sA, sB, sC]
          refine takeQ (i := 8) (gt rfl) (by kernel_rfl) (fun _ _ _ h => h) (by rfl) (by intro wq _; go_simp <;> with_reducible rfl) (by assumption) ?_
          try simp only [Act.put, sA, sB, sC]
          refine takeQ (i := 9) (gt rfl) (by kernel_rfl) (fun _ _ _ h => h) (by rfl) (by intro wq _; go_simp <;> with_reducible rfl) (by assumption) ?_
          try simp only [Act.put, sA, sB, sC]
          refine takeQ (i := 10) (gt rfl) (by kernel_rfl) (fun _ _ _ h => h) (by rfl) (by intro wq _; go_simp <;> with_reducible rfl) (by assumption) ?_
          try simp only [Act.put, sA, sB, sC]
          refine takeQ (i := 11) (gt rfl) (by kernel_rfl) (fun _ _ _ h => h) (by rfl) (by intro wq hSw; have q0 := bat hSw i0; have q1 := bat hSw i1; have q2 := bat hSw f0; have q3 := bat hSw f1; have q4 := bat hSw t0; have q5 := bat hSw t1; go_simp <;> with_reducible rfl) (by assumption) ?_
          try simp only [Act.put, sA, sB, sC]
          refine wpAnyH_ready (rs := [12, 13]) (by kernel_rfl) (by simp) (AllReadyH.cons (gt rfl) (fun K hK => ?_) (AllReadyH.cons (gt rfl) (fun K hK => ?_) AllReadyH.nil))
          · skip
            go_simp
            refine (gap_any X1 Y1 X2 Y2 X3 Y3 _ ci di cf df ct dt).mono ?_
            rintro e ww1 ⟨v9, rfl, IF9, hb⟩
            rw [GN.out.1, GN.out.2] at IF9
            obtain ⟨a9, c9, qs, a8, c8, rs, e9, F9⟩ := IF9.fr' POS.out BND.out
            subst e9
            have LQ : wr.heap.size ≤ ww0.heap.size := N.size
            have R9 : Hid (∀ q, q < wr.heap.size → some q ≠ rowOf a9 qs ∧ some q ≠ rowOf a8 rs) := fun q hq => ⟨(F9 q (.inl (by omega))).r1, (F9 q (.inl (by omega))).r2⟩
            replace N := N.trans (hb.mono N.size)
            clear hb IF9
            refine hK.out _ _ N (fun hHeld => ?_)
            clear hK K hHeld
            try simp only [Act.put, sA, sB, sC]
            refine wpAnyH_ready (rs := [13]) (by kernel_rfl) (by simp) (AllReadyH.cons (gt rfl) (fun K hK => ?_) AllReadyH.nil)
            go_simp
            have BX := Box4.new ww1 (lo := 0) (Nat.zero_le _) (.bool false) (.slice none 0 0) (.bool false) (.slice none 0 0) 37
            have hb := below1 ww1 (.cells #[.bool false, .slice none 0 0, .bool false, .slice none 0 0] 37)
            have PL : wr.heap.size ≤ ww1.heap.size := N.size
            replace F9 := (F9 ww1.heap.size (.inr (Nat.le_refl _))).below hb
            replace N := N.trans (hb.mono N.size)
            clear hb
            generalize ww1.alloc (.cells #[.bool false, .slice none 0 0, .bool false, .slice none 0 0] 37) = ww2 at *
            generalize ww1.heap.size = pB at *
            refine hK.out _ _ N (fun hHeld => ?_)
            clear hK K hHeld
            try simp only [Act.put, sA, sB, sC]
            refine wpAnyH_ready (rs := [14]) (by kernel_rfl) (by simp) (AllReadyH.cons (gt rfl) (fun K hK => ?_) AllReadyH.nil)
            have z0 := BX.c0
            have z1 := BX.c1
            have z2 := BX.c2
            have z3 := BX.c3
            have zf := BX.fr
            go_simp
            clear z0 z1 z2 z3 zf
            replace N := below_put4 (b := pB) N PL (.bool false) (.slice a9 qs.length c9) (.bool false) (.slice a8 rs.length c8)
            replace F9 := F9.put (.bool false) (.slice a9 qs.length c9) (.bool false) (.slice a8 rs.length c8)
            replace BX := BX.put (.bool false) (.slice a9 qs.length c9) (.bool false) (.slice a8 rs.length c8)
            refine hK.out _ _ N (fun hHeld => ?_)
            clear hK K hHeld
            try simp only [Act.put, sA, sB, sC]
            refine wpAnyH_done (by kernel_rfl) ?_ _
            go_wp2
            go_meet
            case rel => exact ⟨_, rfl, ⟨a9, c9, qs, a8, c8, rs, BX, F9, R9.out⟩, PL, N⟩
          · skip
            go_simp
            have BX := Box4.new ww0 (lo := 0) (Nat.zero_le _) (.bool false) (.slice none 0 0) (.bool false) (.slice none 0 0) 37
            have hb := below1 ww0 (.cells #[.bool false, .slice none 0 0, .bool false, .slice none 0 0] 37)
            have PL : wr.heap.size ≤ ww0.heap.size := N.size
            replace N := N.trans (hb.mono N.size)
            clear hb
            generalize ww0.alloc (.cells #[.bool false, .slice none 0 0, .bool false, .slice none 0 0] 37) = ww3 at *
            generalize ww0.heap.size = pB at *
            refine hK.out _ _ N (fun hHeld => ?_)
            clear hK K hHeld
            try simp only [Act.put, sA, sB, sC]
            refine wpAnyH_ready (rs := [12]) (by kernel_rfl) (by simp) (AllReadyH.cons (gt rfl) (fun K hK => ?_) AllReadyH.nil)
            go_simp
            refine (gap_any X1 Y1 X2 Y2 X3 Y3 _ ci di cf df ct dt).mono ?_
            rintro e ww4 ⟨v9, rfl, IF9, hb⟩
            rw [GN.out.1, GN.out.2] at IF9
            obtain ⟨a9, c9, qs, a8, c8, rs, e9, F9⟩ := IF9.fr' POS.out BND.out
            subst e9
            have LQ : wr.heap.size ≤ ww3.heap.size := N.size
            have R9 : Hid (∀ q, q < wr.heap.size → some q ≠ rowOf a9 qs ∧ some q ≠ rowOf a8 rs) := fun q hq => ⟨(F9 q (.inl (by omega))).r1, (F9 q (.inl (by omega))).r2⟩
            replace F9 := F9 pB (.inl BX.lt)
            replace BX := BX.below hb
            replace N := N.trans (hb.mono N.size)
            clear hb IF9
            refine hK.out _ _ N (fun hHeld => ?_)
            clear hK K hHeld
            try simp only [Act.put, sA, sB, sC]
            refine wpAnyH_ready (rs := [14]) (by kernel_rfl) (by simp) (AllReadyH.cons (gt rfl) (fun K hK => ?_) AllReadyH.nil)
            have z0 := BX.c0
            have z1 := BX.c1
            have z2 := BX.c2
            have z3 := BX.c3
            have zf := BX.fr
            go_simp
            clear z0 z1 z2 z3 zf
            replace N := below_put4 (b := pB) N PL (.bool false) (.slice a9 qs.length c9) (.bool false) (.slice a8 rs.length c8)
            replace F9 := F9.put (.bool false) (.slice a9 qs.length c9) (.bool false) (.slice a8 rs.length c8)
            replace BX := BX.put (.bool false) (.slice a9 qs.length c9) (.bool false) (.slice a8 rs.length c8)
            refine hK.out _ _ N (fun hHeld => ?_)
            clear hK K hHeld
            try simp only [Act.put, sA, sB, sC]
            refine wpAnyH_done (by kernel_rfl) ?_ _
            go_wp2
            go_meet
            case rel => exact ⟨_, rfl, ⟨a9, c9, qs, a8, c8, rs, BX, F9, R9.out⟩, PL, N⟩
      rename World => W5
      obtain ⟨p11, rfl, GA, PL11, N5⟩ := hcut
      obtain ⟨a3, c3, ts, a4, c4, us, BG, FG, RG0⟩ := GA.out.ex
      have RG : Hid (∀ q, q < wr.heap.size → some q ≠ rowOf a3 ts ∧ some q ≠ rowOf a4 us) := RG0
      obtain ⟨a5, c5, vs, a6, c6, ys, B9, F9, r91'⟩ := (FA.out.below N5.out).ex
      have r91 : Hid (∀ q, q ≤ w.heap.size → some q ≠ rowOf a5 vs ∧ some q ≠ rowOf a6 ys) := r91'
      clear r91'
      have lw := B.out.size
      have V7' := V7.out.below N5.out
      have B' := B.out.trans (N5.out.mono lw)
      have l7 := V7.out.lt
      have l5 := N5.out.size
      clear GA RG0 FA V7 B i0 i1 f0 f1 t0 t1 N5
      obtain ⟨g0, g1, g2, g3, _, _⟩ := id BG
      obtain ⟨k0, k1, k2, k3, _, _⟩ := id B9
      go_wp2_with fail
      refine (cmpFr p11 p9 a3 a4 a5 a6 c3 c4 c5 c6 ts us vs ys gn gd fn fd _ FG F9).mono ?_
      rintro e w6 ⟨rfl, hb⟩
      replace BG := BG.below hb
      replace B9 := B9.below hb
      replace FG := FG.below hb
      replace F9 := F9.below hb
      replace V7' := V7'.below hb
      replace B' := B'.trans (hb.mono B'.size)
      clear hb g0 g1 g2 g3 k0 k1 k2 k3
      by_cases hc : fn * gd < gn * fd
      · rw [cmpZ_gt hc]
        have ST : Hid (farL (gR ps f t) f (j + 1) = (m, (gn, gd))) := by show _ = _; rw [STEP.out, if_pos hc, ← GX.out]
        obtain ⟨g0, g1, g2, g3, _, _⟩ := id BG
        obtain ⟨k0, k1, k2, k3, kf, _⟩ := id B9
        have FN := (FG.other (RG.out p9 hp5).1 (RG.out p9 hp5).2).put (.bool false) (.slice a3 ts.length c3) (.bool false) (.slice a4 us.length c4)
        have BN := B9.put (.bool false) (.slice a3 ts.length c3) (.bool false) (.slice a4 us.length c4)
        have VN := V7'.old (p := p9) (by omega) (.bool false) (.slice a3 ts.length c3) (.bool false) (.slice a4 us.length c4)
        have BB := below_put4 (b := p9) B' (by omega) (.bool false) (.slice a3 ts.length c3) (.bool false) (.slice a4 us.length c4)
        have FA2 : Hid (FarAt w.heap.size p9 _ gn gd) := ⟨a3, c3, ts, a4, c4, us, BN, FN, fun q hq => RG.out q (by omega)⟩
        clear STEP hc FG F9 V7' B' FN BN BG B9
        go_wp2_with fail
        go_region
        go_wp2
        go_roundw
        case rel => exact ⟨j + 1, m + 1, (by have := hmj.out; omega), (by rw [hmj.out]; show _ = _; omega), by omega, (by rw [ST.out]), by go_num, (by rw [ST.out]; exact FA2.out.below (Below.refl _ _).drew), VN.below (Below.refl _ _).drew, BB.drew⟩
        case measure => simp [intOf]; omega
      · obtain ⟨z, hz⟩ : ∃ z, Hid (cmpZ (gn * fd) (fn * gd) = z) := ⟨_, rfl⟩
        have z0 : z ≤ 0 := by rw [← hz.out]; exact cmpZ_le hc
        rw [hz.out]
        have ST : Hid (farL (gR ps f t) f (j + 1) = (fp, (fn, fd))) := by show _ = _; rw [STEP.out, if_neg hc]
        have FA2 : Hid (FarAt w.heap.size p9 w6 fn fd) := ⟨a5, c5, vs, a6, c6, ys, B9, F9, r91.out⟩
        clear STEP hc FG F9 BG B9 r91 hz
        go_wp2
        go_roundw
        case rel => exact ⟨j + 1, m + 1, (by have := hmj.out; omega), (by rw [hmj.out]; show _ = _; omega), by omega, (by rw [ST.out]), by go_num, (by rw [ST.out]; exact FA2), V7', B'⟩
        case measure => simp [intOf]; omega
    · obtain rfl : m = t := by omega
      obtain rfl : j = m - f - 1 := by have := hmj.out; omega
      obtain ⟨a5, c5, vs, a6, c6, ys, B9, F9, r91⟩ := FA.out.ex
      generalize hF : farL (gR ps f m) f (m - f - 1) = F at *
      obtain ⟨fp, fn, fd⟩ := F
      dsimp only at *
      obtain ⟨k0, k1, k2, k3, _, _⟩ := id B9
      obtain ⟨d0, d1, d2, d3, df, _⟩ := id V7.out
      have BB := (below_put4 (b := w.heap.size) B.out (Nat.le_refl _) (.bool false) (.slice a5 vs.length c5) (.bool false) (.slice a6 ys.length c6)).drew
      have VN := V7.out.put (.bool false) (.slice a5 vs.length c5) (.bool false) (.slice a6 ys.length c6)
      have FN : Hid (∀ p, p < w.heap.size ∨ wr.heap.size ≤ p → Fr ((((wr.setCell ⟨w.heap.size, 0, none⟩ (.bool false)).setCell ⟨w.heap.size, 1, none⟩ (.slice a5 vs.length c5)).setCell ⟨w.heap.size, 2, none⟩ (.bool false)).setCell ⟨w.heap.size, 3, none⟩ (.slice a6 ys.length c6)) p a5 c5 vs a6 c6 ys fn fd) := fun p hp => by
        have r := r91 w.heap.size (Nat.le_refl _)
        have q : some p ≠ rowOf a5 vs ∧ some p ≠ rowOf a6 ys := by
          rcases hp with hp | hp
          · exact r91 p (Nat.le_of_lt hp)
          · exact ⟨row_ne_high F9.s1.toCame hp, row_ne_high F9.s2.toCame hp⟩
        exact (F9.other q.1 q.2).keep (grown4 wr w.heap.size _ _ _ _) r.1 r.2
      have FD : Hid (∀ p, p < w.heap.size ∨ ((((wr.setCell ⟨w.heap.size, 0, none⟩ (.bool false)).setCell ⟨w.heap.size, 1, none⟩ (.slice a5 vs.length c5)).setCell ⟨w.heap.size, 2, none⟩ (.bool false)).setCell ⟨w.heap.size, 3, none⟩ (.slice a6 ys.length c6)).drew.heap.size ≤ p → Fr ((((wr.setCell ⟨w.heap.size, 0, none⟩ (.bool false)).setCell ⟨w.heap.size, 1, none⟩ (.slice a5 vs.length c5)).setCell ⟨w.heap.size, 2, none⟩ (.bool false)).setCell ⟨w.heap.size, 3, none⟩ (.slice a6 ys.length c6)).drew p a5 c5 vs a6 c6 ys fn fd) := fun p hp => (FN.out p (by
        rcases hp with hp | hp
        · exact .inl hp
        · exact .inr (by simpa using hp))).below (Below.refl _ _).drew
      obtain ⟨z0, z1, z2, z3, _, _⟩ := id VN
      clear V7 B B9 F9 FA FN r91
      go_wp2_with fail
      go_region
      go_wp2
      refine bodyPost_ret (v := .tuple #[.int .i64 fp, .agg #[.bool false, .slice a5 vs.length c5, .bool false, .slice a6 ys.length c6]]) (by simp [results, Try.results22, go_sem, z0, z1, z2, z3]) rfl ?_
      exact ⟨a5, c5, vs, a6, c6, ys, by rw [hF], by rw [hF]; exact FD.out, BB⟩
end Go.Proofs.Ytcnmglghmianoaa
