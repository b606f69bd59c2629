/- The law on fractions of two whole numbers: FnRatio. -/
import Derived.Test.YtfddiojcahbkfaaDrawR
import Derived.Test.YtfddiojcahbkfaaBig
import Derived.Test.YtfddiojcahbkfaaFOf
import Derived.Test.YtfddiojcahbkfaaGcdI
import Derived.Test.YtfddiojcahbkfaaMulI
import Derived.Test.YtfddiojcahbkfaaOfW
import Derived.Test.YtfddiojcahbkfaaFracW
import Derived.Test.YtfddiojcahbkfaaSameN
import Derived.Test.YtfddiojcahbkfaaNumV
namespace Go.Proofs.Ytfddiojcahbkfaa
open Go.RowKit

theorem gcd_pos' {n d : Int} (h : d ≠ 0) : 0 < (Int.gcd n d : Int) := by
  have : 0 < Int.gcd n d := Nat.pos_of_ne_zero (fun e => h (Int.gcd_eq_zero_iff.1 e).2)
  omega
/-- The parts of a fraction, without what both have. -/
theorem parts {n d : Int} (h : d ≠ 0) : ∃ n' d' : Int, n = (Int.gcd n d : Int) * n' ∧ d = (Int.gcd n d : Int) * d' ∧ Int.gcd n' d' = 1 := by
  obtain ⟨n', hn⟩ := Int.gcd_dvd_left n d
  obtain ⟨d', hd⟩ := Int.gcd_dvd_right n d
  refine ⟨n', d', hn, hd, ?_⟩
  have hp := gcd_pos' (n := n) h
  have e : Int.gcd ((Int.gcd n d : Int) * n') ((Int.gcd n d : Int) * d') = Int.gcd n d := by rw [← hn, ← hd]
  rw [Int.gcd_mul_left] at e
  have e2 : Int.gcd n d * Int.gcd n' d' = Int.gcd n d * 1 := by simpa using e
  exact Nat.eq_of_mul_eq_mul_left (by omega) e2
theorem ratio_facts {n d : Int} (h : d ≠ 0) : Int.gcd (zN n d) (zD n d) = 1 ∧ 0 < zD n d ∧ zN n d * d = zD n d * n := by
  obtain ⟨n', d', hn, hd, hg⟩ := parts (n := n) h
  have hp := gcd_pos' (n := n) h
  unfold zN zD
  rw [if_neg h, if_neg h]
  generalize (Int.gcd n d : Int) = g at *
  unfold mg
  have hgn : g ≠ 0 := by omega
  by_cases hs : d < 0
  · rw [if_pos hs, if_pos hs]
    have e1 : -n / g = -n' := by rw [hn, show -(g * n') = g * -n' by rw [Int.mul_neg], Int.mul_ediv_cancel_left _ hgn]
    have e2 : -d / g = -d' := by rw [hd, show -(g * d') = g * -d' by rw [Int.mul_neg], Int.mul_ediv_cancel_left _ hgn]
    rw [e1, e2]
    refine ⟨by rw [Int.gcd_neg, Int.neg_gcd]; exact hg, ?_, by rw [hn, hd]; grind⟩
    have h1 : g * d' < 0 := by rw [← hd]; exact hs
    by_cases h2 : d' < 0
    · omega
    · have := Int.mul_nonneg (Int.le_of_lt hp) (show 0 ≤ d' by omega)
      omega
  · rw [if_neg hs, if_neg hs]
    have e1 : n / g = n' := by rw [hn, Int.mul_ediv_cancel_left _ hgn]
    have e2 : d / g = d' := by rw [hd, Int.mul_ediv_cancel_left _ hgn]
    rw [e1, e2]
    refine ⟨hg, ?_, by rw [hn, hd]; grind⟩
    have h1 : ¬ g * d' < 0 := by rw [← hd]; exact hs
    have h3 : g * d' ≠ 0 := by rw [← hd]; exact h
    rcases Int.lt_trichotomy d' 0 with h2 | h2 | h2
    · have := Int.mul_neg_of_pos_of_neg hp h2
      omega
    · rw [h2] at h3; simp at h3
    · exact h2
theorem zN_abs {n d : Int} (h : d ≠ 0) : mg (zN n d) ≤ mg n ∧ mg (zD n d) ≤ mg d := by
  obtain ⟨n', d', hn, hd, hg⟩ := parts (n := n) h
  have hp := gcd_pos' (n := n) h
  have hb : ∀ x : Int, mg x = (x.natAbs : Int) := by intro x; unfold mg; split <;> omega
  have hgn : (Int.gcd n d : Int) ≠ 0 := by omega
  have e1 : (zN n d).natAbs = n'.natAbs := by
    unfold zN
    rw [if_neg h]
    split
    · have : -n / (Int.gcd n d : Int) = -n' := by
        conv => lhs; arg 1; rw [hn]
        rw [show -((Int.gcd n d : Int) * n') = (Int.gcd n d : Int) * -n' by rw [Int.mul_neg], Int.mul_ediv_cancel_left _ hgn]
      rw [this, Int.natAbs_neg]
    · have : n / (Int.gcd n d : Int) = n' := by
        conv => lhs; arg 1; rw [hn]
        rw [Int.mul_ediv_cancel_left _ hgn]
      rw [this]
  have e2 : (zD n d).natAbs = d'.natAbs := by
    unfold zD
    rw [if_neg h]
    unfold mg
    split
    · have : -d / (Int.gcd n d : Int) = -d' := by
        conv => lhs; arg 1; rw [hd]
        rw [show -((Int.gcd n d : Int) * d') = (Int.gcd n d : Int) * -d' by rw [Int.mul_neg], Int.mul_ediv_cancel_left _ hgn]
      rw [this, Int.natAbs_neg]
    · have : d / (Int.gcd n d : Int) = d' := by
        conv => lhs; arg 1; rw [hd]
        rw [Int.mul_ediv_cancel_left _ hgn]
      rw [this]
  rw [hb, hb, hb, hb, e1, e2]
  have f : ∀ x y : Int, x = (Int.gcd n d : Int) * y → y.natAbs ≤ x.natAbs := by
    intro x y e
    rw [e, Int.natAbs_mul]
    exact Nat.le_mul_of_pos_left _ (by omega)
  have f1 := f n n' hn
  have f2 := f d d' hd
  omega

/-- What stays in memory while the law is asked: a fraction's parts, a number's, its one limb. -/
theorem keepR {W W' : World} {p q r o : Nat} {v0 v1 v2 v3 u0 u1 x : Value} (k : W.cell? ⟨p, 0, none⟩ = some v0 ∧ W.cell? ⟨p, 1, none⟩ = some v1 ∧ W.cell? ⟨p, 2, none⟩ = some v2 ∧ W.cell? ⟨p, 3, none⟩ = some v3 ∧ W.cell? ⟨q, 0, none⟩ = some u0 ∧ W.cell? ⟨q, 1, none⟩ = some u1 ∧ W.cell? ⟨r, o, none⟩ = some x) (hb : Below W.heap.size W W') :
    W'.cell? ⟨p, 0, none⟩ = some v0 ∧ W'.cell? ⟨p, 1, none⟩ = some v1 ∧ W'.cell? ⟨p, 2, none⟩ = some v2 ∧ W'.cell? ⟨p, 3, none⟩ = some v3 ∧ W'.cell? ⟨q, 0, none⟩ = some u0 ∧ W'.cell? ⟨q, 1, none⟩ = some u1 ∧ W'.cell? ⟨r, o, none⟩ = some x :=
  ⟨bat hb k.1, bat hb k.2.1, bat hb k.2.2.1, bat hb k.2.2.2.1, bat hb k.2.2.2.2.1, bat hb k.2.2.2.2.2.1, bat hb k.2.2.2.2.2.2⟩

set_option maxRecDepth 20000 in
set_option maxHeartbeats 8000000 in
theorem lawRatio (a : Option Addr) (n cap : Nat) (w : World) (hB : Byt w a n) :
    Calls Try.prog 5 #[.slice a n cap] w fun e w' => e = .returned (.bool true) ∧ Below w.heap.size w w' := by
  by_cases hs : n ≤ 1048576
  · have HM : Hid (n ≤ 1048576) := hs
    have hd : decide (1048576 < (n : Int)) = false := decide_eq_false (by omega)
    clear hs
    go_enter Try.func5, Try.ntmps5
    go_wp2_with fail
    refine (bigB_any a n cap _).mono ?_
    rintro e w0 ⟨rfl, rfl⟩
    rw [hd]
    clear hd
    go_wp2_with fail
    refine (drawFracOf_any a n cap _ hB HM.out).mono ?_
    rintro e w1 ⟨x, y, rfl, x0, x1, y0, y1, B0⟩
    clear hB HM
    go_wp2_with fail
    refine (implFracOf x y w1 x0 x1 y0 y1).mono ?_
    rintro e w2 ⟨v, rfl, hF, hb2⟩
    replace B0 := B0.trans (hb2.mono B0.size)
    clear hb2
    by_cases hy : y = 0
    · subst hy
      obtain ⟨a1, c1, qs, a2, c2, rs, rfl, _⟩ := hF
      go_wp2
      go_ret
      exact ⟨by simp, B0.trans ((below1 w2 _).mono B0.size)⟩
    · obtain ⟨r1, r2, r3⟩ := ratio_facts (n := x) hy
      obtain ⟨l1, l2⟩ := zN_abs (n := x) hy
      have hy' : (y == 0) = false := by rw [beq_eq_false_iff_ne]; exact hy
      rw [show decide (y ≠ 0) = true from decide_eq_true hy]
      generalize zN x y = N at *
      generalize zD x y = D at *
      have RF : Hid (Int.gcd N D = 1 ∧ 0 < D ∧ N * y = D * x ∧ mg N ≤ mg x ∧ mg D ≤ mg y) := ⟨r1, r2, r3, l1, l2⟩
      clear hy r1 r2 r3 l1 l2
      obtain ⟨a1, c1, qs, a2, c2, rs, rfl, o1, o2, n1, n2, v1, v2, _⟩ := hF
      have big : (4294967296 : Int) ^ 24 = 1552518092300708935148979488462502555256886017116696611139052038026050952686376886330878408828646477950487730697131073206171580044114814391444287275041181139204454976020849905550265285631598444825262999193716468750892846853816057856 := by decide
      have mx : mg x ≤ 9223372036854775808 := by unfold mg; split <;> omega
      have my : mg y ≤ 9223372036854775808 := by unfold mg; split <;> omega
      have s1 : qs.length ≤ 24 := len_le o1.lim n1 (by rw [v1, big]; have := RF.out.2.2.2.1; omega)
      have s2 : rs.length ≤ 24 := len_le o2.lim n2 (by rw [v2, big]; have := RF.out.2.2.2.2; omega)
      obtain ⟨p1, t1⟩ := tk_val o1.lim n1 s1 v1
      obtain ⟨p2, t2⟩ := tk_val o2.lim n2 s2 v2
      have FK : Hid (fOk (decide (N < 0)) qs (decide (D < 0)) rs = true) := by
        show _ = _
        unfold fOk cmpZ
        rw [p1, p2, t2, if_neg (by have := RF.out.2.1; omega), if_neg (by have := RF.out.2.1; omega)]
        rfl
      have TK : Hid (tk (decide (N < 0)) qs = N ∧ tk (decide (D < 0)) rs = D) := ⟨t1, t2⟩
      have V12 : Hid (val qs = mg N ∧ val rs = mg D ∧ mg x ≤ 9223372036854775808 ∧ mg y ≤ 9223372036854775808) := ⟨v1, v2, mx, my⟩
      have k0 := fvar_new w2 (decide (N < 0)) (decide (D < 0)) a1 a2 qs.length rs.length c1 c2 40
      have H1 := o1.toSees.below (below1 w2 (.cells #[.bool (decide (N < 0)), .slice a1 qs.length c1, .bool (decide (D < 0)), .slice a2 rs.length c2] 40))
      have H2 := o2.toSees.below (below1 w2 (.cells #[.bool (decide (N < 0)), .slice a1 qs.length c1, .bool (decide (D < 0)), .slice a2 rs.length c2] 40))
      clear p1 p2 t1 t2 v1 v2 mx my big s1 s2 o1 o2 n1 n2
      go_wp2_with fail
      replace B0 := B0.trans ((below1 w2 (.cells #[.bool (decide (N < 0)), .slice a1 qs.length c1, .bool (decide (D < 0)), .slice a2 rs.length c2] 40)).mono B0.size)
      refine (implGcd _ _ a1 a2 c1 c2 qs rs _ H1 H2).mono ?_
      rintro e w4 ⟨v, rfl, hI, hb⟩
      rw [TK.out.1, TK.out.2, RF.out.1] at hI
      have hI1 : IsNum (w2.alloc (.cells #[.bool (decide (N < 0)), .slice a1 qs.length c1, .bool (decide (D < 0)), .slice a2 rs.length c2] 40)).heap.size w4 v 1 := hI
      clear hI
      obtain ⟨a5, c5, us, rfl, o5, n5, v5⟩ := hI1
      obtain rfl : us = [1] := val_inj o5.lim (by intro z hz; simp at hz; omega) n5 (by simp [Nrm]) (by rw [v5]; rfl)
      obtain ⟨b5, off5, rfl, hc5⟩ := o5.cells (by simp)
      have u0 : w4.cell? ⟨b5, off5, none⟩ = some (.int .u32 1) := hc5 0 (by simp)
      rw [show decide ((1 : Int) < 0) = false from rfl, show ([1] : List Int).length = 1 from rfl]
      have q0 := bat hb k0.1
      have q1 := bat hb k0.2.1
      have q2 := bat hb k0.2.2.1
      have q3 := bat hb k0.2.2.2
      replace H1 := H1.below hb
      replace H2 := H2.below hb
      replace B0 := B0.trans (hb.mono B0.size)
      have hlt : w2.heap.size < w4.heap.size := World.block_lt_of_cell? _ _ q0
      have hlt5 : b5 < w4.heap.size := World.block_lt_of_cell? _ _ u0
      clear hc5 o5 n5 v5 k0 hb
      go_wp2_with fail
      have bn := below1 w4 (.cells #[.bool false, .slice (some ⟨b5, off5, none⟩) 1 c5] 26)
      have K : (fun w' : World => w'.cell? ⟨w2.heap.size, 0, none⟩ = some (.bool (decide (N < 0))) ∧ w'.cell? ⟨w2.heap.size, 1, none⟩ = some (.slice a1 qs.length c1) ∧ w'.cell? ⟨w2.heap.size, 2, none⟩ = some (.bool (decide (D < 0))) ∧ w'.cell? ⟨w2.heap.size, 3, none⟩ = some (.slice a2 rs.length c2) ∧ w'.cell? ⟨w4.heap.size, 0, none⟩ = some (.bool false) ∧ w'.cell? ⟨w4.heap.size, 1, none⟩ = some (.slice (some ⟨b5, off5, none⟩) 1 c5) ∧ w'.cell? ⟨b5, off5, none⟩ = some (.int .u32 1)) (w4.alloc (.cells #[.bool false, .slice (some ⟨b5, off5, none⟩) 1 c5] 26)) := ⟨bat bn q0, bat bn q1, bat bn q2, bat bn q3, cell_new _ _ _ 0 rfl, cell_new _ _ _ 1 rfl, bat bn u0⟩
      dsimp only at K
      replace H1 := H1.below bn
      replace H2 := H2.below bn
      replace B0 := B0.trans (bn.mono B0.size)
      generalize w4.alloc (.cells #[.bool false, .slice (some ⟨b5, off5, none⟩) 1 c5] 26) = W at *
      clear bn q0 q1 q2 q3 u0 hlt hlt5
      go_region_held3 (fun w' => w'.cell? ⟨w2.heap.size, 0, none⟩ = some (.bool (decide (N < 0))) ∧ w'.cell? ⟨w2.heap.size, 1, none⟩ = some (.slice a1 qs.length c1) ∧ w'.cell? ⟨w2.heap.size, 2, none⟩ = some (.bool (decide (D < 0))) ∧ w'.cell? ⟨w2.heap.size, 3, none⟩ = some (.slice a2 rs.length c2) ∧ w'.cell? ⟨w4.heap.size, 0, none⟩ = some (.bool false) ∧ w'.cell? ⟨w4.heap.size, 1, none⟩ = some (.slice (some ⟨b5, off5, none⟩) 1 c5) ∧ w'.cell? ⟨b5, off5, none⟩ = some (.int .u32 1))
        (first | exact K | exact k5 | exact k6 | exact k7 | exact k8 | exact k9 | exact k10)
        (first
        | (go_at_call 23; refine (implFracOk _ _ a1 a2 c1 c2 qs rs _ (H1.below (Below.refl _ _).drew) (H2.below (Below.refl _ _).drew)).mono ?_; rintro e w5 ⟨rfl, hb⟩; rw [FK.out]; have B5 := (Below.refl W.heap.size W).drew.trans (hb.mono (by simp)); have k5 := keepR K B5; clear hb)
        | (go_at_call_of 24 (Value.int .i64 y); refine (implOf y _ y0 y1).mono ?_; rintro e w6 ⟨v6, rfl, hI6, hb⟩; have B6 := B5.trans (hb.mono B5.size); have k6 := keepR K B6; clear hb; obtain ⟨a6, c6, u6, rfl, o6, n6, v6⟩ := hI6; have H6 : Hid (Nrm u6 ∧ val u6 = mg y) := ⟨n6, v6⟩; clear n6 v6)
        | (go_at_call_of 12 (Value.slice a1 qs.length c1); refine (implMul _ _ a1 a6 c1 c6 qs u6 _ (H1.below B6) o6.toSees).mono ?_; rintro e w7 ⟨v7, rfl, hI7, hb⟩; have B7 := B6.trans (hb.mono B6.size); have k7 := keepR K B7; clear hb; rw [TK.out.1, (tk_val o6.lim H6.out.1 (by refine len_le o6.lim H6.out.1 ?_; rw [H6.out.2]; exact Int.lt_of_le_of_lt V12.out.2.2.2 (by decide)) H6.out.2).2, RF.out.2.2.1] at hI7; clear o6 H6)
        | (go_at_call_of 24 (Value.int .i64 x); refine (implOf x _ x0 x1).mono ?_; rintro e w8 ⟨v8, rfl, hI8, hb⟩; have B8 := B7.trans (hb.mono B7.size); have k8 := keepR K B8; replace hI7 := hI7.below hb; clear hb; obtain ⟨a8, c8, u8, rfl, o8, n8, v8⟩ := hI8; have H8 : Hid (Nrm u8 ∧ val u8 = mg x) := ⟨n8, v8⟩; clear n8 v8)
        | (go_at_call_of 12 (Value.slice a2 rs.length c2); refine (implMul _ _ a2 a8 c2 c8 rs u8 _ (H2.below B8) o8.toSees).mono ?_; rintro e w9 ⟨v9, rfl, hI9, hb⟩; have B9 := B8.trans (hb.mono B8.size); have k9 := keepR K B9; replace hI7 := hI7.below hb; clear hb; rw [TK.out.2, (tk_val o8.lim H8.out.1 (by refine len_le o8.lim H8.out.1 ?_; rw [H8.out.2]; exact Int.lt_of_le_of_lt V12.out.2.2.1 (by decide)) H8.out.2).2] at hI9; clear o8 H8; obtain ⟨g9, a9, c9, a7, c7, ys, rfl, rfl, o9, o7, _, _⟩ := hI7.same hI9; clear hI7 hI9)
        | (go_at_call 13; refine (sameNumC g9 a9 a7 c9 c7 ys _ o9.toSees o7.toSees).mono ?_; rintro e w10 ⟨rfl, hb⟩; have B10 := B9.trans (hb.mono B9.size); have k10 := keepR K B10; clear hb))
      all_goals
        go_wp2
        go_ret
        exact ⟨rfl, B0.trans (B10.mono B0.size)⟩
  · have hd : decide (1048576 < (n : Int)) = true := decide_eq_true (by omega)
    go_enter Try.func5, Try.ntmps5
    go_wp2_with fail
    refine (bigB_any a n cap _).mono ?_
    rintro e w0 ⟨rfl, rfl⟩
    rw [hd]
    go_wp2
    go_ret
    exact ⟨rfl, Below.refl _ _⟩
end Go.Proofs.Ytfddiojcahbkfaa
