/- The law on fractions: FnFracs. -/
import Derived.Test.YtccdihglpobnmaaDoorDrawF
import Derived.Test.YtccdihglpobnmaaDoorFTxi
import Derived.Test.YtccdihglpobnmaaDoorLows
import Derived.Test.YtccdihglpobnmaaDoorFCmpI
import Derived.Test.YtccdihglpobnmaaDoorFloor
import Derived.Test.YtccdihglpobnmaaDoorAddF
import Derived.Test.YtccdihglpobnmaaDoorAddI
import Derived.Test.YtccdihglpobnmaaDoorCut
import Derived.Test.YtccdihglpobnmaaDoorEq
import Derived.Test.YtccdihglpobnmaaDoorCur
namespace Go.Proofs.YtccdihglpobnmaaDoor
open Go.RowKit

theorem cmpZ_le {a b : Int} (h : a ≤ b) : cmpZ a b ≤ 0 := by unfold cmpZ; split <;> (try split) <;> omega
theorem cmpZ_eq {a b : Int} (h : a = b) : cmpZ a b = 0 := by unfold cmpZ; rw [if_neg (by omega), if_pos h]
theorem cmpZ_gt {a b : Int} (h : b < a) : cmpZ a b = 1 := by unfold cmpZ; rw [if_neg (by omega), if_neg (by omega)]
theorem cmpZ_three (a b : Int) : (cmpZ a b = -1 ∧ cmpZ b a = 1) ∨ (cmpZ a b = 0 ∧ cmpZ b a = 0) ∨ (cmpZ a b = 1 ∧ cmpZ b a = -1) := by unfold cmpZ; split <;> split <;> (try split) <;> (try split) <;> omega
theorem p24_pos : (1 : Int) < 4294967296 ^ 24 := by decide
/-- A right fraction's parts. -/
theorem fnd_is {zs ts : List Int} {n d : Int} (l1 : Lim zs) (n1 : Nrm zs) (v1 : val zs = mg n) (l2 : Lim ts) (n2 : Nrm ts) (v2 : val ts = mg d) (hn : mg n < 4294967296 ^ 24) (hd : mg d < 4294967296 ^ 24) (h0 : 0 < d) :
    fOk (decide (n < 0)) zs (decide (d < 0)) ts = true ∧ fN (decide (n < 0)) zs (decide (d < 0)) ts = n ∧ fD (decide (n < 0)) zs (decide (d < 0)) ts = d := by
  obtain ⟨o1, t1⟩ := tk_val l1 n1 (len_le l1 n1 (by rw [v1]; exact hn)) v1
  obtain ⟨o2, t2⟩ := tk_val l2 n2 (len_le l2 n2 (by rw [v2]; exact hd)) v2
  have e : fOk (decide (n < 0)) zs (decide (d < 0)) ts = true := by
    unfold fOk
    rw [o1, o2, t2, cmpZ_gt h0]
    rfl
  unfold fN fD
  rw [if_pos e, if_pos e]
  exact ⟨e, t1, t2⟩
theorem fnd_bd (g h : Bool) {xs ys : List Int} (hx : Lim xs) (hy : Lim ys) : mg (fN g xs h ys) < 4294967296 ^ 24 ∧ mg (fD g xs h ys) < 4294967296 ^ 24 ∧ 0 < fD g xs h ys := by
  have h5 := p24_pos
  refine ⟨?_, ?_, fD_posF g xs h ys⟩
  · unfold fN
    split
    · have := tk_bounds g xs hx
      unfold mg
      split <;> omega
    · unfold mg; simp only [Int.lt_irrefl, if_false]; omega
  · unfold fD
    split
    · have := tk_bounds h ys hy
      unfold mg
      split <;> omega
    · show (1 : Int) < _
      exact h5
theorem low_same (n d : Int) (hd : 0 < d) : n * (d / (Int.gcd n d : Int)) = n / (Int.gcd n d : Int) * d := by
  have g0 : (Int.gcd n d : Int) ≠ 0 := by
    intro h
    have : Int.gcd n d = 0 := by omega
    have := (Int.gcd_eq_zero_iff.mp this).2
    omega
  obtain ⟨x, hx⟩ := Int.gcd_dvd_left n d
  obtain ⟨y, hy⟩ := Int.gcd_dvd_right n d
  generalize (Int.gcd n d : Int) = g at *
  subst hx
  subst hy
  rw [Int.mul_ediv_cancel_left _ g0, Int.mul_ediv_cancel_left _ g0]
  grind
theorem low_gcd (n d : Int) (hd : 0 < d) : Int.gcd (n / (Int.gcd n d : Int)) (d / (Int.gcd n d : Int)) = 1 := by
  have g0 : 0 < Int.gcd n d := by
    apply Nat.pos_of_ne_zero
    intro h
    have := (Int.gcd_eq_zero_iff.mp h).2
    omega
  exact Int.gcd_ediv_gcd_ediv_gcd g0
theorem floor_facts (n d : Int) (hd : 0 < d) : n / d * d ≤ n ∧ n < (n / d + 1) * d := by
  have e := Int.mul_ediv_add_emod n d
  have r0 := Int.emod_nonneg n (show d ≠ 0 by omega)
  have r1 := Int.emod_lt_of_pos n hd
  have c : n / d * d = d * (n / d) := Int.mul_comm _ _
  have c2 : (n / d + 1) * d = d * (n / d) + d := by rw [Int.add_mul, c]; omega
  omega
theorem floor_bd {n d P : Int} (h : mg n < P) : mg (n / d) < P := Int.lt_of_le_of_lt (quot_mg n d) h

set_option maxRecDepth 20000 in
set_option maxHeartbeats 16000000 in
theorem lawFracs (a : Option Addr) (n cap : Nat) (w : World) (hB : Byt w a n) (HT0 : ∀ w', Below w.heap.size w w' → Pow10 w') :
    Calls Tryd.prog 4 #[.slice a n cap] w fun e w' => e = .returned (.bool true) ∧ Below w.heap.size w w' := by
  have HT : Hid (∀ w', Below w.heap.size w w' → Pow10 w') := HT0
  clear HT0
  by_cases hs : n ≤ 1048576
  · have HM : Hid (n ≤ 1048576) := hs
    have hd : decide (1048576 < (n : Int)) = false := decide_eq_false (by omega)
    clear hs
    go_enter Tryd.func4, Tryd.ntmps4
    go_wp2_with fail
    refine (bigB_any a n cap _).mono ?_
    rintro e w0 ⟨rfl, rfl⟩
    rw [hd]
    clear hd
    go_wp2_with fail
    refine (drawAddFrac_any a n cap _ hB HM.out).mono ?_
    rintro e w1 ⟨v1, v2, rfl, A1, A2, B0⟩
    clear hB HM
    obtain ⟨g1, a1, c1, xs, h1, b1, e1, ys, rfl, o1, o2⟩ := A1.is'
    obtain ⟨g2, a2, c2, zs, h2, b2, e2, ts, rfl, o3, o4⟩ := A2.is'
    clear A1 A2
    have bn := below2 w1 (.cells #[.bool g1, .slice a1 xs.length c1, .bool h1, .slice b1 ys.length e1] 42) (.cells #[.bool g2, .slice a2 zs.length c2, .bool h2, .slice b2 ts.length e2] 42)
    have V3 := (Box4.new w1 (lo := 0) (by omega) (.bool g1) (.slice a1 xs.length c1) (.bool h1) (.slice b1 ys.length e1) 42).below (below1 _ (.cells #[.bool g2, .slice a2 zs.length c2, .bool h2, .slice b2 ts.length e2] 42))
    have V4 := Box4.new (w1.alloc (.cells #[.bool g1, .slice a1 xs.length c1, .bool h1, .slice b1 ys.length e1] 42)) (lo := 0) (by omega) (.bool g2) (.slice a2 zs.length c2) (.bool h2) (.slice b2 ts.length e2) 42
    rw [World.size_alloc] at V4
    have S1 := o1.toSees.below bn
    have S2 := o2.toSees.below bn
    have S3 := o3.toSees.below bn
    have S4 := o4.toSees.below bn
    replace B0 := B0.trans (bn.mono B0.size)
    clear o1 o2 o3 o4 bn
    obtain ⟨n1, Hn1⟩ : ∃ z, Hid (fN g1 xs h1 ys = z) := ⟨_, rfl⟩
    obtain ⟨d1, Hd1⟩ : ∃ z, Hid (fD g1 xs h1 ys = z) := ⟨_, rfl⟩
    obtain ⟨n2, Hn2⟩ : ∃ z, Hid (fN g2 zs h2 ts = z) := ⟨_, rfl⟩
    obtain ⟨d2, Hd2⟩ : ∃ z, Hid (fD g2 zs h2 ts = z) := ⟨_, rfl⟩
    have BD1 : Hid (mg n1 < 4294967296 ^ 24 ∧ mg d1 < 4294967296 ^ 24 ∧ 0 < d1) := by
      have := fnd_bd g1 h1 S1.lim S2.lim
      rw [Hn1.out, Hd1.out] at this
      exact this
    have BD2 : Hid (mg n2 < 4294967296 ^ 24 ∧ mg d2 < 4294967296 ^ 24 ∧ 0 < d2) := by
      have := fnd_bd g2 h2 S3.lim S4.lim
      rw [Hn2.out, Hd2.out] at this
      exact this
    obtain ⟨k0, k1, k2, k3, _, _⟩ := id V3
    go_wp2_with fail
    clear k0 k1 k2 k3
    generalize (w1.alloc (.cells #[.bool g1, .slice a1 xs.length c1, .bool h1, .slice b1 ys.length e1] 42)).alloc (.cells #[.bool g2, .slice a2 zs.length c2, .bool h2, .slice b2 ts.length e2] 42) = W1 at *
    generalize w1.heap.size = q1 at *
    obtain ⟨q, Hq⟩ : ∃ z, Hid (n1 / (Int.gcd n1 d1 : Int) = z) := ⟨_, rfl⟩
    obtain ⟨r, Hr⟩ : ∃ z, Hid (d1 / (Int.gcd n1 d1 : Int) = z) := ⟨_, rfl⟩
    have BQ : Hid (mg q < 4294967296 ^ 24 ∧ mg r < 4294967296 ^ 24 ∧ 0 < r ∧ n1 * r = q * d1 ∧ q / (Int.gcd q r : Int) = q ∧ r / (Int.gcd q r : Int) = r) := by
      have b := low_bd g1 h1 S1.lim S2.lim
      rw [Hn1.out, Hd1.out, Hq.out, Hr.out] at b
      have s := low_same n1 d1 BD1.out.2.2
      rw [Hq.out, Hr.out] at s
      have g := low_gcd n1 d1 BD1.out.2.2
      rw [Hq.out, Hr.out] at g
      refine ⟨b.1, b.2.1, b.2.2, s, ?_, ?_⟩ <;> rw [g] <;> simp
    refine (implLowest g1 h1 a1 b1 c1 e1 xs ys _ S1 S2).mono ?_
    rintro e w2 ⟨v, rfl, hI, hb⟩
    rw [Hn1.out, Hd1.out, Hq.out, Hr.out] at hI
    obtain ⟨a5, c5, us, b5, e5, vs, rfl, o5, o6, m5, m6, u5, u6, _⟩ := hI
    have KX := fnd_is o5.lim m5 u5 o6.lim m6 u6 BQ.out.1 BQ.out.2.1 BQ.out.2.2.1
    obtain ⟨f5, F5⟩ : ∃ f, Hid (decide (q < 0) = f) := ⟨_, rfl⟩
    obtain ⟨f6, F6⟩ : ∃ f, Hid (decide (r < 0) = f) := ⟨_, rfl⟩
    rw [F5.out, F6.out]
    rw [F5.out, F6.out] at KX
    have HKX : Hid (fOk f5 us f6 vs = true ∧ fN f5 us f6 vs = q ∧ fD f5 us f6 vs = r) := KX
    clear KX m5 m6 u5 u6 F5 F6
    replace V3 := V3.below hb
    replace V4 := V4.below hb
    replace S1 := S1.below hb
    replace S2 := S2.below hb
    replace S3 := S3.below hb
    replace S4 := S4.below hb
    replace B0 := B0.trans (hb.mono B0.size)
    clear hb
    have bn := below1 w2 (.cells #[.bool f5, .slice a5 us.length c5, .bool f6, .slice b5 vs.length e5] 42)
    have V5 := Box4.new w2 (lo := 0) (by omega) (.bool f5) (.slice a5 us.length c5) (.bool f6) (.slice b5 vs.length e5) 42
    have S5 := o5.toSees.below bn
    have S6 := o6.toSees.below bn
    clear o5 o6
    replace V3 := V3.below bn
    replace V4 := V4.below bn
    replace S1 := S1.below bn
    replace S2 := S2.below bn
    replace S3 := S3.below bn
    replace S4 := S4.below bn
    replace B0 := B0.trans (bn.mono B0.size)
    clear bn
    go_upto_region 5 with fail
    generalize w2.alloc (.cells #[.bool f5, .slice a5 us.length c5, .bool f6, .slice b5 vs.length e5] 42) = W5 at *
    generalize w2.heap.size = q5 at *
    obtain ⟨tx, HTX⟩ : ∃ t, Hid (frT q r = t) := ⟨_, rfl⟩
    go_cut [43] (fun s W => s = .bool false ∧ Below W5.heap.size W5 W)
    case first =>
      obtain ⟨k0, k1, k2, k3, _, _⟩ := id V3
      obtain ⟨m0, m1, m2, m3, _, _⟩ := id V4
      obtain ⟨j0, j1, j2, j3, _, _⟩ := id V5
      have D2 : Hid (cmpZ (n1 * r) (q * d1) = 0) := cmpZ_eq BQ.out.2.2.2.1
      obtain ⟨cc, dd, D3, D4, HCD⟩ : ∃ cc dd : Int, Hid (cmpZ (n1 * d2) (n2 * d1) = cc) ∧ Hid (cmpZ (n2 * d1) (n1 * d2) = dd) ∧ ((cc = -1 ∧ dd = 1) ∨ (cc = 0 ∧ dd = 0) ∨ (cc = 1 ∧ dd = -1)) := ⟨_, _, rfl, rfl, cmpZ_three _ _⟩
      rcases HCD with ⟨rfl, rfl⟩ | ⟨rfl, rfl⟩ | ⟨rfl, rfl⟩
      · as_aux_lemma =>
          refine wp_region_held_drew (S := Below W5.heap.size W5) (by kernel_rfl) ((Below.refl _ _).drew) (fun hHeld => ?_)
          have N : Below W5.heap.size W5 W5.drew := hHeld
          revert hHeld N
          generalize W5.drew = ww0
          intro hHeld N
          refine takeQ (i := 0) (gt rfl) (by kernel_rfl) (fun _ _ _ h => h) (by rfl) (by intro wq hSw; have q0 := bat hSw k0; have q1 := bat hSw k1; have q2 := bat hSw k2; have q3 := bat hSw k3; have q4 := bat hSw m0; have q5 := bat hSw m1; have q6 := bat hSw m2; have q7 := bat hSw m3; have q8 := bat hSw j0; have q9 := bat hSw j1; have q10 := bat hSw j2; have q11 := bat hSw j3; go_simp <;> with_reducible rfl) (by assumption) ?_
          try simp only [Act.put, sA, sB, sC]
          refine wpAnyH_ready (rs := [1]) (by kernel_rfl) (by simp) (AllReadyH.cons (gt rfl) (fun K hK => ?_) AllReadyH.nil)
          go_simp
          refine (implFracOk f5 f6 a5 b5 c5 e5 us vs _ (S5.below N) (S6.below N)).mono ?_
          rintro e1 ww1 ⟨rfl, hb⟩
          rw [HKX.out.1]
          replace N := N.trans (hb.mono N.size)
          clear hb
          refine hK.out _ _ N (fun hHeld => ?_)
          clear hK K
          try simp only [Act.put, sA, sB, sC]
          refine takeQ (i := 2) (gt rfl) (by kernel_rfl) (fun _ _ _ h => h) (by rfl) (by intro wq _; go_simp <;> with_reducible rfl) (by assumption) ?_
          try simp only [Act.put, sA, sB, sC]
          refine takeQ (i := 3) (gt rfl) (by kernel_rfl) (fun _ _ _ h => h) (by rfl) (by intro wq _; go_simp <;> with_reducible rfl) (by assumption) ?_
          try simp only [Act.put, sA, sB, sC]
          refine takeQ (i := 4) (gt rfl) (by kernel_rfl) (fun _ _ _ h => h) (by rfl) (by intro wq hSw; have q0 := bat hSw k0; have q1 := bat hSw k1; have q2 := bat hSw k2; have q3 := bat hSw k3; have q4 := bat hSw m0; have q5 := bat hSw m1; have q6 := bat hSw m2; have q7 := bat hSw m3; have q8 := bat hSw j0; have q9 := bat hSw j1; have q10 := bat hSw j2; have q11 := bat hSw j3; go_simp <;> with_reducible rfl) (by assumption) ?_
          try simp only [Act.put, sA, sB, sC]
          refine takeQ (i := 5) (gt rfl) (by kernel_rfl) (fun _ _ _ h => h) (by rfl) (by intro wq hSw; have q0 := bat hSw k0; have q1 := bat hSw k1; have q2 := bat hSw k2; have q3 := bat hSw k3; have q4 := bat hSw m0; have q5 := bat hSw m1; have q6 := bat hSw m2; have q7 := bat hSw m3; have q8 := bat hSw j0; have q9 := bat hSw j1; have q10 := bat hSw j2; have q11 := bat hSw j3; go_simp <;> with_reducible rfl) (by assumption) ?_
          try simp only [Act.put, sA, sB, sC]
          refine wpAnyH_ready (rs := [6]) (by kernel_rfl) (by simp) (AllReadyH.cons (gt rfl) (fun K hK => ?_) AllReadyH.nil)
          go_simp
          refine (implCmpFrac g1 h1 f5 f6 a1 b1 a5 b5 c1 e1 c5 e5 xs ys us vs _ (S1.below N) (S2.below N) (S5.below N) (S6.below N)).mono ?_
          rintro e1 ww2 ⟨rfl, hb⟩
          rw [Hn1.out, Hd1.out, HKX.out.2.1, HKX.out.2.2, D2.out]
          replace N := N.trans (hb.mono N.size)
          clear hb
          refine hK.out _ _ N (fun hHeld => ?_)
          clear hK K
          try simp only [Act.put, sA, sB, sC]
          refine takeQ (i := 7) (gt rfl) (by kernel_rfl) (fun _ _ _ h => h) (by rfl) (by intro wq _; go_simp <;> with_reducible rfl) (by assumption) ?_
          try simp only [Act.put, sA, sB, sC]
          refine takeQ (i := 8) (gt rfl) (by kernel_rfl) (fun _ _ _ h => h) (by rfl) (by intro wq _; go_simp <;> with_reducible rfl) (by assumption) ?_
          try simp only [Act.put, sA, sB, sC]
          refine takeQ (i := 9) (gt rfl) (by kernel_rfl) (fun _ _ _ h => h) (by rfl) (by intro wq _; go_simp <;> with_reducible rfl) (by assumption) ?_
          try simp only [Act.put, sA, sB, sC]
          refine takeQ (i := 10) (gt rfl) (by kernel_rfl) (fun _ _ _ h => h) (by rfl) (by intro wq hSw; have q0 := bat hSw k0; have q1 := bat hSw k1; have q2 := bat hSw k2; have q3 := bat hSw k3; have q4 := bat hSw m0; have q5 := bat hSw m1; have q6 := bat hSw m2; have q7 := bat hSw m3; have q8 := bat hSw j0; have q9 := bat hSw j1; have q10 := bat hSw j2; have q11 := bat hSw j3; go_simp <;> with_reducible rfl) (by assumption) ?_
          try simp only [Act.put, sA, sB, sC]
          refine takeQ (i := 11) (gt rfl) (by kernel_rfl) (fun _ _ _ h => h) (by rfl) (by intro wq hSw; have q0 := bat hSw k0; have q1 := bat hSw k1; have q2 := bat hSw k2; have q3 := bat hSw k3; have q4 := bat hSw m0; have q5 := bat hSw m1; have q6 := bat hSw m2; have q7 := bat hSw m3; have q8 := bat hSw j0; have q9 := bat hSw j1; have q10 := bat hSw j2; have q11 := bat hSw j3; go_simp <;> with_reducible rfl) (by assumption) ?_
          try simp only [Act.put, sA, sB, sC]
          refine takeQ (i := 13) (gt rfl) (by kernel_rfl) (fun _ _ _ h => h) (by rfl) (by intro wq hSw; have q0 := bat hSw k0; have q1 := bat hSw k1; have q2 := bat hSw k2; have q3 := bat hSw k3; have q4 := bat hSw m0; have q5 := bat hSw m1; have q6 := bat hSw m2; have q7 := bat hSw m3; have q8 := bat hSw j0; have q9 := bat hSw j1; have q10 := bat hSw j2; have q11 := bat hSw j3; go_simp <;> with_reducible rfl) (by assumption) ?_
          try simp only [Act.put, sA, sB, sC]
          refine takeQ (i := 14) (gt rfl) (by kernel_rfl) (fun _ _ _ h => h) (by rfl) (by intro wq hSw; have q0 := bat hSw k0; have q1 := bat hSw k1; have q2 := bat hSw k2; have q3 := bat hSw k3; have q4 := bat hSw m0; have q5 := bat hSw m1; have q6 := bat hSw m2; have q7 := bat hSw m3; have q8 := bat hSw j0; have q9 := bat hSw j1; have q10 := bat hSw j2; have q11 := bat hSw j3; go_simp <;> with_reducible rfl) (by assumption) ?_
          try simp only [Act.put, sA, sB, sC]
          refine wpAnyH_ready (rs := [12]) (by kernel_rfl) (by simp) (AllReadyH.cons (gt rfl) (fun K hK => ?_) AllReadyH.nil)
          go_simp
          refine (implCmpFrac g1 h1 g2 h2 a1 b1 a2 b2 c1 e1 c2 e2 xs ys zs ts _ (S1.below N) (S2.below N) (S3.below N) (S4.below N)).mono ?_
          rintro e1 ww3 ⟨rfl, hb⟩
          rw [Hn1.out, Hd1.out, Hn2.out, Hd2.out, D3.out]
          replace N := N.trans (hb.mono N.size)
          clear hb
          refine hK.out _ _ N (fun hHeld => ?_)
          clear hK K
          try simp only [Act.put, sA, sB, sC]
          refine wpAnyH_ready (rs := [15]) (by kernel_rfl) (by simp) (AllReadyH.cons (gt rfl) (fun K hK => ?_) AllReadyH.nil)
          go_simp
          refine (implCmpFrac g2 h2 g1 h1 a2 b2 a1 b1 c2 e2 c1 e1 zs ts xs ys _ (S3.below N) (S4.below N) (S1.below N) (S2.below N)).mono ?_
          rintro e1 ww4 ⟨rfl, hb⟩
          rw [Hn1.out, Hd1.out, Hn2.out, Hd2.out, D4.out]
          replace N := N.trans (hb.mono N.size)
          clear hb
          refine hK.out _ _ N (fun hHeld => ?_)
          clear hK K
          try simp only [Act.put, sA, sB, sC]
          refine takeQ (i := 16) (gt rfl) (by kernel_rfl) (fun _ _ _ h => h) (by rfl) (by intro wq _; go_simp <;> with_reducible rfl) (by assumption) ?_
          try simp only [Act.put, sA, sB, sC]
          refine takeQ (i := 17) (gt rfl) (by kernel_rfl) (fun _ _ _ h => h) (by rfl) (by intro wq _; go_simp <;> with_reducible rfl) (by assumption) ?_
          try simp only [Act.put, sA, sB, sC]
          refine takeQ (i := 18) (gt rfl) (by kernel_rfl) (fun _ _ _ h => h) (by rfl) (by intro wq _; go_simp <;> with_reducible rfl) (by assumption) ?_
          try simp only [Act.put, sA, sB, sC]
          refine takeQ (i := 19) (gt rfl) (by kernel_rfl) (fun _ _ _ h => h) (by rfl) (by intro wq _; go_simp <;> with_reducible rfl) (by assumption) ?_
          try simp only [Act.put, sA, sB, sC]
          refine takeQ (i := 20) (gt rfl) (by kernel_rfl) (fun _ _ _ h => h) (by rfl) (by intro wq hSw; have q0 := bat hSw k0; have q1 := bat hSw k1; have q2 := bat hSw k2; have q3 := bat hSw k3; have q4 := bat hSw m0; have q5 := bat hSw m1; have q6 := bat hSw m2; have q7 := bat hSw m3; have q8 := bat hSw j0; have q9 := bat hSw j1; have q10 := bat hSw j2; have q11 := bat hSw j3; go_simp <;> with_reducible rfl) (by assumption) ?_
          try simp only [Act.put, sA, sB, sC]
          refine takeQ (i := 22) (gt rfl) (by kernel_rfl) (fun _ _ _ h => h) (by rfl) (by intro wq hSw; have q0 := bat hSw k0; have q1 := bat hSw k1; have q2 := bat hSw k2; have q3 := bat hSw k3; have q4 := bat hSw m0; have q5 := bat hSw m1; have q6 := bat hSw m2; have q7 := bat hSw m3; have q8 := bat hSw j0; have q9 := bat hSw j1; have q10 := bat hSw j2; have q11 := bat hSw j3; go_simp <;> with_reducible rfl) (by assumption) ?_
          try simp only [Act.put, sA, sB, sC]
          refine wpAnyH_ready (rs := [21]) (by kernel_rfl) (by simp) (AllReadyH.cons (gt rfl) (fun K hK => ?_) AllReadyH.nil)
          go_simp
          refine (implFracText g1 h1 a1 b1 c1 e1 xs ys _ (S1.below N) (S2.below N) (fun w' hb => HT.out w' ((B0.trans (N.mono B0.size)).trans (hb.mono (B0.trans (N.mono B0.size)).size)))).mono ?_
          rintro e1 ww5 ⟨rfl, hb⟩
          rw [Hn1.out, Hd1.out, Hq.out, Hr.out, HTX.out]
          replace N := N.trans (hb.mono N.size)
          clear hb
          refine hK.out _ _ N (fun hHeld => ?_)
          clear hK K
          try simp only [Act.put, sA, sB, sC]
          refine wpAnyH_ready (rs := [23]) (by kernel_rfl) (by simp) (AllReadyH.cons (gt rfl) (fun K hK => ?_) AllReadyH.nil)
          go_simp
          refine (implFracText f5 f6 a5 b5 c5 e5 us vs _ (S5.below N) (S6.below N) (fun w' hb => HT.out w' ((B0.trans (N.mono B0.size)).trans (hb.mono (B0.trans (N.mono B0.size)).size)))).mono ?_
          rintro e1 ww6 ⟨rfl, hb⟩
          rw [HKX.out.2.1, HKX.out.2.2, BQ.out.2.2.2.2.1, BQ.out.2.2.2.2.2, HTX.out]
          replace N := N.trans (hb.mono N.size)
          clear hb
          refine hK.out _ _ N (fun hHeld => ?_)
          clear hK K
          try simp only [Act.put, sA, sB, sC]
          refine takeQ (i := 24) (gt rfl) (by kernel_rfl) (fun _ _ _ h => h) (by rfl) (by intro wq _; go_simp <;> with_reducible rfl) (by assumption) ?_
          try simp only [Act.put, sA, sB, sC]
          refine takeQ (i := 25) (gt rfl) (by kernel_rfl) (fun _ _ _ h => h) (by rfl) (by intro wq _; go_simp <;> with_reducible rfl) (by assumption) ?_
          try simp only [Act.put, sA, sB, sC]
          refine wpAnyH_done (by kernel_rfl) ?_ _
          go_wp2
          go_meet
          case rel => exact ⟨rfl, N⟩
      · as_aux_lemma =>
          refine wp_region_held_drew (S := Below W5.heap.size W5) (by kernel_rfl) ((Below.refl _ _).drew) (fun hHeld => ?_)
          have N : Below W5.heap.size W5 W5.drew := hHeld
          revert hHeld N
          generalize W5.drew = ww0
          intro hHeld N
          refine takeQ (i := 0) (gt rfl) (by kernel_rfl) (fun _ _ _ h => h) (by rfl) (by intro wq hSw; have q0 := bat hSw k0; have q1 := bat hSw k1; have q2 := bat hSw k2; have q3 := bat hSw k3; have q4 := bat hSw m0; have q5 := bat hSw m1; have q6 := bat hSw m2; have q7 := bat hSw m3; have q8 := bat hSw j0; have q9 := bat hSw j1; have q10 := bat hSw j2; have q11 := bat hSw j3; go_simp <;> with_reducible rfl) (by assumption) ?_
          try simp only [Act.put, sA, sB, sC]
          refine wpAnyH_ready (rs := [1]) (by kernel_rfl) (by simp) (AllReadyH.cons (gt rfl) (fun K hK => ?_) AllReadyH.nil)
          go_simp
          refine (implFracOk f5 f6 a5 b5 c5 e5 us vs _ (S5.below N) (S6.below N)).mono ?_
          rintro e1 ww1 ⟨rfl, hb⟩
          rw [HKX.out.1]
          replace N := N.trans (hb.mono N.size)
          clear hb
          refine hK.out _ _ N (fun hHeld => ?_)
          clear hK K
          try simp only [Act.put, sA, sB, sC]
          refine takeQ (i := 2) (gt rfl) (by kernel_rfl) (fun _ _ _ h => h) (by rfl) (by intro wq _; go_simp <;> with_reducible rfl) (by assumption) ?_
          try simp only [Act.put, sA, sB, sC]
          refine takeQ (i := 3) (gt rfl) (by kernel_rfl) (fun _ _ _ h => h) (by rfl) (by intro wq _; go_simp <;> with_reducible rfl) (by assumption) ?_
          try simp only [Act.put, sA, sB, sC]
          refine takeQ (i := 4) (gt rfl) (by kernel_rfl) (fun _ _ _ h => h) (by rfl) (by intro wq hSw; have q0 := bat hSw k0; have q1 := bat hSw k1; have q2 := bat hSw k2; have q3 := bat hSw k3; have q4 := bat hSw m0; have q5 := bat hSw m1; have q6 := bat hSw m2; have q7 := bat hSw m3; have q8 := bat hSw j0; have q9 := bat hSw j1; have q10 := bat hSw j2; have q11 := bat hSw j3; go_simp <;> with_reducible rfl) (by assumption) ?_
          try simp only [Act.put, sA, sB, sC]
          refine takeQ (i := 5) (gt rfl) (by kernel_rfl) (fun _ _ _ h => h) (by rfl) (by intro wq hSw; have q0 := bat hSw k0; have q1 := bat hSw k1; have q2 := bat hSw k2; have q3 := bat hSw k3; have q4 := bat hSw m0; have q5 := bat hSw m1; have q6 := bat hSw m2; have q7 := bat hSw m3; have q8 := bat hSw j0; have q9 := bat hSw j1; have q10 := bat hSw j2; have q11 := bat hSw j3; go_simp <;> with_reducible rfl) (by assumption) ?_
          try simp only [Act.put, sA, sB, sC]
          refine wpAnyH_ready (rs := [6]) (by kernel_rfl) (by simp) (AllReadyH.cons (gt rfl) (fun K hK => ?_) AllReadyH.nil)
          go_simp
          refine (implCmpFrac g1 h1 f5 f6 a1 b1 a5 b5 c1 e1 c5 e5 xs ys us vs _ (S1.below N) (S2.below N) (S5.below N) (S6.below N)).mono ?_
          rintro e1 ww2 ⟨rfl, hb⟩
          rw [Hn1.out, Hd1.out, HKX.out.2.1, HKX.out.2.2, D2.out]
          replace N := N.trans (hb.mono N.size)
          clear hb
          refine hK.out _ _ N (fun hHeld => ?_)
          clear hK K
          try simp only [Act.put, sA, sB, sC]
          refine takeQ (i := 7) (gt rfl) (by kernel_rfl) (fun _ _ _ h => h) (by rfl) (by intro wq _; go_simp <;> with_reducible rfl) (by assumption) ?_
          try simp only [Act.put, sA, sB, sC]
          refine takeQ (i := 8) (gt rfl) (by kernel_rfl) (fun _ _ _ h => h) (by rfl) (by intro wq _; go_simp <;> with_reducible rfl) (by assumption) ?_
          try simp only [Act.put, sA, sB, sC]
          refine takeQ (i := 9) (gt rfl) (by kernel_rfl) (fun _ _ _ h => h) (by rfl) (by intro wq _; go_simp <;> with_reducible rfl) (by assumption) ?_
          try simp only [Act.put, sA, sB, sC]
          refine takeQ (i := 10) (gt rfl) (by kernel_rfl) (fun _ _ _ h => h) (by rfl) (by intro wq hSw; have q0 := bat hSw k0; have q1 := bat hSw k1; have q2 := bat hSw k2; have q3 := bat hSw k3; have q4 := bat hSw m0; have q5 := bat hSw m1; have q6 := bat hSw m2; have q7 := bat hSw m3; have q8 := bat hSw j0; have q9 := bat hSw j1; have q10 := bat hSw j2; have q11 := bat hSw j3; go_simp <;> with_reducible rfl) (by assumption) ?_
          try simp only [Act.put, sA, sB, sC]
          refine takeQ (i := 11) (gt rfl) (by kernel_rfl) (fun _ _ _ h => h) (by rfl) (by intro wq hSw; have q0 := bat hSw k0; have q1 := bat hSw k1; have q2 := bat hSw k2; have q3 := bat hSw k3; have q4 := bat hSw m0; have q5 := bat hSw m1; have q6 := bat hSw m2; have q7 := bat hSw m3; have q8 := bat hSw j0; have q9 := bat hSw j1; have q10 := bat hSw j2; have q11 := bat hSw j3; go_simp <;> with_reducible rfl) (by assumption) ?_
          try simp only [Act.put, sA, sB, sC]
          refine takeQ (i := 13) (gt rfl) (by kernel_rfl) (fun _ _ _ h => h) (by rfl) (by intro wq hSw; have q0 := bat hSw k0; have q1 := bat hSw k1; have q2 := bat hSw k2; have q3 := bat hSw k3; have q4 := bat hSw m0; have q5 := bat hSw m1; have q6 := bat hSw m2; have q7 := bat hSw m3; have q8 := bat hSw j0; have q9 := bat hSw j1; have q10 := bat hSw j2; have q11 := bat hSw j3; go_simp <;> with_reducible rfl) (by assumption) ?_
          try simp only [Act.put, sA, sB, sC]
          refine takeQ (i := 14) (gt rfl) (by kernel_rfl) (fun _ _ _ h => h) (by rfl) (by intro wq hSw; have q0 := bat hSw k0; have q1 := bat hSw k1; have q2 := bat hSw k2; have q3 := bat hSw k3; have q4 := bat hSw m0; have q5 := bat hSw m1; have q6 := bat hSw m2; have q7 := bat hSw m3; have q8 := bat hSw j0; have q9 := bat hSw j1; have q10 := bat hSw j2; have q11 := bat hSw j3; go_simp <;> with_reducible rfl) (by assumption) ?_
          try simp only [Act.put, sA, sB, sC]
          refine wpAnyH_ready (rs := [12]) (by kernel_rfl) (by simp) (AllReadyH.cons (gt rfl) (fun K hK => ?_) AllReadyH.nil)
          go_simp
          refine (implCmpFrac g1 h1 g2 h2 a1 b1 a2 b2 c1 e1 c2 e2 xs ys zs ts _ (S1.below N) (S2.below N) (S3.below N) (S4.below N)).mono ?_
          rintro e1 ww3 ⟨rfl, hb⟩
          rw [Hn1.out, Hd1.out, Hn2.out, Hd2.out, D3.out]
          replace N := N.trans (hb.mono N.size)
          clear hb
          refine hK.out _ _ N (fun hHeld => ?_)
          clear hK K
          try simp only [Act.put, sA, sB, sC]
          refine wpAnyH_ready (rs := [15]) (by kernel_rfl) (by simp) (AllReadyH.cons (gt rfl) (fun K hK => ?_) AllReadyH.nil)
          go_simp
          refine (implCmpFrac g2 h2 g1 h1 a2 b2 a1 b1 c2 e2 c1 e1 zs ts xs ys _ (S3.below N) (S4.below N) (S1.below N) (S2.below N)).mono ?_
          rintro e1 ww4 ⟨rfl, hb⟩
          rw [Hn1.out, Hd1.out, Hn2.out, Hd2.out, D4.out]
          replace N := N.trans (hb.mono N.size)
          clear hb
          refine hK.out _ _ N (fun hHeld => ?_)
          clear hK K
          try simp only [Act.put, sA, sB, sC]
          refine takeQ (i := 16) (gt rfl) (by kernel_rfl) (fun _ _ _ h => h) (by rfl) (by intro wq _; go_simp <;> with_reducible rfl) (by assumption) ?_
          try simp only [Act.put, sA, sB, sC]
          refine takeQ (i := 17) (gt rfl) (by kernel_rfl) (fun _ _ _ h => h) (by rfl) (by intro wq _; go_simp <;> with_reducible rfl) (by assumption) ?_
          try simp only [Act.put, sA, sB, sC]
          refine takeQ (i := 18) (gt rfl) (by kernel_rfl) (fun _ _ _ h => h) (by rfl) (by intro wq _; go_simp <;> with_reducible rfl) (by assumption) ?_
          try simp only [Act.put, sA, sB, sC]
          refine takeQ (i := 19) (gt rfl) (by kernel_rfl) (fun _ _ _ h => h) (by rfl) (by intro wq _; go_simp <;> with_reducible rfl) (by assumption) ?_
          try simp only [Act.put, sA, sB, sC]
          refine takeQ (i := 20) (gt rfl) (by kernel_rfl) (fun _ _ _ h => h) (by rfl) (by intro wq hSw; have q0 := bat hSw k0; have q1 := bat hSw k1; have q2 := bat hSw k2; have q3 := bat hSw k3; have q4 := bat hSw m0; have q5 := bat hSw m1; have q6 := bat hSw m2; have q7 := bat hSw m3; have q8 := bat hSw j0; have q9 := bat hSw j1; have q10 := bat hSw j2; have q11 := bat hSw j3; go_simp <;> with_reducible rfl) (by assumption) ?_
          try simp only [Act.put, sA, sB, sC]
          refine takeQ (i := 22) (gt rfl) (by kernel_rfl) (fun _ _ _ h => h) (by rfl) (by intro wq hSw; have q0 := bat hSw k0; have q1 := bat hSw k1; have q2 := bat hSw k2; have q3 := bat hSw k3; have q4 := bat hSw m0; have q5 := bat hSw m1; have q6 := bat hSw m2; have q7 := bat hSw m3; have q8 := bat hSw j0; have q9 := bat hSw j1; have q10 := bat hSw j2; have q11 := bat hSw j3; go_simp <;> with_reducible rfl) (by assumption) ?_
          try simp only [Act.put, sA, sB, sC]
          refine wpAnyH_ready (rs := [21]) (by kernel_rfl) (by simp) (AllReadyH.cons (gt rfl) (fun K hK => ?_) AllReadyH.nil)
          go_simp
          refine (implFracText g1 h1 a1 b1 c1 e1 xs ys _ (S1.below N) (S2.below N) (fun w' hb => HT.out w' ((B0.trans (N.mono B0.size)).trans (hb.mono (B0.trans (N.mono B0.size)).size)))).mono ?_
          rintro e1 ww5 ⟨rfl, hb⟩
          rw [Hn1.out, Hd1.out, Hq.out, Hr.out, HTX.out]
          replace N := N.trans (hb.mono N.size)
          clear hb
          refine hK.out _ _ N (fun hHeld => ?_)
          clear hK K
          try simp only [Act.put, sA, sB, sC]
          refine wpAnyH_ready (rs := [23]) (by kernel_rfl) (by simp) (AllReadyH.cons (gt rfl) (fun K hK => ?_) AllReadyH.nil)
          go_simp
          refine (implFracText f5 f6 a5 b5 c5 e5 us vs _ (S5.below N) (S6.below N) (fun w' hb => HT.out w' ((B0.trans (N.mono B0.size)).trans (hb.mono (B0.trans (N.mono B0.size)).size)))).mono ?_
          rintro e1 ww6 ⟨rfl, hb⟩
          rw [HKX.out.2.1, HKX.out.2.2, BQ.out.2.2.2.2.1, BQ.out.2.2.2.2.2, HTX.out]
          replace N := N.trans (hb.mono N.size)
          clear hb
          refine hK.out _ _ N (fun hHeld => ?_)
          clear hK K
          try simp only [Act.put, sA, sB, sC]
          refine takeQ (i := 24) (gt rfl) (by kernel_rfl) (fun _ _ _ h => h) (by rfl) (by intro wq _; go_simp <;> with_reducible rfl) (by assumption) ?_
          try simp only [Act.put, sA, sB, sC]
          refine takeQ (i := 25) (gt rfl) (by kernel_rfl) (fun _ _ _ h => h) (by rfl) (by intro wq _; go_simp <;> with_reducible rfl) (by assumption) ?_
          try simp only [Act.put, sA, sB, sC]
          refine wpAnyH_done (by kernel_rfl) ?_ _
          go_wp2
          go_meet
          case rel => exact ⟨rfl, N⟩
      · as_aux_lemma =>
          refine wp_region_held_drew (S := Below W5.heap.size W5) (by kernel_rfl) ((Below.refl _ _).drew) (fun hHeld => ?_)
          have N : Below W5.heap.size W5 W5.drew := hHeld
          revert hHeld N
          generalize W5.drew = ww0
          intro hHeld N
          refine takeQ (i := 0) (gt rfl) (by kernel_rfl) (fun _ _ _ h => h) (by rfl) (by intro wq hSw; have q0 := bat hSw k0; have q1 := bat hSw k1; have q2 := bat hSw k2; have q3 := bat hSw k3; have q4 := bat hSw m0; have q5 := bat hSw m1; have q6 := bat hSw m2; have q7 := bat hSw m3; have q8 := bat hSw j0; have q9 := bat hSw j1; have q10 := bat hSw j2; have q11 := bat hSw j3; go_simp <;> with_reducible rfl) (by assumption) ?_
          try simp only [Act.put, sA, sB, sC]
          refine wpAnyH_ready (rs := [1]) (by kernel_rfl) (by simp) (AllReadyH.cons (gt rfl) (fun K hK => ?_) AllReadyH.nil)
          go_simp
          refine (implFracOk f5 f6 a5 b5 c5 e5 us vs _ (S5.below N) (S6.below N)).mono ?_
          rintro e1 ww1 ⟨rfl, hb⟩
          rw [HKX.out.1]
          replace N := N.trans (hb.mono N.size)
          clear hb
          refine hK.out _ _ N (fun hHeld => ?_)
          clear hK K
          try simp only [Act.put, sA, sB, sC]
          refine takeQ (i := 2) (gt rfl) (by kernel_rfl) (fun _ _ _ h => h) (by rfl) (by intro wq _; go_simp <;> with_reducible rfl) (by assumption) ?_
          try simp only [Act.put, sA, sB, sC]
          refine takeQ (i := 3) (gt rfl) (by kernel_rfl) (fun _ _ _ h => h) (by rfl) (by intro wq _; go_simp <;> with_reducible rfl) (by assumption) ?_
          try simp only [Act.put, sA, sB, sC]
          refine takeQ (i := 4) (gt rfl) (by kernel_rfl) (fun _ _ _ h => h) (by rfl) (by intro wq hSw; have q0 := bat hSw k0; have q1 := bat hSw k1; have q2 := bat hSw k2; have q3 := bat hSw k3; have q4 := bat hSw m0; have q5 := bat hSw m1; have q6 := bat hSw m2; have q7 := bat hSw m3; have q8 := bat hSw j0; have q9 := bat hSw j1; have q10 := bat hSw j2; have q11 := bat hSw j3; go_simp <;> with_reducible rfl) (by assumption) ?_
          try simp only [Act.put, sA, sB, sC]
          refine takeQ (i := 5) (gt rfl) (by kernel_rfl) (fun _ _ _ h => h) (by rfl) (by intro wq hSw; have q0 := bat hSw k0; have q1 := bat hSw k1; have q2 := bat hSw k2; have q3 := bat hSw k3; have q4 := bat hSw m0; have q5 := bat hSw m1; have q6 := bat hSw m2; have q7 := bat hSw m3; have q8 := bat hSw j0; have q9 := bat hSw j1; have q10 := bat hSw j2; have q11 := bat hSw j3; go_simp <;> with_reducible rfl) (by assumption) ?_
          try simp only [Act.put, sA, sB, sC]
          refine wpAnyH_ready (rs := [6]) (by kernel_rfl) (by simp) (AllReadyH.cons (gt rfl) (fun K hK => ?_) AllReadyH.nil)
          go_simp
          refine (implCmpFrac g1 h1 f5 f6 a1 b1 a5 b5 c1 e1 c5 e5 xs ys us vs _ (S1.below N) (S2.below N) (S5.below N) (S6.below N)).mono ?_
          rintro e1 ww2 ⟨rfl, hb⟩
          rw [Hn1.out, Hd1.out, HKX.out.2.1, HKX.out.2.2, D2.out]
          replace N := N.trans (hb.mono N.size)
          clear hb
          refine hK.out _ _ N (fun hHeld => ?_)
          clear hK K
          try simp only [Act.put, sA, sB, sC]
          refine takeQ (i := 7) (gt rfl) (by kernel_rfl) (fun _ _ _ h => h) (by rfl) (by intro wq _; go_simp <;> with_reducible rfl) (by assumption) ?_
          try simp only [Act.put, sA, sB, sC]
          refine takeQ (i := 8) (gt rfl) (by kernel_rfl) (fun _ _ _ h => h) (by rfl) (by intro wq _; go_simp <;> with_reducible rfl) (by assumption) ?_
          try simp only [Act.put, sA, sB, sC]
          refine takeQ (i := 9) (gt rfl) (by kernel_rfl) (fun _ _ _ h => h) (by rfl) (by intro wq _; go_simp <;> with_reducible rfl) (by assumption) ?_
          try simp only [Act.put, sA, sB, sC]
          refine takeQ (i := 10) (gt rfl) (by kernel_rfl) (fun _ _ _ h => h) (by rfl) (by intro wq hSw; have q0 := bat hSw k0; have q1 := bat hSw k1; have q2 := bat hSw k2; have q3 := bat hSw k3; have q4 := bat hSw m0; have q5 := bat hSw m1; have q6 := bat hSw m2; have q7 := bat hSw m3; have q8 := bat hSw j0; have q9 := bat hSw j1; have q10 := bat hSw j2; have q11 := bat hSw j3; go_simp <;> with_reducible rfl) (by assumption) ?_
          try simp only [Act.put, sA, sB, sC]
          refine takeQ (i := 11) (gt rfl) (by kernel_rfl) (fun _ _ _ h => h) (by rfl) (by intro wq hSw; have q0 := bat hSw k0; have q1 := bat hSw k1; have q2 := bat hSw k2; have q3 := bat hSw k3; have q4 := bat hSw m0; have q5 := bat hSw m1; have q6 := bat hSw m2; have q7 := bat hSw m3; have q8 := bat hSw j0; have q9 := bat hSw j1; have q10 := bat hSw j2; have q11 := bat hSw j3; go_simp <;> with_reducible rfl) (by assumption) ?_
          try simp only [Act.put, sA, sB, sC]
          refine takeQ (i := 13) (gt rfl) (by kernel_rfl) (fun _ _ _ h => h) (by rfl) (by intro wq hSw; have q0 := bat hSw k0; have q1 := bat hSw k1; have q2 := bat hSw k2; have q3 := bat hSw k3; have q4 := bat hSw m0; have q5 := bat hSw m1; have q6 := bat hSw m2; have q7 := bat hSw m3; have q8 := bat hSw j0; have q9 := bat hSw j1; have q10 := bat hSw j2; have q11 := bat hSw j3; go_simp <;> with_reducible rfl) (by assumption) ?_
          try simp only [Act.put, sA, sB, sC]
          refine takeQ (i := 14) (gt rfl) (by kernel_rfl) (fun _ _ _ h => h) (by rfl) (by intro wq hSw; have q0 := bat hSw k0; have q1 := bat hSw k1; have q2 := bat hSw k2; have q3 := bat hSw k3; have q4 := bat hSw m0; have q5 := bat hSw m1; have q6 := bat hSw m2; have q7 := bat hSw m3; have q8 := bat hSw j0; have q9 := bat hSw j1; have q10 := bat hSw j2; have q11 := bat hSw j3; go_simp <;> with_reducible rfl) (by assumption) ?_
          try simp only [Act.put, sA, sB, sC]
          refine wpAnyH_ready (rs := [12]) (by kernel_rfl) (by simp) (AllReadyH.cons (gt rfl) (fun K hK => ?_) AllReadyH.nil)
          go_simp
          refine (implCmpFrac g1 h1 g2 h2 a1 b1 a2 b2 c1 e1 c2 e2 xs ys zs ts _ (S1.below N) (S2.below N) (S3.below N) (S4.below N)).mono ?_
          rintro e1 ww3 ⟨rfl, hb⟩
          rw [Hn1.out, Hd1.out, Hn2.out, Hd2.out, D3.out]
          replace N := N.trans (hb.mono N.size)
          clear hb
          refine hK.out _ _ N (fun hHeld => ?_)
          clear hK K
          try simp only [Act.put, sA, sB, sC]
          refine wpAnyH_ready (rs := [15]) (by kernel_rfl) (by simp) (AllReadyH.cons (gt rfl) (fun K hK => ?_) AllReadyH.nil)
          go_simp
          refine (implCmpFrac g2 h2 g1 h1 a2 b2 a1 b1 c2 e2 c1 e1 zs ts xs ys _ (S3.below N) (S4.below N) (S1.below N) (S2.below N)).mono ?_
          rintro e1 ww4 ⟨rfl, hb⟩
          rw [Hn1.out, Hd1.out, Hn2.out, Hd2.out, D4.out]
          replace N := N.trans (hb.mono N.size)
          clear hb
          refine hK.out _ _ N (fun hHeld => ?_)
          clear hK K
          try simp only [Act.put, sA, sB, sC]
          refine takeQ (i := 16) (gt rfl) (by kernel_rfl) (fun _ _ _ h => h) (by rfl) (by intro wq _; go_simp <;> with_reducible rfl) (by assumption) ?_
          try simp only [Act.put, sA, sB, sC]
          refine takeQ (i := 17) (gt rfl) (by kernel_rfl) (fun _ _ _ h => h) (by rfl) (by intro wq _; go_simp <;> with_reducible rfl) (by assumption) ?_
          try simp only [Act.put, sA, sB, sC]
          refine takeQ (i := 18) (gt rfl) (by kernel_rfl) (fun _ _ _ h => h) (by rfl) (by intro wq _; go_simp <;> with_reducible rfl) (by assumption) ?_
          try simp only [Act.put, sA, sB, sC]
          refine takeQ (i := 19) (gt rfl) (by kernel_rfl) (fun _ _ _ h => h) (by rfl) (by intro wq _; go_simp <;> with_reducible rfl) (by assumption) ?_
          try simp only [Act.put, sA, sB, sC]
          refine takeQ (i := 20) (gt rfl) (by kernel_rfl) (fun _ _ _ h => h) (by rfl) (by intro wq hSw; have q0 := bat hSw k0; have q1 := bat hSw k1; have q2 := bat hSw k2; have q3 := bat hSw k3; have q4 := bat hSw m0; have q5 := bat hSw m1; have q6 := bat hSw m2; have q7 := bat hSw m3; have q8 := bat hSw j0; have q9 := bat hSw j1; have q10 := bat hSw j2; have q11 := bat hSw j3; go_simp <;> with_reducible rfl) (by assumption) ?_
          try simp only [Act.put, sA, sB, sC]
          refine takeQ (i := 22) (gt rfl) (by kernel_rfl) (fun _ _ _ h => h) (by rfl) (by intro wq hSw; have q0 := bat hSw k0; have q1 := bat hSw k1; have q2 := bat hSw k2; have q3 := bat hSw k3; have q4 := bat hSw m0; have q5 := bat hSw m1; have q6 := bat hSw m2; have q7 := bat hSw m3; have q8 := bat hSw j0; have q9 := bat hSw j1; have q10 := bat hSw j2; have q11 := bat hSw j3; go_simp <;> with_reducible rfl) (by assumption) ?_
          try simp only [Act.put, sA, sB, sC]
          refine wpAnyH_ready (rs := [21]) (by kernel_rfl) (by simp) (AllReadyH.cons (gt rfl) (fun K hK => ?_) AllReadyH.nil)
          go_simp
          refine (implFracText g1 h1 a1 b1 c1 e1 xs ys _ (S1.below N) (S2.below N) (fun w' hb => HT.out w' ((B0.trans (N.mono B0.size)).trans (hb.mono (B0.trans (N.mono B0.size)).size)))).mono ?_
          rintro e1 ww5 ⟨rfl, hb⟩
          rw [Hn1.out, Hd1.out, Hq.out, Hr.out, HTX.out]
          replace N := N.trans (hb.mono N.size)
          clear hb
          refine hK.out _ _ N (fun hHeld => ?_)
          clear hK K
          try simp only [Act.put, sA, sB, sC]
          refine wpAnyH_ready (rs := [23]) (by kernel_rfl) (by simp) (AllReadyH.cons (gt rfl) (fun K hK => ?_) AllReadyH.nil)
          go_simp
          refine (implFracText f5 f6 a5 b5 c5 e5 us vs _ (S5.below N) (S6.below N) (fun w' hb => HT.out w' ((B0.trans (N.mono B0.size)).trans (hb.mono (B0.trans (N.mono B0.size)).size)))).mono ?_
          rintro e1 ww6 ⟨rfl, hb⟩
          rw [HKX.out.2.1, HKX.out.2.2, BQ.out.2.2.2.2.1, BQ.out.2.2.2.2.2, HTX.out]
          replace N := N.trans (hb.mono N.size)
          clear hb
          refine hK.out _ _ N (fun hHeld => ?_)
          clear hK K
          try simp only [Act.put, sA, sB, sC]
          refine takeQ (i := 24) (gt rfl) (by kernel_rfl) (fun _ _ _ h => h) (by rfl) (by intro wq _; go_simp <;> with_reducible rfl) (by assumption) ?_
          try simp only [Act.put, sA, sB, sC]
          refine takeQ (i := 25) (gt rfl) (by kernel_rfl) (fun _ _ _ h => h) (by rfl) (by intro wq _; go_simp <;> with_reducible rfl) (by assumption) ?_
          try simp only [Act.put, sA, sB, sC]
          refine wpAnyH_done (by kernel_rfl) ?_ _
          go_wp2
          go_meet
          case rel => exact ⟨rfl, N⟩
    obtain ⟨rfl, hb⟩ := hcut
    rename World => w3
    replace V3 := V3.below hb
    replace V4 := V4.below hb
    replace S1 := S1.below hb
    replace S2 := S2.below hb
    replace S3 := S3.below hb
    replace S4 := S4.below hb
    replace B0 := B0.trans (hb.mono B0.size)
    clear hb
    clear V5 S5 S6 HKX BQ Hq Hr HTX
    obtain ⟨k0, k1, k2, k3, _, _⟩ := id V3
    go_wp2_with fail
    clear k0 k1 k2 k3
    obtain ⟨f, Hf⟩ : ∃ z, Hid (n1 / d1 = z) := ⟨_, rfl⟩
    have FF : Hid (f * d1 ≤ n1 ∧ n1 < (f + 1) * d1 ∧ mg f < 4294967296 ^ 24) := by
      have x := floor_facts n1 d1 BD1.out.2.2
      have y := floor_bd (d := d1) BD1.out.1
      rw [Hf.out] at x y
      exact ⟨x.1, x.2, y⟩
    refine (implFloorFrac g1 h1 a1 b1 c1 e1 xs ys _ S1 S2).mono ?_
    rintro e w4 ⟨v, rfl, hI, hb⟩
    rw [Hn1.out, Hd1.out, Hf.out] at hI
    obtain ⟨a6, c6, fs, rfl, o6, m6, u6⟩ := hI
    have T6 := tk_val o6.lim m6 (len_le o6.lim m6 (by rw [u6]; exact FF.out.2.2)) u6
    have LN : Hid (Nrm fs ∧ val fs = mg f) := ⟨m6, u6⟩
    obtain ⟨ff, Hff⟩ : ∃ b, Hid (decide (f < 0) = b) := ⟨_, rfl⟩
    rw [Hff.out]
    rw [Hff.out] at T6
    have HT6 : Hid (tk ff fs = f) := T6.2
    clear m6 u6 T6
    replace V3 := V3.below hb
    replace V4 := V4.below hb
    replace S1 := S1.below hb
    replace S2 := S2.below hb
    replace S3 := S3.below hb
    replace S4 := S4.below hb
    replace B0 := B0.trans (hb.mono B0.size)
    clear hb
    have bn := below1 w4 (.cells #[.bool ff, .slice a6 fs.length c6] 26)
    have V6 := Box2.new w4 (lo := 0) (by omega) (.bool ff) (.slice a6 fs.length c6) 26
    have S5 := o6.toSees.below bn
    clear o6
    replace V3 := V3.below bn
    replace V4 := V4.below bn
    replace S1 := S1.below bn
    replace S2 := S2.below bn
    replace S3 := S3.below bn
    replace S4 := S4.below bn
    replace B0 := B0.trans (bn.mono B0.size)
    clear bn
    go_upto_region 8 with fail
    generalize w4.alloc (.cells #[.bool ff, .slice a6 fs.length c6] 26) = W6 at *
    generalize w4.heap.size = q6 at *
    have E1 : Hid (decide ((1 : Int) < 0) = false) := rfl
    go_cut [7] (fun s W => ∃ p a7 c7 os, s = .pointer (some ⟨p, 0, none⟩) ∧ Box4 W6.heap.size W p (.bool ff) (.slice a6 fs.length c6) (.bool false) (.slice a7 os.length c7) ∧ Own W6.heap.size W a7 c7 os ∧ Hid (Nrm os ∧ val os = mg 1) ∧ Below W6.heap.size W6 W)
    case first =>
      obtain ⟨k0, k1, _, _⟩ := id V6
      refine wp_region_held_drew (S := Below W6.heap.size W6) (by kernel_rfl) ((Below.refl _ _).drew) (fun hHeld => ?_)
      have N : Below W6.heap.size W6 W6.drew := hHeld
      revert hHeld N
      generalize W6.drew = ww0
      intro hHeld N
      refine takeQ (i := 0) (gt rfl) (by kernel_rfl) (fun _ _ _ h => h) (by rfl) (by intro wq hSw; have q0 := bat hSw k0; have q1 := bat hSw k1; go_simp <;> with_reducible rfl) (by assumption) ?_
      try simp only [Act.put, sA, sB, sC]
      refine wpAnyH_ready (rs := [1, 3]) (by kernel_rfl) (by simp) (AllReadyH.cons (gt rfl) (fun K hK => ?_) (AllReadyH.cons (gt rfl) (fun K hK => ?_) AllReadyH.nil))
      · skip
        go_simp
        refine (specOf 1 _ (by decide) (by decide)).mono ?_
        rintro e1 ww1 ⟨u, rfl, ⟨a7, c7, os, rfl, ho, nho, vho⟩, hb⟩
        rw [E1.out]
        have HO : Hid (Nrm os ∧ val os = mg 1) := ⟨nho, vho⟩
        clear nho vho
        have bsho := N.size
        replace N := N.trans (hb.mono N.size)
        clear hb
        refine hK.out _ _ N (fun hHeld => ?_)
        clear hK K
        try simp only [Act.put, sA, sB, sC]
        refine takeQ (i := 2) (gt rfl) (by kernel_rfl) (fun _ _ _ h => h) (by rfl) (by intro wq _; go_simp <;> with_reducible rfl) (by assumption) ?_
        try simp only [Act.put, sA, sB, sC]
        refine wpAnyH_ready (rs := [3]) (by kernel_rfl) (by simp) (AllReadyH.cons (gt rfl) (fun K hK => ?_) AllReadyH.nil)
        go_simp
        have kP := Box4.new ww1 N.size (.bool false) (.slice none 0 0) (.bool false) (.slice none 0 0) 42
        have hb := below1 ww1 (.cells #[.bool false, .slice none 0 0, .bool false, .slice none 0 0] 42)
        have r_kP_ho := row_ne_high ho.toCame (Nat.le_refl _)
        replace ho := ho.below hb
        replace N := N.trans (hb.mono N.size)
        clear hb
        generalize ww1.alloc (.cells #[.bool false, .slice none 0 0, .bool false, .slice none 0 0] 42) = ww2 at *
        refine hK.out _ _ N (fun hHeld => ?_)
        clear hK K
        try simp only [Act.put, sA, sB, sC]
        refine wpAnyH_ready (rs := [4]) (by kernel_rfl) (by simp) (AllReadyH.cons (gt rfl) (fun K hK => ?_) AllReadyH.nil)
        have z0 := kP.c0
        have z1 := kP.c1
        have z2 := kP.c2
        have z3 := kP.c3
        have zf := kP.fr
        go_simp
        clear z0 z1 z2 z3 zf
        replace N := Box4.chain N kP (.bool ff) (.slice a6 fs.length c6) (.bool false) (.slice a7 os.length c7)
        replace ho := ho.put4 r_kP_ho (.bool ff) (.slice a6 fs.length c6) (.bool false) (.slice a7 os.length c7)
        replace kP := kP.put (.bool ff) (.slice a6 fs.length c6) (.bool false) (.slice a7 os.length c7)
        refine hK.out _ _ N (fun hHeld => ?_)
        clear hK K
        try simp only [Act.put, sA, sB, sC]
        refine wpAnyH_done (by kernel_rfl) ?_ _
        go_wp2
        go_meet
        case rel => exact ⟨_, a7, c7, os, rfl, kP, ho.base_le bsho, HO, N⟩
      · skip
        go_simp
        have kP := Box4.new ww0 N.size (.bool false) (.slice none 0 0) (.bool false) (.slice none 0 0) 42
        have hb := below1 ww0 (.cells #[.bool false, .slice none 0 0, .bool false, .slice none 0 0] 42)
        replace N := N.trans (hb.mono N.size)
        clear hb
        generalize ww0.alloc (.cells #[.bool false, .slice none 0 0, .bool false, .slice none 0 0] 42) = ww4 at *
        refine hK.out _ _ N (fun hHeld => ?_)
        clear hK K
        try simp only [Act.put, sA, sB, sC]
        refine wpAnyH_ready (rs := [1]) (by kernel_rfl) (by simp) (AllReadyH.cons (gt rfl) (fun K hK => ?_) AllReadyH.nil)
        go_simp
        refine (specOf 1 _ (by decide) (by decide)).mono ?_
        rintro e1 ww5 ⟨u, rfl, ⟨a7, c7, os, rfl, ho, nho, vho⟩, hb⟩
        rw [E1.out]
        have HO : Hid (Nrm os ∧ val os = mg 1) := ⟨nho, vho⟩
        clear nho vho
        have bsho := N.size
        have r_kP_ho := row_ne_low ho kP.lt
        replace kP := kP.below hb
        replace N := N.trans (hb.mono N.size)
        clear hb
        refine hK.out _ _ N (fun hHeld => ?_)
        clear hK K
        try simp only [Act.put, sA, sB, sC]
        refine takeQ (i := 2) (gt rfl) (by kernel_rfl) (fun _ _ _ h => h) (by rfl) (by intro wq _; go_simp <;> with_reducible rfl) (by assumption) ?_
        try simp only [Act.put, sA, sB, sC]
        refine wpAnyH_ready (rs := [4]) (by kernel_rfl) (by simp) (AllReadyH.cons (gt rfl) (fun K hK => ?_) AllReadyH.nil)
        have z0 := kP.c0
        have z1 := kP.c1
        have z2 := kP.c2
        have z3 := kP.c3
        have zf := kP.fr
        go_simp
        clear z0 z1 z2 z3 zf
        replace N := Box4.chain N kP (.bool ff) (.slice a6 fs.length c6) (.bool false) (.slice a7 os.length c7)
        replace ho := ho.put4 r_kP_ho (.bool ff) (.slice a6 fs.length c6) (.bool false) (.slice a7 os.length c7)
        replace kP := kP.put (.bool ff) (.slice a6 fs.length c6) (.bool false) (.slice a7 os.length c7)
        refine hK.out _ _ N (fun hHeld => ?_)
        clear hK K
        try simp only [Act.put, sA, sB, sC]
        refine wpAnyH_done (by kernel_rfl) ?_ _
        go_wp2
        go_meet
        case rel => exact ⟨_, a7, c7, os, rfl, kP, ho.base_le bsho, HO, N⟩
    obtain ⟨p7, a7, c7, os, rfl, V7, ho, HO, hb⟩ := hcut
    rename World => w7
    have S6 := ho.toSees
    clear ho
    replace V3 := V3.below hb
    replace V4 := V4.below hb
    replace V6 := V6.below hb
    replace S1 := S1.below hb
    replace S2 := S2.below hb
    replace S3 := S3.below hb
    replace S4 := S4.below hb
    replace S5 := S5.below hb
    replace B0 := B0.trans (hb.mono B0.size)
    clear hb
    go_upto_region 9 with fail
    obtain ⟨fe, Hfe⟩ : ∃ b, Hid (decide (f + 1 < 0) = b) := ⟨_, rfl⟩
    go_cut [8] (fun s W => ∃ p a9 c9 es a10 c10 is, s = .pointer (some ⟨p, 0, none⟩) ∧ Box4 w7.heap.size W p (.bool fe) (.slice a9 es.length c9) (.bool false) (.slice a10 is.length c10) ∧ Own w7.heap.size W a9 c9 es ∧ Hid (Nrm es ∧ val es = mg (f + 1)) ∧ Own w7.heap.size W a10 c10 is ∧ Hid (Nrm is ∧ val is = mg 1) ∧ Below w7.heap.size w7 W)
    case first =>
      obtain ⟨k0, k1, _, _⟩ := id V6
      refine wp_region_held_drew (S := Below w7.heap.size w7) (by kernel_rfl) ((Below.refl _ _).drew) (fun hHeld => ?_)
      have N : Below w7.heap.size w7 w7.drew := hHeld
      revert hHeld N
      generalize w7.drew = ww0
      intro hHeld N
      refine takeQ (i := 0) (gt rfl) (by kernel_rfl) (fun _ _ _ h => h) (by rfl) (by intro wq hSw; have q0 := bat hSw k0; have q1 := bat hSw k1; go_simp <;> with_reducible rfl) (by assumption) ?_
      try simp only [Act.put, sA, sB, sC]
      refine wpAnyH_ready (rs := [1, 5]) (by kernel_rfl) (by simp) (AllReadyH.cons (gt rfl) (fun K hK => ?_) (AllReadyH.cons (gt rfl) (fun K hK => ?_) AllReadyH.nil))
      · skip
        go_simp
        refine (specOf 1 _ (by decide) (by decide)).mono ?_
        rintro e1 ww1 ⟨u, rfl, ⟨a8, c8, xs8, rfl, hx, nhx, vhx⟩, hb⟩
        rw [E1.out]
        have HX : Hid (Nrm xs8 ∧ val xs8 = mg 1) := ⟨nhx, vhx⟩
        clear nhx vhx
        have bshx := N.size
        replace N := N.trans (hb.mono N.size)
        clear hb
        refine hK.out _ _ N (fun hHeld => ?_)
        clear hK K
        try simp only [Act.put, sA, sB, sC]
        refine wpAnyH_ready (rs := [2, 5]) (by kernel_rfl) (by simp) (AllReadyH.cons (gt rfl) (fun K hK => ?_) (AllReadyH.cons (gt rfl) (fun K hK => ?_) AllReadyH.nil))
        · skip
          go_simp
          have T8 := (tk_val hx.lim HX.out.1 (len_le hx.lim HX.out.1 (by rw [HX.out.2]; exact p24_pos)) HX.out.2).2
          rw [E1.out] at T8
          refine (implAdd ff false a6 a8 c6 c8 fs xs8 _ (S5.below N) hx.toSees).mono ?_
          rintro e1 ww2 ⟨u, rfl, hI, hb⟩
          rw [HT6.out, T8] at hI
          obtain ⟨a9, c9, es, rfl, he, nhe, vhe⟩ := hI
          rw [Hfe.out]
          have HE : Hid (Nrm es ∧ val es = mg (f + 1)) := ⟨nhe, vhe⟩
          clear nhe vhe T8
          have bshe := N.size
          replace hx := hx.below hb
          replace N := N.trans (hb.mono N.size)
          clear hb
          clear hx
          refine hK.out _ _ N (fun hHeld => ?_)
          clear hK K
          try simp only [Act.put, sA, sB, sC]
          refine wpAnyH_ready (rs := [3, 5]) (by kernel_rfl) (by simp) (AllReadyH.cons (gt rfl) (fun K hK => ?_) (AllReadyH.cons (gt rfl) (fun K hK => ?_) AllReadyH.nil))
          · skip
            go_simp
            refine (specOf 1 _ (by decide) (by decide)).mono ?_
            rintro e1 ww3 ⟨u, rfl, ⟨a10, c10, is, rfl, hi, nhi, vhi⟩, hb⟩
            rw [E1.out]
            have HI : Hid (Nrm is ∧ val is = mg 1) := ⟨nhi, vhi⟩
            clear nhi vhi
            have bshi := N.size
            replace he := he.below hb
            replace N := N.trans (hb.mono N.size)
            clear hb
            refine hK.out _ _ N (fun hHeld => ?_)
            clear hK K
            try simp only [Act.put, sA, sB, sC]
            refine takeQ (i := 4) (gt rfl) (by kernel_rfl) (fun _ _ _ h => h) (by rfl) (by intro wq _; go_simp <;> with_reducible rfl) (by assumption) ?_
            try simp only [Act.put, sA, sB, sC]
            refine wpAnyH_ready (rs := [5]) (by kernel_rfl) (by simp) (AllReadyH.cons (gt rfl) (fun K hK => ?_) AllReadyH.nil)
            go_simp
            have kP := Box4.new ww3 N.size (.bool false) (.slice none 0 0) (.bool false) (.slice none 0 0) 42
            have hb := below1 ww3 (.cells #[.bool false, .slice none 0 0, .bool false, .slice none 0 0] 42)
            have r_kP_he := row_ne_high he.toCame (Nat.le_refl _)
            have r_kP_hi := row_ne_high hi.toCame (Nat.le_refl _)
            replace he := he.below hb
            replace hi := hi.below hb
            replace N := N.trans (hb.mono N.size)
            clear hb
            generalize ww3.alloc (.cells #[.bool false, .slice none 0 0, .bool false, .slice none 0 0] 42) = ww4 at *
            refine hK.out _ _ N (fun hHeld => ?_)
            clear hK K
            try simp only [Act.put, sA, sB, sC]
            refine wpAnyH_ready (rs := [6]) (by kernel_rfl) (by simp) (AllReadyH.cons (gt rfl) (fun K hK => ?_) AllReadyH.nil)
            have z0 := kP.c0
            have z1 := kP.c1
            have z2 := kP.c2
            have z3 := kP.c3
            have zf := kP.fr
            go_simp
            clear z0 z1 z2 z3 zf
            replace N := Box4.chain N kP (.bool fe) (.slice a9 es.length c9) (.bool false) (.slice a10 is.length c10)
            replace he := he.put4 r_kP_he (.bool fe) (.slice a9 es.length c9) (.bool false) (.slice a10 is.length c10)
            replace hi := hi.put4 r_kP_hi (.bool fe) (.slice a9 es.length c9) (.bool false) (.slice a10 is.length c10)
            replace kP := kP.put (.bool fe) (.slice a9 es.length c9) (.bool false) (.slice a10 is.length c10)
            refine hK.out _ _ N (fun hHeld => ?_)
            clear hK K
            try simp only [Act.put, sA, sB, sC]
            refine wpAnyH_done (by kernel_rfl) ?_ _
            go_wp2
            go_meet
            case rel => exact ⟨_, a9, c9, es, a10, c10, is, rfl, kP, he.base_le bshe, HE, hi.base_le bshi, HI, N⟩
          · skip
            go_simp
            have kP := Box4.new ww2 N.size (.bool false) (.slice none 0 0) (.bool false) (.slice none 0 0) 42
            have hb := below1 ww2 (.cells #[.bool false, .slice none 0 0, .bool false, .slice none 0 0] 42)
            have r_kP_he := row_ne_high he.toCame (Nat.le_refl _)
            replace he := he.below hb
            replace N := N.trans (hb.mono N.size)
            clear hb
            generalize ww2.alloc (.cells #[.bool false, .slice none 0 0, .bool false, .slice none 0 0] 42) = ww6 at *
            refine hK.out _ _ N (fun hHeld => ?_)
            clear hK K
            try simp only [Act.put, sA, sB, sC]
            refine wpAnyH_ready (rs := [3]) (by kernel_rfl) (by simp) (AllReadyH.cons (gt rfl) (fun K hK => ?_) AllReadyH.nil)
            go_simp
            refine (specOf 1 _ (by decide) (by decide)).mono ?_
            rintro e1 ww7 ⟨u, rfl, ⟨a10, c10, is, rfl, hi, nhi, vhi⟩, hb⟩
            rw [E1.out]
            have HI : Hid (Nrm is ∧ val is = mg 1) := ⟨nhi, vhi⟩
            clear nhi vhi
            have bshi := N.size
            have r_kP_hi := row_ne_low hi kP.lt
            replace kP := kP.below hb
            replace he := he.below hb
            replace N := N.trans (hb.mono N.size)
            clear hb
            refine hK.out _ _ N (fun hHeld => ?_)
            clear hK K
            try simp only [Act.put, sA, sB, sC]
            refine takeQ (i := 4) (gt rfl) (by kernel_rfl) (fun _ _ _ h => h) (by rfl) (by intro wq _; go_simp <;> with_reducible rfl) (by assumption) ?_
            try simp only [Act.put, sA, sB, sC]
            refine wpAnyH_ready (rs := [6]) (by kernel_rfl) (by simp) (AllReadyH.cons (gt rfl) (fun K hK => ?_) AllReadyH.nil)
            have z0 := kP.c0
            have z1 := kP.c1
            have z2 := kP.c2
            have z3 := kP.c3
            have zf := kP.fr
            go_simp
            clear z0 z1 z2 z3 zf
            replace N := Box4.chain N kP (.bool fe) (.slice a9 es.length c9) (.bool false) (.slice a10 is.length c10)
            replace he := he.put4 r_kP_he (.bool fe) (.slice a9 es.length c9) (.bool false) (.slice a10 is.length c10)
            replace hi := hi.put4 r_kP_hi (.bool fe) (.slice a9 es.length c9) (.bool false) (.slice a10 is.length c10)
            replace kP := kP.put (.bool fe) (.slice a9 es.length c9) (.bool false) (.slice a10 is.length c10)
            refine hK.out _ _ N (fun hHeld => ?_)
            clear hK K
            try simp only [Act.put, sA, sB, sC]
            refine wpAnyH_done (by kernel_rfl) ?_ _
            go_wp2
            go_meet
            case rel => exact ⟨_, a9, c9, es, a10, c10, is, rfl, kP, he.base_le bshe, HE, hi.base_le bshi, HI, N⟩
        · skip
          go_simp
          have kP := Box4.new ww1 N.size (.bool false) (.slice none 0 0) (.bool false) (.slice none 0 0) 42
          have hb := below1 ww1 (.cells #[.bool false, .slice none 0 0, .bool false, .slice none 0 0] 42)
          replace hx := hx.below hb
          replace N := N.trans (hb.mono N.size)
          clear hb
          generalize ww1.alloc (.cells #[.bool false, .slice none 0 0, .bool false, .slice none 0 0] 42) = ww9 at *
          refine hK.out _ _ N (fun hHeld => ?_)
          clear hK K
          try simp only [Act.put, sA, sB, sC]
          refine wpAnyH_ready (rs := [2]) (by kernel_rfl) (by simp) (AllReadyH.cons (gt rfl) (fun K hK => ?_) AllReadyH.nil)
          go_simp
          have T8 := (tk_val hx.lim HX.out.1 (len_le hx.lim HX.out.1 (by rw [HX.out.2]; exact p24_pos)) HX.out.2).2
          rw [E1.out] at T8
          refine (implAdd ff false a6 a8 c6 c8 fs xs8 _ (S5.below N) hx.toSees).mono ?_
          rintro e1 ww10 ⟨u, rfl, hI, hb⟩
          rw [HT6.out, T8] at hI
          obtain ⟨a9, c9, es, rfl, he, nhe, vhe⟩ := hI
          rw [Hfe.out]
          have HE : Hid (Nrm es ∧ val es = mg (f + 1)) := ⟨nhe, vhe⟩
          clear nhe vhe T8
          have bshe := N.size
          have r_kP_he := row_ne_low he kP.lt
          replace kP := kP.below hb
          replace hx := hx.below hb
          replace N := N.trans (hb.mono N.size)
          clear hb
          clear hx
          refine hK.out _ _ N (fun hHeld => ?_)
          clear hK K
          try simp only [Act.put, sA, sB, sC]
          refine wpAnyH_ready (rs := [3]) (by kernel_rfl) (by simp) (AllReadyH.cons (gt rfl) (fun K hK => ?_) AllReadyH.nil)
          go_simp
          refine (specOf 1 _ (by decide) (by decide)).mono ?_
          rintro e1 ww11 ⟨u, rfl, ⟨a10, c10, is, rfl, hi, nhi, vhi⟩, hb⟩
          rw [E1.out]
          have HI : Hid (Nrm is ∧ val is = mg 1) := ⟨nhi, vhi⟩
          clear nhi vhi
          have bshi := N.size
          have r_kP_hi := row_ne_low hi kP.lt
          replace kP := kP.below hb
          replace he := he.below hb
          replace N := N.trans (hb.mono N.size)
          clear hb
          refine hK.out _ _ N (fun hHeld => ?_)
          clear hK K
          try simp only [Act.put, sA, sB, sC]
          refine takeQ (i := 4) (gt rfl) (by kernel_rfl) (fun _ _ _ h => h) (by rfl) (by intro wq _; go_simp <;> with_reducible rfl) (by assumption) ?_
          try simp only [Act.put, sA, sB, sC]
          refine wpAnyH_ready (rs := [6]) (by kernel_rfl) (by simp) (AllReadyH.cons (gt rfl) (fun K hK => ?_) AllReadyH.nil)
          have z0 := kP.c0
          have z1 := kP.c1
          have z2 := kP.c2
          have z3 := kP.c3
          have zf := kP.fr
          go_simp
          clear z0 z1 z2 z3 zf
          replace N := Box4.chain N kP (.bool fe) (.slice a9 es.length c9) (.bool false) (.slice a10 is.length c10)
          replace he := he.put4 r_kP_he (.bool fe) (.slice a9 es.length c9) (.bool false) (.slice a10 is.length c10)
          replace hi := hi.put4 r_kP_hi (.bool fe) (.slice a9 es.length c9) (.bool false) (.slice a10 is.length c10)
          replace kP := kP.put (.bool fe) (.slice a9 es.length c9) (.bool false) (.slice a10 is.length c10)
          refine hK.out _ _ N (fun hHeld => ?_)
          clear hK K
          try simp only [Act.put, sA, sB, sC]
          refine wpAnyH_done (by kernel_rfl) ?_ _
          go_wp2
          go_meet
          case rel => exact ⟨_, a9, c9, es, a10, c10, is, rfl, kP, he.base_le bshe, HE, hi.base_le bshi, HI, N⟩
      · skip
        go_simp
        have kP := Box4.new ww0 N.size (.bool false) (.slice none 0 0) (.bool false) (.slice none 0 0) 42
        have hb := below1 ww0 (.cells #[.bool false, .slice none 0 0, .bool false, .slice none 0 0] 42)
        replace N := N.trans (hb.mono N.size)
        clear hb
        generalize ww0.alloc (.cells #[.bool false, .slice none 0 0, .bool false, .slice none 0 0] 42) = ww13 at *
        refine hK.out _ _ N (fun hHeld => ?_)
        clear hK K
        try simp only [Act.put, sA, sB, sC]
        refine wpAnyH_ready (rs := [1]) (by kernel_rfl) (by simp) (AllReadyH.cons (gt rfl) (fun K hK => ?_) AllReadyH.nil)
        go_simp
        refine (specOf 1 _ (by decide) (by decide)).mono ?_
        rintro e1 ww14 ⟨u, rfl, ⟨a8, c8, xs8, rfl, hx, nhx, vhx⟩, hb⟩
        rw [E1.out]
        have HX : Hid (Nrm xs8 ∧ val xs8 = mg 1) := ⟨nhx, vhx⟩
        clear nhx vhx
        have bshx := N.size
        replace kP := kP.below hb
        replace N := N.trans (hb.mono N.size)
        clear hb
        refine hK.out _ _ N (fun hHeld => ?_)
        clear hK K
        try simp only [Act.put, sA, sB, sC]
        refine wpAnyH_ready (rs := [2]) (by kernel_rfl) (by simp) (AllReadyH.cons (gt rfl) (fun K hK => ?_) AllReadyH.nil)
        go_simp
        have T8 := (tk_val hx.lim HX.out.1 (len_le hx.lim HX.out.1 (by rw [HX.out.2]; exact p24_pos)) HX.out.2).2
        rw [E1.out] at T8
        refine (implAdd ff false a6 a8 c6 c8 fs xs8 _ (S5.below N) hx.toSees).mono ?_
        rintro e1 ww15 ⟨u, rfl, hI, hb⟩
        rw [HT6.out, T8] at hI
        obtain ⟨a9, c9, es, rfl, he, nhe, vhe⟩ := hI
        rw [Hfe.out]
        have HE : Hid (Nrm es ∧ val es = mg (f + 1)) := ⟨nhe, vhe⟩
        clear nhe vhe T8
        have bshe := N.size
        have r_kP_he := row_ne_low he kP.lt
        replace kP := kP.below hb
        replace hx := hx.below hb
        replace N := N.trans (hb.mono N.size)
        clear hb
        clear hx
        refine hK.out _ _ N (fun hHeld => ?_)
        clear hK K
        try simp only [Act.put, sA, sB, sC]
        refine wpAnyH_ready (rs := [3]) (by kernel_rfl) (by simp) (AllReadyH.cons (gt rfl) (fun K hK => ?_) AllReadyH.nil)
        go_simp
        refine (specOf 1 _ (by decide) (by decide)).mono ?_
        rintro e1 ww16 ⟨u, rfl, ⟨a10, c10, is, rfl, hi, nhi, vhi⟩, hb⟩
        rw [E1.out]
        have HI : Hid (Nrm is ∧ val is = mg 1) := ⟨nhi, vhi⟩
        clear nhi vhi
        have bshi := N.size
        have r_kP_hi := row_ne_low hi kP.lt
        replace kP := kP.below hb
        replace he := he.below hb
        replace N := N.trans (hb.mono N.size)
        clear hb
        refine hK.out _ _ N (fun hHeld => ?_)
        clear hK K
        try simp only [Act.put, sA, sB, sC]
        refine takeQ (i := 4) (gt rfl) (by kernel_rfl) (fun _ _ _ h => h) (by rfl) (by intro wq _; go_simp <;> with_reducible rfl) (by assumption) ?_
        try simp only [Act.put, sA, sB, sC]
        refine wpAnyH_ready (rs := [6]) (by kernel_rfl) (by simp) (AllReadyH.cons (gt rfl) (fun K hK => ?_) AllReadyH.nil)
        have z0 := kP.c0
        have z1 := kP.c1
        have z2 := kP.c2
        have z3 := kP.c3
        have zf := kP.fr
        go_simp
        clear z0 z1 z2 z3 zf
        replace N := Box4.chain N kP (.bool fe) (.slice a9 es.length c9) (.bool false) (.slice a10 is.length c10)
        replace he := he.put4 r_kP_he (.bool fe) (.slice a9 es.length c9) (.bool false) (.slice a10 is.length c10)
        replace hi := hi.put4 r_kP_hi (.bool fe) (.slice a9 es.length c9) (.bool false) (.slice a10 is.length c10)
        replace kP := kP.put (.bool fe) (.slice a9 es.length c9) (.bool false) (.slice a10 is.length c10)
        refine hK.out _ _ N (fun hHeld => ?_)
        clear hK K
        try simp only [Act.put, sA, sB, sC]
        refine wpAnyH_done (by kernel_rfl) ?_ _
        go_wp2
        go_meet
        case rel => exact ⟨_, a9, c9, es, a10, c10, is, rfl, kP, he.base_le bshe, HE, hi.base_le bshi, HI, N⟩
    obtain ⟨p8, a9, c9, es, a10, c10, is, rfl, V8, he, HE, hi, HI, hb⟩ := hcut
    rename World => w8
    have S7 := he.toSees
    have S8 := hi.toSees
    clear he hi
    replace V3 := V3.below hb
    replace V4 := V4.below hb
    replace V6 := V6.below hb
    replace V7 := V7.below hb
    replace S1 := S1.below hb
    replace S2 := S2.below hb
    replace S3 := S3.below hb
    replace S4 := S4.below hb
    replace S5 := S5.below hb
    replace S6 := S6.below hb
    replace B0 := B0.trans (hb.mono B0.size)
    clear hb
    go_upto_region 10 with fail
    go_cut [68] (fun s W => s = .bool false ∧ Below w8.heap.size w8 W)
    case first =>
      obtain ⟨k0, k1, k2, k3, _, _⟩ := id V3
      obtain ⟨m0, m1, m2, m3, _, _⟩ := id V7
      obtain ⟨j0, j1, j2, j3, _, _⟩ := id V8
      have KL := fnd_is S5.lim LN.out.1 LN.out.2 S6.lim HO.out.1 HO.out.2 FF.out.2.2 p24_pos (by decide)
      rw [Hff.out, E1.out] at KL
      have HKL : Hid (fN ff fs false os = f ∧ fD ff fs false os = 1) := KL.2
      clear KL
      have N : Below w8.heap.size w8 w8 := Below.refl _ _
      go_wp2_with fail
      refine (specOk fe a9 c9 es _ S7).mono ?_
      rintro ee w9 ⟨rfl, hb⟩
      replace N := N.trans (hb.mono N.size)
      clear hb
      have k := N
      replace k0 := bat N k0
      replace k1 := bat N k1
      replace k2 := bat N k2
      replace k3 := bat N k3
      replace m0 := bat N m0
      replace m1 := bat N m1
      replace m2 := bat N m2
      replace m3 := bat N m3
      replace j0 := bat N j0
      replace j1 := bat N j1
      replace j2 := bat N j2
      replace j3 := bat N j3
      clear k
      cases hk : okB fe es
      · go_wp2
        go_meet
        case rel => exact ⟨rfl, N⟩
      · have be : es.length ≤ 24 := (ok_facts S7.lim hk).2.2.1
        have bm : mg (f + 1) < 4294967296 ^ 24 := by
          have v := val_lt S7.lim
          rw [HE.out.2] at v
          have q := p_mono es.length (24 - es.length)
          rw [show es.length + (24 - es.length) = 24 by omega] at q
          omega
        have KU := fnd_is S7.lim HE.out.1 HE.out.2 S8.lim HI.out.1 HI.out.2 bm p24_pos (by decide)
        rw [Hfe.out, E1.out] at KU
        have HKU : Hid (fN fe es false is = f + 1 ∧ fD fe es false is = 1) := KU.2
        clear KU be bm hk
        obtain ⟨cl, Hcl, hcl⟩ : ∃ c : Int, Hid (cmpZ (f * d1) (n1 * 1) = c) ∧ c ≤ 0 := ⟨_, rfl, cmpZ_le (by have := FF.out; omega)⟩
        have hcl' : decide (0 < cl) = false := decide_eq_false (by omega)
        have HCU : Hid (cmpZ ((f + 1) * d1) (n1 * 1) = 1) := cmpZ_gt (by have := FF.out; omega)
        go_wp2_with fail
        refine (implCmpFrac ff false g1 h1 a6 a7 a1 b1 c6 c7 c1 e1 fs os xs ys _ (S5.below N) (S6.below N) (S1.below N) (S2.below N)).mono ?_
        rintro ee w10 ⟨rfl, hb⟩
        rw [HKL.out.1, HKL.out.2, Hn1.out, Hd1.out, Hcl.out]
        replace N := N.trans (hb.mono N.size)
        replace k0 := bat hb k0
        replace k1 := bat hb k1
        replace k2 := bat hb k2
        replace k3 := bat hb k3
        replace j0 := bat hb j0
        replace j1 := bat hb j1
        replace j2 := bat hb j2
        replace j3 := bat hb j3
        clear hb
        go_wp2_with fail
        refine (implCmpFrac fe false g1 h1 a9 a10 a1 b1 c9 c10 c1 e1 es is xs ys _ (S7.below N) (S8.below N) (S1.below N) (S2.below N)).mono ?_
        rintro ee w11 ⟨rfl, hb⟩
        rw [HKU.out.1, HKU.out.2, Hn1.out, Hd1.out, HCU.out]
        replace N := N.trans (hb.mono N.size)
        go_wp2
        go_meet
        case rel => exact ⟨rfl, N⟩
    obtain ⟨rfl, hb⟩ := hcut
    rename World => w12
    replace V3 := V3.below hb
    replace V4 := V4.below hb
    replace S1 := S1.below hb
    replace S2 := S2.below hb
    replace S3 := S3.below hb
    replace S4 := S4.below hb
    replace B0 := B0.trans (hb.mono B0.size)
    clear hb
    clear V6 V7 V8 S5 S6 S7 S8
    go_wp2_with fail
    obtain ⟨zA, hzA⟩ := limbs_mg (qN (n1 * d2 + n2 * d1) (d1 * d2))
    obtain ⟨tA, htA⟩ := limbs_mg (qD (n1 * d2 + n2 * d1) (d1 * d2))
    obtain ⟨zM, hzM⟩ := limbs_mg (qN (n1 * n2) (d1 * d2))
    obtain ⟨tM, htM⟩ := limbs_mg (qD (n1 * n2) (d1 * d2))
    have HA : Hid (Lim zA ∧ Nrm zA ∧ val zA = mg (qN (n1 * d2 + n2 * d1) (d1 * d2)) ∧ Lim tA ∧ Nrm tA ∧ val tA = mg (qD (n1 * d2 + n2 * d1) (d1 * d2))) := ⟨hzA.1, hzA.2.1, hzA.2.2, htA.1, htA.2.1, htA.2.2⟩
    have HMu : Hid (Lim zM ∧ Nrm zM ∧ val zM = mg (qN (n1 * n2) (d1 * d2)) ∧ Lim tM ∧ Nrm tM ∧ val tM = mg (qD (n1 * n2) (d1 * d2))) := ⟨hzM.1, hzM.2.1, hzM.2.2, htM.1, htM.2.1, htM.2.2⟩
    clear hzA htA hzM htM
    obtain ⟨nA, HnA⟩ : ∃ z, Hid (fN (decide (qN (n1 * d2 + n2 * d1) (d1 * d2) < 0)) zA (decide (qD (n1 * d2 + n2 * d1) (d1 * d2) < 0)) tA = z) := ⟨_, rfl⟩
    obtain ⟨dA, HdA⟩ : ∃ z, Hid (fD (decide (qN (n1 * d2 + n2 * d1) (d1 * d2) < 0)) zA (decide (qD (n1 * d2 + n2 * d1) (d1 * d2) < 0)) tA = z) := ⟨_, rfl⟩
    obtain ⟨nM, HnM⟩ : ∃ z, Hid (fN (decide (qN (n1 * n2) (d1 * d2) < 0)) zM (decide (qD (n1 * n2) (d1 * d2) < 0)) tM = z) := ⟨_, rfl⟩
    obtain ⟨dM, HdM⟩ : ∃ z, Hid (fD (decide (qN (n1 * n2) (d1 * d2) < 0)) zM (decide (qD (n1 * n2) (d1 * d2) < 0)) tM = z) := ⟨_, rfl⟩
    have BA : Hid (mg nA < 4294967296 ^ 24 ∧ mg dA < 4294967296 ^ 24 ∧ 0 < dA) := by
      have := fnd_bd (decide (qN (n1 * d2 + n2 * d1) (d1 * d2) < 0)) (decide (qD (n1 * d2 + n2 * d1) (d1 * d2) < 0)) HA.out.1 HA.out.2.2.2.1
      rw [HnA.out, HdA.out] at this
      exact this
    have BM : Hid (mg nM < 4294967296 ^ 24 ∧ mg dM < 4294967296 ^ 24 ∧ 0 < dM) := by
      have := fnd_bd (decide (qN (n1 * n2) (d1 * d2) < 0)) (decide (qD (n1 * n2) (d1 * d2) < 0)) HMu.out.1 HMu.out.2.2.2.1
      rw [HnM.out, HdM.out] at this
      exact this
    have XC : Hid (n2 * d1 + n1 * d2 = n1 * d2 + n2 * d1 ∧ d2 * d1 = d1 * d2 ∧ n2 * n1 = n1 * n2) := ⟨by omega, Int.mul_comm _ _, Int.mul_comm _ _⟩
    have ZZ : Hid (cmpZ (nA * dA) (nA * dA) = 0 ∧ cmpZ (nM * dM) (nM * dM) = 0) := ⟨cmpZ_eq rfl, cmpZ_eq rfl⟩
    obtain ⟨fa, Hfa⟩ : ∃ b, Hid (decide (nA < 0) = b) := ⟨_, rfl⟩
    obtain ⟨ga, Hga⟩ : ∃ b, Hid (decide (dA < 0) = b) := ⟨_, rfl⟩
    obtain ⟨fm, Hfm⟩ : ∃ b, Hid (decide (nM < 0) = b) := ⟨_, rfl⟩
    obtain ⟨gm, Hgm⟩ : ∃ b, Hid (decide (dM < 0) = b) := ⟨_, rfl⟩
    obtain ⟨k0, k1, k2, k3, _, _⟩ := id V3
    obtain ⟨m0, m1, m2, m3, _, _⟩ := id V4
    refine wp_region_held_drew (S := Below w12.heap.size w12) (by kernel_rfl) ((Below.refl _ _).drew) (fun hHeld => ?_)
    have N : Below w12.heap.size w12 w12.drew := hHeld
    revert hHeld N
    generalize w12.drew = ww0
    intro hHeld N
    refine takeQ (i := 0) (gt rfl) (by kernel_rfl) (fun _ _ _ h => h) (by rfl) (by intro wq hSw; have q0 := bat hSw k0; have q1 := bat hSw k1; have q2 := bat hSw k2; have q3 := bat hSw k3; have q4 := bat hSw m0; have q5 := bat hSw m1; have q6 := bat hSw m2; have q7 := bat hSw m3; go_simp <;> with_reducible rfl) (by assumption) ?_
    try simp only [Act.put, sA, sB, sC]
    refine takeQ (i := 1) (gt rfl) (by kernel_rfl) (fun _ _ _ h => h) (by rfl) (by intro wq hSw; have q0 := bat hSw k0; have q1 := bat hSw k1; have q2 := bat hSw k2; have q3 := bat hSw k3; have q4 := bat hSw m0; have q5 := bat hSw m1; have q6 := bat hSw m2; have q7 := bat hSw m3; go_simp <;> with_reducible rfl) (by assumption) ?_
    try simp only [Act.put, sA, sB, sC]
    refine takeQ (i := 3) (gt rfl) (by kernel_rfl) (fun _ _ _ h => h) (by rfl) (by intro wq hSw; have q0 := bat hSw k0; have q1 := bat hSw k1; have q2 := bat hSw k2; have q3 := bat hSw k3; have q4 := bat hSw m0; have q5 := bat hSw m1; have q6 := bat hSw m2; have q7 := bat hSw m3; go_simp <;> with_reducible rfl) (by assumption) ?_
    try simp only [Act.put, sA, sB, sC]
    refine takeQ (i := 4) (gt rfl) (by kernel_rfl) (fun _ _ _ h => h) (by rfl) (by intro wq hSw; have q0 := bat hSw k0; have q1 := bat hSw k1; have q2 := bat hSw k2; have q3 := bat hSw k3; have q4 := bat hSw m0; have q5 := bat hSw m1; have q6 := bat hSw m2; have q7 := bat hSw m3; go_simp <;> with_reducible rfl) (by assumption) ?_
    try simp only [Act.put, sA, sB, sC]
    refine wpAnyH_ready (rs := [2]) (by kernel_rfl) (by simp) (AllReadyH.cons (gt rfl) (fun K hK => ?_) AllReadyH.nil)
    go_simp
    refine (implAddFrac g1 h1 g2 h2 a1 b1 a2 b2 c1 e1 c2 e2 xs ys zs ts _ (S1.below N) (S2.below N) (S3.below N) (S4.below N)).mono ?_
    rintro e1 ww1 ⟨u, rfl, hI, hb⟩
    rw [Hn1.out, Hd1.out, Hn2.out, Hd2.out] at hI
    replace hI := hI.as HA.out
    rw [HnA.out, HdA.out] at hI
    obtain ⟨qaa, qac, qaz, qab, qae, qat, rfl, qao, qap, qan, qam, qav, qau, _⟩ := hI
    have qaK0 := fnd_is qao.lim qan qav qap.lim qam qau BA.out.1 BA.out.2.1 BA.out.2.2
    rw [Hfa.out, Hga.out] at qaK0
    rw [Hfa.out, Hga.out]
    have qaK : Hid _ := qaK0.2
    clear qaK0 qan qam qav qau
    replace N := N.trans (hb.mono N.size)
    clear hb
    refine hK.out _ _ N (fun hHeld => ?_)
    clear hK K
    try simp only [Act.put, sA, sB, sC]
    refine wpAnyH_ready (rs := [5]) (by kernel_rfl) (by simp) (AllReadyH.cons (gt rfl) (fun K hK => ?_) AllReadyH.nil)
    go_simp
    refine (implAddFrac g2 h2 g1 h1 a2 b2 a1 b1 c2 e2 c1 e1 zs ts xs ys _ (S3.below N) (S4.below N) (S1.below N) (S2.below N)).mono ?_
    rintro e1 ww2 ⟨u, rfl, hI, hb⟩
    rw [Hn1.out, Hd1.out, Hn2.out, Hd2.out] at hI
    rw [XC.out.1, XC.out.2.1] at hI
    replace hI := hI.as HA.out
    rw [HnA.out, HdA.out] at hI
    obtain ⟨qba, qbc, qbz, qbb, qbe, qbt, rfl, qbo, qbp, qbn, qbm, qbv, qbu, _⟩ := hI
    have qbK0 := fnd_is qbo.lim qbn qbv qbp.lim qbm qbu BA.out.1 BA.out.2.1 BA.out.2.2
    rw [Hfa.out, Hga.out] at qbK0
    rw [Hfa.out, Hga.out]
    have qbK : Hid _ := qbK0.2
    clear qbK0 qbn qbm qbv qbu
    replace qao := qao.below hb
    replace qap := qap.below hb
    replace N := N.trans (hb.mono N.size)
    clear hb
    refine hK.out _ _ N (fun hHeld => ?_)
    clear hK K
    try simp only [Act.put, sA, sB, sC]
    refine wpAnyH_ready (rs := [6]) (by kernel_rfl) (by simp) (AllReadyH.cons (gt rfl) (fun K hK => ?_) AllReadyH.nil)
    go_simp
    refine (implCmpFrac fa ga fa ga qaa qab qba qbb qac qae qbc qbe qaz qat qbz qbt _ qao.toSees qap.toSees qbo.toSees qbp.toSees).mono ?_
    rintro e1 ww3 ⟨rfl, hb⟩
    rw [qaK.out.1, qaK.out.2, qbK.out.1, qbK.out.2, ZZ.out.1]
    replace qao := qao.below hb
    replace qap := qap.below hb
    replace qbo := qbo.below hb
    replace qbp := qbp.below hb
    replace N := N.trans (hb.mono N.size)
    clear hb
    clear qao qap qbo qbp
    refine hK.out _ _ N (fun hHeld => ?_)
    clear hK K
    try simp only [Act.put, sA, sB, sC]
    refine takeQ (i := 7) (gt rfl) (by kernel_rfl) (fun _ _ _ h => h) (by rfl) (by intro wq _; go_simp <;> with_reducible rfl) (by assumption) ?_
    try simp only [Act.put, sA, sB, sC]
    refine takeQ (i := 8) (gt rfl) (by kernel_rfl) (fun _ _ _ h => h) (by rfl) (by intro wq _; go_simp <;> with_reducible rfl) (by assumption) ?_
    try simp only [Act.put, sA, sB, sC]
    refine takeQ (i := 9) (gt rfl) (by kernel_rfl) (fun _ _ _ h => h) (by rfl) (by intro wq hSw; have q0 := bat hSw k0; have q1 := bat hSw k1; have q2 := bat hSw k2; have q3 := bat hSw k3; have q4 := bat hSw m0; have q5 := bat hSw m1; have q6 := bat hSw m2; have q7 := bat hSw m3; go_simp <;> with_reducible rfl) (by assumption) ?_
    try simp only [Act.put, sA, sB, sC]
    refine takeQ (i := 10) (gt rfl) (by kernel_rfl) (fun _ _ _ h => h) (by rfl) (by intro wq hSw; have q0 := bat hSw k0; have q1 := bat hSw k1; have q2 := bat hSw k2; have q3 := bat hSw k3; have q4 := bat hSw m0; have q5 := bat hSw m1; have q6 := bat hSw m2; have q7 := bat hSw m3; go_simp <;> with_reducible rfl) (by assumption) ?_
    try simp only [Act.put, sA, sB, sC]
    refine takeQ (i := 12) (gt rfl) (by kernel_rfl) (fun _ _ _ h => h) (by rfl) (by intro wq hSw; have q0 := bat hSw k0; have q1 := bat hSw k1; have q2 := bat hSw k2; have q3 := bat hSw k3; have q4 := bat hSw m0; have q5 := bat hSw m1; have q6 := bat hSw m2; have q7 := bat hSw m3; go_simp <;> with_reducible rfl) (by assumption) ?_
    try simp only [Act.put, sA, sB, sC]
    refine takeQ (i := 13) (gt rfl) (by kernel_rfl) (fun _ _ _ h => h) (by rfl) (by intro wq hSw; have q0 := bat hSw k0; have q1 := bat hSw k1; have q2 := bat hSw k2; have q3 := bat hSw k3; have q4 := bat hSw m0; have q5 := bat hSw m1; have q6 := bat hSw m2; have q7 := bat hSw m3; go_simp <;> with_reducible rfl) (by assumption) ?_
    try simp only [Act.put, sA, sB, sC]
    refine wpAnyH_ready (rs := [11]) (by kernel_rfl) (by simp) (AllReadyH.cons (gt rfl) (fun K hK => ?_) AllReadyH.nil)
    go_simp
    refine (implMulFrac g1 h1 g2 h2 a1 b1 a2 b2 c1 e1 c2 e2 xs ys zs ts _ (S1.below N) (S2.below N) (S3.below N) (S4.below N)).mono ?_
    rintro e1 ww4 ⟨u, rfl, hI, hb⟩
    rw [Hn1.out, Hd1.out, Hn2.out, Hd2.out] at hI
    replace hI := hI.as HMu.out
    rw [HnM.out, HdM.out] at hI
    obtain ⟨qca, qcc, qcz, qcb, qce, qct, rfl, qco, qcp, qcn, qcm, qcv, qcu, _⟩ := hI
    have qcK0 := fnd_is qco.lim qcn qcv qcp.lim qcm qcu BM.out.1 BM.out.2.1 BM.out.2.2
    rw [Hfm.out, Hgm.out] at qcK0
    rw [Hfm.out, Hgm.out]
    have qcK : Hid _ := qcK0.2
    clear qcK0 qcn qcm qcv qcu
    replace N := N.trans (hb.mono N.size)
    clear hb
    refine hK.out _ _ N (fun hHeld => ?_)
    clear hK K
    try simp only [Act.put, sA, sB, sC]
    refine wpAnyH_ready (rs := [14]) (by kernel_rfl) (by simp) (AllReadyH.cons (gt rfl) (fun K hK => ?_) AllReadyH.nil)
    go_simp
    refine (implMulFrac g2 h2 g1 h1 a2 b2 a1 b1 c2 e2 c1 e1 zs ts xs ys _ (S3.below N) (S4.below N) (S1.below N) (S2.below N)).mono ?_
    rintro e1 ww5 ⟨u, rfl, hI, hb⟩
    rw [Hn1.out, Hd1.out, Hn2.out, Hd2.out] at hI
    rw [XC.out.2.2, XC.out.2.1] at hI
    replace hI := hI.as HMu.out
    rw [HnM.out, HdM.out] at hI
    obtain ⟨qda, qdc, qdz, qdb, qde, qdt, rfl, qdo, qdp, qdn, qdm, qdv, qdu, _⟩ := hI
    have qdK0 := fnd_is qdo.lim qdn qdv qdp.lim qdm qdu BM.out.1 BM.out.2.1 BM.out.2.2
    rw [Hfm.out, Hgm.out] at qdK0
    rw [Hfm.out, Hgm.out]
    have qdK : Hid _ := qdK0.2
    clear qdK0 qdn qdm qdv qdu
    replace qco := qco.below hb
    replace qcp := qcp.below hb
    replace N := N.trans (hb.mono N.size)
    clear hb
    refine hK.out _ _ N (fun hHeld => ?_)
    clear hK K
    try simp only [Act.put, sA, sB, sC]
    refine wpAnyH_ready (rs := [15]) (by kernel_rfl) (by simp) (AllReadyH.cons (gt rfl) (fun K hK => ?_) AllReadyH.nil)
    go_simp
    refine (implCmpFrac fm gm fm gm qca qcb qda qdb qcc qce qdc qde qcz qct qdz qdt _ qco.toSees qcp.toSees qdo.toSees qdp.toSees).mono ?_
    rintro e1 ww6 ⟨rfl, hb⟩
    rw [qcK.out.1, qcK.out.2, qdK.out.1, qdK.out.2, ZZ.out.2]
    replace qco := qco.below hb
    replace qcp := qcp.below hb
    replace qdo := qdo.below hb
    replace qdp := qdp.below hb
    replace N := N.trans (hb.mono N.size)
    clear hb
    clear qco qcp qdo qdp
    refine hK.out _ _ N (fun hHeld => ?_)
    clear hK K
    try simp only [Act.put, sA, sB, sC]
    refine takeQ (i := 16) (gt rfl) (by kernel_rfl) (fun _ _ _ h => h) (by rfl) (by intro wq _; go_simp <;> with_reducible rfl) (by assumption) ?_
    try simp only [Act.put, sA, sB, sC]
    refine takeQ (i := 17) (gt rfl) (by kernel_rfl) (fun _ _ _ h => h) (by rfl) (by intro wq _; go_simp <;> with_reducible rfl) (by assumption) ?_
    try simp only [Act.put, sA, sB, sC]
    refine takeQ (i := 18) (gt rfl) (by kernel_rfl) (fun _ _ _ h => h) (by rfl) (by intro wq _; go_simp <;> with_reducible rfl) (by assumption) ?_
    try simp only [Act.put, sA, sB, sC]
    refine wpAnyH_done (by kernel_rfl) ?_ _
    go_wp2
    go_ret
    exact ⟨rfl, B0.trans (N.mono B0.size)⟩
  · have hd : decide (1048576 < (n : Int)) = true := decide_eq_true (by omega)
    clear hs HT hB
    go_enter Tryd.func4, Tryd.ntmps4
    go_wp2_with fail
    refine (bigB_any a n cap _).mono ?_
    rintro e w0 ⟨rfl, rfl⟩
    rw [hd]
    go_wp2_with fail
    go_ret
    exact ⟨rfl, Below.refl _ _⟩
end Go.Proofs.YtccdihglpobnmaaDoor
