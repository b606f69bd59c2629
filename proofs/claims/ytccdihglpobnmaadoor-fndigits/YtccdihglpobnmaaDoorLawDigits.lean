/- The law on digits: FnDigits. -/
import Derived.Test.YtccdihglpobnmaaDoorDrawQ
import Derived.Test.YtccdihglpobnmaaDoorParse
import Derived.Test.YtccdihglpobnmaaDoorParseI
import Derived.Test.YtccdihglpobnmaaDoorNumTx
import Derived.Test.YtccdihglpobnmaaDoorSmallW
import Derived.Test.YtccdihglpobnmaaDoorGcdC
import Derived.Test.YtccdihglpobnmaaDoorDivT
import Derived.Test.YtccdihglpobnmaaDoorSameN
namespace Go.Proofs.YtccdihglpobnmaaDoor
open Go.RowKit

theorem big63 : (9223372036854775808 : Int) < 4294967296 ^ 24 := by decide
theorem mg_lt {z P : Int} (h : -P < z ∧ z < P) : mg z < P := by unfold mg; split <;> omega
/-- What a right number's limbs are. -/
theorem gcd_facts {g1 g2 : Bool} {xs ys gs : List Int} (l1 : Lim xs) (l2 : Lim ys) (h1 : okB g1 xs = true) (h2 : okB g2 ys = true) (lg : Lim gs) (ng : Nrm gs) (vg : val gs = mg (Int.gcd (tk g1 xs) (tk g2 ys) : Int)) :
    (gs.length = 0 → xs.length = 0 ∧ ys.length = 0) ∧ (¬ gs.length = 0 → gs.length ≤ 24 ∧ tk false gs = (Int.gcd (tk g1 xs) (tk g2 ys) : Int) ∧ rz (tk g1 xs) (tk false gs) = 0 ∧ rz (tk g2 ys) (tk false gs) = 0) := by
  obtain ⟨f1, n1, s1, e1⟩ := ok_facts l1 h1
  obtain ⟨f2, n2, s2, e2⟩ := ok_facts l2 h2
  have b1 := tk_bounds g1 xs l1
  have b2 := tk_bounds g2 ys l2
  have m0 : mg (Int.gcd (tk g1 xs) (tk g2 ys) : Int) = (Int.gcd (tk g1 xs) (tk g2 ys) : Int) := by rw [mg_nat]; omega
  constructor
  · intro h0
    obtain rfl : gs = [] := List.eq_nil_of_length_eq_zero h0
    rw [m0] at vg
    simp only [val] at vg
    have z : Int.gcd (tk g1 xs) (tk g2 ys) = 0 := by omega
    obtain ⟨z1, z2⟩ := Int.gcd_eq_zero_iff.mp z
    rw [z1] at e1
    rw [z2] at e2
    constructor
    · apply Nat.eq_zero_of_not_pos
      intro hx
      have := val_pos l1 n1 (by intro e; rw [e] at hx; cases hx)
      rw [e1] at this
      simp [mg] at this
    · apply Nat.eq_zero_of_not_pos
      intro hx
      have := val_pos l2 n2 (by intro e; rw [e] at hx; cases hx)
      rw [e2] at this
      simp [mg] at this
  · intro k
    have hg : Int.gcd (tk g1 xs) (tk g2 ys) ≠ 0 := by
      intro z
      rw [m0, z] at vg
      have := val_pos lg ng (by intro e; rw [e] at k; exact k rfl)
      rw [vg] at this
      simp at this
    have hle : (Int.gcd (tk g1 xs) (tk g2 ys) : Int) < 4294967296 ^ 24 := by
      by_cases z1 : tk g1 xs = 0
      · have : Int.gcd (tk g1 xs) (tk g2 ys) = (tk g2 ys).natAbs := by rw [z1]; simp
        rw [this]
        omega
      · have := Nat.le_of_dvd (Int.natAbs_pos.mpr z1) (Int.natAbs_dvd_natAbs.mpr (Int.gcd_dvd_left (tk g1 xs) (tk g2 ys)))
        have e : ((Int.gcd (tk g1 xs) (tk g2 ys) : Int)).natAbs = Int.gcd (tk g1 xs) (tk g2 ys) := rfl
        omega
    have s : gs.length ≤ 24 := len_le lg ng (by rw [vg, m0]; exact hle)
    have t := (tk_val lg ng s vg).2
    rw [decide_eq_false (show ¬ ((Int.gcd (tk g1 xs) (tk g2 ys) : Int)) < 0 by omega)] at t
    refine ⟨s, t, ?_, ?_⟩
    · rw [t]; unfold rz; rw [if_neg (by omega)]
      exact Int.emod_eq_zero_of_dvd (Int.gcd_dvd_left _ _)
    · rw [t]; unfold rz; rw [if_neg (by omega)]
      exact Int.emod_eq_zero_of_dvd (Int.gcd_dvd_right _ _)
theorem zero_len {rs : List Int} (hl : Lim rs) (hn : Nrm rs) (hv : val rs = mg 0) : rs.length = 0 := by
  apply Nat.eq_zero_of_not_pos
  intro hx
  have := val_pos hl hn (by intro e; rw [e] at hx; cases hx)
  rw [hv] at this
  simp [mg] at this

set_option maxRecDepth 20000 in
set_option maxHeartbeats 4000000 in
theorem lawDigits (a : Option Addr) (n cap : Nat) (w : World) (hB : Byt w a n) (HT0 : ∀ w', Below w.heap.size w w' → Pow10 w') :
    Calls Tryd.prog 3 #[.slice a n cap] w fun e w' => e = .returned (.bool true) ∧ Below w.heap.size w w' := by
  have HT : Hid (∀ w', Below w.heap.size w w' → Pow10 w') := HT0
  clear HT0
  by_cases hs : n ≤ 1048576
  · have HM : Hid (n ≤ 1048576) := hs
    have hd : decide (1048576 < (n : Int)) = false := decide_eq_false (by omega)
    clear hs
    go_enter Tryd.func3, Tryd.ntmps3
    go_wp2_with fail
    refine (bigB_any a n cap _).mono ?_
    rintro e w0 ⟨rfl, rfl⟩
    rw [hd]
    clear hd
    go_wp2_with fail
    refine (drawGcd_any a n cap _ hB HM.out).mono ?_
    rintro e w1 ⟨v1, v2, rfl, A1, A2, B0⟩
    obtain ⟨g1, a1, c1, xs, rfl, o1, l1⟩ := A1.is'
    obtain ⟨g2, a2, c2, ys, rfl, o2, l2⟩ := A2.is'
    clear A1 A2
    have bn := below2 w1 (.cells #[.bool g1, .slice a1 xs.length c1] 26) (.cells #[.bool g2, .slice a2 ys.length c2] 26)
    have V1 := (Box2.new w1 (lo := 0) (by omega) (.bool g1) (.slice a1 xs.length c1) 26).below (below1 _ (.cells #[.bool g2, .slice a2 ys.length c2] 26))
    have V2 := Box2.new (w1.alloc (.cells #[.bool g1, .slice a1 xs.length c1] 26)) (lo := 0) (by omega) (.bool g2) (.slice a2 ys.length c2) 26
    rw [World.size_alloc] at V2
    have S1 := o1.toSees.below bn
    have S2 := o2.toSees.below bn
    replace B0 := B0.trans (bn.mono B0.size)
    clear o1 o2 bn l1 l2
    go_wp2_with fail
    generalize (w1.alloc (.cells #[.bool g1, .slice a1 xs.length c1] 26)).alloc (.cells #[.bool g2, .slice a2 ys.length c2] 26) = W1 at *
    generalize w1.heap.size = q1 at *
    refine (drawOf_any a n cap _ (hB.below B0) HM.out).mono ?_
    rintro e w2 ⟨z, rfl, z0, z1, hb⟩
    replace V1 := V1.below hb
    replace V2 := V2.below hb
    replace S1 := S1.below hb
    replace S2 := S2.below hb
    replace B0 := B0.trans (hb.mono B0.size)
    clear hb hB HM
    have HZ : Hid (-9223372036854775808 ≤ z ∧ z ≤ 9223372036854775807) := ⟨z0, z1⟩
    clear z0 z1
    have HZB : Hid (-(4294967296 ^ 24) < z ∧ z < 4294967296 ^ 24) := by
      have := HZ.out
      have := big63
      unfold Hid
      omega
    go_wp2_with fail
    refine (implOf z _ HZ.out.1 HZ.out.2).mono ?_
    rintro e w3 ⟨v3, rfl, ⟨a3, c3, us, rfl, o3, n3, v3⟩, hb⟩
    replace V1 := V1.below hb
    replace V2 := V2.below hb
    replace S1 := S1.below hb
    replace S2 := S2.below hb
    replace B0 := B0.trans (hb.mono B0.size)
    clear hb
    have T3 := tk_val o3.lim n3 (len_le o3.lim n3 (by rw [v3]; exact mg_lt HZB.out)) v3
    go_wp2_with fail
    refine (implSmall (decide (z < 0)) a3 c3 us _ o3.toSees).mono ?_
    rintro e w4 ⟨rfl, hb⟩
    rw [T3.2, (sm_in HZ.out.1 HZ.out.2).1, (sm_in HZ.out.1 HZ.out.2).2]
    clear T3 o3 n3 v3
    replace V1 := V1.below hb
    replace V2 := V2.below hb
    replace S1 := S1.below hb
    replace S2 := S2.below hb
    replace B0 := B0.trans (hb.mono B0.size)
    clear hb
    go_wp2_with fail
    refine (implOf z _ HZ.out.1 HZ.out.2).mono ?_
    rintro e w5 ⟨v3, rfl, ⟨a3, c3, us, rfl, o3, n3, v3⟩, hb⟩
    replace V1 := V1.below hb
    replace V2 := V2.below hb
    replace S1 := S1.below hb
    replace S2 := S2.below hb
    replace B0 := B0.trans (hb.mono B0.size)
    clear hb
    have T3 := tk_val o3.lim n3 (len_le o3.lim n3 (by rw [v3]; exact mg_lt HZB.out)) v3
    go_wp2_with fail
    refine (implNumText (decide (z < 0)) a3 c3 us _ o3.toSees (fun w' hb => HT.out w' (B0.trans (hb.mono B0.size)))).mono ?_
    rintro e w6 ⟨rfl, hb⟩
    rw [T3.2]
    clear T3 o3 n3 v3
    replace V1 := V1.below hb
    replace V2 := V2.below hb
    replace S1 := S1.below hb
    replace S2 := S2.below hb
    replace B0 := B0.trans (hb.mono B0.size)
    clear hb
    obtain ⟨tz, HTZ⟩ : ∃ tz, Hid (numT z = tz) := ⟨_, rfl⟩
    rw [HTZ.out]
    go_wp2_with fail
    refine (specOf z _ HZ.out.1 HZ.out.2).mono ?_
    rintro e w7 ⟨v3, rfl, ⟨a3, c3, us, rfl, o3, n3, v3⟩, hb⟩
    replace V1 := V1.below hb
    replace V2 := V2.below hb
    replace S1 := S1.below hb
    replace S2 := S2.below hb
    replace B0 := B0.trans (hb.mono B0.size)
    clear hb
    have T3 := tk_val o3.lim n3 (len_le o3.lim n3 (by rw [v3]; exact mg_lt HZB.out)) v3
    go_wp2_with fail
    refine (specNumText (decide (z < 0)) a3 c3 us _ o3.toSees).mono ?_
    rintro e w8 ⟨rfl, hb⟩
    rw [T3.2, HTZ.out]
    clear T3 o3 n3 v3 HTZ
    replace V1 := V1.below hb
    replace V2 := V2.below hb
    replace S1 := S1.below hb
    replace S2 := S2.below hb
    replace B0 := B0.trans (hb.mono B0.size)
    clear hb
    clear HZ HZB
    obtain ⟨k0, k1, _, _⟩ := id V1
    obtain ⟨m0, m1, _, _⟩ := id V2
    go_wp2_with fail
    refine (specOk g1 a1 c1 xs _ S1).mono ?_
    rintro e w9 ⟨rfl, hb⟩
    clear k0 k1 m0 m1
    replace V1 := V1.below hb
    replace V2 := V2.below hb
    replace S1 := S1.below hb
    replace S2 := S2.below hb
    replace B0 := B0.trans (hb.mono B0.size)
    clear hb
    obtain ⟨k0, k1, _, _⟩ := id V1
    obtain ⟨m0, m1, _, _⟩ := id V2
    cases h1 : okB g1 xs
    · go_wp2_with fail
      go_ret
      exact ⟨rfl, B0⟩
    · go_wp2_with fail
      refine (specOk g2 a2 c2 ys _ S2).mono ?_
      rintro e w10 ⟨rfl, hb⟩
      clear k0 k1 m0 m1
      replace V1 := V1.below hb
      replace V2 := V2.below hb
      replace S1 := S1.below hb
      replace S2 := S2.below hb
      replace B0 := B0.trans (hb.mono B0.size)
      clear hb
      obtain ⟨k0, k1, _, _⟩ := id V1
      obtain ⟨m0, m1, _, _⟩ := id V2
      cases h2 : okB g2 ys
      · go_wp2_with fail
        go_ret
        exact ⟨rfl, B0⟩
      · have H1 : Hid (okB g1 xs = true ∧ okB g2 ys = true) := ⟨h1, h2⟩
        clear h1 h2
        go_wp2_with fail
        refine (implNumText g1 a1 c1 xs _ S1 (fun w' hb => HT.out w' (B0.trans (hb.mono B0.size)))).mono ?_
        rintro e w11 ⟨rfl, hb⟩
        clear k0 k1 m0 m1
        replace V1 := V1.below hb
        replace V2 := V2.below hb
        replace S1 := S1.below hb
        replace S2 := S2.below hb
        replace B0 := B0.trans (hb.mono B0.size)
        clear hb
        have HP : Hid (pOk (mnB (numT (tk g1 xs))) (pd (numT (tk g1 xs))) = true ∧ pZ (mnB (numT (tk g1 xs))) (pd (numT (tk g1 xs))) = tk g1 xs ∧ (numT (tk g1 xs)).size ≤ 300) := parse_numT _ (nat_digits (tk_bounds g1 xs S1.lim))
        obtain ⟨tz, HTZ⟩ : ∃ tz, Hid (numT (tk g1 xs) = tz) := ⟨_, rfl⟩
        rw [HTZ.out]
        rw [HTZ.out] at HP
        clear HTZ
        go_wp2_with fail
        refine (implParse tz _ (by have := HP.out; omega)).mono ?_
        rintro e w12 ⟨v12, rfl, hI, hb⟩
        rw [HP.out.1]
        rw [HP.out.2.1] at hI
        clear HP
        replace V1 := V1.below hb
        replace V2 := V2.below hb
        replace S1 := S1.below hb
        replace S2 := S2.below hb
        replace B0 := B0.trans (hb.mono B0.size)
        clear hb
        obtain ⟨f1, nx, s1, e1⟩ := ok_facts S1.lim H1.out.1
        obtain ⟨ay, cy, rfl, oy⟩ := hI.as S1.lim nx e1
        rw [← f1]
        clear hI f1 nx s1 e1
        have bn := below1 w12 (.cells #[.bool g1, .slice ay xs.length cy] 26)
        have V8 := Box2.new w12 (lo := 0) (by omega) (.bool g1) (.slice ay xs.length cy) 26
        have S8 := oy.toSees.below bn
        clear oy
        replace V1 := V1.below bn
        replace V2 := V2.below bn
        replace S1 := S1.below bn
        replace S2 := S2.below bn
        replace B0 := B0.trans (bn.mono B0.size)
        clear bn
        obtain ⟨k0, k1, _, _⟩ := id V1
        obtain ⟨m0, m1, _, _⟩ := id V2
        go_wp2_with fail
        generalize w12.alloc (.cells #[.bool g1, .slice ay xs.length cy] 26) = W12 at *
        generalize w12.heap.size = q8 at *
        refine (implGcd g1 g2 a1 a2 c1 c2 xs ys _ S1 S2).mono ?_
        rintro e w13 ⟨v13, rfl, ⟨ag, cg, gs, rfl, og, ng, vg⟩, hb⟩
        clear k0 k1 m0 m1
        replace V1 := V1.below hb
        replace V2 := V2.below hb
        replace V8 := V8.below hb
        replace S1 := S1.below hb
        replace S2 := S2.below hb
        replace S8 := S8.below hb
        replace B0 := B0.trans (hb.mono B0.size)
        clear hb
        have HG := gcd_facts S1.lim S2.lim H1.out.1 H1.out.2 og.lim ng vg
        have hfl : decide ((Int.gcd (tk g1 xs) (tk g2 ys) : Int) < 0) = false := decide_eq_false (by omega)
        rw [hfl]
        clear ng vg H1 hfl
        have bn := below1 w13 (.cells #[.bool false, .slice ag gs.length cg] 26)
        have V10 := Box2.new w13 (lo := 0) (by omega) (.bool false) (.slice ag gs.length cg) 26
        have S10 := og.toSees.below bn
        clear og
        replace V1 := V1.below bn
        replace V2 := V2.below bn
        replace V8 := V8.below bn
        replace S1 := S1.below bn
        replace S2 := S2.below bn
        replace S8 := S8.below bn
        replace B0 := B0.trans (bn.mono B0.size)
        clear bn
        obtain ⟨k0, k1, _, _⟩ := id V1
        obtain ⟨m0, m1, _, _⟩ := id V2
        obtain ⟨j0, j1, _, _⟩ := id V8
        go_wp2_with fail
        generalize w13.alloc (.cells #[.bool false, .slice ag gs.length cg] 26) = W13 at *
        generalize w13.heap.size = q10 at *
        refine (sameNumC g1 ay a1 cy c1 xs _ S8 S1).mono ?_
        rintro e w14 ⟨rfl, hb⟩
        clear k0 k1 m0 m1 j0 j1
        replace V1 := V1.below hb
        replace V2 := V2.below hb
        replace V10 := V10.below hb
        replace S1 := S1.below hb
        replace S2 := S2.below hb
        replace S10 := S10.below hb
        replace B0 := B0.trans (hb.mono B0.size)
        clear hb
        clear V8 S8
        obtain ⟨k0, k1, _, _⟩ := id V1
        obtain ⟨m0, m1, _, _⟩ := id V2
        obtain ⟨j0, j1, _, _⟩ := id V10
        have HGH : Hid _ := HG
        clear HG
        by_cases hz : gs.length = 0
        · obtain ⟨x0, y0⟩ := HGH.out.1 hz
          have hz' : ((gs.length : Int) == 0) = true := by rw [hz]; rfl
          have x0' : ((xs.length : Int) == 0) = true := by rw [x0]; rfl
          have y0' : ((ys.length : Int) == 0) = true := by rw [y0]; rfl
          clear hz x0 y0 HGH
          go_wp2_with fail
          go_ret
          exact ⟨rfl, B0⟩
        · obtain ⟨_, _, r1, r2⟩ := HGH.out.2 hz
          have hz' : ((gs.length : Int) == 0) = false := by rw [beq_eq_false_iff_ne]; omega
          have R1 : Hid _ := r1
          have R2 : Hid _ := r2
          clear hz HGH r1 r2
          go_wp2_with fail
          refine (implDivMod g1 false a1 ag c1 cg xs gs _ S1 S10).mono ?_
          rintro e w15 ⟨vq, vr, rfl, ⟨a3, c3, qs, a4, c4, rs, rfl, rfl, o3, o4, n3, n4, v3, v4, _⟩, hb⟩
          clear k0 k1 m0 m1 j0 j1
          replace V1 := V1.below hb
          replace V2 := V2.below hb
          replace V10 := V10.below hb
          replace S1 := S1.below hb
          replace S2 := S2.below hb
          replace S10 := S10.below hb
          replace B0 := B0.trans (hb.mono B0.size)
          clear hb
          rw [R1.out] at v4
          have zr := zero_len o4.lim n4 v4
          rw [R1.out]
          obtain rfl : rs = [] := List.eq_nil_of_length_eq_zero zr
          clear R1 zr v4 n4 n3 v3
          obtain ⟨gq, hgq⟩ : ∃ gq, Hid (decide (tk g1 xs / tk false gs < 0) = gq) := ⟨_, rfl⟩
          obtain ⟨go, hgo⟩ : ∃ go, Hid (decide (tk false gs ≠ 0) = go) := ⟨_, rfl⟩
          have e0 : decide ((0 : Int) < 0) = false := rfl
          rw [hgq.out, hgo.out, e0, List.length_nil]
          clear e0
          have bn := below2 w15 (.cells #[.bool gq, .slice a3 qs.length c3] 26) (.cells #[.bool false, .slice a4 0 c4] 26)
          have V12 := Box2.new (w15.alloc (.cells #[.bool gq, .slice a3 qs.length c3] 26)) (lo := 0) (by omega) (.bool false) (.slice a4 0 c4) 26
          rw [World.size_alloc] at V12
          replace V1 := V1.below bn
          replace V2 := V2.below bn
          replace V10 := V10.below bn
          replace S1 := S1.below bn
          replace S2 := S2.below bn
          replace S10 := S10.below bn
          replace B0 := B0.trans (bn.mono B0.size)
          clear bn
          clear o3 o4
          obtain ⟨k0, k1, _, _⟩ := id V1
          obtain ⟨m0, m1, _, _⟩ := id V2
          obtain ⟨j0, j1, _, _⟩ := id V10
          go_wp2_with fail
          generalize (w15.alloc (.cells #[.bool gq, .slice a3 qs.length c3] 26)).alloc (.cells #[.bool false, .slice a4 0 c4] 26) = W15 at *
          generalize w15.heap.size = q11 at *
          refine (implDivMod g2 false a2 ag c2 cg ys gs _ S2 S10).mono ?_
          rintro e w16 ⟨vq, vr, rfl, ⟨a5, c5, ps, a6, c6, ts, rfl, rfl, o3, o4, n3, n4, v3, v4, _⟩, hb⟩
          clear k0 k1 m0 m1 j0 j1
          replace V1 := V1.below hb
          replace V2 := V2.below hb
          replace V10 := V10.below hb
          replace V12 := V12.below hb
          replace S1 := S1.below hb
          replace S2 := S2.below hb
          replace S10 := S10.below hb
          replace B0 := B0.trans (hb.mono B0.size)
          clear hb
          rw [R2.out] at v4
          have zr := zero_len o4.lim n4 v4
          rw [R2.out]
          obtain rfl : ts = [] := List.eq_nil_of_length_eq_zero zr
          clear R2 zr v4 n4 n3 v3
          obtain ⟨gp, hgp⟩ : ∃ gp, Hid (decide (tk g2 ys / tk false gs < 0) = gp) := ⟨_, rfl⟩
          have e0 : decide ((0 : Int) < 0) = false := rfl
          rw [hgp.out, hgo.out, e0, List.length_nil]
          clear e0
          have bn := below2 w16 (.cells #[.bool gp, .slice a5 ps.length c5] 26) (.cells #[.bool false, .slice a6 0 c6] 26)
          have V15 := Box2.new (w16.alloc (.cells #[.bool gp, .slice a5 ps.length c5] 26)) (lo := 0) (by omega) (.bool false) (.slice a6 0 c6) 26
          rw [World.size_alloc] at V15
          replace V1 := V1.below bn
          replace V2 := V2.below bn
          replace V10 := V10.below bn
          replace V12 := V12.below bn
          replace S1 := S1.below bn
          replace S2 := S2.below bn
          replace S10 := S10.below bn
          replace B0 := B0.trans (bn.mono B0.size)
          clear bn
          clear o3 o4 V1 V2
          obtain ⟨j0, j1, _, _⟩ := id V10
          obtain ⟨i0, i1, _, _⟩ := id V12
          obtain ⟨h0, h1, _, _⟩ := id V15
          go_wp2_with fail
          go_ret
          exact ⟨rfl, B0⟩
  · have hd : decide (1048576 < (n : Int)) = true := decide_eq_true (by omega)
    clear hs HT hB
    go_enter Tryd.func3, Tryd.ntmps3
    go_wp2_with fail
    refine (bigB_any a n cap _).mono ?_
    rintro e w0 ⟨rfl, rfl⟩
    rw [hd]
    go_wp2_with fail
    go_ret
    exact ⟨rfl, Below.refl _ _⟩
end Go.Proofs.YtccdihglpobnmaaDoor
