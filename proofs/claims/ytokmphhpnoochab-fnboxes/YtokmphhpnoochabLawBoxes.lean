/- The law on boxes: FnBoxes. -/
import Derived.Test.YtokmphhpnoochabDrawB
import Derived.Test.YtokmphhpnoochabBig
import Derived.Test.YtokmphhpnoochabBoxN
import Derived.Test.YtokmphhpnoochabBoxG
namespace Go.Proofs.Ytokmphhpnoochab
open Go.RowKit

theorem join_is {a b c d m n r s : Int} (h1 : boxOk a b c d = true) (h2 : boxOk m n r s = true) : oA a b c d m n r s = min a m ∧ oB a b c d m n r s = min b n ∧ oC a b c d m n r s = max c r ∧ oD a b c d m n r s = max d s := by
  unfold oA oB oC oD jA jB jC jD
  rw [h1, h2]
  simp
theorem boxOk_pts {a b c d : Int} (h : boxOk a b c d = true) : ptOk a b = true ∧ ptOk c d = true := by unfold boxOk at h; simp only [Bool.and_eq_true] at h; exact ⟨h.1, h.2.1⟩
theorem ins_of {a b c d e f g h : Int} (h1 : boxOk a b c d = true) (h2 : boxOk e f g h = true) (l1 : e ≤ a) (l2 : f ≤ b) (l3 : c ≤ g) (l4 : d ≤ h) : insd a b c d e f g h = true := by
  obtain ⟨p1, p2⟩ := boxOk_pts h1
  have := boxOk_le h1
  unfold insd inX
  rw [h1, h2, p1, p2]
  simp [inB]
  omega
theorem area_mono {a b c d e f g h : Int} (h1 : boxOk a b c d = true) (h2 : boxOk e f g h = true) (l1 : e ≤ a) (l2 : f ≤ b) (l3 : c ≤ g) (l4 : d ≤ h) : area a b c d ≤ area e f g h ∧ marg a b c d ≤ marg e f g h := by
  have k1 := boxOk_le h1
  unfold area marg
  rw [h1, h2]
  simp only [if_true]
  refine ⟨?_, by omega⟩
  have m1 := Int.mul_le_mul (show c - a ≤ g - e by omega) (show d - b ≤ h - f by omega) (show 0 ≤ d - b by omega) (show 0 ≤ g - e by omega)
  exact m1
theorem ovl_comm (a b c d m n r s : Int) : ovl a b c d m n r s = ovl m n r s a b c d := by
  unfold ovl
  rw [Bool.eq_iff_iff]
  simp only [Bool.and_eq_true, decide_eq_true_eq]
  constructor <;> rintro ⟨x1, x2, x3, x4, x5, x6⟩ <;> exact ⟨x2, x1, x4, x3, x6, x5⟩
theorem sq_low (z : Int) : 0 ≤ z * z := by
  rcases Int.le_total 0 z with h | h
  · exact Int.mul_nonneg h h
  · have := Int.mul_nonneg (show 0 ≤ -z by omega) (show 0 ≤ -z by omega)
    rwa [Int.neg_mul_neg] at this
theorem gap_in {a b c d x y : Int} (h1 : boxOk a b c d = true) (h2 : ptOk x y = true) : bgap a b c d x y = 0 ↔ inX a b c d x y = true := by
  have k1 := boxOk_le h1
  unfold bgap inX
  rw [h1, h2]
  have s1 := sq_low (x - nr x a c)
  have s2 := sq_low (y - nr y b d)
  simp only [Bool.and_self, if_true, Bool.true_and]
  constructor
  · intro h
    have e1 : (x - nr x a c) * (x - nr x a c) = 0 := by omega
    have e2 : (y - nr y b d) * (y - nr y b d) = 0 := by omega
    have f1 : x - nr x a c = 0 := by rcases Int.mul_eq_zero.1 e1 with e | e <;> exact e
    have f2 : y - nr y b d = 0 := by rcases Int.mul_eq_zero.1 e2 with e | e <;> exact e
    unfold nr at f1 f2
    simp [inB]
    omega
  · intro h
    simp [inB] at h
    have f1 : x - nr x a c = 0 := by unfold nr; omega
    have f2 : y - nr y b d = 0 := by unfold nr; omega
    rw [f1, f2]
    rfl

set_option maxRecDepth 20000 in
set_option maxHeartbeats 16000000 in
theorem lawBoxes (sa : Option Addr) (sn sc : Nat) (w : World) (hB : Byt w sa sn) :
    Calls Try.prog 6 #[.slice sa sn sc] w fun e w' => e = .returned (.bool true) ∧ Below w.heap.size w w' := by
  by_cases hs : sn ≤ 1048576
  · have HM : Hid (sn ≤ 1048576) := hs
    have hd : decide (1048576 < (sn : Int)) = false := decide_eq_false (by omega)
    clear hs
    go_enter Try.func6, Try.ntmps6
    go_wp2_with fail
    refine (bigB_any sa sn sc _).mono ?_
    rintro e w0 ⟨rfl, rfl⟩
    rw [hd]
    clear hd
    go_wp2_with fail
    refine (drawJoin_any sa sn sc _ hB HM.out).mono ?_
    rintro e w1 ⟨a, b, c, d, m, n, r, s, rfl, B⟩
    have PA := (Box4.new w1 (Nat.le_refl _) (.int .i64 a) (.int .i64 b) (.int .i64 c) (.int .i64 d) 31).below (below1 _ (.cells #[.int .i64 m, .int .i64 n, .int .i64 r, .int .i64 s] 31))
    have PB := Box4.new (w1.alloc (.cells #[.int .i64 a, .int .i64 b, .int .i64 c, .int .i64 d] 31)) (lo := w1.heap.size) (by simp) (.int .i64 m) (.int .i64 n) (.int .i64 r) (.int .i64 s) 31
    simp only [World.size_alloc] at PB
    replace B := B.trans ((below2 w1 (.cells #[.int .i64 a, .int .i64 b, .int .i64 c, .int .i64 d] 31) (.cells #[.int .i64 m, .int .i64 n, .int .i64 r, .int .i64 s] 31)).mono B.size)
    go_wp2_with fail
    generalize (w1.alloc (.cells #[.int .i64 a, .int .i64 b, .int .i64 c, .int .i64 d] 31)).alloc (.cells #[.int .i64 m, .int .i64 n, .int .i64 r, .int .i64 s] 31) = W1 at *
    generalize w1.heap.size = p1 at *
    refine (drawInBox_any sa sn sc _ (hB.below B) HM.out).mono ?_
    rintro e w2 ⟨v1, v2, v3, v4, x, y, rfl, hb⟩
    replace B := B.trans (hb.mono B.size)
    replace PA := PA.below hb
    replace PB := PB.below hb
    clear hb hB HM
    have PX := Box2.new (w2.alloc (.cells #[.int .i64 v1, .int .i64 v2, .int .i64 v3, .int .i64 v4] 31)) (lo := 0) (Nat.zero_le _) (.int .i64 x) (.int .i64 y) 25
    simp only [World.size_alloc] at PX
    have bn := below2 w2 (.cells #[.int .i64 v1, .int .i64 v2, .int .i64 v3, .int .i64 v4] 31) (.cells #[.int .i64 x, .int .i64 y] 25)
    have z1 : p1 < w2.heap.size := PA.lt
    have z2 : p1 + 1 < w2.heap.size := PB.lt
    obtain ⟨a0, a1, a2, a3, _, _⟩ := id PA
    obtain ⟨b0, b1, b2, b3, _, _⟩ := id PB
    go_wp2_with fail
    clear a0 a1 a2 a3 b0 b1 b2 b3 z1 z2
    replace B := B.trans (bn.mono B.size)
    replace PA := PA.below bn
    replace PB := PB.below bn
    clear bn
    generalize (w2.alloc (.cells #[.int .i64 v1, .int .i64 v2, .int .i64 v3, .int .i64 v4] 31)).alloc (.cells #[.int .i64 x, .int .i64 y] 25) = W2 at *
    generalize w2.heap.size = p2 at *
    obtain ⟨j1, O1⟩ : ∃ u, Hid (oA a b c d m n r s = u) := ⟨_, rfl⟩
    obtain ⟨j2, O2⟩ : ∃ u, Hid (oB a b c d m n r s = u) := ⟨_, rfl⟩
    obtain ⟨j3, O3⟩ : ∃ u, Hid (oC a b c d m n r s = u) := ⟨_, rfl⟩
    obtain ⟨j4, O4⟩ : ∃ u, Hid (oD a b c d m n r s = u) := ⟨_, rfl⟩
    refine (implJoin _ _ _ _ _ _ _ _ _).mono ?_
    rintro e w3 ⟨rfl, hb⟩
    rw [O1.out, O2.out, O3.out, O4.out]
    replace B := B.trans (hb.mono B.size)
    replace PA := PA.below hb
    replace PB := PB.below hb
    replace PX := PX.below hb
    clear hb
    have PJ := Box4.new w3 (lo := 0) (Nat.zero_le _) (.int .i64 j1) (.int .i64 j2) (.int .i64 j3) (.int .i64 j4) 31
    have bn := below1 w3 (.cells #[.int .i64 j1, .int .i64 j2, .int .i64 j3, .int .i64 j4] 31)
    have z1 : p1 < w3.heap.size := PA.lt
    have z2 : p1 + 1 < w3.heap.size := PB.lt
    have z3 : p2 + 1 < w3.heap.size := PX.lt
    obtain ⟨a0, a1, a2, a3, _, _⟩ := id PA
    obtain ⟨b0, b1, b2, b3, _, _⟩ := id PB
    go_wp2_with fail
    clear a0 a1 a2 a3 b0 b1 b2 b3 z1 z2 z3
    replace B := B.trans (bn.mono B.size)
    replace PA := PA.below bn
    replace PB := PB.below bn
    replace PX := PX.below bn
    clear bn
    generalize w3.alloc (.cells #[.int .i64 j1, .int .i64 j2, .int .i64 j3, .int .i64 j4] 31) = W3 at *
    generalize w3.heap.size = p3 at *
    obtain ⟨a0, a1, a2, a3, _, _⟩ := id PA
    obtain ⟨b0, b1, b2, b3, _, _⟩ := id PB
    obtain ⟨x0, x1, _, _⟩ := id PX
    obtain ⟨d0, d1, d2, d3, _, _⟩ := id PJ
    by_cases hall : boxOk a b c d = true ∧ boxOk m n r s = true
    · obtain ⟨h1, h2⟩ := hall
      obtain ⟨e1, e2, e3, e4⟩ := join_is h1 h2
      rw [O1.out] at e1
      rw [O2.out] at e2
      rw [O3.out] at e3
      rw [O4.out] at e4
      obtain ⟨q1, q2, q3, q4⟩ := boxOk_crd h1
      obtain ⟨q5, q6, q7, q8⟩ := boxOk_crd h2
      have l1 := boxOk_le h1
      have l2 := boxOk_le h2
      have hj : boxOk j1 j2 j3 j4 = true := by
        rw [e1, e2, e3, e4]
        exact crd_boxOk (crd_min q1 q5) (crd_min q2 q6) (crd_max q3 q7) (crd_max q4 q8) (by omega) (by omega)
      have F1 : Hid (boxOk j1 j2 j3 j4 = true) := hj
      have F2 : Hid (insd a b c d j1 j2 j3 j4 = true) := ins_of h1 hj (by omega) (by omega) (by omega) (by omega)
      have F3 : Hid (insd m n r s j1 j2 j3 j4 = true) := ins_of h2 hj (by omega) (by omega) (by omega) (by omega)
      have m1 := area_mono h1 hj (by omega) (by omega) (by omega) (by omega)
      have m2 := area_mono h2 hj (by omega) (by omega) (by omega) (by omega)
      have F7 : Hid (ovl a b c d j1 j2 j3 j4 = true) := by
        show _ = true
        unfold ovl
        rw [h1, hj]
        simp
        omega
      obtain ⟨ov, hov⟩ : ∃ u, ovl a b c d m n r s = u := ⟨_, rfl⟩
      have F5 : Hid (ovl a b c d m n r s = ov) := hov
      have F6 : Hid (ovl m n r s a b c d = ov) := by show _ = ov; rw [← ovl_comm]; exact hov
      obtain ⟨gv, hg⟩ : ∃ u, grn a b c d m n r s = u := ⟨_, rfl⟩
      have g0 : 0 ≤ gv := by
        rw [← hg]
        unfold grn
        rw [O1.out, O2.out, O3.out, O4.out]
        omega
      have F4 : Hid (grn a b c d m n r s = gv) := hg
      obtain ⟨ma, hma⟩ : ∃ u, Hid (marg a b c d = u) := ⟨_, rfl⟩
      obtain ⟨mj, hmj⟩ : ∃ u, Hid (marg j1 j2 j3 j4 = u) := ⟨_, rfl⟩
      obtain ⟨ab, hab⟩ : ∃ u, Hid (area m n r s = u) := ⟨_, rfl⟩
      obtain ⟨aj, haj⟩ : ∃ u, Hid (area j1 j2 j3 j4 = u) := ⟨_, rfl⟩
      have y1 : ma ≤ mj := by rw [← hma.out, ← hmj.out]; exact m1.2
      have y2 : ab ≤ aj := by rw [← hab.out, ← haj.out]; exact m2.1
      obtain ⟨gp, hgp⟩ : ∃ u, bgap a b c d x y = u := ⟨_, rfl⟩
      obtain ⟨ib, hib⟩ : ∃ u, inX a b c d x y = u := ⟨_, rfl⟩
      have G1 : Hid (bgap a b c d x y = gp) := hgp
      have G2 : Hid (inX a b c d x y = ib) := hib
      have sp : (ptOk x y = true ∧ gp = 0 ∧ ib = true) ∨ (ptOk x y = true ∧ gp ≠ 0 ∧ ib = false) ∨ (ptOk x y = false ∧ gp = -1) := by
        cases h3 : ptOk x y
        · refine .inr (.inr ⟨rfl, ?_⟩)
          rw [← hgp]
          unfold bgap
          rw [h3]
          simp
        · have e := gap_in h1 h3
          rw [hgp, hib] at e
          by_cases z : gp = 0
          · exact .inl ⟨rfl, z, e.1 z⟩
          · refine .inr (.inl ⟨rfl, z, ?_⟩)
            cases ib
            · rfl
            · exact absurd (e.2 rfl) z
      clear hgp hib hg hov m1 m2 hj e1 e2 e3 e4 q1 q2 q3 q4 q5 q6 q7 q8 l1 l2
      have H1 : Hid (boxOk a b c d = true) := h1
      have H2 : Hid (boxOk m n r s = true) := h2
      clear h1 h2
      rcases sp with ⟨h3, t1, t2⟩ | ⟨h3, t1, t2⟩ | ⟨h3, t1⟩
      all_goals
        try subst t2
        go_wp2_with (first
          | (go_at_call 26; refine (specBoxOk _ _ _ _ _).mono ?_; rintro e wx ⟨rfl, hb⟩; (first | rw [H1.out] | rw [H2.out]); replace B := B.trans (hb.mono B.size); replace PA := PA.below hb; replace PB := PB.below hb; replace PX := PX.below hb; replace PJ := PJ.below hb; clear hb; obtain ⟨a0, a1, a2, a3, _, _⟩ := id PA; obtain ⟨b0, b1, b2, b3, _, _⟩ := id PB; obtain ⟨x0, x1, _, _⟩ := id PX; obtain ⟨d0, d1, d2, d3, _, _⟩ := id PJ)
          | (go_at_call 29; refine (implBoxGap _ _ _ _ _ _ _).mono ?_; rintro e wx ⟨rfl, hb⟩; rw [G1.out]; replace B := B.trans (hb.mono B.size); replace PA := PA.below hb; replace PB := PB.below hb; replace PX := PX.below hb; replace PJ := PJ.below hb; clear hb; obtain ⟨a0, a1, a2, a3, _, _⟩ := id PA; obtain ⟨b0, b1, b2, b3, _, _⟩ := id PB; obtain ⟨x0, x1, _, _⟩ := id PX; obtain ⟨d0, d1, d2, d3, _, _⟩ := id PJ)
          | (go_at_call 9; refine (specPtOk _ _ _).mono ?_; rintro e wx ⟨rfl, hb⟩; rw [h3]; replace B := B.trans (hb.mono B.size); replace PA := PA.below hb; replace PB := PB.below hb; replace PX := PX.below hb; replace PJ := PJ.below hb; clear hb; obtain ⟨a0, a1, a2, a3, _, _⟩ := id PA; obtain ⟨b0, b1, b2, b3, _, _⟩ := id PB; obtain ⟨x0, x1, _, _⟩ := id PX; obtain ⟨d0, d1, d2, d3, _, _⟩ := id PJ)
          | (go_at_call 14; refine (implInBox _ _ _ _ _ _ _).mono ?_; rintro e wx ⟨rfl, hb⟩; rw [G2.out]; replace B := B.trans (hb.mono B.size); replace PA := PA.below hb; replace PB := PB.below hb; replace PX := PX.below hb; replace PJ := PJ.below hb; clear hb; obtain ⟨a0, a1, a2, a3, _, _⟩ := id PA; obtain ⟨b0, b1, b2, b3, _, _⟩ := id PB; obtain ⟨x0, x1, _, _⟩ := id PX; obtain ⟨d0, d1, d2, d3, _, _⟩ := id PJ))
        rename World => W9
        have k0 : W9.cell? ⟨p1, 0, none⟩ = some (.int .i64 a) ∧ W9.cell? ⟨p1, 1, none⟩ = some (.int .i64 b) ∧ W9.cell? ⟨p1, 2, none⟩ = some (.int .i64 c) ∧ W9.cell? ⟨p1, 3, none⟩ = some (.int .i64 d) ∧ W9.cell? ⟨p1 + 1, 0, none⟩ = some (.int .i64 m) ∧ W9.cell? ⟨p1 + 1, 1, none⟩ = some (.int .i64 n) ∧ W9.cell? ⟨p1 + 1, 2, none⟩ = some (.int .i64 r) ∧ W9.cell? ⟨p1 + 1, 3, none⟩ = some (.int .i64 s) ∧ W9.cell? ⟨p3, 0, none⟩ = some (.int .i64 j1) ∧ W9.cell? ⟨p3, 1, none⟩ = some (.int .i64 j2) ∧ W9.cell? ⟨p3, 2, none⟩ = some (.int .i64 j3) ∧ W9.cell? ⟨p3, 3, none⟩ = some (.int .i64 j4) := ⟨PA.c0, PA.c1, PA.c2, PA.c3, PB.c0, PB.c1, PB.c2, PB.c3, PJ.c0, PJ.c1, PJ.c2, PJ.c3⟩
        clear PA PB PX PJ a0 a1 a2 a3 b0 b1 b2 b3 x0 x1 d0 d1 d2 d3
        have E : Below W9.heap.size W9 W9 := Below.refl _ _
        go_region_held3 (fun w' => w'.cell? ⟨p1, 0, none⟩ = some (.int .i64 a) ∧ w'.cell? ⟨p1, 1, none⟩ = some (.int .i64 b) ∧ w'.cell? ⟨p1, 2, none⟩ = some (.int .i64 c) ∧ w'.cell? ⟨p1, 3, none⟩ = some (.int .i64 d) ∧ w'.cell? ⟨p1 + 1, 0, none⟩ = some (.int .i64 m) ∧ w'.cell? ⟨p1 + 1, 1, none⟩ = some (.int .i64 n) ∧ w'.cell? ⟨p1 + 1, 2, none⟩ = some (.int .i64 r) ∧ w'.cell? ⟨p1 + 1, 3, none⟩ = some (.int .i64 s) ∧ w'.cell? ⟨p3, 0, none⟩ = some (.int .i64 j1) ∧ w'.cell? ⟨p3, 1, none⟩ = some (.int .i64 j2) ∧ w'.cell? ⟨p3, 2, none⟩ = some (.int .i64 j3) ∧ w'.cell? ⟨p3, 3, none⟩ = some (.int .i64 j4))
          (first | exact k0 | exact ⟨bat E k0.1, bat E k0.2.1, bat E k0.2.2.1, bat E k0.2.2.2.1, bat E k0.2.2.2.2.1, bat E k0.2.2.2.2.2.1, bat E k0.2.2.2.2.2.2.1, bat E k0.2.2.2.2.2.2.2.1, bat E k0.2.2.2.2.2.2.2.2.1, bat E k0.2.2.2.2.2.2.2.2.2.1, bat E k0.2.2.2.2.2.2.2.2.2.2.1, bat E k0.2.2.2.2.2.2.2.2.2.2.2⟩ | exact ⟨bat E.drew k0.1, bat E.drew k0.2.1, bat E.drew k0.2.2.1, bat E.drew k0.2.2.2.1, bat E.drew k0.2.2.2.2.1, bat E.drew k0.2.2.2.2.2.1, bat E.drew k0.2.2.2.2.2.2.1, bat E.drew k0.2.2.2.2.2.2.2.1, bat E.drew k0.2.2.2.2.2.2.2.2.1, bat E.drew k0.2.2.2.2.2.2.2.2.2.1, bat E.drew k0.2.2.2.2.2.2.2.2.2.2.1, bat E.drew k0.2.2.2.2.2.2.2.2.2.2.2⟩)
          (first
          | (go_at_call 27; refine (implBoxOk _ _ _ _ _).mono ?_; rintro e wx ⟨rfl, hb⟩; rw [F1.out]; (first | replace E := E.trans (hb.mono E.size) | replace E := E.drew.trans (hb.mono E.drew.size)))
          | (go_at_call 30; refine (implInside _ _ _ _ _ _ _ _ _).mono ?_; rintro e wx ⟨rfl, hb⟩; (first | rw [F2.out] | rw [F3.out]); (first | replace E := E.trans (hb.mono E.size) | replace E := E.drew.trans (hb.mono E.drew.size)))
          | (go_at_call 31; refine (implGrown _ _ _ _ _ _ _ _ _).mono ?_; rintro e wx ⟨rfl, hb⟩; rw [F4.out]; (first | replace E := E.trans (hb.mono E.size) | replace E := E.drew.trans (hb.mono E.drew.size)))
          | (go_at_call 32; refine (implMargin _ _ _ _ _).mono ?_; rintro e wx ⟨rfl, hb⟩; (first | rw [hmj.out] | rw [hma.out]); (first | replace E := E.trans (hb.mono E.size) | replace E := E.drew.trans (hb.mono E.drew.size)))
          | (go_at_call 28; refine (implOverlap _ _ _ _ _ _ _ _ _).mono ?_; rintro e wx ⟨rfl, hb⟩; (first | rw [F5.out] | rw [F6.out] | rw [F7.out]); (first | replace E := E.trans (hb.mono E.size) | replace E := E.drew.trans (hb.mono E.drew.size)))
          | (go_at_call 33; refine (implBoxArea _ _ _ _ _).mono ?_; rintro e wx ⟨rfl, hb⟩; (first | rw [haj.out] | rw [hab.out]); (first | replace E := E.trans (hb.mono E.size) | replace E := E.drew.trans (hb.mono E.drew.size))))
        go_wp2
        go_ret
        exact ⟨rfl, B.trans (E.mono B.size)⟩
    · have ho : ovl a b c d m n r s = false := by
        unfold ovl
        cases h1 : boxOk a b c d <;> cases h2 : boxOk m n r s
        · rfl
        · rfl
        · rfl
        · exact absurd ⟨h1, h2⟩ hall
      have HO : Hid (ovl a b c d m n r s = false) := ho
      clear ho
      cases h1 : boxOk a b c d <;> cases h2 : boxOk m n r s
      all_goals
        first
        | (exfalso; exact hall ⟨h1, h2⟩)
        | skip
      all_goals
        go_wp2_with ((go_at_call 26; refine (specBoxOk _ _ _ _ _).mono ?_; rintro e wx ⟨rfl, hb⟩; (first | rw [h1] | rw [h2]); replace B := B.trans (hb.mono B.size); replace PA := PA.below hb; replace PB := PB.below hb; replace PX := PX.below hb; replace PJ := PJ.below hb; clear hb; obtain ⟨a0, a1, a2, a3, _, _⟩ := id PA; obtain ⟨b0, b1, b2, b3, _, _⟩ := id PB; obtain ⟨x0, x1, _, _⟩ := id PX; obtain ⟨d0, d1, d2, d3, _, _⟩ := id PJ))
        rename World => W9
        have k0 : W9.cell? ⟨p1, 0, none⟩ = some (.int .i64 a) ∧ W9.cell? ⟨p1, 1, none⟩ = some (.int .i64 b) ∧ W9.cell? ⟨p1, 2, none⟩ = some (.int .i64 c) ∧ W9.cell? ⟨p1, 3, none⟩ = some (.int .i64 d) ∧ W9.cell? ⟨p1 + 1, 0, none⟩ = some (.int .i64 m) ∧ W9.cell? ⟨p1 + 1, 1, none⟩ = some (.int .i64 n) ∧ W9.cell? ⟨p1 + 1, 2, none⟩ = some (.int .i64 r) ∧ W9.cell? ⟨p1 + 1, 3, none⟩ = some (.int .i64 s) ∧ W9.cell? ⟨p3, 0, none⟩ = some (.int .i64 j1) ∧ W9.cell? ⟨p3, 1, none⟩ = some (.int .i64 j2) ∧ W9.cell? ⟨p3, 2, none⟩ = some (.int .i64 j3) ∧ W9.cell? ⟨p3, 3, none⟩ = some (.int .i64 j4) := ⟨PA.c0, PA.c1, PA.c2, PA.c3, PB.c0, PB.c1, PB.c2, PB.c3, PJ.c0, PJ.c1, PJ.c2, PJ.c3⟩
        clear PA PB PX PJ a0 a1 a2 a3 b0 b1 b2 b3 x0 x1 d0 d1 d2 d3
        have E : Below W9.heap.size W9 W9 := Below.refl _ _
        go_region_held3 (fun w' => w'.cell? ⟨p1, 0, none⟩ = some (.int .i64 a) ∧ w'.cell? ⟨p1, 1, none⟩ = some (.int .i64 b) ∧ w'.cell? ⟨p1, 2, none⟩ = some (.int .i64 c) ∧ w'.cell? ⟨p1, 3, none⟩ = some (.int .i64 d) ∧ w'.cell? ⟨p1 + 1, 0, none⟩ = some (.int .i64 m) ∧ w'.cell? ⟨p1 + 1, 1, none⟩ = some (.int .i64 n) ∧ w'.cell? ⟨p1 + 1, 2, none⟩ = some (.int .i64 r) ∧ w'.cell? ⟨p1 + 1, 3, none⟩ = some (.int .i64 s) ∧ w'.cell? ⟨p3, 0, none⟩ = some (.int .i64 j1) ∧ w'.cell? ⟨p3, 1, none⟩ = some (.int .i64 j2) ∧ w'.cell? ⟨p3, 2, none⟩ = some (.int .i64 j3) ∧ w'.cell? ⟨p3, 3, none⟩ = some (.int .i64 j4))
          (first | exact k0 | exact ⟨bat E k0.1, bat E k0.2.1, bat E k0.2.2.1, bat E k0.2.2.2.1, bat E k0.2.2.2.2.1, bat E k0.2.2.2.2.2.1, bat E k0.2.2.2.2.2.2.1, bat E k0.2.2.2.2.2.2.2.1, bat E k0.2.2.2.2.2.2.2.2.1, bat E k0.2.2.2.2.2.2.2.2.2.1, bat E k0.2.2.2.2.2.2.2.2.2.2.1, bat E k0.2.2.2.2.2.2.2.2.2.2.2⟩ | exact ⟨bat E.drew k0.1, bat E.drew k0.2.1, bat E.drew k0.2.2.1, bat E.drew k0.2.2.2.1, bat E.drew k0.2.2.2.2.1, bat E.drew k0.2.2.2.2.2.1, bat E.drew k0.2.2.2.2.2.2.1, bat E.drew k0.2.2.2.2.2.2.2.1, bat E.drew k0.2.2.2.2.2.2.2.2.1, bat E.drew k0.2.2.2.2.2.2.2.2.2.1, bat E.drew k0.2.2.2.2.2.2.2.2.2.2.1, bat E.drew k0.2.2.2.2.2.2.2.2.2.2.2⟩)
          (first
          | (go_at_call 27; refine (implBoxOk _ _ _ _ _).mono ?_; rintro e wx ⟨rfl, hb⟩; rw [h1]; (first | replace E := E.trans (hb.mono E.size) | replace E := E.drew.trans (hb.mono E.drew.size)))
          | (go_at_call 26; refine (specBoxOk _ _ _ _ _).mono ?_; rintro e wx ⟨rfl, hb⟩; rw [h1]; (first | replace E := E.trans (hb.mono E.size) | replace E := E.drew.trans (hb.mono E.drew.size)))
          | (go_at_call 28; refine (implOverlap _ _ _ _ _ _ _ _ _).mono ?_; rintro e wx ⟨rfl, hb⟩; rw [HO.out]; (first | replace E := E.trans (hb.mono E.size) | replace E := E.drew.trans (hb.mono E.drew.size))))
        go_wp2
        go_ret
        exact ⟨rfl, B.trans (E.mono B.size)⟩
  · have hd : decide (1048576 < (sn : Int)) = true := decide_eq_true (by omega)
    go_enter Try.func6, Try.ntmps6
    go_wp2_with fail
    refine (bigB_any sa sn sc _).mono ?_
    rintro e w0 ⟨rfl, rfl⟩
    rw [hd]
    go_wp2
    go_ret
    exact ⟨rfl, Below.refl _ _⟩
end Go.Proofs.Ytokmphhpnoochab
