/- The law on sums and products: FnSums. -/
import Derived.Test.YtfddiojcahbkfaaDrawQ
import Derived.Test.YtfddiojcahbkfaaBig
import Derived.Test.YtfddiojcahbkfaaAddW
import Derived.Test.YtfddiojcahbkfaaSubW
import Derived.Test.YtfddiojcahbkfaaMulI
import Derived.Test.YtfddiojcahbkfaaCmpI
import Derived.Test.YtfddiojcahbkfaaCmpW
import Derived.Test.YtfddiojcahbkfaaSameN
import Derived.Test.YtfddiojcahbkfaaSumB
import Derived.Test.YtfddiojcahbkfaaHeldQ
import Derived.Deep.DeepCutAuto
namespace Go.Proofs.Ytfddiojcahbkfaa
open Go.RowKit

theorem keep6 {W W' : World} {p1 p2 p3 : Nat} {v0 v1 v2 v3 v4 v5 : Value} (k : W.cell? ⟨p1, 0, none⟩ = some v0 ∧ W.cell? ⟨p1, 1, none⟩ = some v1 ∧ W.cell? ⟨p2, 0, none⟩ = some v2 ∧ W.cell? ⟨p2, 1, none⟩ = some v3 ∧ W.cell? ⟨p3, 0, none⟩ = some v4 ∧ W.cell? ⟨p3, 1, none⟩ = some v5) (hb : Below W.heap.size W W') :
    W'.cell? ⟨p1, 0, none⟩ = some v0 ∧ W'.cell? ⟨p1, 1, none⟩ = some v1 ∧ W'.cell? ⟨p2, 0, none⟩ = some v2 ∧ W'.cell? ⟨p2, 1, none⟩ = some v3 ∧ W'.cell? ⟨p3, 0, none⟩ = some v4 ∧ W'.cell? ⟨p3, 1, none⟩ = some v5 :=
  ⟨bat hb k.1, bat hb k.2.1, bat hb k.2.2.1, bat hb k.2.2.2.1, bat hb k.2.2.2.2.1, bat hb k.2.2.2.2.2⟩
theorem keep10 {W W' : World} {p1 p2 p3 p4 p5 : Nat} {v0 v1 v2 v3 v4 v5 v6 v7 v8 v9 : Value} (k : W.cell? ⟨p1, 0, none⟩ = some v0 ∧ W.cell? ⟨p1, 1, none⟩ = some v1 ∧ W.cell? ⟨p2, 0, none⟩ = some v2 ∧ W.cell? ⟨p2, 1, none⟩ = some v3 ∧ W.cell? ⟨p3, 0, none⟩ = some v4 ∧ W.cell? ⟨p3, 1, none⟩ = some v5 ∧ W.cell? ⟨p4, 0, none⟩ = some v6 ∧ W.cell? ⟨p4, 1, none⟩ = some v7 ∧ W.cell? ⟨p5, 0, none⟩ = some v8 ∧ W.cell? ⟨p5, 1, none⟩ = some v9) (hb : Below W.heap.size W W') :
    W'.cell? ⟨p1, 0, none⟩ = some v0 ∧ W'.cell? ⟨p1, 1, none⟩ = some v1 ∧ W'.cell? ⟨p2, 0, none⟩ = some v2 ∧ W'.cell? ⟨p2, 1, none⟩ = some v3 ∧ W'.cell? ⟨p3, 0, none⟩ = some v4 ∧ W'.cell? ⟨p3, 1, none⟩ = some v5 ∧ W'.cell? ⟨p4, 0, none⟩ = some v6 ∧ W'.cell? ⟨p4, 1, none⟩ = some v7 ∧ W'.cell? ⟨p5, 0, none⟩ = some v8 ∧ W'.cell? ⟨p5, 1, none⟩ = some v9 :=
  ⟨bat hb k.1, bat hb k.2.1, bat hb k.2.2.1, bat hb k.2.2.2.1, bat hb k.2.2.2.2.1, bat hb k.2.2.2.2.2.1, bat hb k.2.2.2.2.2.2.1, bat hb k.2.2.2.2.2.2.2.1, bat hb k.2.2.2.2.2.2.2.2.1, bat hb k.2.2.2.2.2.2.2.2.2⟩

theorem Byt.sub {w : World} {x : Addr} {n k : Nat} (h : Byt w (some x) n) (hk : k ≤ n) : Byt w (some (x.add k)) (n - k) := by
  intro j hj
  obtain ⟨b, off, e, y, y0, y1, hc⟩ := h (k + j) (by omega)
  injection e with e
  subst e
  refine ⟨b, off + k, by rw [Addr.add_lit], y, y0, y1, ?_⟩
  rw [Nat.add_assoc]
  exact hc
theorem Byt.none (w : World) (a : Option Addr) {n : Nat} (h : n = 0) : Byt w a n := fun j hj => by omega

set_option maxRecDepth 20000 in
set_option maxHeartbeats 4000000 in
theorem lawSums (a : Option Addr) (n cap : Nat) (w : World) (hB : Byt w a n) (hcap : n ≤ cap) (hmx : cap ≤ maxLen) (hsh : (a = none ∧ n = 0 ∧ cap = 0) ∨ ∃ x, a = some x) :
    Calls Try.prog 3 #[.slice a n cap] w fun e w' => e = .returned (.bool true) ∧ Below w.heap.size w w' := by
  unfold maxLen at hmx
  by_cases hs : n ≤ 1048576
  · have HM : Hid (n ≤ 1048576) := hs
    have hd : decide (1048576 < (n : Int)) = false := decide_eq_false (by omega)
    go_enter Try.func3, Try.ntmps3
    go_wp2_with fail
    refine (bigB_any a n cap _).mono ?_
    rintro e w0 ⟨rfl, rfl⟩
    rw [hd]
    clear hd
    go_wp2_with fail
    refine (drawAdd_any a n cap _ hB HM.out).mono ?_
    rintro e w1 ⟨v1, v2, rfl, A1, A2, B0⟩
    obtain ⟨g1, a1, c1, xs, rfl, o1, l1⟩ := A1.is'
    obtain ⟨g2, a2, c2, ys, rfl, o2, l2⟩ := A2.is'
    clear A1 A2
    have bn := below2 w1 (.cells #[.bool g1, .slice a1 xs.length c1] 26) (.cells #[.bool g2, .slice a2 ys.length c2] 26)
    have V1 := (Box2.new w1 (lo := 0) (by omega) (.bool g1) (.slice a1 xs.length c1) 26).below (below1 _ (.cells #[.bool g2, .slice a2 ys.length c2] 26))
    have V2 := Box2.new (w1.alloc (.cells #[.bool g1, .slice a1 xs.length c1] 26)) (lo := 0) (by omega) (.bool g2) (.slice a2 ys.length c2) 26
    rw [World.size_alloc] at V2
    have S1 := o1.toSees.below bn
    have S2 := o2.toSees.below bn
    replace B0 := B0.trans (bn.mono B0.size)
    have hB1 := hB.below B0
    clear o1 o2 bn hB
    go_upto_region 4 with fail
    generalize (w1.alloc (.cells #[.bool g1, .slice a1 xs.length c1] 26)).alloc (.cells #[.bool g2, .slice a2 ys.length c2] 26) = W0 at *
    go_cut [5, 6] (fun s5 s6 W => ∃ p q g3 a3 c3 zs, s5 = .pointer (some ⟨p, 0, none⟩) ∧ s6 = .pointer (some ⟨q, 0, none⟩) ∧ Box2 0 W p (.bool g3) (.slice a3 zs.length c3) ∧ Sees W a3 c3 zs ∧ zs.length ≤ 64 ∧ Below W0.heap.size W0 W)
    case first =>
      have hn2 : n / 2 ≤ n := by omega
      rcases hsh with ⟨rfl, rfl, rfl⟩ | ⟨x, rfl⟩
      · go_wp2_with fail
        refine (drawMul_any none 0 0 _ hB1 (by omega)).mono ?_
        rintro e w3 ⟨v3, v4, rfl, A3, A4, hb⟩
        obtain ⟨g3, a3, c3, zs, rfl, o3, l3⟩ := A3.is'
        obtain ⟨g4, a4, c4, ts, rfl, _⟩ := A4.is'
        go_wp2
        go_meet
        case rel => exact ⟨_, _, g3, a3, c3, zs, rfl, rfl, (Box2.new w3 (lo := 0) (by omega) (.bool g3) (.slice a3 zs.length c3) 26).below (below1 _ _), o3.toSees.below (below2 _ _ _), l3, hb.trans ((below2 _ _ _).mono hb.size)⟩
      · have hB2 := hB1.sub hn2
        by_cases hc0 : cap = 0
        · obtain rfl : n = 0 := by omega
          subst hc0
          clear hB2 hn2
          go_wp2_with fail
          refine (drawMul_any (some x) 0 0 _ hB1 (by omega)).mono ?_
          rintro e w3 ⟨v3, v4, rfl, A3, A4, hb⟩
          obtain ⟨g3, a3, c3, zs, rfl, o3, l3⟩ := A3.is'
          obtain ⟨g4, a4, c4, ts, rfl, _⟩ := A4.is'
          go_wp2
          go_meet
          case rel => exact ⟨_, _, g3, a3, c3, zs, rfl, rfl, (Box2.new w3 (lo := 0) (by omega) (.bool g3) (.slice a3 zs.length c3) 26).below (below1 _ _), o3.toSees.below (below2 _ _ _), l3, hb.trans ((below2 _ _ _).mono hb.size)⟩
        · have hc1 : 0 < cap - n / 2 := by omega
          go_wp2_with fail
          refine (drawMul_any _ (n - n / 2) _ _ hB2 (by omega)).mono ?_
          rintro e w3 ⟨v3, v4, rfl, A3, A4, hb⟩
          obtain ⟨g3, a3, c3, zs, rfl, o3, l3⟩ := A3.is'
          obtain ⟨g4, a4, c4, ts, rfl, _⟩ := A4.is'
          go_wp2
          go_meet
          case rel => exact ⟨_, _, g3, a3, c3, zs, rfl, rfl, (Box2.new w3 (lo := 0) (by omega) (.bool g3) (.slice a3 zs.length c3) 26).below (below1 _ _), o3.toSees.below (below2 _ _ _), l3, hb.trans ((below2 _ _ _).mono hb.size)⟩
    obtain ⟨p3, p4, g3, a3, c3, zs, rfl, rfl, V3, S3, l3, hb⟩ := hcut
    rename World => W2
    replace V1 := V1.below hb
    replace V2 := V2.below hb
    replace S1 := S1.below hb
    replace S2 := S2.below hb
    replace B0 := B0.trans (hb.mono B0.size)
    have K : W2.cell? ⟨w1.heap.size, 0, none⟩ = some (.bool g1) ∧ W2.cell? ⟨w1.heap.size, 1, none⟩ = some (.slice a1 xs.length c1) ∧ W2.cell? ⟨w1.heap.size + 1, 0, none⟩ = some (.bool g2) ∧ W2.cell? ⟨w1.heap.size + 1, 1, none⟩ = some (.slice a2 ys.length c2) ∧ W2.cell? ⟨p3, 0, none⟩ = some (.bool g3) ∧ W2.cell? ⟨p3, 1, none⟩ = some (.slice a3 zs.length c3) := ⟨V1.c0, V1.c1, V2.c0, V2.c1, V3.c0, V3.c1⟩
    have B : Below W2.heap.size W2 W2 := Below.refl _ _
    clear V1 V2 V3 hb hB1 hsh hcap hmx hs
    obtain ⟨k1, k2, k3, k4, k5, k6⟩ := keep6 K B
    cases h1 : okB g1 xs <;> cases h2 : okB g2 ys <;> cases h3 : okB g3 zs

    · go_wp2_with (first
                | (go_at_call_of 9 (Value.slice a1 xs.length c1); refine (specOk g1 a1 c1 xs _ (S1.below B)).mono ?_; rintro e w5 ⟨rfl, hb⟩; rw [h1]; replace B := B.trans (hb.mono B.size); clear hb; obtain ⟨k1, k2, k3, k4, k5, k6⟩ := keep6 K B)
                | (go_at_call_of 9 (Value.slice a2 ys.length c2); refine (specOk g2 a2 c2 ys _ (S2.below B)).mono ?_; rintro e w5 ⟨rfl, hb⟩; rw [h2]; replace B := B.trans (hb.mono B.size); clear hb; obtain ⟨k1, k2, k3, k4, k5, k6⟩ := keep6 K B)
                | (go_at_call_of 9 (Value.slice a3 zs.length c3); refine (specOk g3 a3 c3 zs _ (S3.below B)).mono ?_; rintro e w5 ⟨rfl, hb⟩; rw [h3]; replace B := B.trans (hb.mono B.size); clear hb; obtain ⟨k1, k2, k3, k4, k5, k6⟩ := keep6 K B))
      all_goals
        rename World => w9
        have K9 : w9.cell? ⟨w1.heap.size, 0, none⟩ = some (.bool g1) ∧ w9.cell? ⟨w1.heap.size, 1, none⟩ = some (.slice a1 xs.length c1) := ⟨(keep6 K B).1, (keep6 K B).2.1⟩
        clear k1 k2 k3 k4 k5 k6
        go_region_held3 (fun w' => w'.cell? ⟨w1.heap.size, 0, none⟩ = some (.bool g1) ∧ w'.cell? ⟨w1.heap.size, 1, none⟩ = some (.slice a1 xs.length c1))
          (first | exact K9 | exact m1 | exact m2)
          (first
          | (go_at_call 10; refine (implOk g1 a1 c1 xs _ (S1.below B.drew)).mono ?_; rintro e x1 ⟨rfl, hb⟩; rw [h1]; have N1 := B.drew.trans (hb.mono B.drew.size); have m1 : x1.cell? ⟨w1.heap.size, 0, none⟩ = some (.bool g1) ∧ x1.cell? ⟨w1.heap.size, 1, none⟩ = some (.slice a1 xs.length c1) := ⟨bat hb K9.1, bat hb K9.2⟩; clear hb)
          | (go_at_call 9; refine (specOk g1 a1 c1 xs _ (S1.below N1)).mono ?_; rintro e x2 ⟨rfl, hb⟩; rw [h1]; have N2 := N1.trans (hb.mono N1.size); have m2 : x2.cell? ⟨w1.heap.size, 0, none⟩ = some (.bool g1) ∧ x2.cell? ⟨w1.heap.size, 1, none⟩ = some (.slice a1 xs.length c1) := ⟨bat hb m1.1, bat hb m1.2⟩; clear hb))
        all_goals
          go_wp2
          go_ret
          exact ⟨rfl, B0.trans (N2.mono B0.size)⟩
    · go_wp2_with (first
                | (go_at_call_of 9 (Value.slice a1 xs.length c1); refine (specOk g1 a1 c1 xs _ (S1.below B)).mono ?_; rintro e w5 ⟨rfl, hb⟩; rw [h1]; replace B := B.trans (hb.mono B.size); clear hb; obtain ⟨k1, k2, k3, k4, k5, k6⟩ := keep6 K B)
                | (go_at_call_of 9 (Value.slice a2 ys.length c2); refine (specOk g2 a2 c2 ys _ (S2.below B)).mono ?_; rintro e w5 ⟨rfl, hb⟩; rw [h2]; replace B := B.trans (hb.mono B.size); clear hb; obtain ⟨k1, k2, k3, k4, k5, k6⟩ := keep6 K B)
                | (go_at_call_of 9 (Value.slice a3 zs.length c3); refine (specOk g3 a3 c3 zs _ (S3.below B)).mono ?_; rintro e w5 ⟨rfl, hb⟩; rw [h3]; replace B := B.trans (hb.mono B.size); clear hb; obtain ⟨k1, k2, k3, k4, k5, k6⟩ := keep6 K B))
      all_goals
        rename World => w9
        have K9 : w9.cell? ⟨w1.heap.size, 0, none⟩ = some (.bool g1) ∧ w9.cell? ⟨w1.heap.size, 1, none⟩ = some (.slice a1 xs.length c1) := ⟨(keep6 K B).1, (keep6 K B).2.1⟩
        clear k1 k2 k3 k4 k5 k6
        go_region_held3 (fun w' => w'.cell? ⟨w1.heap.size, 0, none⟩ = some (.bool g1) ∧ w'.cell? ⟨w1.heap.size, 1, none⟩ = some (.slice a1 xs.length c1))
          (first | exact K9 | exact m1 | exact m2)
          (first
          | (go_at_call 10; refine (implOk g1 a1 c1 xs _ (S1.below B.drew)).mono ?_; rintro e x1 ⟨rfl, hb⟩; rw [h1]; have N1 := B.drew.trans (hb.mono B.drew.size); have m1 : x1.cell? ⟨w1.heap.size, 0, none⟩ = some (.bool g1) ∧ x1.cell? ⟨w1.heap.size, 1, none⟩ = some (.slice a1 xs.length c1) := ⟨bat hb K9.1, bat hb K9.2⟩; clear hb)
          | (go_at_call 9; refine (specOk g1 a1 c1 xs _ (S1.below N1)).mono ?_; rintro e x2 ⟨rfl, hb⟩; rw [h1]; have N2 := N1.trans (hb.mono N1.size); have m2 : x2.cell? ⟨w1.heap.size, 0, none⟩ = some (.bool g1) ∧ x2.cell? ⟨w1.heap.size, 1, none⟩ = some (.slice a1 xs.length c1) := ⟨bat hb m1.1, bat hb m1.2⟩; clear hb))
        all_goals
          go_wp2
          go_ret
          exact ⟨rfl, B0.trans (N2.mono B0.size)⟩
    · go_wp2_with (first
                | (go_at_call_of 9 (Value.slice a1 xs.length c1); refine (specOk g1 a1 c1 xs _ (S1.below B)).mono ?_; rintro e w5 ⟨rfl, hb⟩; rw [h1]; replace B := B.trans (hb.mono B.size); clear hb; obtain ⟨k1, k2, k3, k4, k5, k6⟩ := keep6 K B)
                | (go_at_call_of 9 (Value.slice a2 ys.length c2); refine (specOk g2 a2 c2 ys _ (S2.below B)).mono ?_; rintro e w5 ⟨rfl, hb⟩; rw [h2]; replace B := B.trans (hb.mono B.size); clear hb; obtain ⟨k1, k2, k3, k4, k5, k6⟩ := keep6 K B)
                | (go_at_call_of 9 (Value.slice a3 zs.length c3); refine (specOk g3 a3 c3 zs _ (S3.below B)).mono ?_; rintro e w5 ⟨rfl, hb⟩; rw [h3]; replace B := B.trans (hb.mono B.size); clear hb; obtain ⟨k1, k2, k3, k4, k5, k6⟩ := keep6 K B))
      all_goals
        rename World => w9
        have K9 : w9.cell? ⟨w1.heap.size, 0, none⟩ = some (.bool g1) ∧ w9.cell? ⟨w1.heap.size, 1, none⟩ = some (.slice a1 xs.length c1) := ⟨(keep6 K B).1, (keep6 K B).2.1⟩
        clear k1 k2 k3 k4 k5 k6
        go_region_held3 (fun w' => w'.cell? ⟨w1.heap.size, 0, none⟩ = some (.bool g1) ∧ w'.cell? ⟨w1.heap.size, 1, none⟩ = some (.slice a1 xs.length c1))
          (first | exact K9 | exact m1 | exact m2)
          (first
          | (go_at_call 10; refine (implOk g1 a1 c1 xs _ (S1.below B.drew)).mono ?_; rintro e x1 ⟨rfl, hb⟩; rw [h1]; have N1 := B.drew.trans (hb.mono B.drew.size); have m1 : x1.cell? ⟨w1.heap.size, 0, none⟩ = some (.bool g1) ∧ x1.cell? ⟨w1.heap.size, 1, none⟩ = some (.slice a1 xs.length c1) := ⟨bat hb K9.1, bat hb K9.2⟩; clear hb)
          | (go_at_call 9; refine (specOk g1 a1 c1 xs _ (S1.below N1)).mono ?_; rintro e x2 ⟨rfl, hb⟩; rw [h1]; have N2 := N1.trans (hb.mono N1.size); have m2 : x2.cell? ⟨w1.heap.size, 0, none⟩ = some (.bool g1) ∧ x2.cell? ⟨w1.heap.size, 1, none⟩ = some (.slice a1 xs.length c1) := ⟨bat hb m1.1, bat hb m1.2⟩; clear hb))
        all_goals
          go_wp2
          go_ret
          exact ⟨rfl, B0.trans (N2.mono B0.size)⟩
    · go_wp2_with (first
                | (go_at_call_of 9 (Value.slice a1 xs.length c1); refine (specOk g1 a1 c1 xs _ (S1.below B)).mono ?_; rintro e w5 ⟨rfl, hb⟩; rw [h1]; replace B := B.trans (hb.mono B.size); clear hb; obtain ⟨k1, k2, k3, k4, k5, k6⟩ := keep6 K B)
                | (go_at_call_of 9 (Value.slice a2 ys.length c2); refine (specOk g2 a2 c2 ys _ (S2.below B)).mono ?_; rintro e w5 ⟨rfl, hb⟩; rw [h2]; replace B := B.trans (hb.mono B.size); clear hb; obtain ⟨k1, k2, k3, k4, k5, k6⟩ := keep6 K B)
                | (go_at_call_of 9 (Value.slice a3 zs.length c3); refine (specOk g3 a3 c3 zs _ (S3.below B)).mono ?_; rintro e w5 ⟨rfl, hb⟩; rw [h3]; replace B := B.trans (hb.mono B.size); clear hb; obtain ⟨k1, k2, k3, k4, k5, k6⟩ := keep6 K B))
      all_goals
        rename World => w9
        have K9 : w9.cell? ⟨w1.heap.size, 0, none⟩ = some (.bool g1) ∧ w9.cell? ⟨w1.heap.size, 1, none⟩ = some (.slice a1 xs.length c1) := ⟨(keep6 K B).1, (keep6 K B).2.1⟩
        clear k1 k2 k3 k4 k5 k6
        go_region_held3 (fun w' => w'.cell? ⟨w1.heap.size, 0, none⟩ = some (.bool g1) ∧ w'.cell? ⟨w1.heap.size, 1, none⟩ = some (.slice a1 xs.length c1))
          (first | exact K9 | exact m1 | exact m2)
          (first
          | (go_at_call 10; refine (implOk g1 a1 c1 xs _ (S1.below B.drew)).mono ?_; rintro e x1 ⟨rfl, hb⟩; rw [h1]; have N1 := B.drew.trans (hb.mono B.drew.size); have m1 : x1.cell? ⟨w1.heap.size, 0, none⟩ = some (.bool g1) ∧ x1.cell? ⟨w1.heap.size, 1, none⟩ = some (.slice a1 xs.length c1) := ⟨bat hb K9.1, bat hb K9.2⟩; clear hb)
          | (go_at_call 9; refine (specOk g1 a1 c1 xs _ (S1.below N1)).mono ?_; rintro e x2 ⟨rfl, hb⟩; rw [h1]; have N2 := N1.trans (hb.mono N1.size); have m2 : x2.cell? ⟨w1.heap.size, 0, none⟩ = some (.bool g1) ∧ x2.cell? ⟨w1.heap.size, 1, none⟩ = some (.slice a1 xs.length c1) := ⟨bat hb m1.1, bat hb m1.2⟩; clear hb))
        all_goals
          go_wp2
          go_ret
          exact ⟨rfl, B0.trans (N2.mono B0.size)⟩
    · go_wp2_with (first
                | (go_at_call_of 9 (Value.slice a1 xs.length c1); refine (specOk g1 a1 c1 xs _ (S1.below B)).mono ?_; rintro e w5 ⟨rfl, hb⟩; rw [h1]; replace B := B.trans (hb.mono B.size); clear hb; obtain ⟨k1, k2, k3, k4, k5, k6⟩ := keep6 K B)
                | (go_at_call_of 9 (Value.slice a2 ys.length c2); refine (specOk g2 a2 c2 ys _ (S2.below B)).mono ?_; rintro e w5 ⟨rfl, hb⟩; rw [h2]; replace B := B.trans (hb.mono B.size); clear hb; obtain ⟨k1, k2, k3, k4, k5, k6⟩ := keep6 K B)
                | (go_at_call_of 9 (Value.slice a3 zs.length c3); refine (specOk g3 a3 c3 zs _ (S3.below B)).mono ?_; rintro e w5 ⟨rfl, hb⟩; rw [h3]; replace B := B.trans (hb.mono B.size); clear hb; obtain ⟨k1, k2, k3, k4, k5, k6⟩ := keep6 K B))
      all_goals
        rename World => w9
        have K9 : w9.cell? ⟨w1.heap.size, 0, none⟩ = some (.bool g1) ∧ w9.cell? ⟨w1.heap.size, 1, none⟩ = some (.slice a1 xs.length c1) := ⟨(keep6 K B).1, (keep6 K B).2.1⟩
        clear k1 k2 k3 k4 k5 k6
        go_region_held3 (fun w' => w'.cell? ⟨w1.heap.size, 0, none⟩ = some (.bool g1) ∧ w'.cell? ⟨w1.heap.size, 1, none⟩ = some (.slice a1 xs.length c1))
          (first | exact K9 | exact m1 | exact m2)
          (first
          | (go_at_call 10; refine (implOk g1 a1 c1 xs _ (S1.below B.drew)).mono ?_; rintro e x1 ⟨rfl, hb⟩; rw [h1]; have N1 := B.drew.trans (hb.mono B.drew.size); have m1 : x1.cell? ⟨w1.heap.size, 0, none⟩ = some (.bool g1) ∧ x1.cell? ⟨w1.heap.size, 1, none⟩ = some (.slice a1 xs.length c1) := ⟨bat hb K9.1, bat hb K9.2⟩; clear hb)
          | (go_at_call 9; refine (specOk g1 a1 c1 xs _ (S1.below N1)).mono ?_; rintro e x2 ⟨rfl, hb⟩; rw [h1]; have N2 := N1.trans (hb.mono N1.size); have m2 : x2.cell? ⟨w1.heap.size, 0, none⟩ = some (.bool g1) ∧ x2.cell? ⟨w1.heap.size, 1, none⟩ = some (.slice a1 xs.length c1) := ⟨bat hb m1.1, bat hb m1.2⟩; clear hb))
        all_goals
          go_wp2
          go_ret
          exact ⟨rfl, B0.trans (N2.mono B0.size)⟩
    · go_wp2_with (first
                | (go_at_call_of 9 (Value.slice a1 xs.length c1); refine (specOk g1 a1 c1 xs _ (S1.below B)).mono ?_; rintro e w5 ⟨rfl, hb⟩; rw [h1]; replace B := B.trans (hb.mono B.size); clear hb; obtain ⟨k1, k2, k3, k4, k5, k6⟩ := keep6 K B)
                | (go_at_call_of 9 (Value.slice a2 ys.length c2); refine (specOk g2 a2 c2 ys _ (S2.below B)).mono ?_; rintro e w5 ⟨rfl, hb⟩; rw [h2]; replace B := B.trans (hb.mono B.size); clear hb; obtain ⟨k1, k2, k3, k4, k5, k6⟩ := keep6 K B)
                | (go_at_call_of 9 (Value.slice a3 zs.length c3); refine (specOk g3 a3 c3 zs _ (S3.below B)).mono ?_; rintro e w5 ⟨rfl, hb⟩; rw [h3]; replace B := B.trans (hb.mono B.size); clear hb; obtain ⟨k1, k2, k3, k4, k5, k6⟩ := keep6 K B))
      all_goals
        rename World => w9
        have K9 : w9.cell? ⟨w1.heap.size, 0, none⟩ = some (.bool g1) ∧ w9.cell? ⟨w1.heap.size, 1, none⟩ = some (.slice a1 xs.length c1) := ⟨(keep6 K B).1, (keep6 K B).2.1⟩
        clear k1 k2 k3 k4 k5 k6
        go_region_held3 (fun w' => w'.cell? ⟨w1.heap.size, 0, none⟩ = some (.bool g1) ∧ w'.cell? ⟨w1.heap.size, 1, none⟩ = some (.slice a1 xs.length c1))
          (first | exact K9 | exact m1 | exact m2)
          (first
          | (go_at_call 10; refine (implOk g1 a1 c1 xs _ (S1.below B.drew)).mono ?_; rintro e x1 ⟨rfl, hb⟩; rw [h1]; have N1 := B.drew.trans (hb.mono B.drew.size); have m1 : x1.cell? ⟨w1.heap.size, 0, none⟩ = some (.bool g1) ∧ x1.cell? ⟨w1.heap.size, 1, none⟩ = some (.slice a1 xs.length c1) := ⟨bat hb K9.1, bat hb K9.2⟩; clear hb)
          | (go_at_call 9; refine (specOk g1 a1 c1 xs _ (S1.below N1)).mono ?_; rintro e x2 ⟨rfl, hb⟩; rw [h1]; have N2 := N1.trans (hb.mono N1.size); have m2 : x2.cell? ⟨w1.heap.size, 0, none⟩ = some (.bool g1) ∧ x2.cell? ⟨w1.heap.size, 1, none⟩ = some (.slice a1 xs.length c1) := ⟨bat hb m1.1, bat hb m1.2⟩; clear hb))
        all_goals
          go_wp2
          go_ret
          exact ⟨rfl, B0.trans (N2.mono B0.size)⟩
    · go_wp2_with (first
                | (go_at_call_of 9 (Value.slice a1 xs.length c1); refine (specOk g1 a1 c1 xs _ (S1.below B)).mono ?_; rintro e w5 ⟨rfl, hb⟩; rw [h1]; replace B := B.trans (hb.mono B.size); clear hb; obtain ⟨k1, k2, k3, k4, k5, k6⟩ := keep6 K B)
                | (go_at_call_of 9 (Value.slice a2 ys.length c2); refine (specOk g2 a2 c2 ys _ (S2.below B)).mono ?_; rintro e w5 ⟨rfl, hb⟩; rw [h2]; replace B := B.trans (hb.mono B.size); clear hb; obtain ⟨k1, k2, k3, k4, k5, k6⟩ := keep6 K B)
                | (go_at_call_of 9 (Value.slice a3 zs.length c3); refine (specOk g3 a3 c3 zs _ (S3.below B)).mono ?_; rintro e w5 ⟨rfl, hb⟩; rw [h3]; replace B := B.trans (hb.mono B.size); clear hb; obtain ⟨k1, k2, k3, k4, k5, k6⟩ := keep6 K B))
      all_goals
        rename World => w9
        have K9 : w9.cell? ⟨w1.heap.size, 0, none⟩ = some (.bool g1) ∧ w9.cell? ⟨w1.heap.size, 1, none⟩ = some (.slice a1 xs.length c1) := ⟨(keep6 K B).1, (keep6 K B).2.1⟩
        clear k1 k2 k3 k4 k5 k6
        go_region_held3 (fun w' => w'.cell? ⟨w1.heap.size, 0, none⟩ = some (.bool g1) ∧ w'.cell? ⟨w1.heap.size, 1, none⟩ = some (.slice a1 xs.length c1))
          (first | exact K9 | exact m1 | exact m2)
          (first
          | (go_at_call 10; refine (implOk g1 a1 c1 xs _ (S1.below B.drew)).mono ?_; rintro e x1 ⟨rfl, hb⟩; rw [h1]; have N1 := B.drew.trans (hb.mono B.drew.size); have m1 : x1.cell? ⟨w1.heap.size, 0, none⟩ = some (.bool g1) ∧ x1.cell? ⟨w1.heap.size, 1, none⟩ = some (.slice a1 xs.length c1) := ⟨bat hb K9.1, bat hb K9.2⟩; clear hb)
          | (go_at_call 9; refine (specOk g1 a1 c1 xs _ (S1.below N1)).mono ?_; rintro e x2 ⟨rfl, hb⟩; rw [h1]; have N2 := N1.trans (hb.mono N1.size); have m2 : x2.cell? ⟨w1.heap.size, 0, none⟩ = some (.bool g1) ∧ x2.cell? ⟨w1.heap.size, 1, none⟩ = some (.slice a1 xs.length c1) := ⟨bat hb m1.1, bat hb m1.2⟩; clear hb))
        all_goals
          go_wp2
          go_ret
          exact ⟨rfl, B0.trans (N2.mono B0.size)⟩
    · by_cases hlen : xs.length + ys.length + zs.length + 2 ≤ 24
      · obtain ⟨A, D, C, t1, t2, t3, b1, b2, b3, b4, b5, b6, b7, f1, n1, e1⟩ := sum_facts S1.lim S2.lim S3.lim h1 h2 h3 hlen
        have HF : Hid (tk g1 xs = A ∧ tk g2 ys = D ∧ tk g3 zs = C ∧ g1 = decide (A < 0) ∧ Nrm xs ∧ val xs = mg A) := ⟨t1, t2, t3, f1, n1, e1⟩
        have HBD : Hid (Bd A 24 ∧ Bd D 24 ∧ Bd (A + D) 24 ∧ Bd ((A + D) * C) 24 ∧ Bd (A * C) 24 ∧ Bd (D * C) 24 ∧ Bd (A - D) 24) := ⟨b1, b2, b3, b4, b5, b6, b7⟩
        clear t1 t2 t3 f1 n1 e1 b1 b2 b3 b4 b5 b6 b7
        go_wp2_with (first
                  | (go_at_call_of 9 (Value.slice a1 xs.length c1); refine (specOk g1 a1 c1 xs _ (S1.below B)).mono ?_; rintro e w5 ⟨rfl, hb⟩; rw [h1]; replace B := B.trans (hb.mono B.size); clear hb; obtain ⟨k1, k2, k3, k4, k5, k6⟩ := keep6 K B)
                  | (go_at_call_of 9 (Value.slice a2 ys.length c2); refine (specOk g2 a2 c2 ys _ (S2.below B)).mono ?_; rintro e w5 ⟨rfl, hb⟩; rw [h2]; replace B := B.trans (hb.mono B.size); clear hb; obtain ⟨k1, k2, k3, k4, k5, k6⟩ := keep6 K B)
                  | (go_at_call_of 9 (Value.slice a3 zs.length c3); refine (specOk g3 a3 c3 zs _ (S3.below B)).mono ?_; rintro e w5 ⟨rfl, hb⟩; rw [h3]; replace B := B.trans (hb.mono B.size); clear hb; obtain ⟨k1, k2, k3, k4, k5, k6⟩ := keep6 K B))
        rename World => w4
        refine (implAdd g1 g2 a1 a2 c1 c2 xs ys _ (S1.below B) (S2.below B)).mono ?_
        rintro e w5 ⟨u5, rfl, hI, hb⟩
        rw [HF.out.1, HF.out.2.1] at hI
        have NV5 := hI.numV (HBD.out.2.2.1.out (Nat.le_refl _)).1 (HBD.out.2.2.1.out (Nat.le_refl _)).2
        obtain ⟨a5, c5, us, rfl, T5, n5, l5, v5⟩ := NV5.is'
        have TK5 : Hid (tk (decide (A + D < 0)) us = A + D) := (tk_val T5.lim n5 l5 v5).2
        replace B := B.trans (hb.mono B.size)
        clear hb hI NV5 n5 l5 v5
        obtain ⟨g5, hg5⟩ : ∃ g5, Hid (decide (A + D < 0) = g5) := ⟨_, rfl⟩
        rw [hg5.out]
        replace TK5 : Hid (tk g5 us = A + D) := by rw [← hg5.out]; exact TK5.out
        clear hg5
        have V5 := Box2.new w5 (lo := 0) (by omega) (.bool g5) (.slice a5 us.length c5) 26
        have bn := below1 w5 (.cells #[.bool g5, .slice a5 us.length c5] 26)
        replace T5 := T5.below bn
        replace B := B.trans (bn.mono B.size)
        clear bn k1 k2 k3 k4 k5 k6
        obtain ⟨k1, k2, k3, k4, k5, k6⟩ := keep6 K B
        obtain ⟨m1, m2, _, _⟩ := id V5
        go_wp2_with fail
        generalize w5.alloc (.cells #[.bool g5, .slice a5 us.length c5] 26) = W5 at *
        refine (implMul g5 g3 a5 a3 c5 c3 us zs _ T5 (S3.below B)).mono ?_
        rintro e w7 ⟨u7, rfl, hI, hb⟩
        rw [TK5.out, HF.out.2.2.1] at hI
        have NV7 := hI.numV (HBD.out.2.2.2.1.out (Nat.le_refl _)).1 (HBD.out.2.2.2.1.out (Nat.le_refl _)).2
        obtain ⟨a7, c7, ls, rfl, T7, n7, l7, v7⟩ := NV7.is'
        have OK7 := (tk_val T7.lim n7 l7 v7).1
        obtain ⟨g7, hg7⟩ : ∃ g7, Hid (decide ((A + D) * C < 0) = g7) := ⟨_, rfl⟩
        rw [hg7.out] at OK7 ⊢
        have HL : Hid (Lim ls ∧ Nrm ls ∧ val ls = mg ((A + D) * C) ∧ okB g7 ls = true) := ⟨T7.lim, n7, v7, OK7⟩
        clear NV7 hI n7 l7 v7 OK7 m1 m2 k1 k2 k3 k4 k5 k6
        replace B := B.trans (hb.mono B.size)
        replace V5 := V5.below hb
        replace T5 := T5.below hb
        have V7 := Box2.new w7 (lo := 0) (by omega) (.bool g7) (.slice a7 ls.length c7) 26
        have bn := below1 w7 (.cells #[.bool g7, .slice a7 ls.length c7] 26)
        replace B := B.trans (bn.mono B.size)
        replace V5 := V5.below bn
        replace T5 := T5.below bn
        replace T7 := T7.below bn
        clear bn hb
        obtain ⟨k1, k2, k3, k4, k5, k6⟩ := keep6 K B
        go_wp2_with fail
        generalize w7.alloc (.cells #[.bool g7, .slice a7 ls.length c7] 26) = W7 at *
        have Q1 := S1.below B
        have Q2 := S2.below B
        have Q3 := S3.below B
        go_cut [9] (fun s9 W => ∃ p a9 c9, s9 = .pointer (some ⟨p, 0, none⟩) ∧ Box2 W7.heap.size W p (.bool g7) (.slice a9 ls.length c9) ∧ Sees W a9 c9 ls ∧ Below W7.heap.size W7 W)
        case first =>
          refine wp_region_held_drew (S := Below W7.heap.size W7) (by kernel_rfl) ((Below.refl _ _).drew) (fun hHeld => ?_)
          have N : Below W7.heap.size W7 W7.drew := hHeld
          revert hHeld N
          generalize W7.drew = ww0
          intro hHeld N
          refine takeQ (i := 0) (gt rfl) (by kernel_rfl) (fun _ _ _ h => h) (by rfl) (by intro wq hSw; have q0 := bat hSw k1; have q1 := bat hSw k2; have q2 := bat hSw k3; have q3 := bat hSw k4; have q4 := bat hSw k5; have q5 := bat hSw k6; go_simp <;> with_reducible rfl) (by assumption) ?_
          try simp only [Act.put, sA, sB, sC]
          refine takeQ (i := 1) (gt rfl) (by kernel_rfl) (fun _ _ _ h => h) (by rfl) (by intro wq hSw; have q0 := bat hSw k1; have q1 := bat hSw k2; have q2 := bat hSw k3; have q3 := bat hSw k4; have q4 := bat hSw k5; have q5 := bat hSw k6; go_simp <;> with_reducible rfl) (by assumption) ?_
          try simp only [Act.put, sA, sB, sC]
          refine takeQ (i := 3) (gt rfl) (by kernel_rfl) (fun _ _ _ h => h) (by rfl) (by intro wq hSw; have q0 := bat hSw k1; have q1 := bat hSw k2; have q2 := bat hSw k3; have q3 := bat hSw k4; have q4 := bat hSw k5; have q5 := bat hSw k6; go_simp <;> with_reducible rfl) (by assumption) ?_
          try simp only [Act.put, sA, sB, sC]
          refine takeQ (i := 4) (gt rfl) (by kernel_rfl) (fun _ _ _ h => h) (by rfl) (by intro wq hSw; have q0 := bat hSw k1; have q1 := bat hSw k2; have q2 := bat hSw k3; have q3 := bat hSw k4; have q4 := bat hSw k5; have q5 := bat hSw k6; go_simp <;> with_reducible rfl) (by assumption) ?_
          try simp only [Act.put, sA, sB, sC]
          refine wpAnyH_ready (rs := [2, 7]) (by kernel_rfl) (by simp) (AllReadyH.cons (gt rfl) (fun K hK => ?_) (AllReadyH.cons (gt rfl) (fun K hK => ?_) AllReadyH.nil))
          · skip
            go_simp
            refine (implMul g1 g3 a1 a3 c1 c3 xs zs _ (Q1.below N) (Q3.below N)).mono ?_
            rintro e ww1 ⟨y8, rfl, hI, hb⟩
            rw [HF.out.1, HF.out.2.2.1] at hI
            have NV := hI.numV (HBD.out.2.2.2.2.1.out (Nat.le_refl _)).1 (HBD.out.2.2.2.2.1.out (Nat.le_refl _)).2
            clear hI
            obtain ⟨b8, d8, z8, rfl, R8, nz, lz, vz⟩ := NV.is'
            have TZ8 : Hid (tk (decide (A * C < 0)) z8 = A * C) := (tk_val R8.lim nz lz vz).2
            clear NV nz lz vz
            replace N := N.trans (hb.mono N.size)
            clear hb
            refine hK.out _ _ N (fun hHeld => ?_)
            clear hK K
            try simp only [Act.put, sA, sB, sC]
            refine wpAnyH_ready (rs := [5, 7]) (by kernel_rfl) (by simp) (AllReadyH.cons (gt rfl) (fun K hK => ?_) (AllReadyH.cons (gt rfl) (fun K hK => ?_) AllReadyH.nil))
            · skip
              go_simp
              refine (implMul g2 g3 a2 a3 c2 c3 ys zs _ (Q2.below N) (Q3.below N)).mono ?_
              rintro e ww2 ⟨y9, rfl, hI, hb⟩
              rw [HF.out.2.1, HF.out.2.2.1] at hI
              have NV := hI.numV (HBD.out.2.2.2.2.2.1.out (Nat.le_refl _)).1 (HBD.out.2.2.2.2.2.1.out (Nat.le_refl _)).2
              clear hI
              obtain ⟨b9, d9, z9, rfl, R9, nz, lz, vz⟩ := NV.is'
              have TZ9 : Hid (tk (decide (D * C < 0)) z9 = D * C) := (tk_val R9.lim nz lz vz).2
              clear NV nz lz vz
              replace R8 := R8.below hb
              replace N := N.trans (hb.mono N.size)
              clear hb
              refine hK.out _ _ N (fun hHeld => ?_)
              clear hK K
              try simp only [Act.put, sA, sB, sC]
              refine wpAnyH_ready (rs := [6, 7]) (by kernel_rfl) (by simp) (AllReadyH.cons (gt rfl) (fun K hK => ?_) (AllReadyH.cons (gt rfl) (fun K hK => ?_) AllReadyH.nil))
              · skip
                go_simp
                refine (implAdd _ _ b8 b9 d8 d9 z8 z9 _ R8 R9).mono ?_
                rintro e ww3 ⟨y10, rfl, hI, hb⟩
                rw [TZ8.out, TZ9.out, ← Int.add_mul] at hI
                obtain ⟨a9, c9, rfl, T9⟩ := hI.as HL.out.1 HL.out.2.1 HL.out.2.2.1
                rw [hg7.out]
                clear hI
                replace R8 := R8.below hb
                replace R9 := R9.below hb
                replace N := N.trans (hb.mono N.size)
                clear hb
                clear R8 R9
                refine hK.out _ _ N (fun hHeld => ?_)
                clear hK K
                try simp only [Act.put, sA, sB, sC]
                refine wpAnyH_ready (rs := [7]) (by kernel_rfl) (by simp) (AllReadyH.cons (gt rfl) (fun K hK => ?_) AllReadyH.nil)
                go_simp
                have kP := Box2.new ww3 N.size (.bool false) (.slice none 0 0) 26
                have hb := below1 ww3 (.cells #[.bool false, .slice none 0 0] 26)
                have r_kP_T9 := row_ne_high T9.toCame (Nat.le_refl _)
                replace T9 := T9.below hb
                replace N := N.trans (hb.mono N.size)
                clear hb
                generalize ww3.alloc (.cells #[.bool false, .slice none 0 0] 26) = ww4 at *
                refine hK.out _ _ N (fun hHeld => ?_)
                clear hK K
                try simp only [Act.put, sA, sB, sC]
                refine wpAnyH_ready (rs := [8]) (by kernel_rfl) (by simp) (AllReadyH.cons (gt rfl) (fun K hK => ?_) AllReadyH.nil)
                have z0 := kP.c0
                have z1 := kP.c1
                have zf := kP.fr
                go_simp
                clear z0 z1 zf
                replace N := Box2.chain N kP (.bool g7) (.slice a9 ls.length c9)
                replace T9 := T9.put2 r_kP_T9 (.bool g7) (.slice a9 ls.length c9)
                replace kP := kP.put (.bool g7) (.slice a9 ls.length c9)
                refine hK.out _ _ N (fun hHeld => ?_)
                clear hK K
                try simp only [Act.put, sA, sB, sC]
                refine wpAnyH_done (by kernel_rfl) ?_ _
                go_wp2
                go_meet
                case rel => exact ⟨_, a9, c9, rfl, kP, T9.toSees, N⟩
              · skip
                go_simp
                have kP := Box2.new ww2 N.size (.bool false) (.slice none 0 0) 26
                have hb := below1 ww2 (.cells #[.bool false, .slice none 0 0] 26)
                replace R8 := R8.below hb
                replace R9 := R9.below hb
                replace N := N.trans (hb.mono N.size)
                clear hb
                generalize ww2.alloc (.cells #[.bool false, .slice none 0 0] 26) = ww6 at *
                refine hK.out _ _ N (fun hHeld => ?_)
                clear hK K
                try simp only [Act.put, sA, sB, sC]
                refine wpAnyH_ready (rs := [6]) (by kernel_rfl) (by simp) (AllReadyH.cons (gt rfl) (fun K hK => ?_) AllReadyH.nil)
                go_simp
                refine (implAdd _ _ b8 b9 d8 d9 z8 z9 _ R8 R9).mono ?_
                rintro e ww7 ⟨y10, rfl, hI, hb⟩
                rw [TZ8.out, TZ9.out, ← Int.add_mul] at hI
                obtain ⟨a9, c9, rfl, T9⟩ := hI.as HL.out.1 HL.out.2.1 HL.out.2.2.1
                rw [hg7.out]
                clear hI
                have r_kP_T9 := row_ne_low T9 kP.lt
                replace kP := kP.below hb
                replace R8 := R8.below hb
                replace R9 := R9.below hb
                replace N := N.trans (hb.mono N.size)
                clear hb
                clear R8 R9
                refine hK.out _ _ N (fun hHeld => ?_)
                clear hK K
                try simp only [Act.put, sA, sB, sC]
                refine wpAnyH_ready (rs := [8]) (by kernel_rfl) (by simp) (AllReadyH.cons (gt rfl) (fun K hK => ?_) AllReadyH.nil)
                have z0 := kP.c0
                have z1 := kP.c1
                have zf := kP.fr
                go_simp
                clear z0 z1 zf
                replace N := Box2.chain N kP (.bool g7) (.slice a9 ls.length c9)
                replace T9 := T9.put2 r_kP_T9 (.bool g7) (.slice a9 ls.length c9)
                replace kP := kP.put (.bool g7) (.slice a9 ls.length c9)
                refine hK.out _ _ N (fun hHeld => ?_)
                clear hK K
                try simp only [Act.put, sA, sB, sC]
                refine wpAnyH_done (by kernel_rfl) ?_ _
                go_wp2
                go_meet
                case rel => exact ⟨_, a9, c9, rfl, kP, T9.toSees, N⟩
            · skip
              go_simp
              have kP := Box2.new ww1 N.size (.bool false) (.slice none 0 0) 26
              have hb := below1 ww1 (.cells #[.bool false, .slice none 0 0] 26)
              replace R8 := R8.below hb
              replace N := N.trans (hb.mono N.size)
              clear hb
              generalize ww1.alloc (.cells #[.bool false, .slice none 0 0] 26) = ww9 at *
              refine hK.out _ _ N (fun hHeld => ?_)
              clear hK K
              try simp only [Act.put, sA, sB, sC]
              refine wpAnyH_ready (rs := [5]) (by kernel_rfl) (by simp) (AllReadyH.cons (gt rfl) (fun K hK => ?_) AllReadyH.nil)
              go_simp
              refine (implMul g2 g3 a2 a3 c2 c3 ys zs _ (Q2.below N) (Q3.below N)).mono ?_
              rintro e ww10 ⟨y9, rfl, hI, hb⟩
              rw [HF.out.2.1, HF.out.2.2.1] at hI
              have NV := hI.numV (HBD.out.2.2.2.2.2.1.out (Nat.le_refl _)).1 (HBD.out.2.2.2.2.2.1.out (Nat.le_refl _)).2
              clear hI
              obtain ⟨b9, d9, z9, rfl, R9, nz, lz, vz⟩ := NV.is'
              have TZ9 : Hid (tk (decide (D * C < 0)) z9 = D * C) := (tk_val R9.lim nz lz vz).2
              clear NV nz lz vz
              replace kP := kP.below hb
              replace R8 := R8.below hb
              replace N := N.trans (hb.mono N.size)
              clear hb
              refine hK.out _ _ N (fun hHeld => ?_)
              clear hK K
              try simp only [Act.put, sA, sB, sC]
              refine wpAnyH_ready (rs := [6]) (by kernel_rfl) (by simp) (AllReadyH.cons (gt rfl) (fun K hK => ?_) AllReadyH.nil)
              go_simp
              refine (implAdd _ _ b8 b9 d8 d9 z8 z9 _ R8 R9).mono ?_
              rintro e ww11 ⟨y10, rfl, hI, hb⟩
              rw [TZ8.out, TZ9.out, ← Int.add_mul] at hI
              obtain ⟨a9, c9, rfl, T9⟩ := hI.as HL.out.1 HL.out.2.1 HL.out.2.2.1
              rw [hg7.out]
              clear hI
              have r_kP_T9 := row_ne_low T9 kP.lt
              replace kP := kP.below hb
              replace R8 := R8.below hb
              replace R9 := R9.below hb
              replace N := N.trans (hb.mono N.size)
              clear hb
              clear R8 R9
              refine hK.out _ _ N (fun hHeld => ?_)
              clear hK K
              try simp only [Act.put, sA, sB, sC]
              refine wpAnyH_ready (rs := [8]) (by kernel_rfl) (by simp) (AllReadyH.cons (gt rfl) (fun K hK => ?_) AllReadyH.nil)
              have z0 := kP.c0
              have z1 := kP.c1
              have zf := kP.fr
              go_simp
              clear z0 z1 zf
              replace N := Box2.chain N kP (.bool g7) (.slice a9 ls.length c9)
              replace T9 := T9.put2 r_kP_T9 (.bool g7) (.slice a9 ls.length c9)
              replace kP := kP.put (.bool g7) (.slice a9 ls.length c9)
              refine hK.out _ _ N (fun hHeld => ?_)
              clear hK K
              try simp only [Act.put, sA, sB, sC]
              refine wpAnyH_done (by kernel_rfl) ?_ _
              go_wp2
              go_meet
              case rel => exact ⟨_, a9, c9, rfl, kP, T9.toSees, N⟩
          · skip
            go_simp
            have kP := Box2.new ww0 N.size (.bool false) (.slice none 0 0) 26
            have hb := below1 ww0 (.cells #[.bool false, .slice none 0 0] 26)
            replace N := N.trans (hb.mono N.size)
            clear hb
            generalize ww0.alloc (.cells #[.bool false, .slice none 0 0] 26) = ww13 at *
            refine hK.out _ _ N (fun hHeld => ?_)
            clear hK K
            try simp only [Act.put, sA, sB, sC]
            refine wpAnyH_ready (rs := [2]) (by kernel_rfl) (by simp) (AllReadyH.cons (gt rfl) (fun K hK => ?_) AllReadyH.nil)
            go_simp
            refine (implMul g1 g3 a1 a3 c1 c3 xs zs _ (Q1.below N) (Q3.below N)).mono ?_
            rintro e ww14 ⟨y8, rfl, hI, hb⟩
            rw [HF.out.1, HF.out.2.2.1] at hI
            have NV := hI.numV (HBD.out.2.2.2.2.1.out (Nat.le_refl _)).1 (HBD.out.2.2.2.2.1.out (Nat.le_refl _)).2
            clear hI
            obtain ⟨b8, d8, z8, rfl, R8, nz, lz, vz⟩ := NV.is'
            have TZ8 : Hid (tk (decide (A * C < 0)) z8 = A * C) := (tk_val R8.lim nz lz vz).2
            clear NV nz lz vz
            replace kP := kP.below hb
            replace N := N.trans (hb.mono N.size)
            clear hb
            refine hK.out _ _ N (fun hHeld => ?_)
            clear hK K
            try simp only [Act.put, sA, sB, sC]
            refine wpAnyH_ready (rs := [5]) (by kernel_rfl) (by simp) (AllReadyH.cons (gt rfl) (fun K hK => ?_) AllReadyH.nil)
            go_simp
            refine (implMul g2 g3 a2 a3 c2 c3 ys zs _ (Q2.below N) (Q3.below N)).mono ?_
            rintro e ww15 ⟨y9, rfl, hI, hb⟩
            rw [HF.out.2.1, HF.out.2.2.1] at hI
            have NV := hI.numV (HBD.out.2.2.2.2.2.1.out (Nat.le_refl _)).1 (HBD.out.2.2.2.2.2.1.out (Nat.le_refl _)).2
            clear hI
            obtain ⟨b9, d9, z9, rfl, R9, nz, lz, vz⟩ := NV.is'
            have TZ9 : Hid (tk (decide (D * C < 0)) z9 = D * C) := (tk_val R9.lim nz lz vz).2
            clear NV nz lz vz
            replace kP := kP.below hb
            replace R8 := R8.below hb
            replace N := N.trans (hb.mono N.size)
            clear hb
            refine hK.out _ _ N (fun hHeld => ?_)
            clear hK K
            try simp only [Act.put, sA, sB, sC]
            refine wpAnyH_ready (rs := [6]) (by kernel_rfl) (by simp) (AllReadyH.cons (gt rfl) (fun K hK => ?_) AllReadyH.nil)
            go_simp
            refine (implAdd _ _ b8 b9 d8 d9 z8 z9 _ R8 R9).mono ?_
            rintro e ww16 ⟨y10, rfl, hI, hb⟩
            rw [TZ8.out, TZ9.out, ← Int.add_mul] at hI
            obtain ⟨a9, c9, rfl, T9⟩ := hI.as HL.out.1 HL.out.2.1 HL.out.2.2.1
            rw [hg7.out]
            clear hI
            have r_kP_T9 := row_ne_low T9 kP.lt
            replace kP := kP.below hb
            replace R8 := R8.below hb
            replace R9 := R9.below hb
            replace N := N.trans (hb.mono N.size)
            clear hb
            clear R8 R9
            refine hK.out _ _ N (fun hHeld => ?_)
            clear hK K
            try simp only [Act.put, sA, sB, sC]
            refine wpAnyH_ready (rs := [8]) (by kernel_rfl) (by simp) (AllReadyH.cons (gt rfl) (fun K hK => ?_) AllReadyH.nil)
            have z0 := kP.c0
            have z1 := kP.c1
            have zf := kP.fr
            go_simp
            clear z0 z1 zf
            replace N := Box2.chain N kP (.bool g7) (.slice a9 ls.length c9)
            replace T9 := T9.put2 r_kP_T9 (.bool g7) (.slice a9 ls.length c9)
            replace kP := kP.put (.bool g7) (.slice a9 ls.length c9)
            refine hK.out _ _ N (fun hHeld => ?_)
            clear hK K
            try simp only [Act.put, sA, sB, sC]
            refine wpAnyH_done (by kernel_rfl) ?_ _
            go_wp2
            go_meet
            case rel => exact ⟨_, a9, c9, rfl, kP, T9.toSees, N⟩
        obtain ⟨p9, a9, c9, rfl, V9, T9, hb⟩ := hcut
        rename World => W9
        have K10 : W9.cell? ⟨w1.heap.size, 0, none⟩ = some (.bool g1) ∧ W9.cell? ⟨w1.heap.size, 1, none⟩ = some (.slice a1 xs.length c1) ∧ W9.cell? ⟨w1.heap.size + 1, 0, none⟩ = some (.bool g2) ∧ W9.cell? ⟨w1.heap.size + 1, 1, none⟩ = some (.slice a2 ys.length c2) ∧ W9.cell? ⟨w5.heap.size, 0, none⟩ = some (.bool g5) ∧ W9.cell? ⟨w5.heap.size, 1, none⟩ = some (.slice a5 us.length c5) ∧ W9.cell? ⟨w7.heap.size, 0, none⟩ = some (.bool g7) ∧ W9.cell? ⟨w7.heap.size, 1, none⟩ = some (.slice a7 ls.length c7) ∧ W9.cell? ⟨p9, 0, none⟩ = some (.bool g7) ∧ W9.cell? ⟨p9, 1, none⟩ = some (.slice a9 ls.length c9) := ⟨bat hb k1, bat hb k2, bat hb k3, bat hb k4, bat hb V5.c0, bat hb V5.c1, bat hb V7.c0, bat hb V7.c1, V9.c0, V9.c1⟩
        replace T5 := T5.below hb
        replace T7 := T7.below hb
        replace Q1 := Q1.below hb
        replace Q2 := Q2.below hb
        replace B := B.trans (hb.mono B.size)
        replace B0 := B0.trans (B.mono B0.size)
        clear hb V5 V7 V9 k1 k2 k3 k4 k5 k6 K B S1 S2 S3 Q3
        obtain ⟨s, hs⟩ : ∃ s, Hid (cmpZ A D = s) := ⟨_, rfl⟩
        obtain ⟨sl, su⟩ := cmp_range A D
        rw [hs.out] at sl su
        have hwr : IntKind.i64.wrap (-s) = -s := by rw [IntKind.wrap_i64]; omega
        go_wp2_with fail
        go_region_held3 (fun w' => w'.cell? ⟨w1.heap.size, 0, none⟩ = some (.bool g1) ∧ w'.cell? ⟨w1.heap.size, 1, none⟩ = some (.slice a1 xs.length c1) ∧ w'.cell? ⟨w1.heap.size + 1, 0, none⟩ = some (.bool g2) ∧ w'.cell? ⟨w1.heap.size + 1, 1, none⟩ = some (.slice a2 ys.length c2) ∧ w'.cell? ⟨w5.heap.size, 0, none⟩ = some (.bool g5) ∧ w'.cell? ⟨w5.heap.size, 1, none⟩ = some (.slice a5 us.length c5) ∧ w'.cell? ⟨w7.heap.size, 0, none⟩ = some (.bool g7) ∧ w'.cell? ⟨w7.heap.size, 1, none⟩ = some (.slice a7 ls.length c7) ∧ w'.cell? ⟨p9, 0, none⟩ = some (.bool g7) ∧ w'.cell? ⟨p9, 1, none⟩ = some (.slice a9 ls.length c9))
          (first | exact K10 | exact m1 | exact m2 | exact m3 | exact m4 | exact m5 | exact m6 | exact m7 | exact m8 | exact m9 | exact m10 | exact m11)
          (first
          | (go_at_call_of 14 (Value.slice a5 us.length c5); refine (implSub g5 g2 a5 a2 c5 c2 us ys _ (T5.below (Below.refl _ _).drew) (Q2.below (Below.refl _ _).drew)).mono ?_; rintro e x1 ⟨y1, rfl, hI, hb⟩; have N1 := (Below.refl W9.heap.size W9).drew.trans (hb.mono (by simp)); have m1 := keep10 K10 N1; clear hb; rw [TK5.out, HF.out.2.1, show A + D - D = A by omega] at hI; obtain ⟨b1, d1, rfl, R1⟩ := hI.as Q1.lim HF.out.2.2.2.2.1 HF.out.2.2.2.2.2; rw [← HF.out.2.2.2.1]; clear hI)
          | (go_at_call_of 13 (Value.slice a1 xs.length c1); refine (sameNumC g1 b1 a1 d1 c1 xs _ R1.toSees (Q1.below N1)).mono ?_; rintro e x2 ⟨rfl, hb⟩; have N2 := N1.trans (hb.mono N1.size); have m2 := keep10 K10 N2; clear hb R1)
          | (go_at_call_of 13 (Value.slice a7 ls.length c7); refine (sameNumC g7 a7 a9 c7 c9 ls _ (T7.below N2) (T9.below N2)).mono ?_; rintro e x3 ⟨rfl, hb⟩; have N3 := N2.trans (hb.mono N2.size); have m3 := keep10 K10 N3; clear hb)
          | (go_at_call_of 15 (Value.slice a1 xs.length c1); have NQ := N10; refine (implCmp g1 g2 a1 a2 c1 c2 xs ys _ (Q1.below N10) (Q2.below N10)).mono ?_; rintro e x11 ⟨rfl, hb⟩; have N11 := N10.trans (hb.mono N10.size); have m10 := keep10 K10 N11; clear hb; rw [HF.out.1, HF.out.2.1, hs.out])
          | (go_at_call_of 15 (Value.slice a1 xs.length c1); refine (implCmp g1 g2 a1 a2 c1 c2 xs ys _ (Q1.below N3) (Q2.below N3)).mono ?_; rintro e x4 ⟨rfl, hb⟩; have N4 := N3.trans (hb.mono N3.size); have m4 := keep10 K10 N4; clear hb; rw [HF.out.1, HF.out.2.1, hs.out])
          | (go_at_call_of 14 (Value.slice a1 xs.length c1); refine (implSub g1 g2 a1 a2 c1 c2 xs ys _ (Q1.below N4) (Q2.below N4)).mono ?_; rintro e x5 ⟨y5, rfl, hI, hb⟩; have N5 := N4.trans (hb.mono N4.size); have m5 := keep10 K10 N5; clear hb; rw [HF.out.1, HF.out.2.1] at hI; have NV := hI.numV (HBD.out.2.2.2.2.2.2.out (Nat.le_refl _)).1 (HBD.out.2.2.2.2.2.2.out (Nat.le_refl _)).2; clear hI; obtain ⟨b5, d5, z5, rfl, R5, nz, lz, vz⟩ := NV.is'; have TZ : Hid (tk (decide (A - D < 0)) z5 = A - D) := (tk_val R5.lim nz lz vz).2; clear NV nz lz vz; generalize decide (A - D < 0) = gz at *)
          | (go_at_call 16; refine (implSign gz b5 d5 z5 _ R5).mono ?_; rintro e x6 ⟨rfl, hb⟩; have N6 := N5.trans (hb.mono N5.size); have m6 := keep10 K10 N6; clear hb R5; rw [TZ.out, cmp_sub, hs.out]; clear TZ)
          | (go_at_call_of 17 (Value.slice a1 xs.length c1); refine (implNeg g1 a1 c1 xs _ (Q1.below N6)).mono ?_; rintro e x8 ⟨y8, rfl, hI, hb⟩; have N8 := N6.trans (hb.mono N6.size); have m7 := keep10 K10 N8; clear hb; rw [HF.out.1] at hI; have NV := hI.numV (HBD.out.1.neg.out (Nat.le_refl _)).1 (HBD.out.1.neg.out (Nat.le_refl _)).2; clear hI; obtain ⟨b8, d8, z8, rfl, R8, nz, lz, vz⟩ := NV.is'; have TZ8 : Hid (tk (decide (-A < 0)) z8 = -A) := (tk_val R8.lim nz lz vz).2; clear NV nz lz vz; generalize decide (-A < 0) = g8 at *)
          | (go_at_call_of 17 (Value.slice a2 ys.length c2); refine (implNeg g2 a2 c2 ys _ (Q2.below N8)).mono ?_; rintro e x9 ⟨y9, rfl, hI, hb⟩; have N9 := N8.trans (hb.mono N8.size); have m8 := keep10 K10 N9; replace R8 := R8.below hb; clear hb; rw [HF.out.2.1] at hI; have NV := hI.numV (HBD.out.2.1.neg.out (Nat.le_refl _)).1 (HBD.out.2.1.neg.out (Nat.le_refl _)).2; clear hI; obtain ⟨b9, d9, z9, rfl, R9, nz, lz, vz⟩ := NV.is'; have TZ9 : Hid (tk (decide (-D < 0)) z9 = -D) := (tk_val R9.lim nz lz vz).2; clear NV nz lz vz; generalize decide (-D < 0) = g9 at *)
          | (go_at_call_of 15 (Value.slice b8 z8.length d8); refine (implCmp g8 g9 b8 b9 d8 d9 z8 z9 _ R8 R9).mono ?_; rintro e x10 ⟨rfl, hb⟩; have N10 := N9.trans (hb.mono N9.size); have m9 := keep10 K10 N10; clear hb R8 R9; rw [TZ8.out, TZ9.out, cmp_neg, hs.out]; clear TZ8 TZ9)
          | (go_at_call 10; refine (implOk g7 a7 c7 ls _ (T7.below N11)).mono ?_; rintro e x12 ⟨rfl, hb⟩; have N12 := N11.trans (hb.mono N11.size); have m11 := keep10 K10 N12; clear hb; rw [HL.out.2.2.2]))
        all_goals
          go_wp2
          go_ret
          exact ⟨by simp, B0.trans (N12.mono B0.size)⟩
      · go_wp2_with (first
                  | (go_at_call_of 9 (Value.slice a1 xs.length c1); refine (specOk g1 a1 c1 xs _ (S1.below B)).mono ?_; rintro e w5 ⟨rfl, hb⟩; rw [h1]; replace B := B.trans (hb.mono B.size); clear hb; obtain ⟨k1, k2, k3, k4, k5, k6⟩ := keep6 K B)
                  | (go_at_call_of 9 (Value.slice a2 ys.length c2); refine (specOk g2 a2 c2 ys _ (S2.below B)).mono ?_; rintro e w5 ⟨rfl, hb⟩; rw [h2]; replace B := B.trans (hb.mono B.size); clear hb; obtain ⟨k1, k2, k3, k4, k5, k6⟩ := keep6 K B)
                  | (go_at_call_of 9 (Value.slice a3 zs.length c3); refine (specOk g3 a3 c3 zs _ (S3.below B)).mono ?_; rintro e w5 ⟨rfl, hb⟩; rw [h3]; replace B := B.trans (hb.mono B.size); clear hb; obtain ⟨k1, k2, k3, k4, k5, k6⟩ := keep6 K B))
        all_goals
          rename World => w9
          have K9 : w9.cell? ⟨w1.heap.size, 0, none⟩ = some (.bool g1) ∧ w9.cell? ⟨w1.heap.size, 1, none⟩ = some (.slice a1 xs.length c1) := ⟨(keep6 K B).1, (keep6 K B).2.1⟩
          clear k1 k2 k3 k4 k5 k6
          go_region_held3 (fun w' => w'.cell? ⟨w1.heap.size, 0, none⟩ = some (.bool g1) ∧ w'.cell? ⟨w1.heap.size, 1, none⟩ = some (.slice a1 xs.length c1))
            (first | exact K9 | exact m1 | exact m2)
            (first
            | (go_at_call 10; refine (implOk g1 a1 c1 xs _ (S1.below B.drew)).mono ?_; rintro e x1 ⟨rfl, hb⟩; rw [h1]; have N1 := B.drew.trans (hb.mono B.drew.size); have m1 : x1.cell? ⟨w1.heap.size, 0, none⟩ = some (.bool g1) ∧ x1.cell? ⟨w1.heap.size, 1, none⟩ = some (.slice a1 xs.length c1) := ⟨bat hb K9.1, bat hb K9.2⟩; clear hb)
            | (go_at_call 9; refine (specOk g1 a1 c1 xs _ (S1.below N1)).mono ?_; rintro e x2 ⟨rfl, hb⟩; rw [h1]; have N2 := N1.trans (hb.mono N1.size); have m2 : x2.cell? ⟨w1.heap.size, 0, none⟩ = some (.bool g1) ∧ x2.cell? ⟨w1.heap.size, 1, none⟩ = some (.slice a1 xs.length c1) := ⟨bat hb m1.1, bat hb m1.2⟩; clear hb))
          all_goals
            go_wp2
            go_ret
            exact ⟨rfl, B0.trans (N2.mono B0.size)⟩
  · have hd : decide (1048576 < (n : Int)) = true := decide_eq_true (by omega)
    go_enter Try.func3, Try.ntmps3
    go_wp2_with fail
    refine (bigB_any a n cap _).mono ?_
    rintro e w0 ⟨rfl, rfl⟩
    rw [hd]
    go_wp2
    go_ret
    exact ⟨rfl, Below.refl _ _⟩
end Go.Proofs.Ytfddiojcahbkfaa
