/- The law on what is divided: FnDivided. -/
import Derived.Test.YtfddiojcahbkfaaDrawQ
import Derived.Test.YtfddiojcahbkfaaBig
import Derived.Test.YtfddiojcahbkfaaAddW
import Derived.Test.YtfddiojcahbkfaaMulI
import Derived.Test.YtfddiojcahbkfaaCmpI
import Derived.Test.YtfddiojcahbkfaaCmpW
import Derived.Test.YtfddiojcahbkfaaDivM
import Derived.Test.YtfddiojcahbkfaaSameN
import Derived.Test.YtfddiojcahbkfaaNumV
import Derived.Deep.DeepCutAuto
namespace Go.Proofs.Ytfddiojcahbkfaa
open Go.RowKit

theorem quot_le (a b : Int) : mg (a / b) ≤ mg a := by
  rw [mg_nat, mg_nat]
  have := Int.natAbs_ediv_le_natAbs a b
  omega
theorem div_facts {g1 g2 : Bool} {xs ys qs rs : List Int} (l1 : Lim xs) (l2 : Lim ys) (h1 : okB g1 xs = true) (h2 : okB g2 ys = true) (hy : ¬ ys.length = 0) (hlen : xs.length + ys.length + 2 ≤ 24) (lq : Lim qs) (lr : Lim rs) (nq : Nrm qs) (nr : Nrm rs) (vq : val qs = mg (tk g1 xs / tk g2 ys)) (vr : val rs = mg (rz (tk g1 xs) (tk g2 ys))) :
    ∃ A D Q R : Int, tk g1 xs = A ∧ tk g2 ys = D ∧ tk (decide (tk g1 xs / tk g2 ys < 0)) qs = Q ∧ tk (decide (rz (tk g1 xs) (tk g2 ys) < 0)) rs = R ∧ Q * D + R = A ∧ 0 ≤ R ∧ -(4294967296 ^ 24) < Q * D ∧ Q * D < 4294967296 ^ 24 ∧ tk false ys = mg D ∧ R < mg D ∧ g1 = decide (A < 0) ∧ Nrm xs ∧ val xs = mg A := by
  obtain ⟨f1, n1, s1, e1⟩ := ok_facts l1 h1
  obtain ⟨f2, n2, s2, e2⟩ := ok_facts l2 h2
  have hD : tk g2 ys ≠ 0 := by
    have := tk_ne (g := g2) l2
    rw [h2, decide_eq_true (show 0 < ys.length by omega)] at this
    simpa using this
  have b1 := val_lt l1
  have b2 := val_lt l2
  have R0 : rz (tk g1 xs) (tk g2 ys) = tk g1 xs % tk g2 ys := by unfold rz; rw [if_neg hD]
  rw [R0] at vr ⊢
  generalize tk g1 xs = A at *
  generalize tk g2 ys = D at *
  have r0 := Int.emod_nonneg A hD
  have r1 := Int.emod_lt A hD
  have q0 := quot_le A D
  have eq : A / D * D = A - A % D := by have := Int.mul_ediv_add_emod A D; rw [Int.mul_comm] at this; omega
  have p1 := p_mono xs.length (24 - xs.length)
  rw [show xs.length + (24 - xs.length) = 24 by omega] at p1
  have p2 := p_mono ys.length (24 - ys.length)
  rw [show ys.length + (24 - ys.length) = 24 by omega] at p2
  have sq : qs.length ≤ 24 := len_le lq nq (by rw [vq]; omega)
  have sr : rs.length ≤ 24 := len_le lr nr (by rw [vr, mg_nat]; rw [mg_nat] at e2; omega)
  refine ⟨A, D, A / D, A % D, rfl, rfl, (tk_val lq nq sq vq).2, (tk_val lr nr sr vr).2, by omega, r0, ?_, ?_, ?_, by rw [mg_nat]; exact r1, f1, n1, e1⟩
  · rw [eq]
    have q1 : xs.length + 1 ≤ 24 := by omega
    have q2 : ys.length + 1 ≤ 24 := by omega
    have m1 := p_mono (xs.length + 1) (23 - xs.length)
    have m2 := p_mono (ys.length + 1) (23 - ys.length)
    rw [show xs.length + 1 + (23 - xs.length) = 24 by omega, Int.pow_succ] at m1
    rw [show ys.length + 1 + (23 - ys.length) = 24 by omega, Int.pow_succ] at m2
    have pp1 := p_pos xs.length
    have pp2 := p_pos ys.length
    rw [mg_nat] at e1 e2
    omega
  · rw [eq]
    have m1 := p_mono (xs.length + 1) (23 - xs.length)
    rw [show xs.length + 1 + (23 - xs.length) = 24 by omega, Int.pow_succ] at m1
    have pp1 := p_pos xs.length
    rw [mg_nat] at e1
    omega
  · have := tk_val (n := mg D) l2 n2 s2 (by rw [e2, mg_nat, mg_nat]; omega)
    have hz : ¬ mg D < 0 := by rw [mg_nat]; omega
    rw [decide_eq_false hz] at this
    exact this.2
/-- Four numbers' variables. -/
theorem keep8 {W W' : World} {p1 p2 p3 p4 : Nat} {v0 v1 v2 v3 v4 v5 v6 v7 : Value} (k : W.cell? ⟨p1, 0, none⟩ = some v0 ∧ W.cell? ⟨p1, 1, none⟩ = some v1 ∧ W.cell? ⟨p2, 0, none⟩ = some v2 ∧ W.cell? ⟨p2, 1, none⟩ = some v3 ∧ W.cell? ⟨p3, 0, none⟩ = some v4 ∧ W.cell? ⟨p3, 1, none⟩ = some v5 ∧ W.cell? ⟨p4, 0, none⟩ = some v6 ∧ W.cell? ⟨p4, 1, none⟩ = some v7) (hb : Below W.heap.size W W') :
    W'.cell? ⟨p1, 0, none⟩ = some v0 ∧ W'.cell? ⟨p1, 1, none⟩ = some v1 ∧ W'.cell? ⟨p2, 0, none⟩ = some v2 ∧ W'.cell? ⟨p2, 1, none⟩ = some v3 ∧ W'.cell? ⟨p3, 0, none⟩ = some v4 ∧ W'.cell? ⟨p3, 1, none⟩ = some v5 ∧ W'.cell? ⟨p4, 0, none⟩ = some v6 ∧ W'.cell? ⟨p4, 1, none⟩ = some v7 :=
  ⟨bat hb k.1, bat hb k.2.1, bat hb k.2.2.1, bat hb k.2.2.2.1, bat hb k.2.2.2.2.1, bat hb k.2.2.2.2.2.1, bat hb k.2.2.2.2.2.2.1, bat hb k.2.2.2.2.2.2.2⟩
theorem keep10 {W W' : World} {p1 p2 p3 p4 p5 : Nat} {v0 v1 v2 v3 v4 v5 v6 v7 v8 v9 : Value} (k : W.cell? ⟨p1, 0, none⟩ = some v0 ∧ W.cell? ⟨p1, 1, none⟩ = some v1 ∧ W.cell? ⟨p2, 0, none⟩ = some v2 ∧ W.cell? ⟨p2, 1, none⟩ = some v3 ∧ W.cell? ⟨p3, 0, none⟩ = some v4 ∧ W.cell? ⟨p3, 1, none⟩ = some v5 ∧ W.cell? ⟨p4, 0, none⟩ = some v6 ∧ W.cell? ⟨p4, 1, none⟩ = some v7 ∧ W.cell? ⟨p5, 0, none⟩ = some v8 ∧ W.cell? ⟨p5, 1, none⟩ = some v9) (hb : Below W.heap.size W W') :
    W'.cell? ⟨p1, 0, none⟩ = some v0 ∧ W'.cell? ⟨p1, 1, none⟩ = some v1 ∧ W'.cell? ⟨p2, 0, none⟩ = some v2 ∧ W'.cell? ⟨p2, 1, none⟩ = some v3 ∧ W'.cell? ⟨p3, 0, none⟩ = some v4 ∧ W'.cell? ⟨p3, 1, none⟩ = some v5 ∧ W'.cell? ⟨p4, 0, none⟩ = some v6 ∧ W'.cell? ⟨p4, 1, none⟩ = some v7 ∧ W'.cell? ⟨p5, 0, none⟩ = some v8 ∧ W'.cell? ⟨p5, 1, none⟩ = some v9 :=
  ⟨bat hb k.1, bat hb k.2.1, bat hb k.2.2.1, bat hb k.2.2.2.1, bat hb k.2.2.2.2.1, bat hb k.2.2.2.2.2.1, bat hb k.2.2.2.2.2.2.1, bat hb k.2.2.2.2.2.2.2.1, bat hb k.2.2.2.2.2.2.2.2.1, bat hb k.2.2.2.2.2.2.2.2.2⟩

set_option maxRecDepth 20000 in
set_option maxHeartbeats 2000000 in
theorem lawDivided (a : Option Addr) (n cap : Nat) (w : World) (hB : Byt w a n) :
    Calls Try.prog 4 #[.slice a n cap] w fun e w' => e = .returned (.bool true) ∧ Below w.heap.size w w' := by
  by_cases hs : n ≤ 1048576
  · have HM : Hid (n ≤ 1048576) := hs
    have hd : decide (1048576 < (n : Int)) = false := decide_eq_false (by omega)
    clear hs
    go_enter Try.func4, Try.ntmps4
    go_wp2_with fail
    refine (bigB_any a n cap _).mono ?_
    rintro e w0 ⟨rfl, rfl⟩
    rw [hd]
    clear hd
    go_wp2_with fail
    refine (drawDivMod_any a n cap _ hB HM.out).mono ?_
    rintro e w1 ⟨v1, v2, rfl, A1, A2, B0⟩
    clear hB HM
    obtain ⟨g1, a1, c1, xs, rfl, o1, l1⟩ := A1.is'
    obtain ⟨g2, a2, c2, ys, rfl, o2, l2⟩ := A2.is'
    clear A1 A2
    have bn := below2 w1 (.cells #[.bool g1, .slice a1 xs.length c1] 26) (.cells #[.bool g2, .slice a2 ys.length c2] 26)
    have V1 := (Box2.new w1 (lo := 0) (by omega) (.bool g1) (.slice a1 xs.length c1) 26).below (below1 _ (.cells #[.bool g2, .slice a2 ys.length c2] 26))
    have V2 := Box2.new (w1.alloc (.cells #[.bool g1, .slice a1 xs.length c1] 26)) (lo := 0) (by omega) (.bool g2) (.slice a2 ys.length c2) 26
    rw [World.size_alloc] at V2
    have S1 := o1.toSees.below bn
    have S2 := o2.toSees.below bn
    replace B0 := B0.trans (bn.mono B0.size)
    clear o1 o2 bn
    go_wp2_with fail
    generalize (w1.alloc (.cells #[.bool g1, .slice a1 xs.length c1] 26)).alloc (.cells #[.bool g2, .slice a2 ys.length c2] 26) = W1 at *
    refine (implDivMod g1 g2 a1 a2 c1 c2 xs ys _ S1 S2).mono ?_
    rintro e w2 ⟨vq, vr, rfl, ⟨a3, c3, qs, a4, c4, rs, rfl, rfl, o3, o4, n3, n4, v3, v4, _⟩, hb⟩
    rw [tk_ne S2.lim]
    replace V1 := V1.below hb
    replace V2 := V2.below hb
    replace S1 := S1.below hb
    replace S2 := S2.below hb
    replace B0 := B0.trans (hb.mono B0.size)
    clear hb
    have HQ : Hid (Nrm qs ∧ Nrm rs ∧ val qs = mg (tk g1 xs / tk g2 ys) ∧ val rs = mg (rz (tk g1 xs) (tk g2 ys)) ∧ decide (tk g1 xs / tk g2 ys < 0) = decide (tk g1 xs / tk g2 ys < 0)) := ⟨n3, n4, v3, v4, rfl⟩
    obtain ⟨g3, hg3⟩ : ∃ g3, Hid (decide (tk g1 xs / tk g2 ys < 0) = g3) := ⟨_, rfl⟩
    obtain ⟨g4, hg4⟩ : ∃ g4, Hid (decide (rz (tk g1 xs) (tk g2 ys) < 0) = g4) := ⟨_, rfl⟩
    rw [hg3.out, hg4.out]
    have bn := below2 w2 (.cells #[.bool g3, .slice a3 qs.length c3] 26) (.cells #[.bool g4, .slice a4 rs.length c4] 26)
    have V3 := (Box2.new w2 (lo := 0) (by omega) (.bool g3) (.slice a3 qs.length c3) 26).below (below1 _ (.cells #[.bool g4, .slice a4 rs.length c4] 26))
    have V4 := Box2.new (w2.alloc (.cells #[.bool g3, .slice a3 qs.length c3] 26)) (lo := 0) (by omega) (.bool g4) (.slice a4 rs.length c4) 26
    rw [World.size_alloc] at V4
    replace V1 := V1.below bn
    replace V2 := V2.below bn
    replace S1 := S1.below bn
    replace S2 := S2.below bn
    have S3 := o3.toSees.below bn
    have S4 := o4.toSees.below bn
    replace B0 := B0.trans (bn.mono B0.size)
    clear o3 o4 bn n3 n4 v3 v4
    have K : (fun w' : World => w'.cell? ⟨w1.heap.size, 0, none⟩ = some (.bool g1) ∧ w'.cell? ⟨w1.heap.size, 1, none⟩ = some (.slice a1 xs.length c1) ∧ w'.cell? ⟨w1.heap.size + 1, 0, none⟩ = some (.bool g2) ∧ w'.cell? ⟨w1.heap.size + 1, 1, none⟩ = some (.slice a2 ys.length c2) ∧ w'.cell? ⟨w2.heap.size, 0, none⟩ = some (.bool g3) ∧ w'.cell? ⟨w2.heap.size, 1, none⟩ = some (.slice a3 qs.length c3) ∧ w'.cell? ⟨w2.heap.size + 1, 0, none⟩ = some (.bool g4) ∧ w'.cell? ⟨w2.heap.size + 1, 1, none⟩ = some (.slice a4 rs.length c4)) ((w2.alloc (.cells #[.bool g3, .slice a3 qs.length c3] 26)).alloc (.cells #[.bool g4, .slice a4 rs.length c4] 26)) := ⟨V1.c0, V1.c1, V2.c0, V2.c1, V3.c0, V3.c1, V4.c0, V4.c1⟩
    dsimp only at K
    clear V1 V2 V3 V4
    have hy1 : ∀ g : Bool, 0 < ys.length → (g && decide (0 < ys.length)) = g := fun g h => by rw [decide_eq_true h]; simp
    have hy0 : ∀ g : Bool, ys.length = 0 → (g && decide (0 < ys.length)) = false := fun g h => by rw [decide_eq_false (by omega)]; simp
    cases h1 : okB g1 xs <;> cases h2 : okB g2 ys <;> by_cases hy : ys.length = 0
    all_goals
      first
      | rw [hy1 _ (by omega)]
      | rw [hy0 _ hy]
      first
      | (have hdn : decide (0 < ys.length) = true := decide_eq_true (by omega); have hde : ((ys.length : Int) == 0) = false := (by rw [beq_eq_false_iff_ne]; omega))
      | (have hdn : decide (0 < ys.length) = false := decide_eq_false (by omega); have hde : ((ys.length : Int) == 0) = true := (by rw [beq_iff_eq]; omega))
      have HY : Hid (ys.length = 0 ∨ ys.length ≠ 0) := Decidable.em _
      clear hy1 hy0
      first
      | (have HY0 : Hid (ys.length = 0) := hy; clear hy)
      | (have HY0 : Hid (¬ ys.length = 0) := hy; clear hy)
      go_upto_region 5 with fail
      generalize (w2.alloc (.cells #[.bool g3, .slice a3 qs.length c3] 26)).alloc (.cells #[.bool g4, .slice a4 rs.length c4] 26) = W2 at *
      have B : Below W2.heap.size W2 W2 := Below.refl _ _
      obtain ⟨k1, k2, k3, k4, k5, k6, k7, k8⟩ := keep8 K B
    · go_wp2_with (first
          | (go_at_call_of 9 (Value.slice a1 xs.length c1); refine (specOk g1 a1 c1 xs _ (S1.below B)).mono ?_; rintro e w5 ⟨rfl, hb⟩; rw [h1]; replace B := B.trans (hb.mono B.size); clear hb; obtain ⟨k1, k2, k3, k4, k5, k6, k7, k8⟩ := keep8 K B)
          | (go_at_call_of 9 (Value.slice a2 ys.length c2); refine (specOk g2 a2 c2 ys _ (S2.below B)).mono ?_; rintro e w5 ⟨rfl, hb⟩; rw [h2]; replace B := B.trans (hb.mono B.size); clear hb; obtain ⟨k1, k2, k3, k4, k5, k6, k7, k8⟩ := keep8 K B))
      all_goals
        go_ret
        exact ⟨rfl, B0.trans (B.mono B0.size)⟩
    · go_wp2_with (first
          | (go_at_call_of 9 (Value.slice a1 xs.length c1); refine (specOk g1 a1 c1 xs _ (S1.below B)).mono ?_; rintro e w5 ⟨rfl, hb⟩; rw [h1]; replace B := B.trans (hb.mono B.size); clear hb; obtain ⟨k1, k2, k3, k4, k5, k6, k7, k8⟩ := keep8 K B)
          | (go_at_call_of 9 (Value.slice a2 ys.length c2); refine (specOk g2 a2 c2 ys _ (S2.below B)).mono ?_; rintro e w5 ⟨rfl, hb⟩; rw [h2]; replace B := B.trans (hb.mono B.size); clear hb; obtain ⟨k1, k2, k3, k4, k5, k6, k7, k8⟩ := keep8 K B))
      all_goals
        go_ret
        exact ⟨rfl, B0.trans (B.mono B0.size)⟩
    · go_wp2_with (first
          | (go_at_call_of 9 (Value.slice a1 xs.length c1); refine (specOk g1 a1 c1 xs _ (S1.below B)).mono ?_; rintro e w5 ⟨rfl, hb⟩; rw [h1]; replace B := B.trans (hb.mono B.size); clear hb; obtain ⟨k1, k2, k3, k4, k5, k6, k7, k8⟩ := keep8 K B)
          | (go_at_call_of 9 (Value.slice a2 ys.length c2); refine (specOk g2 a2 c2 ys _ (S2.below B)).mono ?_; rintro e w5 ⟨rfl, hb⟩; rw [h2]; replace B := B.trans (hb.mono B.size); clear hb; obtain ⟨k1, k2, k3, k4, k5, k6, k7, k8⟩ := keep8 K B))
      all_goals
        go_ret
        exact ⟨rfl, B0.trans (B.mono B0.size)⟩
    · go_wp2_with (first
          | (go_at_call_of 9 (Value.slice a1 xs.length c1); refine (specOk g1 a1 c1 xs _ (S1.below B)).mono ?_; rintro e w5 ⟨rfl, hb⟩; rw [h1]; replace B := B.trans (hb.mono B.size); clear hb; obtain ⟨k1, k2, k3, k4, k5, k6, k7, k8⟩ := keep8 K B)
          | (go_at_call_of 9 (Value.slice a2 ys.length c2); refine (specOk g2 a2 c2 ys _ (S2.below B)).mono ?_; rintro e w5 ⟨rfl, hb⟩; rw [h2]; replace B := B.trans (hb.mono B.size); clear hb; obtain ⟨k1, k2, k3, k4, k5, k6, k7, k8⟩ := keep8 K B))
      all_goals
        go_ret
        exact ⟨rfl, B0.trans (B.mono B0.size)⟩
    · go_wp2_with (first
          | (go_at_call_of 9 (Value.slice a1 xs.length c1); refine (specOk g1 a1 c1 xs _ (S1.below B)).mono ?_; rintro e w5 ⟨rfl, hb⟩; rw [h1]; replace B := B.trans (hb.mono B.size); clear hb; obtain ⟨k1, k2, k3, k4, k5, k6, k7, k8⟩ := keep8 K B)
          | (go_at_call_of 9 (Value.slice a2 ys.length c2); refine (specOk g2 a2 c2 ys _ (S2.below B)).mono ?_; rintro e w5 ⟨rfl, hb⟩; rw [h2]; replace B := B.trans (hb.mono B.size); clear hb; obtain ⟨k1, k2, k3, k4, k5, k6, k7, k8⟩ := keep8 K B))
      all_goals
        go_ret
        exact ⟨rfl, B0.trans (B.mono B0.size)⟩
    · go_wp2_with (first
          | (go_at_call_of 9 (Value.slice a1 xs.length c1); refine (specOk g1 a1 c1 xs _ (S1.below B)).mono ?_; rintro e w5 ⟨rfl, hb⟩; rw [h1]; replace B := B.trans (hb.mono B.size); clear hb; obtain ⟨k1, k2, k3, k4, k5, k6, k7, k8⟩ := keep8 K B)
          | (go_at_call_of 9 (Value.slice a2 ys.length c2); refine (specOk g2 a2 c2 ys _ (S2.below B)).mono ?_; rintro e w5 ⟨rfl, hb⟩; rw [h2]; replace B := B.trans (hb.mono B.size); clear hb; obtain ⟨k1, k2, k3, k4, k5, k6, k7, k8⟩ := keep8 K B))
      all_goals
        go_ret
        exact ⟨rfl, B0.trans (B.mono B0.size)⟩
    · go_wp2_with (first
          | (go_at_call_of 9 (Value.slice a1 xs.length c1); refine (specOk g1 a1 c1 xs _ (S1.below B)).mono ?_; rintro e w5 ⟨rfl, hb⟩; rw [h1]; replace B := B.trans (hb.mono B.size); clear hb; obtain ⟨k1, k2, k3, k4, k5, k6, k7, k8⟩ := keep8 K B)
          | (go_at_call_of 9 (Value.slice a2 ys.length c2); refine (specOk g2 a2 c2 ys _ (S2.below B)).mono ?_; rintro e w5 ⟨rfl, hb⟩; rw [h2]; replace B := B.trans (hb.mono B.size); clear hb; obtain ⟨k1, k2, k3, k4, k5, k6, k7, k8⟩ := keep8 K B))
      all_goals
        go_ret
        exact ⟨rfl, B0.trans (B.mono B0.size)⟩
    · by_cases hlen : xs.length + ys.length + 2 ≤ 24
      · obtain ⟨A, D, Q, R, t1, t2, t3, t4, hqd, hr0, hp0, hp1, t5, hr1, f1, n1, e1⟩ := div_facts S1.lim S2.lim h1 h2 HY0.out hlen S3.lim S4.lim HQ.out.1 HQ.out.2.1 HQ.out.2.2.1 HQ.out.2.2.2.1
        rw [hg3.out] at t3
        rw [hg4.out] at t4
        have HF : Hid (tk g1 xs = A ∧ tk g2 ys = D ∧ tk g3 qs = Q ∧ tk g4 rs = R ∧ Q * D + R = A ∧ 0 ≤ R ∧ -(4294967296 ^ 24) < Q * D ∧ Q * D < 4294967296 ^ 24 ∧ tk false ys = mg D ∧ R < mg D ∧ g1 = decide (A < 0) ∧ Nrm xs ∧ val xs = mg A) := ⟨t1, t2, t3, t4, hqd, hr0, hp0, hp1, t5, hr1, f1, n1, e1⟩
        clear t1 t2 t3 t4 hqd hr0 hp0 hp1 t5 hr1 f1 n1 e1 hg3 hg4 HQ HY HY0
        go_wp2_with (first
          | (go_at_call_of 9 (Value.slice a1 xs.length c1); refine (specOk g1 a1 c1 xs _ (S1.below B)).mono ?_; rintro e w5 ⟨rfl, hb⟩; rw [h1]; replace B := B.trans (hb.mono B.size); clear hb; obtain ⟨k1, k2, k3, k4, k5, k6, k7, k8⟩ := keep8 K B)
          | (go_at_call_of 9 (Value.slice a2 ys.length c2); refine (specOk g2 a2 c2 ys _ (S2.below B)).mono ?_; rintro e w5 ⟨rfl, hb⟩; rw [h2]; replace B := B.trans (hb.mono B.size); clear hb; obtain ⟨k1, k2, k3, k4, k5, k6, k7, k8⟩ := keep8 K B))
        rename World => w9
        have K9 := keep8 K B
        have bn := below1 w9 (.cells #[.bool false, .slice a2 ys.length c2] 26)
        have K10 : (fun w' : World => w'.cell? ⟨w1.heap.size, 0, none⟩ = some (.bool g1) ∧ w'.cell? ⟨w1.heap.size, 1, none⟩ = some (.slice a1 xs.length c1) ∧ w'.cell? ⟨w1.heap.size + 1, 0, none⟩ = some (.bool g2) ∧ w'.cell? ⟨w1.heap.size + 1, 1, none⟩ = some (.slice a2 ys.length c2) ∧ w'.cell? ⟨w2.heap.size, 0, none⟩ = some (.bool g3) ∧ w'.cell? ⟨w2.heap.size, 1, none⟩ = some (.slice a3 qs.length c3) ∧ w'.cell? ⟨w2.heap.size + 1, 0, none⟩ = some (.bool g4) ∧ w'.cell? ⟨w2.heap.size + 1, 1, none⟩ = some (.slice a4 rs.length c4) ∧ w'.cell? ⟨w9.heap.size, 0, none⟩ = some (.bool false) ∧ w'.cell? ⟨w9.heap.size, 1, none⟩ = some (.slice a2 ys.length c2)) (w9.alloc (.cells #[.bool false, .slice a2 ys.length c2] 26)) := by
          obtain ⟨j1, j2, j3, j4, j5, j6, j7, j8⟩ := K9
          exact ⟨bat bn j1, bat bn j2, bat bn j3, bat bn j4, bat bn j5, bat bn j6, bat bn j7, bat bn j8, cell_new _ _ _ 0 rfl, cell_new _ _ _ 1 rfl⟩
        dsimp only at K10
        replace S1 := (S1.below B).below bn
        replace S2 := (S2.below B).below bn
        replace S3 := (S3.below B).below bn
        replace S4 := (S4.below B).below bn
        replace B0 := (B0.trans (B.mono B0.size)).trans (bn.mono (Nat.le_trans B0.size B.size))
        clear B K K9 bn k1 k2 k3 k4 k5 k6 k7 k8
        generalize w9.alloc (.cells #[.bool false, .slice a2 ys.length c2] 26) = W at *
        go_region_held3 (fun w' => w'.cell? ⟨w1.heap.size, 0, none⟩ = some (.bool g1) ∧ w'.cell? ⟨w1.heap.size, 1, none⟩ = some (.slice a1 xs.length c1) ∧ w'.cell? ⟨w1.heap.size + 1, 0, none⟩ = some (.bool g2) ∧ w'.cell? ⟨w1.heap.size + 1, 1, none⟩ = some (.slice a2 ys.length c2) ∧ w'.cell? ⟨w2.heap.size, 0, none⟩ = some (.bool g3) ∧ w'.cell? ⟨w2.heap.size, 1, none⟩ = some (.slice a3 qs.length c3) ∧ w'.cell? ⟨w2.heap.size + 1, 0, none⟩ = some (.bool g4) ∧ w'.cell? ⟨w2.heap.size + 1, 1, none⟩ = some (.slice a4 rs.length c4) ∧ w'.cell? ⟨w9.heap.size, 0, none⟩ = some (.bool false) ∧ w'.cell? ⟨w9.heap.size, 1, none⟩ = some (.slice a2 ys.length c2))
          (first | exact K10 | exact m1 | exact m2 | exact m3 | exact m4 | exact m5)
          (first
          | (go_at_call 12; refine (implMul g3 g2 a3 a2 c3 c2 qs ys _ (S3.below (Below.refl _ _).drew) (S2.below (Below.refl _ _).drew)).mono ?_; rintro e x1 ⟨u1, rfl, hI, hb⟩; have N1 := (Below.refl W.heap.size W).drew.trans (hb.mono (by simp)); have m1 := keep10 K10 N1; clear hb; rw [HF.out.2.2.1, HF.out.2.1] at hI; have NV := hI.numV HF.out.2.2.2.2.2.2.1 HF.out.2.2.2.2.2.2.2.1; clear hI; obtain ⟨b1, d1, z1, rfl, T1, nz1, lz1, vz1⟩ := NV.is'; have TZ : Hid (tk (decide (Q * D < 0)) z1 = Q * D) := (tk_val T1.lim nz1 lz1 vz1).2; clear NV nz1 lz1 vz1)
          | (go_at_call 11; refine (implAdd _ g4 b1 a4 d1 c4 z1 rs _ T1 (S4.below N1)).mono ?_; rintro e x2 ⟨u2, rfl, hI, hb⟩; have N2 := N1.trans (hb.mono N1.size); have m2 := keep10 K10 N2; clear hb T1; rw [TZ.out, HF.out.2.2.2.1, HF.out.2.2.2.2.1] at hI; obtain ⟨b2, d2, rfl, T2⟩ := hI.as S1.lim HF.out.2.2.2.2.2.2.2.2.2.2.2.1 HF.out.2.2.2.2.2.2.2.2.2.2.2.2; clear hI TZ; rw [← HF.out.2.2.2.2.2.2.2.2.2.2.1])
          | (go_at_call 13; refine (sameNumC g1 b2 a1 d2 c1 xs _ T2.toSees (S1.below N2)).mono ?_; rintro e x3 ⟨rfl, hb⟩; have N3 := N2.trans (hb.mono N2.size); have m3 := keep10 K10 N3; clear hb T2)
          | (go_at_call 16; refine (implSign g4 a4 c4 rs _ (S4.below N3)).mono ?_; rintro e x4 ⟨rfl, hb⟩; have N4 := N3.trans (hb.mono N3.size); have m4 := keep10 K10 N4; clear hb; rw [HF.out.2.2.2.1]; have sg0 : 0 ≤ cmpZ R 0 := (by have := HF.out.2.2.2.2.2.1; unfold cmpZ; split <;> (try split) <;> omega); generalize cmpZ R 0 = sR at *)
          | (go_at_call 15; refine (implCmp g4 false a4 a2 c4 c2 rs ys _ (S4.below N4) (S2.below N4)).mono ?_; rintro e x5 ⟨rfl, hb⟩; have N5 := N4.trans (hb.mono N4.size); have m5 := keep10 K10 N5; clear hb; rw [HF.out.2.2.2.1, HF.out.2.2.2.2.2.2.2.2.1, show cmpZ R (mg D) = -1 by unfold cmpZ; rw [if_pos HF.out.2.2.2.2.2.2.2.2.2.1]]))
        all_goals
          go_wp2
          go_ret
          exact ⟨rfl, B0.trans (N5.mono B0.size)⟩
      · go_wp2_with (first
          | (go_at_call_of 9 (Value.slice a1 xs.length c1); refine (specOk g1 a1 c1 xs _ (S1.below B)).mono ?_; rintro e w5 ⟨rfl, hb⟩; rw [h1]; replace B := B.trans (hb.mono B.size); clear hb; obtain ⟨k1, k2, k3, k4, k5, k6, k7, k8⟩ := keep8 K B)
          | (go_at_call_of 9 (Value.slice a2 ys.length c2); refine (specOk g2 a2 c2 ys _ (S2.below B)).mono ?_; rintro e w5 ⟨rfl, hb⟩; rw [h2]; replace B := B.trans (hb.mono B.size); clear hb; obtain ⟨k1, k2, k3, k4, k5, k6, k7, k8⟩ := keep8 K B))
        all_goals
          go_ret
          exact ⟨rfl, B0.trans (B.mono B0.size)⟩
  · have hd : decide (1048576 < (n : Int)) = true := decide_eq_true (by omega)
    go_enter Try.func4, Try.ntmps4
    go_wp2_with fail
    refine (bigB_any a n cap _).mono ?_
    rintro e w0 ⟨rfl, rfl⟩
    rw [hd]
    go_wp2
    go_ret
    exact ⟨rfl, Below.refl _ _⟩
end Go.Proofs.Ytfddiojcahbkfaa
