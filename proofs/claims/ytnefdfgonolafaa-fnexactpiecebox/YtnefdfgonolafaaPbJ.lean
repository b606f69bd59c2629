/- The box of whole numbers around a piece: of the program. -/
import Derived.Test.YtnefdfgonolafaaPbT
import Derived.Test.YtnefdfgonolafaaBoxP
import Derived.Test.YtnefdfgonolafaaDigs
import Derived.Test.YtnefdfgonolafaaHeldQ
import Derived.Deep.DeepCutAuto
namespace Go.Proofs.Ytnefdfgonolafaa
open Go.RowKit

theorem Box4.grownPb {lo q : Nat} {w w' : World} {x0 x1 x2 x3 : Value} {row : Option Nat} (h : Box4 lo w q x0 x1 x2 x3) (g : w.grownBy w' row) (ne : some q ≠ row) : Box4 lo w' q x0 x1 x2 x3 := by
  have e := g.block q h.lt ne
  exact ⟨(World.cell?_of_block (a := ⟨q, 0, none⟩) e).trans h.c0, (World.cell?_of_block (a := ⟨q, 1, none⟩) e).trans h.c1, (World.cell?_of_block (a := ⟨q, 2, none⟩) e).trans h.c2, (World.cell?_of_block (a := ⟨q, 3, none⟩) e).trans h.c3, fun o => (World.frozen?_of_block (a := ⟨q, o, none⟩) e).trans (h.fr o), h.lo⟩
/-- The points that have been come to. -/
def PbP (e0 e1 : Bool) (Q0 Q1 U0 U1 : Int) (ps : List (Int × Int)) : Prop := e0 = true ∧ e1 = true ∧ ∃ v0 v1 u0 u1, ps = [(v0, v1), (u0, u1)] ∧ Co v0 Q0 ∧ Co v1 Q1 ∧ Co u0 U0 ∧ Co u1 U1
def PbR (e0 e1 e2 e3 : Bool) (Q0 Q1 Q2 Q3 U0 U1 U2 U3 : Int) : Nat → List (Int × Int) → Prop
  | 0, ps => ps = []
  | 1, ps => PbP e0 e1 Q0 Q1 U0 U1 ps
  | _, ps => ∃ p1 p2, ps = p1 ++ p2 ∧ PbP e0 e1 Q0 Q1 U0 U1 p1 ∧ PbP e2 e3 Q2 Q3 U2 U3 p2
theorem Co.inB {v q : Int} (h : Co v q) : inB v (-10000000) 10000000 = inB q (-10000000) 10000000 := by
  by_cases hc : Crd q
  · rw [h.1 hc]
  · have h1 : Go.Proofs.Ytnefdfgonolafaa.inB q (-10000000) 10000000 = false := by
      cases e : Go.Proofs.Ytnefdfgonolafaa.inB q (-10000000) 10000000
      · rfl
      · exact absurd (inB_true.1 e) hc
    have h2 : Go.Proofs.Ytnefdfgonolafaa.inB v (-10000000) 10000000 = false := by
      cases e : Go.Proofs.Ytnefdfgonolafaa.inB v (-10000000) 10000000
      · rfl
      · exact absurd (inB_true.1 e) (h.2.1 hc)
    rw [h1, h2]
theorem Co.eq {v q : Int} (h : Co v q) (k : Go.Proofs.Ytnefdfgonolafaa.inB q (-10000000) 10000000 = true) : v = q := h.1 (inB_true.1 k)

theorem pt_new2 (w : World) (e : TypeId) (x y z t : Int) : ∀ j u, (ptC [(x, y), (z, t)])[j]? = some u → (w.alloc (.cells #[.int .i64 x, .int .i64 y, .int .i64 z, .int .i64 t] e)).cell? ((⟨w.heap.size, 0, none⟩ : Addr).add j) = some u := by
  intro j u hu
  rcases j with _ | _ | _ | _ | j
  · simp [ptC] at hu; subst hu; exact cell_new w #[.int .i64 x, .int .i64 y, .int .i64 z, .int .i64 t] e 0 rfl
  · simp [ptC] at hu; subst hu; exact cell_new w #[.int .i64 x, .int .i64 y, .int .i64 z, .int .i64 t] e 1 rfl
  · simp [ptC] at hu; subst hu; exact cell_new w #[.int .i64 x, .int .i64 y, .int .i64 z, .int .i64 t] e 2 rfl
  · simp [ptC] at hu; subst hu; exact cell_new w #[.int .i64 x, .int .i64 y, .int .i64 z, .int .i64 t] e 3 rfl
  · simp [ptC] at hu

set_option maxHeartbeats 2000000 in
theorem pb_end (e0 e1 e2 e3 : Bool) (Q0 Q1 Q2 Q3 U0 U1 U2 U3 : Int) (k0 k1 k2 k3 : Bool) (ps : List (Int × Int)) (h : PbR e0 e1 e2 e3 Q0 Q1 Q2 Q3 U0 U1 U2 U3 2 ps)
    (hk0 : k0 = (e0 && (inB Q0 (-10000000) 10000000 && inB U0 (-10000000) 10000000))) (hl0 : e0 = true → Q0 ≤ U0) (hk1 : k1 = (e1 && (inB Q1 (-10000000) 10000000 && inB U1 (-10000000) 10000000))) (hl1 : e1 = true → Q1 ≤ U1) (hk2 : k2 = (e2 && (inB Q2 (-10000000) 10000000 && inB U2 (-10000000) 10000000))) (hl2 : e2 = true → Q2 ≤ U2) (hk3 : k3 = (e3 && (inB Q3 (-10000000) 10000000 && inB U3 (-10000000) 10000000))) (hl3 : e3 = true → Q3 ≤ U3) :
    bOk ps = pbB k0 k1 k2 k3 ∧ bA ps = pbV (pbB k0 k1 k2 k3) (min Q0 Q2) ∧ bB ps = pbV (pbB k0 k1 k2 k3) (min Q1 Q3) ∧ bC ps = pbV (pbB k0 k1 k2 k3) (max U0 U2) ∧ bD ps = pbV (pbB k0 k1 k2 k3) (max U1 U3) := by
  obtain ⟨p1, p2, rfl, ⟨rfl, rfl, v0, v1, u0, u1, rfl, c0, c1, c2, c3⟩, ⟨rfl, rfl, v2, v3, u2, u3, rfl, d0, d1, d2, d3⟩⟩ := h
  have o : bOk ([(v0, v1), (u0, u1)] ++ [(v2, v3), (u2, u3)]) = pbB k0 k1 k2 k3 := by
    show (true && (ptOk v0 v1 && (ptOk u0 u1 && (ptOk v2 v3 && (ptOk u2 u3 && true))))) = (k0 && (k1 && (k2 && k3)))
    unfold ptOk
    rw [c0.inB, c1.inB, c2.inB, c3.inB, d0.inB, d1.inB, d2.inB, d3.inB, hk0, hk1, hk2, hk3]
    simp only [Bool.true_and, Bool.and_true]
    ac_rfl
  cases hK : pbB k0 k1 k2 k3
  · rw [hK] at o
    obtain ⟨z1, z2, z3, z4⟩ := b_bad o
    exact ⟨o, z1, z2, z3, z4⟩
  · rw [hK] at o
    obtain ⟨z1, z2, z3, z4⟩ := b_good o
    unfold pbB at hK
    simp only [Bool.and_eq_true] at hK
    obtain ⟨rfl, rfl, rfl, rfl⟩ := hK
    simp only [Bool.true_and] at hk0 hk1 hk2 hk3
    replace hk0 := hk0.symm
    replace hk1 := hk1.symm
    replace hk2 := hk2.symm
    replace hk3 := hk3.symm
    simp only [Bool.and_eq_true] at hk0 hk1 hk2 hk3
    obtain rfl := c0.eq hk0.1
    obtain rfl := c1.eq hk1.1
    obtain rfl := c2.eq hk0.2
    obtain rfl := c3.eq hk1.2
    obtain rfl := d0.eq hk2.1
    obtain rfl := d1.eq hk3.1
    obtain rfl := d2.eq hk2.2
    obtain rfl := d3.eq hk3.2
    have l0 := hl0 rfl
    have l1 := hl1 rfl
    have l2 := hl2 rfl
    have l3 := hl3 rfl
    refine ⟨o, z1.trans ?_, z2.trans ?_, z3.trans ?_, z4.trans ?_⟩
    · show min (min (min (min v0 v0) u0) v2) u2 = min v0 v2
      omega
    · show min (min (min (min v1 v1) u1) v3) u3 = min v1 v3
      omega
    · show max (max (max (max v0 v0) u0) v2) u2 = max u0 u2
      omega
    · show max (max (max (max v1 v1) u1) v3) u3 = max u1 u3
      omega

set_option maxRecDepth 20000 in
set_option maxHeartbeats 4000000 in
theorem implPieceBox (g0 h0 : Bool) (a0 b0 : Option Addr) (c0 d0 : Nat) (x0 y0 : List Int) (g1 h1 : Bool) (a1 b1 : Option Addr) (c1 d1 : Nat) (x1 y1 : List Int) (g2 h2 : Bool) (a2 b2 : Option Addr) (c2 d2 : Nat) (x2 y2 : List Int) (g3 h3 : Bool) (a3 b3 : Option Addr) (c3 d3 : Nat) (x3 y3 : List Int) (w : World) (hx0 : Sees w a0 c0 x0) (hy0 : Sees w b0 d0 y0) (hx1 : Sees w a1 c1 x1) (hy1 : Sees w b1 d1 y1) (hx2 : Sees w a2 c2 x2) (hy2 : Sees w b2 d2 y2) (hx3 : Sees w a3 c3 x3) (hy3 : Sees w b3 d3 y3) :
    Calls Try.prog 7 #[.agg #[.bool g0, .slice a0 x0.length c0, .bool h0, .slice b0 y0.length d0, .bool g1, .slice a1 x1.length c1, .bool h1, .slice b1 y1.length d1, .bool g2, .slice a2 x2.length c2, .bool h2, .slice b2 y2.length d2, .bool g3, .slice a3 x3.length c3, .bool h3, .slice b3 y3.length d3]] w fun e w' => e = .returned (.tuple #[.agg #[.int .i64 (pbV (pbB (rdB g0 x0 h0 y0) (rdB g1 x1 h1 y1) (rdB g2 x2 h2 y2) (rdB g3 x3 h3 y3)) (min (rdQ g0 x0 h0 y0) (rdQ g2 x2 h2 y2))), .int .i64 (pbV (pbB (rdB g0 x0 h0 y0) (rdB g1 x1 h1 y1) (rdB g2 x2 h2 y2) (rdB g3 x3 h3 y3)) (min (rdQ g1 x1 h1 y1) (rdQ g3 x3 h3 y3))), .int .i64 (pbV (pbB (rdB g0 x0 h0 y0) (rdB g1 x1 h1 y1) (rdB g2 x2 h2 y2) (rdB g3 x3 h3 y3)) (max (rdU g0 x0 h0 y0) (rdU g2 x2 h2 y2))), .int .i64 (pbV (pbB (rdB g0 x0 h0 y0) (rdB g1 x1 h1 y1) (rdB g2 x2 h2 y2) (rdB g3 x3 h3 y3)) (max (rdU g1 x1 h1 y1) (rdU g3 x3 h3 y3)))], .bool (pbB (rdB g0 x0 h0 y0) (rdB g1 x1 h1 y1) (rdB g2 x2 h2 y2) (rdB g3 x3 h3 y3))]) ∧ Below w.heap.size w w' := by
  have B := below1 w (.cells #[.bool g0, .slice a0 x0.length c0, .bool h0, .slice b0 y0.length d0, .bool g1, .slice a1 x1.length c1, .bool h1, .slice b1 y1.length d1, .bool g2, .slice a2 x2.length c2, .bool h2, .slice b2 y2.length d2, .bool g3, .slice a3 x3.length c3, .bool h3, .slice b3 y3.length d3] 40)
  have V := BoxL.new w (Nat.le_refl _) [.bool g0, .slice a0 x0.length c0, .bool h0, .slice b0 y0.length d0, .bool g1, .slice a1 x1.length c1, .bool h1, .slice b1 y1.length d1, .bool g2, .slice a2 x2.length c2, .bool h2, .slice b2 y2.length d2, .bool g3, .slice a3 x3.length c3, .bool h3, .slice b3 y3.length d3] 40
  obtain ⟨k0, HK0⟩ : ∃ x, Hid (rdB g0 x0 h0 y0 = x) := ⟨_, rfl⟩
  obtain ⟨Q0, HQ0⟩ : ∃ x, Hid (rdQ g0 x0 h0 y0 = x) := ⟨_, rfl⟩
  obtain ⟨U0, HU0⟩ : ∃ x, Hid (rdU g0 x0 h0 y0 = x) := ⟨_, rfl⟩
  obtain ⟨k1, HK1⟩ : ∃ x, Hid (rdB g1 x1 h1 y1 = x) := ⟨_, rfl⟩
  obtain ⟨Q1, HQ1⟩ : ∃ x, Hid (rdQ g1 x1 h1 y1 = x) := ⟨_, rfl⟩
  obtain ⟨U1, HU1⟩ : ∃ x, Hid (rdU g1 x1 h1 y1 = x) := ⟨_, rfl⟩
  obtain ⟨k2, HK2⟩ : ∃ x, Hid (rdB g2 x2 h2 y2 = x) := ⟨_, rfl⟩
  obtain ⟨Q2, HQ2⟩ : ∃ x, Hid (rdQ g2 x2 h2 y2 = x) := ⟨_, rfl⟩
  obtain ⟨U2, HU2⟩ : ∃ x, Hid (rdU g2 x2 h2 y2 = x) := ⟨_, rfl⟩
  obtain ⟨k3, HK3⟩ : ∃ x, Hid (rdB g3 x3 h3 y3 = x) := ⟨_, rfl⟩
  obtain ⟨Q3, HQ3⟩ : ∃ x, Hid (rdQ g3 x3 h3 y3 = x) := ⟨_, rfl⟩
  obtain ⟨U3, HU3⟩ : ∃ x, Hid (rdU g3 x3 h3 y3 = x) := ⟨_, rfl⟩
  rw [HK0.out, HQ0.out, HU0.out, HK1.out, HQ1.out, HU1.out, HK2.out, HQ2.out, HU2.out, HK3.out, HQ3.out, HU3.out]
  obtain ⟨e0, HE0⟩ : ∃ x, Hid (fOk g0 x0 h0 y0 = x) := ⟨_, rfl⟩
  obtain ⟨e1, HE1⟩ : ∃ x, Hid (fOk g1 x1 h1 y1 = x) := ⟨_, rfl⟩
  obtain ⟨e2, HE2⟩ : ∃ x, Hid (fOk g2 x2 h2 y2 = x) := ⟨_, rfl⟩
  obtain ⟨e3, HE3⟩ : ∃ x, Hid (fOk g3 x3 h3 y3 = x) := ⟨_, rfl⟩
  have HL0 : Hid (e0 = true → Q0 ≤ U0) := fun h => by rw [← HE0.out] at h; rw [← HQ0.out, ← HU0.out]; exact rdU_le (fOk_pos h)
  replace HK0 : Hid (k0 = (e0 && (inB Q0 (-10000000) 10000000 && inB U0 (-10000000) 10000000))) := by show _ = _; rw [← HK0.out, ← HQ0.out, ← HU0.out, ← HE0.out]; rfl
  have CF0 : Hid (∀ W, Below w.heap.size w W → Calls Try.prog 15 #[(.agg #[.bool g0, .slice a0 x0.length c0, .bool h0, .slice b0 y0.length d0])] W fun e w' => e = .returned (.bool e0) ∧ Below W.heap.size W w') := fun W hb => by rw [← HE0.out]; exact implFracOk g0 h0 a0 b0 c0 d0 x0 y0 W (hx0.below hb) (hy0.below hb)
  have CU0 : Hid (e0 = true → ∀ W, Below w.heap.size w W → Calls Try.prog 16 #[(.agg #[.bool g0, .slice a0 x0.length c0, .bool h0, .slice b0 y0.length d0])] W fun e w' => ∃ v, e = .returned (.int .i64 v) ∧ Co v Q0 ∧ Below W.heap.size W w') := fun h W hb => by rw [← HE0.out] at h; rw [← HQ0.out]; exact underC g0 h0 a0 b0 c0 d0 x0 y0 W (hx0.below hb) (hy0.below hb) h
  have CO0 : Hid (e0 = true → ∀ W, Below w.heap.size w W → Calls Try.prog 17 #[(.agg #[.bool g0, .slice a0 x0.length c0, .bool h0, .slice b0 y0.length d0])] W fun e w' => ∃ v, e = .returned (.int .i64 v) ∧ Co v U0 ∧ Below W.heap.size W w') := fun h W hb => by rw [← HE0.out] at h; rw [← HU0.out]; exact overC g0 h0 a0 b0 c0 d0 x0 y0 W (hx0.below hb) (hy0.below hb) h
  have HL1 : Hid (e1 = true → Q1 ≤ U1) := fun h => by rw [← HE1.out] at h; rw [← HQ1.out, ← HU1.out]; exact rdU_le (fOk_pos h)
  replace HK1 : Hid (k1 = (e1 && (inB Q1 (-10000000) 10000000 && inB U1 (-10000000) 10000000))) := by show _ = _; rw [← HK1.out, ← HQ1.out, ← HU1.out, ← HE1.out]; rfl
  have CF1 : Hid (∀ W, Below w.heap.size w W → Calls Try.prog 15 #[(.agg #[.bool g1, .slice a1 x1.length c1, .bool h1, .slice b1 y1.length d1])] W fun e w' => e = .returned (.bool e1) ∧ Below W.heap.size W w') := fun W hb => by rw [← HE1.out]; exact implFracOk g1 h1 a1 b1 c1 d1 x1 y1 W (hx1.below hb) (hy1.below hb)
  have CU1 : Hid (e1 = true → ∀ W, Below w.heap.size w W → Calls Try.prog 16 #[(.agg #[.bool g1, .slice a1 x1.length c1, .bool h1, .slice b1 y1.length d1])] W fun e w' => ∃ v, e = .returned (.int .i64 v) ∧ Co v Q1 ∧ Below W.heap.size W w') := fun h W hb => by rw [← HE1.out] at h; rw [← HQ1.out]; exact underC g1 h1 a1 b1 c1 d1 x1 y1 W (hx1.below hb) (hy1.below hb) h
  have CO1 : Hid (e1 = true → ∀ W, Below w.heap.size w W → Calls Try.prog 17 #[(.agg #[.bool g1, .slice a1 x1.length c1, .bool h1, .slice b1 y1.length d1])] W fun e w' => ∃ v, e = .returned (.int .i64 v) ∧ Co v U1 ∧ Below W.heap.size W w') := fun h W hb => by rw [← HE1.out] at h; rw [← HU1.out]; exact overC g1 h1 a1 b1 c1 d1 x1 y1 W (hx1.below hb) (hy1.below hb) h
  have HL2 : Hid (e2 = true → Q2 ≤ U2) := fun h => by rw [← HE2.out] at h; rw [← HQ2.out, ← HU2.out]; exact rdU_le (fOk_pos h)
  replace HK2 : Hid (k2 = (e2 && (inB Q2 (-10000000) 10000000 && inB U2 (-10000000) 10000000))) := by show _ = _; rw [← HK2.out, ← HQ2.out, ← HU2.out, ← HE2.out]; rfl
  have CF2 : Hid (∀ W, Below w.heap.size w W → Calls Try.prog 15 #[(.agg #[.bool g2, .slice a2 x2.length c2, .bool h2, .slice b2 y2.length d2])] W fun e w' => e = .returned (.bool e2) ∧ Below W.heap.size W w') := fun W hb => by rw [← HE2.out]; exact implFracOk g2 h2 a2 b2 c2 d2 x2 y2 W (hx2.below hb) (hy2.below hb)
  have CU2 : Hid (e2 = true → ∀ W, Below w.heap.size w W → Calls Try.prog 16 #[(.agg #[.bool g2, .slice a2 x2.length c2, .bool h2, .slice b2 y2.length d2])] W fun e w' => ∃ v, e = .returned (.int .i64 v) ∧ Co v Q2 ∧ Below W.heap.size W w') := fun h W hb => by rw [← HE2.out] at h; rw [← HQ2.out]; exact underC g2 h2 a2 b2 c2 d2 x2 y2 W (hx2.below hb) (hy2.below hb) h
  have CO2 : Hid (e2 = true → ∀ W, Below w.heap.size w W → Calls Try.prog 17 #[(.agg #[.bool g2, .slice a2 x2.length c2, .bool h2, .slice b2 y2.length d2])] W fun e w' => ∃ v, e = .returned (.int .i64 v) ∧ Co v U2 ∧ Below W.heap.size W w') := fun h W hb => by rw [← HE2.out] at h; rw [← HU2.out]; exact overC g2 h2 a2 b2 c2 d2 x2 y2 W (hx2.below hb) (hy2.below hb) h
  have HL3 : Hid (e3 = true → Q3 ≤ U3) := fun h => by rw [← HE3.out] at h; rw [← HQ3.out, ← HU3.out]; exact rdU_le (fOk_pos h)
  replace HK3 : Hid (k3 = (e3 && (inB Q3 (-10000000) 10000000 && inB U3 (-10000000) 10000000))) := by show _ = _; rw [← HK3.out, ← HQ3.out, ← HU3.out, ← HE3.out]; rfl
  have CF3 : Hid (∀ W, Below w.heap.size w W → Calls Try.prog 15 #[(.agg #[.bool g3, .slice a3 x3.length c3, .bool h3, .slice b3 y3.length d3])] W fun e w' => e = .returned (.bool e3) ∧ Below W.heap.size W w') := fun W hb => by rw [← HE3.out]; exact implFracOk g3 h3 a3 b3 c3 d3 x3 y3 W (hx3.below hb) (hy3.below hb)
  have CU3 : Hid (e3 = true → ∀ W, Below w.heap.size w W → Calls Try.prog 16 #[(.agg #[.bool g3, .slice a3 x3.length c3, .bool h3, .slice b3 y3.length d3])] W fun e w' => ∃ v, e = .returned (.int .i64 v) ∧ Co v Q3 ∧ Below W.heap.size W w') := fun h W hb => by rw [← HE3.out] at h; rw [← HQ3.out]; exact underC g3 h3 a3 b3 c3 d3 x3 y3 W (hx3.below hb) (hy3.below hb) h
  have CO3 : Hid (e3 = true → ∀ W, Below w.heap.size w W → Calls Try.prog 17 #[(.agg #[.bool g3, .slice a3 x3.length c3, .bool h3, .slice b3 y3.length d3])] W fun e w' => ∃ v, e = .returned (.int .i64 v) ∧ Co v U3 ∧ Below W.heap.size W w') := fun h W hb => by rw [← HE3.out] at h; rw [← HU3.out]; exact overC g3 h3 a3 b3 c3 d3 x3 y3 W (hx3.below hb) (hy3.below hb) h
  clear HE0 HQ0 HU0 hx0 hy0 HE1 HQ1 HU1 hx1 hy1 HE2 HQ2 HU2 hx2 hy2 HE3 HQ3 HU3 hx3 hy3
  obtain ⟨K, HK⟩ : ∃ x, Hid (pbB k0 k1 k2 k3 = x) := ⟨_, rfl⟩
  rw [HK.out]
  have V2 := Box4.new (w.alloc (.cells #[.bool g0, .slice a0 x0.length c0, .bool h0, .slice b0 y0.length d0, .bool g1, .slice a1 x1.length c1, .bool h1, .slice b1 y1.length d1, .bool g2, .slice a2 x2.length c2, .bool h2, .slice b2 y2.length d2, .bool g3, .slice a3 x3.length c3, .bool h3, .slice b3 y3.length d3] 40)) (Nat.le_refl _) (.int .i64 0) (.int .i64 0) (.int .i64 0) (.int .i64 0) 33
  have hb := below1 (w.alloc (.cells #[.bool g0, .slice a0 x0.length c0, .bool h0, .slice b0 y0.length d0, .bool g1, .slice a1 x1.length c1, .bool h1, .slice b1 y1.length d1, .bool g2, .slice a2 x2.length c2, .bool h2, .slice b2 y2.length d2, .bool g3, .slice a3 x3.length c3, .bool h3, .slice b3 y3.length d3] 40)) (.cells #[.int .i64 0, .int .i64 0, .int .i64 0, .int .i64 0] 33)
  replace V := V.below hb
  replace B := B.trans (hb.mono B.size)
  clear hb
  have e1 : (w.alloc (.cells #[.bool g0, .slice a0 x0.length c0, .bool h0, .slice b0 y0.length d0, .bool g1, .slice a1 x1.length c1, .bool h1, .slice b1 y1.length d1, .bool g2, .slice a2 x2.length c2, .bool h2, .slice b2 y2.length d2, .bool g3, .slice a3 x3.length c3, .bool h3, .slice b3 y3.length d3] 40)).heap.size = w.heap.size + 1 := World.size_alloc ..
  rw [e1] at V2
  clear e1
  have V3 : Hid (Box4 w.heap.size _ (w.heap.size + 1) (.int .i64 0) (.int .i64 0) (.int .i64 0) (.int .i64 0)) := ⟨V2.c0, V2.c1, V2.c2, V2.c3, V2.fr, Nat.le_succ _⟩
  clear V2
  obtain ⟨iP, hiP, hy0, hy1, hy2⟩ := info_parts infoPt
  go_enter Try.func7, Try.ntmps7
  go_upto_region 2 with fail
  generalize hW : (w.alloc (.cells #[.bool g0, .slice a0 x0.length c0, .bool h0, .slice b0 y0.length d0, .bool g1, .slice a1 x1.length c1, .bool h1, .slice b1 y1.length d1, .bool g2, .slice a2 x2.length c2, .bool h2, .slice b2 y2.length d2, .bool g3, .slice a3 x3.length c3, .bool h3, .slice b3 y3.length d3] 40)).alloc (.cells #[.int .i64 0, .int .i64 0, .int .i64 0, .int .i64 0] 33) = W at *
  clear hW
  have z0 := V.c 0 _ rfl
  have z1 := V.c 1 _ rfl
  have z2 := V.c 2 _ rfl
  have z3 := V.c 3 _ rfl
  have z4 := V.c 4 _ rfl
  have z5 := V.c 5 _ rfl
  have z6 := V.c 6 _ rfl
  have z7 := V.c 7 _ rfl
  have z8 := V.c 8 _ rfl
  have z9 := V.c 9 _ rfl
  have z10 := V.c 10 _ rfl
  have z11 := V.c 11 _ rfl
  have z12 := V.c 12 _ rfl
  have z13 := V.c 13 _ rfl
  have z14 := V.c 14 _ rfl
  have z15 := V.c 15 _ rfl
  go_wp2_with fail
  clear V z0 z1 z2 z3 z4 z5 z6 z7 z8 z9 z10 z11 z12 z13 z14 z15
  go_loopw [4, 20] (fun s4 s20 wr => ∃ (j : Nat) (ps : List (Int × Int)), j ≤ 2 ∧ s20 = .int .i64 j ∧ Hid (RowPt (w.heap.size + 2) wr s4 ps) ∧ Hid (PbR e0 e1 e2 e3 Q0 Q1 Q2 Q3 U0 U1 U2 U3 j ps) ∧ Hid (Box4 w.heap.size wr (w.heap.size + 1) (.int .i64 0) (.int .i64 0) (.int .i64 0) (.int .i64 0)) ∧ Hid (Below w.heap.size w wr)) (fun _ s20 _ => 2 - (intOf s20).toNat)
  case atStart => exact ⟨0, [], by omega, rfl, RowPt.nil _ _, rfl, V3, B⟩
  case round =>
    obtain ⟨j, ps, hj, rfl, RR, HP, VV, BB⟩ := hrel
    rename World => wr
    clear V3 B
    rcases (show j = 0 ∨ j = 1 ∨ j = 2 by omega) with rfl | rfl | rfl
    · have hI : (Instr.index 52 (.agg #[.bool g0, .slice a0 x0.length c0, .bool h0, .slice b0 y0.length d0, .bool g1, .slice a1 x1.length c1, .bool h1, .slice b1 y1.length d1, .bool g2, .slice a2 x2.length c2, .bool h2, .slice b2 y2.length d2, .bool g3, .slice a3 x3.length c3, .bool h3, .slice b3 y3.length d3]) (.int .i64 0)).run Try.prog wr = .ok (.agg #[.bool g0, .slice a0 x0.length c0, .bool h0, .slice b0 y0.length d0, .bool g1, .slice a1 x1.length c1, .bool h1, .slice b1 y1.length d1]) wr := by kernel_rfl
      obtain rfl : ps = [] := HP.out
      go_upto_region 5 with fail
      clear hI
      have W5 := BoxL.new wr (Nat.le_refl _) [.bool g0, .slice a0 x0.length c0, .bool h0, .slice b0 y0.length d0, .bool g1, .slice a1 x1.length c1, .bool h1, .slice b1 y1.length d1] 51
      have hb := below1 wr (.cells #[.bool g0, .slice a0 x0.length c0, .bool h0, .slice b0 y0.length d0, .bool g1, .slice a1 x1.length c1, .bool h1, .slice b1 y1.length d1] 51)
      have RR5 : RowPt (w.heap.size + 2) _ u4 [] := RR.out.below hb
      have VV5 : Box4 w.heap.size _ (w.heap.size + 1) (.int .i64 0) (.int .i64 0) (.int .i64 0) (.int .i64 0) := VV.out.below hb
      have BB5 := BB.out.trans (hb.mono BB.out.size)
      clear RR VV BB hb
      generalize hW : wr.alloc (.cells #[.bool g0, .slice a0 x0.length c0, .bool h0, .slice b0 y0.length d0, .bool g1, .slice a1 x1.length c1, .bool h1, .slice b1 y1.length d1] 51) = w5 at *
      clear hW
      have nlo : wr.heap.size < w5.heap.size := W5.lt
      have R50 : Hid (RowPt (w.heap.size + 2) w5 u4 []) := RR5
      have yy0 := W5.c 0 _ rfl
      have yy1 := W5.c 1 _ rfl
      have yy2 := W5.c 2 _ rfl
      have yy3 := W5.c 3 _ rfl
      have yy4 := W5.c 4 _ rfl
      have yy5 := W5.c 5 _ rfl
      have yy6 := W5.c 6 _ rfl
      have yy7 := W5.c 7 _ rfl
      clear W5
      go_cut [7, 8] (fun s7 s8 W => ∃ p q, s7 = .pointer (some ⟨p, 0, none⟩) ∧ s8 = .pointer (some ⟨q, 0, none⟩) ∧ Box4 w5.heap.size W p (.bool g0) (.slice a0 x0.length c0) (.bool h0) (.slice b0 y0.length d0) ∧ Box4 w5.heap.size W q (.bool g1) (.slice a1 x1.length c1) (.bool h1) (.slice b1 y1.length d1) ∧ Below w5.heap.size w5 W)
      case first =>
        refine wp_region_held_drew (S := Below w5.heap.size w5) (by kernel_rfl) ((Below.refl _ _).drew) (fun hHeld => ?_)
        have N : Below w5.heap.size w5 w5.drew := hHeld
        revert hHeld N
        generalize w5.drew = ww0
        intro hHeld N
        refine takeQ (i := 0) (gt rfl) (by kernel_rfl) (fun _ _ _ h => h) (by rfl) (by intro wq _; go_simp <;> with_reducible rfl) (by assumption) ?_
        try simp only [Act.put, sA, sB, sC]
        refine takeQ (i := 1) (gt rfl) (by kernel_rfl) (fun _ _ _ h => h) (by rfl) (by intro wq hSw; have q0 := bat hSw yy0; have q1 := bat hSw yy1; have q2 := bat hSw yy2; have q3 := bat hSw yy3; have q4 := bat hSw yy4; have q5 := bat hSw yy5; have q6 := bat hSw yy6; have q7 := bat hSw yy7; go_simp <;> with_reducible rfl) (by assumption) ?_
        try simp only [Act.put, sA, sB, sC]
        refine takeQ (i := 2) (gt rfl) (by kernel_rfl) (fun _ _ _ h => h) (by rfl) (by intro wq _; go_simp <;> with_reducible rfl) (by assumption) ?_
        try simp only [Act.put, sA, sB, sC]
        refine takeQ (i := 3) (gt rfl) (by kernel_rfl) (fun _ _ _ h => h) (by rfl) (by intro wq hSw; have q0 := bat hSw yy0; have q1 := bat hSw yy1; have q2 := bat hSw yy2; have q3 := bat hSw yy3; have q4 := bat hSw yy4; have q5 := bat hSw yy5; have q6 := bat hSw yy6; have q7 := bat hSw yy7; go_simp <;> with_reducible rfl) (by assumption) ?_
        try simp only [Act.put, sA, sB, sC]
        refine wpAnyH_ready (rs := [4, 5]) (by kernel_rfl) (by simp) (AllReadyH.cons (gt rfl) (fun K hK => ?_) (AllReadyH.cons (gt rfl) (fun K hK => ?_) AllReadyH.nil))
        · skip
          go_simp
          have kX := Box4.new ww0 N.size ((.bool false)) ((.slice none 0 0)) ((.bool false)) ((.slice none 0 0)) 38
          have hb := below1 ww0 (.cells #[(.bool false), (.slice none 0 0), (.bool false), (.slice none 0 0)] 38)
          replace N := N.trans (hb.mono N.size)
          clear hb
          generalize ww0.alloc (.cells #[(.bool false), (.slice none 0 0), (.bool false), (.slice none 0 0)] 38) = ww1 at *
          refine hK.out _ _ N (fun hHeld => ?_)
          clear hK K
          try simp only [Act.put, sA, sB, sC]
          refine wpAnyH_ready (rs := [5]) (by kernel_rfl) (by simp) (AllReadyH.cons (gt rfl) (fun K hK => ?_) AllReadyH.nil)
          go_simp
          have kY := Box4.new ww1 N.size ((.bool false)) ((.slice none 0 0)) ((.bool false)) ((.slice none 0 0)) 38
          have hb := below1 ww1 (.cells #[(.bool false), (.slice none 0 0), (.bool false), (.slice none 0 0)] 38)
          have ne_kY_kX := Nat.ne_of_gt kX.lt
          have ne_kX_kY := ne_kY_kX.symm
          replace kX := kX.below hb
          replace N := N.trans (hb.mono N.size)
          clear hb
          generalize ww1.alloc (.cells #[(.bool false), (.slice none 0 0), (.bool false), (.slice none 0 0)] 38) = ww2 at *
          refine hK.out _ _ N (fun hHeld => ?_)
          clear hK K
          try simp only [Act.put, sA, sB, sC]
          refine wpAnyH_ready (rs := [6]) (by kernel_rfl) (by simp) (AllReadyH.cons (gt rfl) (fun K hK => ?_) AllReadyH.nil)
          have z0 := kX.c0
          have z1 := kX.c1
          have z2 := kX.c2
          have z3 := kX.c3
          have zf := kX.fr
          go_simp
          clear z0 z1 z2 z3 zf
          replace N := Box4.chain N kX (.bool g0) (.slice a0 x0.length c0) (.bool h0) (.slice b0 y0.length d0)
          replace kY := kY.old ne_kY_kX (.bool g0) (.slice a0 x0.length c0) (.bool h0) (.slice b0 y0.length d0)
          replace kX := kX.put (.bool g0) (.slice a0 x0.length c0) (.bool h0) (.slice b0 y0.length d0)
          refine hK.out _ _ N (fun hHeld => ?_)
          clear hK K
          try simp only [Act.put, sA, sB, sC]
          refine wpAnyH_ready (rs := [7]) (by kernel_rfl) (by simp) (AllReadyH.cons (gt rfl) (fun K hK => ?_) AllReadyH.nil)
          have z0 := kY.c0
          have z1 := kY.c1
          have z2 := kY.c2
          have z3 := kY.c3
          have zf := kY.fr
          go_simp
          clear z0 z1 z2 z3 zf
          replace N := Box4.chain N kY (.bool g1) (.slice a1 x1.length c1) (.bool h1) (.slice b1 y1.length d1)
          replace kX := kX.old ne_kX_kY (.bool g1) (.slice a1 x1.length c1) (.bool h1) (.slice b1 y1.length d1)
          replace kY := kY.put (.bool g1) (.slice a1 x1.length c1) (.bool h1) (.slice b1 y1.length d1)
          refine hK.out _ _ N (fun hHeld => ?_)
          clear hK K
          try simp only [Act.put, sA, sB, sC]
          refine wpAnyH_done (by kernel_rfl) ?_ _
          go_wp2
          go_meet
          case rel => exact ⟨_, _, rfl, rfl, kX, kY, N⟩
        · skip
          go_simp
          have kY := Box4.new ww0 N.size ((.bool false)) ((.slice none 0 0)) ((.bool false)) ((.slice none 0 0)) 38
          have hb := below1 ww0 (.cells #[(.bool false), (.slice none 0 0), (.bool false), (.slice none 0 0)] 38)
          replace N := N.trans (hb.mono N.size)
          clear hb
          generalize ww0.alloc (.cells #[(.bool false), (.slice none 0 0), (.bool false), (.slice none 0 0)] 38) = ww5 at *
          refine hK.out _ _ N (fun hHeld => ?_)
          clear hK K
          try simp only [Act.put, sA, sB, sC]
          refine wpAnyH_ready (rs := [4]) (by kernel_rfl) (by simp) (AllReadyH.cons (gt rfl) (fun K hK => ?_) AllReadyH.nil)
          go_simp
          have kX := Box4.new ww5 N.size ((.bool false)) ((.slice none 0 0)) ((.bool false)) ((.slice none 0 0)) 38
          have hb := below1 ww5 (.cells #[(.bool false), (.slice none 0 0), (.bool false), (.slice none 0 0)] 38)
          have ne_kX_kY := Nat.ne_of_gt kY.lt
          have ne_kY_kX := ne_kX_kY.symm
          replace kY := kY.below hb
          replace N := N.trans (hb.mono N.size)
          clear hb
          generalize ww5.alloc (.cells #[(.bool false), (.slice none 0 0), (.bool false), (.slice none 0 0)] 38) = ww6 at *
          refine hK.out _ _ N (fun hHeld => ?_)
          clear hK K
          try simp only [Act.put, sA, sB, sC]
          refine wpAnyH_ready (rs := [6]) (by kernel_rfl) (by simp) (AllReadyH.cons (gt rfl) (fun K hK => ?_) AllReadyH.nil)
          have z0 := kX.c0
          have z1 := kX.c1
          have z2 := kX.c2
          have z3 := kX.c3
          have zf := kX.fr
          go_simp
          clear z0 z1 z2 z3 zf
          replace N := Box4.chain N kX (.bool g0) (.slice a0 x0.length c0) (.bool h0) (.slice b0 y0.length d0)
          replace kY := kY.old ne_kY_kX (.bool g0) (.slice a0 x0.length c0) (.bool h0) (.slice b0 y0.length d0)
          replace kX := kX.put (.bool g0) (.slice a0 x0.length c0) (.bool h0) (.slice b0 y0.length d0)
          refine hK.out _ _ N (fun hHeld => ?_)
          clear hK K
          try simp only [Act.put, sA, sB, sC]
          refine wpAnyH_ready (rs := [7]) (by kernel_rfl) (by simp) (AllReadyH.cons (gt rfl) (fun K hK => ?_) AllReadyH.nil)
          have z0 := kY.c0
          have z1 := kY.c1
          have z2 := kY.c2
          have z3 := kY.c3
          have zf := kY.fr
          go_simp
          clear z0 z1 z2 z3 zf
          replace N := Box4.chain N kY (.bool g1) (.slice a1 x1.length c1) (.bool h1) (.slice b1 y1.length d1)
          replace kX := kX.old ne_kX_kY (.bool g1) (.slice a1 x1.length c1) (.bool h1) (.slice b1 y1.length d1)
          replace kY := kY.put (.bool g1) (.slice a1 x1.length c1) (.bool h1) (.slice b1 y1.length d1)
          refine hK.out _ _ N (fun hHeld => ?_)
          clear hK K
          try simp only [Act.put, sA, sB, sC]
          refine wpAnyH_done (by kernel_rfl) ?_ _
          go_wp2
          go_meet
          case rel => exact ⟨_, _, rfl, rfl, kX, kY, N⟩
      case rest =>
        obtain ⟨p, q, rfl, rfl, kX, kY, hb⟩ := hcut
        rename World => w6
        replace RR5 := RR5.below hb
        replace VV5 := VV5.below hb
        replace BB5 := BB5.trans (hb.mono BB5.size)
        clear hb yy0 yy1 yy2 yy3 yy4 yy5 yy6 yy7
        obtain ⟨s0, s1, s2, s3, _, _⟩ := id kX
        go_wp2_with fail
        refine Calls.mono (CF0.out _ BB5) ?_
        rintro e w7 ⟨rfl, hb⟩
        clear s0 s1 s2 s3
        replace kX := kX.below hb
        replace kY := kY.below hb
        replace RR5 := RR5.below hb
        replace VV5 := VV5.below hb
        replace BB5 := BB5.trans (hb.mono BB5.size)
        clear hb
        cases e0
        · skip
          obtain rfl : K = false := by rw [← HK.out, HK0.out]; unfold pbB; simp
          have B3 : Hid _ := Box4.chainX BB5 (Nat.le_succ _) (.int .i64 0) (.int .i64 0) (.int .i64 0) (.int .i64 0)
          obtain ⟨r0, r1, r2, r3, rf, _⟩ := id VV5
          have hlt := VV5.lt
          clear kX kY RR5 VV5 BB5 HK
          go_wp2
          exact bodyPost_ret (v := .tuple #[.agg #[.int .i64 0, .int .i64 0, .int .i64 0, .int .i64 0], .bool false]) (by simp [results, Try.results7, go_sem, r0, r1, r2, r3]) rfl ⟨rfl, B3.out⟩
        · skip
          obtain ⟨s0, s1, s2, s3, _, _⟩ := id kY
          go_wp2_with fail
          refine Calls.mono (CF1.out _ BB5) ?_
          rintro e w8 ⟨rfl, hb⟩
          clear s0 s1 s2 s3
          replace kX := kX.below hb
          replace kY := kY.below hb
          replace RR5 := RR5.below hb
          replace VV5 := VV5.below hb
          replace BB5 := BB5.trans (hb.mono BB5.size)
          clear hb
          cases e1
          · skip
            obtain rfl : K = false := by rw [← HK.out, HK1.out]; unfold pbB; simp
            have B3 : Hid _ := Box4.chainX BB5 (Nat.le_succ _) (.int .i64 0) (.int .i64 0) (.int .i64 0) (.int .i64 0)
            obtain ⟨r0, r1, r2, r3, rf, _⟩ := id VV5
            have hlt := VV5.lt
            clear kX kY RR5 VV5 BB5 HK
            go_wp2
            exact bodyPost_ret (v := .tuple #[.agg #[.int .i64 0, .int .i64 0, .int .i64 0, .int .i64 0], .bool false]) (by simp [results, Try.results7, go_sem, r0, r1, r2, r3]) rfl ⟨rfl, B3.out⟩
          · skip
            go_upto_region 8 with fail
            refine wp_region_held_drew (S := fun W' => Box4 w5.heap.size W' p (.bool g0) (.slice a0 x0.length c0) (.bool h0) (.slice b0 y0.length d0) ∧ Box4 w5.heap.size W' q (.bool g1) (.slice a1 x1.length c1) (.bool h1) (.slice b1 y1.length d1)) (by kernel_rfl) ⟨kX.below (Below.refl _ _).drew, kY.below (Below.refl _ _).drew⟩ (fun hHeld => ?_)
            have hb : Below w8.heap.size w8 w8.drew := (Below.refl _ _).drew
            replace kX := kX.below hb
            replace kY := kY.below hb
            replace RR5 := RR5.below hb
            replace VV5 := VV5.below hb
            replace BB5 := BB5.trans (hb.mono BB5.size)
            clear hb
            revert hHeld kX kY RR5 VV5 BB5
            generalize w8.drew = ww0
            intro hHeld kX kY RR5 VV5 BB5
            refine takeQ (i := 0) (gt rfl) (by kernel_rfl) (fun _ _ _ h => h) (by rfl) (by intro wq hSw; go_simp <;> with_reducible rfl) (by assumption) ?_
            try simp only [Act.put, sA, sB, sC]
            refine takeQ (i := 1) (gt rfl) (by kernel_rfl) (fun _ _ _ h => h) (by rfl) (by intro wq hSw; obtain ⟨⟨q0, q1, q2, q3, _, _⟩, ⟨q4, q5, q6, q7, _, _⟩⟩ := hSw; go_simp <;> with_reducible rfl) (by assumption) ?_
            try simp only [Act.put, sA, sB, sC]
            refine takeQ (i := 3) (gt rfl) (by kernel_rfl) (fun _ _ _ h => h) (by rfl) (by intro wq hSw; obtain ⟨⟨q0, q1, q2, q3, _, _⟩, ⟨q4, q5, q6, q7, _, _⟩⟩ := hSw; go_simp <;> with_reducible rfl) (by assumption) ?_
            try simp only [Act.put, sA, sB, sC]
            refine takeQ (i := 6) (gt rfl) (by kernel_rfl) (fun _ _ _ h => h) (by rfl) (by intro wq hSw; obtain ⟨⟨q0, q1, q2, q3, _, _⟩, ⟨q4, q5, q6, q7, _, _⟩⟩ := hSw; go_simp <;> with_reducible rfl) (by assumption) ?_
            try simp only [Act.put, sA, sB, sC]
            refine takeQ (i := 8) (gt rfl) (by kernel_rfl) (fun _ _ _ h => h) (by rfl) (by intro wq hSw; obtain ⟨⟨q0, q1, q2, q3, _, _⟩, ⟨q4, q5, q6, q7, _, _⟩⟩ := hSw; go_simp <;> with_reducible rfl) (by assumption) ?_
            try simp only [Act.put, sA, sB, sC]
            refine wpAnyH_ready (rs := [2]) (by kernel_rfl) (by simp) (AllReadyH.cons (gt rfl) (fun K hK => ?_) AllReadyH.nil)
            go_simp
            refine Calls.mono (CU0.out (by simp) _ BB5) ?_
            rintro e ww ⟨v0, rfl, hv0, hb⟩
            replace hv0 : Hid _ := hv0
            replace kX := kX.below hb
            replace kY := kY.below hb
            replace RR5 := RR5.below hb
            replace VV5 := VV5.below hb
            replace BB5 := BB5.trans (hb.mono BB5.size)
            clear hb
            refine hK.out _ _ ⟨kX, kY⟩ (fun hHeld => ?_)
            clear hK K
            try simp only [Act.put, sA, sB, sC]
            refine wpAnyH_ready (rs := [4]) (by kernel_rfl) (by simp) (AllReadyH.cons (gt rfl) (fun K hK => ?_) AllReadyH.nil)
            go_simp
            refine Calls.mono (CU1.out (by simp) _ BB5) ?_
            rintro e ww ⟨v1, rfl, hv1, hb⟩
            replace hv1 : Hid _ := hv1
            replace kX := kX.below hb
            replace kY := kY.below hb
            replace RR5 := RR5.below hb
            replace VV5 := VV5.below hb
            replace BB5 := BB5.trans (hb.mono BB5.size)
            clear hb
            refine hK.out _ _ ⟨kX, kY⟩ (fun hHeld => ?_)
            clear hK K
            try simp only [Act.put, sA, sB, sC]
            refine takeQ (i := 5) (gt rfl) (by kernel_rfl) (fun _ _ _ h => h) (by rfl) (by intro wq hSw; go_simp <;> with_reducible rfl) (by assumption) ?_
            try simp only [Act.put, sA, sB, sC]
            refine wpAnyH_ready (rs := [7]) (by kernel_rfl) (by simp) (AllReadyH.cons (gt rfl) (fun K hK => ?_) AllReadyH.nil)
            go_simp
            refine Calls.mono (CO0.out (by simp) _ BB5) ?_
            rintro e ww ⟨t0, rfl, ht0, hb⟩
            replace ht0 : Hid _ := ht0
            replace kX := kX.below hb
            replace kY := kY.below hb
            replace RR5 := RR5.below hb
            replace VV5 := VV5.below hb
            replace BB5 := BB5.trans (hb.mono BB5.size)
            clear hb
            refine hK.out _ _ ⟨kX, kY⟩ (fun hHeld => ?_)
            clear hK K
            try simp only [Act.put, sA, sB, sC]
            refine wpAnyH_ready (rs := [9]) (by kernel_rfl) (by simp) (AllReadyH.cons (gt rfl) (fun K hK => ?_) AllReadyH.nil)
            go_simp
            refine Calls.mono (CO1.out (by simp) _ BB5) ?_
            rintro e ww ⟨t1, rfl, ht1, hb⟩
            replace ht1 : Hid _ := ht1
            replace kX := kX.below hb
            replace kY := kY.below hb
            replace RR5 := RR5.below hb
            replace VV5 := VV5.below hb
            replace BB5 := BB5.trans (hb.mono BB5.size)
            clear hb
            refine hK.out _ _ ⟨kX, kY⟩ (fun hHeld => ?_)
            clear hK K
            try simp only [Act.put, sA, sB, sC]
            refine takeQ (i := 10) (gt rfl) (by kernel_rfl) (fun _ _ _ h => h) (by rfl) (by intro wq hSw; go_simp <;> with_reducible rfl) (by assumption) ?_
            try simp only [Act.put, sA, sB, sC]
            refine wpAnyH_ready (rs := [11]) (by kernel_rfl) (by simp) (AllReadyH.cons (gt rfl) (fun K hK => ?_) AllReadyH.nil)
            go_simp
            rename World => ww
            have hb := below1 ww (.cells #[.int .i64 v0, .int .i64 v1, .int .i64 t0, .int .i64 t1] 31)
            have NW := pt_new2 ww 31 v0 v1 t0 t1
            replace kX := kX.below hb
            replace kY := kY.below hb
            replace RR5 := RR5.below hb
            replace VV5 := VV5.below hb
            replace BB5 := BB5.trans (hb.mono BB5.size)
            clear hb
            refine hK.out _ _ ⟨kX, kY⟩ (fun hHeld => ?_)
            clear hK K
            try simp only [Act.put, sA, sB, sC]
            refine wpAnyH_ready (rs := [12]) (by kernel_rfl) (by simp) (AllReadyH.cons (gt rfl) (fun K hK => ?_) AllReadyH.nil)
            have nz : w.heap.size + 2 ≤ (ww.alloc (.cells #[.int .i64 v0, .int .i64 v1, .int .i64 t0, .int .i64 t1] 31)).heap.size := VV5.lt
            refine wp_append_own _ (.tmp 36) (.tmp 47) 50 rfl (w.heap.size + 2) 31 iP (.agg #[.int .i64 0, .int .i64 0]) 2 16 Try.underlying50 hiP hy0 hy1 hy2 rfl (by decide) u4 [].length (ptC []) rfl RR5 ⟨ww.heap.size, 0, none⟩ 2 _ (ptC [(v0, v1), (t0, t1)]) rfl rfl NW (ptC_ones _) (by unfold maxLen; simp) (by simp) nz ?_
            intro v7 w9 R9 G9 _
            have BB9 : Hid _ := BB5.grown G9 (Nat.le_trans (by omega) nz) (fun q hq => by have := (World.ownsRow.lt RR5 q hq).1; omega)
            have kX9 := kX.grownPb G9 (fun e => by have h1 := (World.ownsRow.lt R50.out _ e.symm).2; have h2 := kX.lo; omega)
            have kY9 := kY.grownPb G9 (fun e => by have h1 := (World.ownsRow.lt R50.out _ e.symm).2; have h2 := kY.lo; omega)
            have VV9 : Hid _ := VV5.grownPb G9 (fun e => by have h1 := (World.ownsRow.lt RR5 _ e.symm).1; omega)
            have RF : Hid (RowPt (w.heap.size + 2) w9 v7 ([] ++ [(v0, v1), (t0, t1)])) := by show RowPt _ _ _ _; unfold RowPt; rw [ptC_append, List.length_append]; exact R9
            refine hK.out _ _ ⟨kX9, kY9⟩ (fun hHeld => ?_)
            clear hK K kX kY VV5 RR5 R9 G9 NW BB5
            try simp only [Act.put, sA, sB, sC]
            refine takeQ (i := 13) (gt rfl) (by kernel_rfl) (fun _ _ _ h => h) (by rfl) (by intro wq hSw; go_simp <;> with_reducible rfl) (by assumption) ?_
            try simp only [Act.put, sA, sB, sC]
            refine wpAnyH_done (by kernel_rfl) ?_ _
            clear kX9 kY9 hHeld
            go_wp2
            go_roundw
            case rel =>
              first
              | exact ⟨1, [] ++ [(v0, v1), (t0, t1)], by omega, by go_num, RF, ⟨rfl, rfl, v0, v1, t0, t1, rfl, hv0.out, hv1.out, ht0.out, ht1.out⟩, VV9, BB9⟩
              | ((repeat apply Exists.intro); exact ⟨⟨1, [] ++ [(v0, v1), (t0, t1)], by omega, by go_num, RF, ⟨rfl, rfl, v0, v1, t0, t1, rfl, hv0.out, hv1.out, ht0.out, ht1.out⟩, VV9, BB9⟩, rfl⟩)
            case measure => simp [intOf]
    · have hI : (Instr.index 52 (.agg #[.bool g0, .slice a0 x0.length c0, .bool h0, .slice b0 y0.length d0, .bool g1, .slice a1 x1.length c1, .bool h1, .slice b1 y1.length d1, .bool g2, .slice a2 x2.length c2, .bool h2, .slice b2 y2.length d2, .bool g3, .slice a3 x3.length c3, .bool h3, .slice b3 y3.length d3]) (.int .i64 1)).run Try.prog wr = .ok (.agg #[.bool g2, .slice a2 x2.length c2, .bool h2, .slice b2 y2.length d2, .bool g3, .slice a3 x3.length c3, .bool h3, .slice b3 y3.length d3]) wr := by kernel_rfl
      have hl : ps.length = 2 := by obtain ⟨_, _, v0, v1, u0, u1, e, _⟩ := HP.out; rw [e]; rfl
      go_upto_region 5 with fail
      clear hI
      have W5 := BoxL.new wr (Nat.le_refl _) [.bool g2, .slice a2 x2.length c2, .bool h2, .slice b2 y2.length d2, .bool g3, .slice a3 x3.length c3, .bool h3, .slice b3 y3.length d3] 51
      have hb := below1 wr (.cells #[.bool g2, .slice a2 x2.length c2, .bool h2, .slice b2 y2.length d2, .bool g3, .slice a3 x3.length c3, .bool h3, .slice b3 y3.length d3] 51)
      have RR5 : RowPt (w.heap.size + 2) _ u4 ps := RR.out.below hb
      have VV5 : Box4 w.heap.size _ (w.heap.size + 1) (.int .i64 0) (.int .i64 0) (.int .i64 0) (.int .i64 0) := VV.out.below hb
      have BB5 := BB.out.trans (hb.mono BB.out.size)
      clear RR VV BB hb
      generalize hW : wr.alloc (.cells #[.bool g2, .slice a2 x2.length c2, .bool h2, .slice b2 y2.length d2, .bool g3, .slice a3 x3.length c3, .bool h3, .slice b3 y3.length d3] 51) = w5 at *
      clear hW
      have nlo : wr.heap.size < w5.heap.size := W5.lt
      have R50 : Hid (RowPt (w.heap.size + 2) w5 u4 ps) := RR5
      have yy0 := W5.c 0 _ rfl
      have yy1 := W5.c 1 _ rfl
      have yy2 := W5.c 2 _ rfl
      have yy3 := W5.c 3 _ rfl
      have yy4 := W5.c 4 _ rfl
      have yy5 := W5.c 5 _ rfl
      have yy6 := W5.c 6 _ rfl
      have yy7 := W5.c 7 _ rfl
      clear W5
      go_cut [7, 8] (fun s7 s8 W => ∃ p q, s7 = .pointer (some ⟨p, 0, none⟩) ∧ s8 = .pointer (some ⟨q, 0, none⟩) ∧ Box4 w5.heap.size W p (.bool g2) (.slice a2 x2.length c2) (.bool h2) (.slice b2 y2.length d2) ∧ Box4 w5.heap.size W q (.bool g3) (.slice a3 x3.length c3) (.bool h3) (.slice b3 y3.length d3) ∧ Below w5.heap.size w5 W)
      case first =>
        refine wp_region_held_drew (S := Below w5.heap.size w5) (by kernel_rfl) ((Below.refl _ _).drew) (fun hHeld => ?_)
        have N : Below w5.heap.size w5 w5.drew := hHeld
        revert hHeld N
        generalize w5.drew = ww0
        intro hHeld N
        refine takeQ (i := 0) (gt rfl) (by kernel_rfl) (fun _ _ _ h => h) (by rfl) (by intro wq _; go_simp <;> with_reducible rfl) (by assumption) ?_
        try simp only [Act.put, sA, sB, sC]
        refine takeQ (i := 1) (gt rfl) (by kernel_rfl) (fun _ _ _ h => h) (by rfl) (by intro wq hSw; have q0 := bat hSw yy0; have q1 := bat hSw yy1; have q2 := bat hSw yy2; have q3 := bat hSw yy3; have q4 := bat hSw yy4; have q5 := bat hSw yy5; have q6 := bat hSw yy6; have q7 := bat hSw yy7; go_simp <;> with_reducible rfl) (by assumption) ?_
        try simp only [Act.put, sA, sB, sC]
        refine takeQ (i := 2) (gt rfl) (by kernel_rfl) (fun _ _ _ h => h) (by rfl) (by intro wq _; go_simp <;> with_reducible rfl) (by assumption) ?_
        try simp only [Act.put, sA, sB, sC]
        refine takeQ (i := 3) (gt rfl) (by kernel_rfl) (fun _ _ _ h => h) (by rfl) (by intro wq hSw; have q0 := bat hSw yy0; have q1 := bat hSw yy1; have q2 := bat hSw yy2; have q3 := bat hSw yy3; have q4 := bat hSw yy4; have q5 := bat hSw yy5; have q6 := bat hSw yy6; have q7 := bat hSw yy7; go_simp <;> with_reducible rfl) (by assumption) ?_
        try simp only [Act.put, sA, sB, sC]
        refine wpAnyH_ready (rs := [4, 5]) (by kernel_rfl) (by simp) (AllReadyH.cons (gt rfl) (fun K hK => ?_) (AllReadyH.cons (gt rfl) (fun K hK => ?_) AllReadyH.nil))
        · skip
          go_simp
          have kX := Box4.new ww0 N.size ((.bool false)) ((.slice none 0 0)) ((.bool false)) ((.slice none 0 0)) 38
          have hb := below1 ww0 (.cells #[(.bool false), (.slice none 0 0), (.bool false), (.slice none 0 0)] 38)
          replace N := N.trans (hb.mono N.size)
          clear hb
          generalize ww0.alloc (.cells #[(.bool false), (.slice none 0 0), (.bool false), (.slice none 0 0)] 38) = ww1 at *
          refine hK.out _ _ N (fun hHeld => ?_)
          clear hK K
          try simp only [Act.put, sA, sB, sC]
          refine wpAnyH_ready (rs := [5]) (by kernel_rfl) (by simp) (AllReadyH.cons (gt rfl) (fun K hK => ?_) AllReadyH.nil)
          go_simp
          have kY := Box4.new ww1 N.size ((.bool false)) ((.slice none 0 0)) ((.bool false)) ((.slice none 0 0)) 38
          have hb := below1 ww1 (.cells #[(.bool false), (.slice none 0 0), (.bool false), (.slice none 0 0)] 38)
          have ne_kY_kX := Nat.ne_of_gt kX.lt
          have ne_kX_kY := ne_kY_kX.symm
          replace kX := kX.below hb
          replace N := N.trans (hb.mono N.size)
          clear hb
          generalize ww1.alloc (.cells #[(.bool false), (.slice none 0 0), (.bool false), (.slice none 0 0)] 38) = ww2 at *
          refine hK.out _ _ N (fun hHeld => ?_)
          clear hK K
          try simp only [Act.put, sA, sB, sC]
          refine wpAnyH_ready (rs := [6]) (by kernel_rfl) (by simp) (AllReadyH.cons (gt rfl) (fun K hK => ?_) AllReadyH.nil)
          have z0 := kX.c0
          have z1 := kX.c1
          have z2 := kX.c2
          have z3 := kX.c3
          have zf := kX.fr
          go_simp
          clear z0 z1 z2 z3 zf
          replace N := Box4.chain N kX (.bool g2) (.slice a2 x2.length c2) (.bool h2) (.slice b2 y2.length d2)
          replace kY := kY.old ne_kY_kX (.bool g2) (.slice a2 x2.length c2) (.bool h2) (.slice b2 y2.length d2)
          replace kX := kX.put (.bool g2) (.slice a2 x2.length c2) (.bool h2) (.slice b2 y2.length d2)
          refine hK.out _ _ N (fun hHeld => ?_)
          clear hK K
          try simp only [Act.put, sA, sB, sC]
          refine wpAnyH_ready (rs := [7]) (by kernel_rfl) (by simp) (AllReadyH.cons (gt rfl) (fun K hK => ?_) AllReadyH.nil)
          have z0 := kY.c0
          have z1 := kY.c1
          have z2 := kY.c2
          have z3 := kY.c3
          have zf := kY.fr
          go_simp
          clear z0 z1 z2 z3 zf
          replace N := Box4.chain N kY (.bool g3) (.slice a3 x3.length c3) (.bool h3) (.slice b3 y3.length d3)
          replace kX := kX.old ne_kX_kY (.bool g3) (.slice a3 x3.length c3) (.bool h3) (.slice b3 y3.length d3)
          replace kY := kY.put (.bool g3) (.slice a3 x3.length c3) (.bool h3) (.slice b3 y3.length d3)
          refine hK.out _ _ N (fun hHeld => ?_)
          clear hK K
          try simp only [Act.put, sA, sB, sC]
          refine wpAnyH_done (by kernel_rfl) ?_ _
          go_wp2
          go_meet
          case rel => exact ⟨_, _, rfl, rfl, kX, kY, N⟩
        · skip
          go_simp
          have kY := Box4.new ww0 N.size ((.bool false)) ((.slice none 0 0)) ((.bool false)) ((.slice none 0 0)) 38
          have hb := below1 ww0 (.cells #[(.bool false), (.slice none 0 0), (.bool false), (.slice none 0 0)] 38)
          replace N := N.trans (hb.mono N.size)
          clear hb
          generalize ww0.alloc (.cells #[(.bool false), (.slice none 0 0), (.bool false), (.slice none 0 0)] 38) = ww5 at *
          refine hK.out _ _ N (fun hHeld => ?_)
          clear hK K
          try simp only [Act.put, sA, sB, sC]
          refine wpAnyH_ready (rs := [4]) (by kernel_rfl) (by simp) (AllReadyH.cons (gt rfl) (fun K hK => ?_) AllReadyH.nil)
          go_simp
          have kX := Box4.new ww5 N.size ((.bool false)) ((.slice none 0 0)) ((.bool false)) ((.slice none 0 0)) 38
          have hb := below1 ww5 (.cells #[(.bool false), (.slice none 0 0), (.bool false), (.slice none 0 0)] 38)
          have ne_kX_kY := Nat.ne_of_gt kY.lt
          have ne_kY_kX := ne_kX_kY.symm
          replace kY := kY.below hb
          replace N := N.trans (hb.mono N.size)
          clear hb
          generalize ww5.alloc (.cells #[(.bool false), (.slice none 0 0), (.bool false), (.slice none 0 0)] 38) = ww6 at *
          refine hK.out _ _ N (fun hHeld => ?_)
          clear hK K
          try simp only [Act.put, sA, sB, sC]
          refine wpAnyH_ready (rs := [6]) (by kernel_rfl) (by simp) (AllReadyH.cons (gt rfl) (fun K hK => ?_) AllReadyH.nil)
          have z0 := kX.c0
          have z1 := kX.c1
          have z2 := kX.c2
          have z3 := kX.c3
          have zf := kX.fr
          go_simp
          clear z0 z1 z2 z3 zf
          replace N := Box4.chain N kX (.bool g2) (.slice a2 x2.length c2) (.bool h2) (.slice b2 y2.length d2)
          replace kY := kY.old ne_kY_kX (.bool g2) (.slice a2 x2.length c2) (.bool h2) (.slice b2 y2.length d2)
          replace kX := kX.put (.bool g2) (.slice a2 x2.length c2) (.bool h2) (.slice b2 y2.length d2)
          refine hK.out _ _ N (fun hHeld => ?_)
          clear hK K
          try simp only [Act.put, sA, sB, sC]
          refine wpAnyH_ready (rs := [7]) (by kernel_rfl) (by simp) (AllReadyH.cons (gt rfl) (fun K hK => ?_) AllReadyH.nil)
          have z0 := kY.c0
          have z1 := kY.c1
          have z2 := kY.c2
          have z3 := kY.c3
          have zf := kY.fr
          go_simp
          clear z0 z1 z2 z3 zf
          replace N := Box4.chain N kY (.bool g3) (.slice a3 x3.length c3) (.bool h3) (.slice b3 y3.length d3)
          replace kX := kX.old ne_kX_kY (.bool g3) (.slice a3 x3.length c3) (.bool h3) (.slice b3 y3.length d3)
          replace kY := kY.put (.bool g3) (.slice a3 x3.length c3) (.bool h3) (.slice b3 y3.length d3)
          refine hK.out _ _ N (fun hHeld => ?_)
          clear hK K
          try simp only [Act.put, sA, sB, sC]
          refine wpAnyH_done (by kernel_rfl) ?_ _
          go_wp2
          go_meet
          case rel => exact ⟨_, _, rfl, rfl, kX, kY, N⟩
      case rest =>
        obtain ⟨p, q, rfl, rfl, kX, kY, hb⟩ := hcut
        rename World => w6
        replace RR5 := RR5.below hb
        replace VV5 := VV5.below hb
        replace BB5 := BB5.trans (hb.mono BB5.size)
        clear hb yy0 yy1 yy2 yy3 yy4 yy5 yy6 yy7
        obtain ⟨s0, s1, s2, s3, _, _⟩ := id kX
        go_wp2_with fail
        refine Calls.mono (CF2.out _ BB5) ?_
        rintro e w7 ⟨rfl, hb⟩
        clear s0 s1 s2 s3
        replace kX := kX.below hb
        replace kY := kY.below hb
        replace RR5 := RR5.below hb
        replace VV5 := VV5.below hb
        replace BB5 := BB5.trans (hb.mono BB5.size)
        clear hb
        cases e2
        · skip
          obtain rfl : K = false := by rw [← HK.out, HK2.out]; unfold pbB; simp
          have B3 : Hid _ := Box4.chainX BB5 (Nat.le_succ _) (.int .i64 0) (.int .i64 0) (.int .i64 0) (.int .i64 0)
          obtain ⟨r0, r1, r2, r3, rf, _⟩ := id VV5
          have hlt := VV5.lt
          clear kX kY RR5 VV5 BB5 HK
          go_wp2
          exact bodyPost_ret (v := .tuple #[.agg #[.int .i64 0, .int .i64 0, .int .i64 0, .int .i64 0], .bool false]) (by simp [results, Try.results7, go_sem, r0, r1, r2, r3]) rfl ⟨rfl, B3.out⟩
        · skip
          obtain ⟨s0, s1, s2, s3, _, _⟩ := id kY
          go_wp2_with fail
          refine Calls.mono (CF3.out _ BB5) ?_
          rintro e w8 ⟨rfl, hb⟩
          clear s0 s1 s2 s3
          replace kX := kX.below hb
          replace kY := kY.below hb
          replace RR5 := RR5.below hb
          replace VV5 := VV5.below hb
          replace BB5 := BB5.trans (hb.mono BB5.size)
          clear hb
          cases e3
          · skip
            obtain rfl : K = false := by rw [← HK.out, HK3.out]; unfold pbB; simp
            have B3 : Hid _ := Box4.chainX BB5 (Nat.le_succ _) (.int .i64 0) (.int .i64 0) (.int .i64 0) (.int .i64 0)
            obtain ⟨r0, r1, r2, r3, rf, _⟩ := id VV5
            have hlt := VV5.lt
            clear kX kY RR5 VV5 BB5 HK
            go_wp2
            exact bodyPost_ret (v := .tuple #[.agg #[.int .i64 0, .int .i64 0, .int .i64 0, .int .i64 0], .bool false]) (by simp [results, Try.results7, go_sem, r0, r1, r2, r3]) rfl ⟨rfl, B3.out⟩
          · skip
            go_upto_region 8 with fail
            refine wp_region_held_drew (S := fun W' => Box4 w5.heap.size W' p (.bool g2) (.slice a2 x2.length c2) (.bool h2) (.slice b2 y2.length d2) ∧ Box4 w5.heap.size W' q (.bool g3) (.slice a3 x3.length c3) (.bool h3) (.slice b3 y3.length d3)) (by kernel_rfl) ⟨kX.below (Below.refl _ _).drew, kY.below (Below.refl _ _).drew⟩ (fun hHeld => ?_)
            have hb : Below w8.heap.size w8 w8.drew := (Below.refl _ _).drew
            replace kX := kX.below hb
            replace kY := kY.below hb
            replace RR5 := RR5.below hb
            replace VV5 := VV5.below hb
            replace BB5 := BB5.trans (hb.mono BB5.size)
            clear hb
            revert hHeld kX kY RR5 VV5 BB5
            generalize w8.drew = ww0
            intro hHeld kX kY RR5 VV5 BB5
            refine takeQ (i := 0) (gt rfl) (by kernel_rfl) (fun _ _ _ h => h) (by rfl) (by intro wq hSw; go_simp <;> with_reducible rfl) (by assumption) ?_
            try simp only [Act.put, sA, sB, sC]
            refine takeQ (i := 1) (gt rfl) (by kernel_rfl) (fun _ _ _ h => h) (by rfl) (by intro wq hSw; obtain ⟨⟨q0, q1, q2, q3, _, _⟩, ⟨q4, q5, q6, q7, _, _⟩⟩ := hSw; go_simp <;> with_reducible rfl) (by assumption) ?_
            try simp only [Act.put, sA, sB, sC]
            refine takeQ (i := 3) (gt rfl) (by kernel_rfl) (fun _ _ _ h => h) (by rfl) (by intro wq hSw; obtain ⟨⟨q0, q1, q2, q3, _, _⟩, ⟨q4, q5, q6, q7, _, _⟩⟩ := hSw; go_simp <;> with_reducible rfl) (by assumption) ?_
            try simp only [Act.put, sA, sB, sC]
            refine takeQ (i := 6) (gt rfl) (by kernel_rfl) (fun _ _ _ h => h) (by rfl) (by intro wq hSw; obtain ⟨⟨q0, q1, q2, q3, _, _⟩, ⟨q4, q5, q6, q7, _, _⟩⟩ := hSw; go_simp <;> with_reducible rfl) (by assumption) ?_
            try simp only [Act.put, sA, sB, sC]
            refine takeQ (i := 8) (gt rfl) (by kernel_rfl) (fun _ _ _ h => h) (by rfl) (by intro wq hSw; obtain ⟨⟨q0, q1, q2, q3, _, _⟩, ⟨q4, q5, q6, q7, _, _⟩⟩ := hSw; go_simp <;> with_reducible rfl) (by assumption) ?_
            try simp only [Act.put, sA, sB, sC]
            refine wpAnyH_ready (rs := [2]) (by kernel_rfl) (by simp) (AllReadyH.cons (gt rfl) (fun K hK => ?_) AllReadyH.nil)
            go_simp
            refine Calls.mono (CU2.out (by simp) _ BB5) ?_
            rintro e ww ⟨v0, rfl, hv0, hb⟩
            replace hv0 : Hid _ := hv0
            replace kX := kX.below hb
            replace kY := kY.below hb
            replace RR5 := RR5.below hb
            replace VV5 := VV5.below hb
            replace BB5 := BB5.trans (hb.mono BB5.size)
            clear hb
            refine hK.out _ _ ⟨kX, kY⟩ (fun hHeld => ?_)
            clear hK K
            try simp only [Act.put, sA, sB, sC]
            refine wpAnyH_ready (rs := [4]) (by kernel_rfl) (by simp) (AllReadyH.cons (gt rfl) (fun K hK => ?_) AllReadyH.nil)
            go_simp
            refine Calls.mono (CU3.out (by simp) _ BB5) ?_
            rintro e ww ⟨v1, rfl, hv1, hb⟩
            replace hv1 : Hid _ := hv1
            replace kX := kX.below hb
            replace kY := kY.below hb
            replace RR5 := RR5.below hb
            replace VV5 := VV5.below hb
            replace BB5 := BB5.trans (hb.mono BB5.size)
            clear hb
            refine hK.out _ _ ⟨kX, kY⟩ (fun hHeld => ?_)
            clear hK K
            try simp only [Act.put, sA, sB, sC]
            refine takeQ (i := 5) (gt rfl) (by kernel_rfl) (fun _ _ _ h => h) (by rfl) (by intro wq hSw; go_simp <;> with_reducible rfl) (by assumption) ?_
            try simp only [Act.put, sA, sB, sC]
            refine wpAnyH_ready (rs := [7]) (by kernel_rfl) (by simp) (AllReadyH.cons (gt rfl) (fun K hK => ?_) AllReadyH.nil)
            go_simp
            refine Calls.mono (CO2.out (by simp) _ BB5) ?_
            rintro e ww ⟨t0, rfl, ht0, hb⟩
            replace ht0 : Hid _ := ht0
            replace kX := kX.below hb
            replace kY := kY.below hb
            replace RR5 := RR5.below hb
            replace VV5 := VV5.below hb
            replace BB5 := BB5.trans (hb.mono BB5.size)
            clear hb
            refine hK.out _ _ ⟨kX, kY⟩ (fun hHeld => ?_)
            clear hK K
            try simp only [Act.put, sA, sB, sC]
            refine wpAnyH_ready (rs := [9]) (by kernel_rfl) (by simp) (AllReadyH.cons (gt rfl) (fun K hK => ?_) AllReadyH.nil)
            go_simp
            refine Calls.mono (CO3.out (by simp) _ BB5) ?_
            rintro e ww ⟨t1, rfl, ht1, hb⟩
            replace ht1 : Hid _ := ht1
            replace kX := kX.below hb
            replace kY := kY.below hb
            replace RR5 := RR5.below hb
            replace VV5 := VV5.below hb
            replace BB5 := BB5.trans (hb.mono BB5.size)
            clear hb
            refine hK.out _ _ ⟨kX, kY⟩ (fun hHeld => ?_)
            clear hK K
            try simp only [Act.put, sA, sB, sC]
            refine takeQ (i := 10) (gt rfl) (by kernel_rfl) (fun _ _ _ h => h) (by rfl) (by intro wq hSw; go_simp <;> with_reducible rfl) (by assumption) ?_
            try simp only [Act.put, sA, sB, sC]
            refine wpAnyH_ready (rs := [11]) (by kernel_rfl) (by simp) (AllReadyH.cons (gt rfl) (fun K hK => ?_) AllReadyH.nil)
            go_simp
            rename World => ww
            have hb := below1 ww (.cells #[.int .i64 v0, .int .i64 v1, .int .i64 t0, .int .i64 t1] 31)
            have NW := pt_new2 ww 31 v0 v1 t0 t1
            replace kX := kX.below hb
            replace kY := kY.below hb
            replace RR5 := RR5.below hb
            replace VV5 := VV5.below hb
            replace BB5 := BB5.trans (hb.mono BB5.size)
            clear hb
            refine hK.out _ _ ⟨kX, kY⟩ (fun hHeld => ?_)
            clear hK K
            try simp only [Act.put, sA, sB, sC]
            refine wpAnyH_ready (rs := [12]) (by kernel_rfl) (by simp) (AllReadyH.cons (gt rfl) (fun K hK => ?_) AllReadyH.nil)
            have nz : w.heap.size + 2 ≤ (ww.alloc (.cells #[.int .i64 v0, .int .i64 v1, .int .i64 t0, .int .i64 t1] 31)).heap.size := VV5.lt
            refine wp_append_own _ (.tmp 36) (.tmp 47) 50 rfl (w.heap.size + 2) 31 iP (.agg #[.int .i64 0, .int .i64 0]) 2 16 Try.underlying50 hiP hy0 hy1 hy2 rfl (by decide) u4 ps.length (ptC ps) rfl RR5 ⟨ww.heap.size, 0, none⟩ 2 _ (ptC [(v0, v1), (t0, t1)]) rfl rfl NW (ptC_ones _) (by unfold maxLen; omega) (by omega) nz ?_
            intro v7 w9 R9 G9 _
            have BB9 : Hid _ := BB5.grown G9 (Nat.le_trans (by omega) nz) (fun q hq => by have := (World.ownsRow.lt RR5 q hq).1; omega)
            have kX9 := kX.grownPb G9 (fun e => by have h1 := (World.ownsRow.lt R50.out _ e.symm).2; have h2 := kX.lo; omega)
            have kY9 := kY.grownPb G9 (fun e => by have h1 := (World.ownsRow.lt R50.out _ e.symm).2; have h2 := kY.lo; omega)
            have VV9 : Hid _ := VV5.grownPb G9 (fun e => by have h1 := (World.ownsRow.lt RR5 _ e.symm).1; omega)
            have RF : Hid (RowPt (w.heap.size + 2) w9 v7 (ps ++ [(v0, v1), (t0, t1)])) := by show RowPt _ _ _ _; unfold RowPt; rw [ptC_append, List.length_append]; exact R9
            refine hK.out _ _ ⟨kX9, kY9⟩ (fun hHeld => ?_)
            clear hK K kX kY VV5 RR5 R9 G9 NW BB5
            try simp only [Act.put, sA, sB, sC]
            refine takeQ (i := 13) (gt rfl) (by kernel_rfl) (fun _ _ _ h => h) (by rfl) (by intro wq hSw; go_simp <;> with_reducible rfl) (by assumption) ?_
            try simp only [Act.put, sA, sB, sC]
            refine wpAnyH_done (by kernel_rfl) ?_ _
            clear kX9 kY9 hHeld
            go_wp2
            go_roundw
            case rel =>
              first
              | exact ⟨2, ps ++ [(v0, v1), (t0, t1)], by omega, by go_num, RF, ⟨ps, _, rfl, HP.out, rfl, rfl, v0, v1, t0, t1, rfl, hv0.out, hv1.out, ht0.out, ht1.out⟩, VV9, BB9⟩
              | ((repeat apply Exists.intro); exact ⟨⟨2, ps ++ [(v0, v1), (t0, t1)], by omega, by go_num, RF, ⟨ps, _, rfl, HP.out, rfl, rfl, v0, v1, t0, t1, rfl, hv0.out, hv1.out, ht0.out, ht1.out⟩, VV9, BB9⟩, rfl⟩)
            case measure => simp [intOf]
    · obtain ⟨a4, cap, rfl, _, _⟩ := RR.out.shape
      obtain ⟨o, z1, z2, z3, z4⟩ := pb_end e0 e1 e2 e3 Q0 Q1 Q2 Q3 U0 U1 U2 U3 k0 k1 k2 k3 ps HP.out HK0.out HL0.out HK1.out HL1.out HK2.out HL2.out HK3.out HL3.out
      have CB := implBoxOf a4 cap ps wr RR.out.seesP
      rw [o, z1, z2, z3, z4, HK.out] at CB
      clear o z1 z2 z3 z4 RR HP
      go_wp2_with fail
      refine CB.mono ?_
      rintro e w9 ⟨rfl, hb⟩
      have V9 := VV.out.below hb
      have B9 := BB.out.trans (hb.mono BB.out.size)
      have B3 : Hid _ := Box4.chainX B9 (Nat.le_succ _) (.int .i64 (pbV K (min Q0 Q2))) (.int .i64 (pbV K (min Q1 Q3))) (.int .i64 (pbV K (max U0 U2))) (.int .i64 (pbV K (max U1 U3)))
      obtain ⟨r0, r1, r2, r3, rf, _⟩ := id V9
      have hlt := V9.lt
      clear V9 B9 hb VV BB CB
      go_wp2
      exact bodyPost_ret (v := (.tuple #[.agg #[.int .i64 (pbV K (min Q0 Q2)), .int .i64 (pbV K (min Q1 Q3)), .int .i64 (pbV K (max U0 U2)), .int .i64 (pbV K (max U1 U3))], .bool K])) (by simp [results, Try.results7, go_sem, r0, r1, r2, r3]) rfl ⟨rfl, B3.out⟩
end Go.Proofs.Ytnefdfgonolafaa
