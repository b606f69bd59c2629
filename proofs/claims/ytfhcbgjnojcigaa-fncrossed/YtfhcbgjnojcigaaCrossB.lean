/- For the law on Cross: how great its answer's parts are; two fractions by chosen limbs. -/
import Derived.Test.YtfhcbgjnojcigaaCrossD
import Derived.Test.YtfhcbgjnojcigaaCrsg
import Derived.Test.YtfhcbgjnojcigaaFracA
import Derived.Test.YtfhcbgjnojcigaaBase
namespace Go.Proofs.Ytfhcbgjnojcigaa
open Go.RowKit

theorem mg_le {n m : Int} (h : -m ≤ n ∧ n ≤ m) : mg n ≤ m := by unfold mg; split <;> omega
theorem mg_ediv_le (n g : Int) : mg (n / g) ≤ mg n := by
  have e : ∀ x : Int, mg x = (x.natAbs : Int) := fun x => by unfold mg; split <;> omega
  rw [e, e]
  have := Int.natAbs_ediv_le_natAbs n g
  omega
theorem crd_mul {x a : Int} (h : -20000000 ≤ x ∧ x ≤ 20000000) (k : -1000000000000000 ≤ a ∧ a ≤ 1000000000000000) : -20000000000000000000000 ≤ x * a ∧ x * a ≤ 20000000000000000000000 := by
  have h1 : x.natAbs ≤ 20000000 := by omega
  have h2 : a.natAbs ≤ 1000000000000000 := by omega
  have h3 : (x * a).natAbs ≤ 20000000 * 1000000000000000 := by rw [Int.natAbs_mul]; exact Nat.mul_le_mul h1 h2
  omega
theorem crV_bound {x1 y1 x2 y2 x3 y3 x4 y4 kk n1 d1 n2 d2 : Int} (c1 : Crd x1) (d1' : Crd y1) (c2 : Crd x2) (d2' : Crd y2) (c3 : Crd x3) (d3 : Crd y3) (c4 : Crd x4) (d4 : Crd y4) (h : crV x1 y1 x2 y2 x3 y3 x4 y4 = (kk, n1, d1, n2, d2)) :
    mg n1 ≤ 40000000000000000000000 ∧ mg d1 ≤ 40000000000000000000000 ∧ mg n2 ≤ 40000000000000000000000 ∧ mg d2 ≤ 40000000000000000000000 := by
  have bA := allW_bound c1 d1' c2 d2' c3 d3 c4 d4
  have bP := partW_bound c1 d1' c3 d3 c4 d4
  have one := one_crd c1 d1' c2 d2' c3 d3 c4 d4
  have bX : mg (crX x1 y1 x2 y2 x3 y3 x4 y4) ≤ 40000000000000000000000 := by
    have p := crd_mul (x := x1) (by unfold Crd at c1; omega) bA
    have q := crd_mul (x := x2 - x1) (by unfold Crd at c1 c2; omega) bP
    unfold crX
    exact mg_le (by omega)
  have bY : mg (crY x1 y1 x2 y2 x3 y3 x4 y4) ≤ 40000000000000000000000 := by
    have p := crd_mul (x := y1) (by unfold Crd at d1'; omega) bA
    have q := crd_mul (x := y2 - y1) (by unfold Crd at d1' d2'; omega) bP
    unfold crY
    exact mg_le (by omega)
  have bA2 : mg (allW x1 y1 x2 y2 x3 y3 x4 y4) ≤ 40000000000000000000000 := mg_le (by omega)
  have qn : ∀ n d : Int, mg n ≤ 40000000000000000000000 → mg (cN n d) ≤ 40000000000000000000000 := by
    intro n d h
    unfold cN
    split
    · exact Int.le_trans (mg_ediv_le _ _) h
    · exact Int.le_trans (mg_ediv_le _ _) h
  have qd : ∀ n d : Int, mg d ≤ 40000000000000000000000 → mg (cD n d) ≤ 40000000000000000000000 := by
    intro n d h
    unfold cD
    split
    · exact Int.le_trans (mg_ediv_le _ _) h
    · exact Int.le_trans (mg_ediv_le _ _) h
  have z0 : mg 0 ≤ 40000000000000000000000 := by decide
  have z1 : mg 1 ≤ 40000000000000000000000 := by decide
  have o1 : mg (oneOf x1 y1 x2 y2 x3 y3 x4 y4).1 ≤ 40000000000000000000000 := mg_le (by have := one.1; unfold Crd at this; omega)
  have o2 : mg (oneOf x1 y1 x2 y2 x3 y3 x4 y4).2 ≤ 40000000000000000000000 := mg_le (by have := one.2; unfold Crd at this; omega)
  unfold crV at h
  split at h
  · split at h
    · simp only [Prod.mk.injEq] at h
      obtain ⟨_, rfl, rfl, rfl, rfl⟩ := h
      exact ⟨qn _ _ bX, qd _ _ bA2, qn _ _ bY, qd _ _ bA2⟩
    · split at h
      · simp only [Prod.mk.injEq] at h
        obtain ⟨_, rfl, rfl, rfl, rfl⟩ := h
        exact ⟨o1, z1, o2, z1⟩
      · simp only [Prod.mk.injEq] at h
        obtain ⟨_, rfl, rfl, rfl, rfl⟩ := h
        exact ⟨z0, z1, z0, z1⟩
  · simp only [Prod.mk.injEq] at h
    obtain ⟨_, rfl, rfl, rfl, rfl⟩ := h
    exact ⟨z0, z1, z0, z1⟩
theorem len_few {z : Int} {zs : List Int} (l : Lim zs) (n : Nrm zs) (v : val zs = mg z) (h : mg z ≤ 40000000000000000000000) : zs.length ≤ 4 := by
  have e4 : (4294967296 : Int) ^ 4 = 340282366920938463463374607431768211456 := by decide
  exact len_le l n (k := 4) (by rw [v, e4]; omega)
theorem TwoFr.as {base : Nat} {w : World} {v1 v2 : Value} {n1 d1 n2 d2 : Int} (h : TwoFr base w v1 v2 n1 d1 n2 d2) {z1 t1 z2 t2 : List Int} (hh : (Lim z1 ∧ Nrm z1 ∧ val z1 = mg n1) ∧ (Lim t1 ∧ Nrm t1 ∧ val t1 = mg d1) ∧ (Lim z2 ∧ Nrm z2 ∧ val z2 = mg n2) ∧ (Lim t2 ∧ Nrm t2 ∧ val t2 = mg d2)) :
    ∃ a1 c1 b1 e1 a2 c2 b2 e2, v1 = .agg #[.bool (decide (n1 < 0)), .slice a1 z1.length c1, .bool (decide (d1 < 0)), .slice b1 t1.length e1] ∧ v2 = .agg #[.bool (decide (n2 < 0)), .slice a2 z2.length c2, .bool (decide (d2 < 0)), .slice b2 t2.length e2] ∧
      Own base w a1 c1 z1 ∧ Own base w b1 e1 t1 ∧ Own base w a2 c2 z2 ∧ Own base w b2 e2 t2 ∧ (Apart a1 z1 b1 t1 ∧ Apart a2 z2 b2 t2 ∧ Apart a1 z1 a2 z2 ∧ Apart a1 z1 b2 t2 ∧ Apart b1 t1 a2 z2 ∧ Apart b1 t1 b2 t2) := by
  obtain ⟨a1, c1, y1, b1, e1, s1, a2, c2, y2, b2, e2, s2, q1, q2, ⟨o1, o2, o3, o4⟩, ⟨m1, u1, m2, u2, m3, u3, m4, u4⟩, ap⟩ := h
  obtain ⟨⟨l1, k1, w1⟩, ⟨l2, k2, w2⟩, ⟨l3, k3, w3⟩, ⟨l4, k4, w4⟩⟩ := hh
  obtain rfl : z1 = y1 := val_inj l1 o1.lim k1 m1 (w1.trans u1.symm)
  obtain rfl : t1 = s1 := val_inj l2 o2.lim k2 m2 (w2.trans u2.symm)
  obtain rfl : z2 = y2 := val_inj l3 o3.lim k3 m3 (w3.trans u3.symm)
  obtain rfl : t2 = s2 := val_inj l4 o4.lim k4 m4 (w4.trans u4.symm)
  exact ⟨a1, c1, b1, e1, a2, c2, b2, e2, q1, q2, o1, o2, o3, o4, ap⟩
theorem apart_symm {base : Nat} {w : World} {a b : Option Addr} {c : Nat} {xs ys : List Int} (h : Own base w a c xs) (k : Apart a xs b ys) : Apart b ys a xs := by
  intro q off hb hn e
  unfold rowOf at e
  split at e
  · cases e
  · rename_i hx
    obtain ⟨b0, o0, ha, _⟩ := h.toSees.toCame.cells hx
    rw [ha] at e
    simp only [Option.map_some, Option.some.injEq] at e
    subst e
    refine k _ _ ha hx ?_
    unfold rowOf
    rw [if_neg hn, hb]
    rfl
theorem apart_marks {a b : Option Addr} {xs ys : List Int} {k : Int} (h : Apart a xs b ys) : Apart a (marks k xs.length) b ys := by
  intro q off ha hn
  refine h q off ha ?_
  intro e
  rw [e] at hn
  exact hn rfl
end Go.Proofs.Ytfhcbgjnojcigaa
