/- Two fractions of a call's own, all their rows apart. -/
import Derived.Test.YtfhcbgjnojcigaaFTakeO
import Derived.Test.YtfhcbgjnojcigaaBase
namespace Go.Proofs.Ytfhcbgjnojcigaa
open Go.RowKit

def TwoFr (base : Nat) (w : World) (v1 v2 : Value) (n1 d1 n2 d2 : Int) : Prop :=
  ∃ a1 c1 z1 b1 e1 t1 a2 c2 z2 b2 e2 t2, v1 = .agg #[.bool (decide (n1 < 0)), .slice a1 z1.length c1, .bool (decide (d1 < 0)), .slice b1 t1.length e1] ∧ v2 = .agg #[.bool (decide (n2 < 0)), .slice a2 z2.length c2, .bool (decide (d2 < 0)), .slice b2 t2.length e2] ∧
    (Own base w a1 c1 z1 ∧ Own base w b1 e1 t1 ∧ Own base w a2 c2 z2 ∧ Own base w b2 e2 t2) ∧ (Nrm z1 ∧ val z1 = mg n1 ∧ Nrm t1 ∧ val t1 = mg d1 ∧ Nrm z2 ∧ val z2 = mg n2 ∧ Nrm t2 ∧ val t2 = mg d2) ∧
    (Apart a1 z1 b1 t1 ∧ Apart a2 z2 b2 t2 ∧ Apart a1 z1 a2 z2 ∧ Apart a1 z1 b2 t2 ∧ Apart b1 t1 a2 z2 ∧ Apart b1 t1 b2 t2)
theorem TwoFr.below {base : Nat} {w w' : World} {v1 v2 : Value} {n1 d1 n2 d2 : Int} (h : TwoFr base w v1 v2 n1 d1 n2 d2) (hb : Below w.heap.size w w') : TwoFr base w' v1 v2 n1 d1 n2 d2 := by
  obtain ⟨a1, c1, z1, b1, e1, t1, a2, c2, z2, b2, e2, t2, q1, q2, ⟨o1, o2, o3, o4⟩, r⟩ := h
  exact ⟨a1, c1, z1, b1, e1, t1, a2, c2, z2, b2, e2, t2, q1, q2, ⟨o1.below hb, o2.below hb, o3.below hb, o4.below hb⟩, r⟩
theorem TwoFr.base_le {base base' : Nat} {w : World} {v1 v2 : Value} {n1 d1 n2 d2 : Int} (h : TwoFr base w v1 v2 n1 d1 n2 d2) (hb : base' ≤ base) : TwoFr base' w v1 v2 n1 d1 n2 d2 := by
  obtain ⟨a1, c1, z1, b1, e1, t1, a2, c2, z2, b2, e2, t2, q1, q2, ⟨o1, o2, o3, o4⟩, r⟩ := h
  exact ⟨a1, c1, z1, b1, e1, t1, a2, c2, z2, b2, e2, t2, q1, q2, ⟨o1.base_le hb, o2.base_le hb, o3.base_le hb, o4.base_le hb⟩, r⟩
theorem own4 {b b0 : Nat} {w : World} {a : Option Addr} {c : Nat} {xs : List Int} (h : Own b0 w a c xs) (hb : b < b0) (u0 u1 u2 u3 : Value) : Own b0 ((((w.setCell ⟨b, 0, none⟩ u0).setCell ⟨b, 1, none⟩ u1).setCell ⟨b, 2, none⟩ u2).setCell ⟨b, 3, none⟩ u3) a c xs :=
  (((h.setCell (p := ⟨b, 0, none⟩) hb u0).setCell (p := ⟨b, 1, none⟩) hb u1).setCell (p := ⟨b, 2, none⟩) hb u2).setCell (p := ⟨b, 3, none⟩) hb u3
theorem TwoFr.put {base b : Nat} {w : World} {v1 v2 : Value} {n1 d1 n2 d2 : Int} (h : TwoFr base w v1 v2 n1 d1 n2 d2) (hb : b < base) (u0 u1 u2 u3 : Value) : TwoFr base ((((w.setCell ⟨b, 0, none⟩ u0).setCell ⟨b, 1, none⟩ u1).setCell ⟨b, 2, none⟩ u2).setCell ⟨b, 3, none⟩ u3) v1 v2 n1 d1 n2 d2 := by
  obtain ⟨a1, c1, z1, b1, e1, t1, a2, c2, z2, b2, e2, t2, q1, q2, ⟨o1, o2, o3, o4⟩, r⟩ := h
  exact ⟨a1, c1, z1, b1, e1, t1, a2, c2, z2, b2, e2, t2, q1, q2, ⟨own4 o1 hb u0 u1 u2 u3, own4 o2 hb u0 u1 u2 u3, own4 o3 hb u0 u1 u2 u3, own4 o4 hb u0 u1 u2 u3⟩, r⟩
theorem TwoFr.eq {base : Nat} {w : World} {v1 v2 : Value} {n1 d1 n2 d2 n1' d1' n2' d2' : Int} (h : TwoFr base w v1 v2 n1 d1 n2 d2) (e1 : n1 = n1') (e2 : d1 = d1') (e3 : n2 = n2') (e4 : d2 = d2') : TwoFr base w v1 v2 n1' d1' n2' d2' := by
  subst e1 e2 e3 e4
  exact h
theorem apart_low {b1 b2 : Nat} {w w' : World} {a a' : Option Addr} {c c' : Nat} {xs ys : List Int} (h : Own b1 w a c xs) (k : Own b2 w' a' c' ys) (hw : w.heap.size ≤ b2) : Apart a xs a' ys := fun _ _ q1 q2 q3 => row_ne_low k (Nat.lt_of_lt_of_le (h.lt q1 q2) hw) q3.symm
/-- One fraction behind another. -/
theorem TwoFr.of {base b2 : Nat} {w1 w2 : World} {v1 v2 : Value} {n1 d1 n2 d2 : Int} (h1 : IsFrac base w1 v1 n1 d1) (hb : Below w1.heap.size w1 w2) (h2 : IsFrac b2 w2 v2 n2 d2) (hl : base ≤ b2) (hw : w1.heap.size ≤ b2) : TwoFr base w2 v1 v2 n1 d1 n2 d2 := by
  obtain ⟨a1, c1, z1, b1, e1, t1, q1, o1, o2, m1, m2, u1, u2, ap1⟩ := h1
  obtain ⟨a2, c2, z2, b2', e2, t2, q2, o3, o4, m3, m4, u3, u4, ap2⟩ := h2
  exact ⟨a1, c1, z1, b1, e1, t1, a2, c2, z2, b2', e2, t2, q1, q2, ⟨o1.below hb, o2.below hb, o3.base_le hl, o4.base_le hl⟩, ⟨m1, u1, m2, u2, m3, u3, m4, u4⟩, ⟨ap1, ap2, apart_low o1 o3 hw, apart_low o1 o4 hw, apart_low o2 o3 hw, apart_low o2 o4 hw⟩⟩
theorem TwoFr.is' {base : Nat} {w : World} {v1 v2 : Value} {n1 d1 n2 d2 : Int} (h : TwoFr base w v1 v2 n1 d1 n2 d2) : ∃ g1 a1 k1 c1 h1 b1 m1 e1 g2 a2 k2 c2 h2 b2 m2 e2, v1 = .agg #[.bool g1, .slice a1 k1 c1, .bool h1, .slice b1 m1 e1] ∧ v2 = .agg #[.bool g2, .slice a2 k2 c2, .bool h2, .slice b2 m2 e2] := by
  obtain ⟨a1, c1, z1, b1, e1, t1, a2, c2, z2, b2, e2, t2, q1, q2, _⟩ := h
  exact ⟨_, _, _, _, _, _, _, _, _, _, _, _, _, _, _, _, q1, q2⟩
end Go.Proofs.Ytfhcbgjnojcigaa
