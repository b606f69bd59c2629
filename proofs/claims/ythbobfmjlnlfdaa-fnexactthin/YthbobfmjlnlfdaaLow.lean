/- A fraction in lowest terms: impl.Frac's lowest. -/
import Derived.Test.YthbobfmjlnlfdaaGcdC
import Derived.Test.YthbobfmjlnlfdaaDivd
import Derived.Test.YthbobfmjlnlfdaaTwoF
import Derived.Test.YthbobfmjlnlfdaaEq
namespace Go.Proofs.Ythbobfmjlnlfdaa
open Go.RowKit

/-- The value is a fraction whose parts are n and d, and neither part's limbs lie with the other one's. -/
def IsFrac (base : Nat) (w : World) (v : Value) (n d : Int) : Prop :=
  ∃ a1 c1 qs a2 c2 rs, v = .agg #[.bool (decide (n < 0)), .slice a1 qs.length c1, .bool (decide (d < 0)), .slice a2 rs.length c2] ∧ Own base w a1 c1 qs ∧ Own base w a2 c2 rs ∧ Nrm qs ∧ Nrm rs ∧ val qs = mg n ∧ val rs = mg d ∧ Apart a1 qs a2 rs
theorem IsFrac.below {base : Nat} {w w' : World} {v : Value} {n d : Int} (h : IsFrac base w v n d) (hb : Below w.heap.size w w') : IsFrac base w' v n d := by
  obtain ⟨a1, c1, qs, a2, c2, rs, e1, o1, o2, r⟩ := h
  exact ⟨a1, c1, qs, a2, c2, rs, e1, o1.below hb, o2.below hb, r⟩
theorem IsFrac.base_le {base base' : Nat} {w : World} {v : Value} {n d : Int} (h : IsFrac base w v n d) (hb : base' ≤ base) : IsFrac base' w v n d := by
  obtain ⟨a1, c1, qs, a2, c2, rs, e1, o1, o2, r⟩ := h
  exact ⟨a1, c1, qs, a2, c2, rs, e1, o1.base_le hb, o2.base_le hb, r⟩
theorem IsFrac.setCell {base : Nat} {w : World} {v : Value} {n d : Int} (h : IsFrac base w v n d) {p : Addr} (hp : p.block < base) (u : Value) : IsFrac base (w.setCell p u) v n d := by
  obtain ⟨a1, c1, qs, a2, c2, rs, e1, o1, o2, r⟩ := h
  exact ⟨a1, c1, qs, a2, c2, rs, e1, o1.setCell hp u, o2.setCell hp u, r⟩
theorem IsFrac.eq {base : Nat} {w : World} {v : Value} {n d n' d' : Int} (h : IsFrac base w v n d) (e1 : n = n') (e2 : d = d') : IsFrac base w v n' d' := e1 ▸ e2 ▸ h
/-- Four cells that are put. -/
theorem IsFrac.put {B b : Nat} {w : World} {v : Value} {n d : Int} (h : IsFrac B w v n d) (hb : b < B) {b0 : Nat} (h0 : b0 ≤ b) (u0 u1 u2 u3 : Value) : IsFrac b0 ((((w.setCell ⟨b, 0, none⟩ u0).setCell ⟨b, 1, none⟩ u1).setCell ⟨b, 2, none⟩ u2).setCell ⟨b, 3, none⟩ u3) v n d :=
  ((((h.setCell (p := ⟨b, 0, none⟩) hb u0).setCell (p := ⟨b, 1, none⟩) hb u1).setCell (p := ⟨b, 2, none⟩) hb u2).setCell (p := ⟨b, 3, none⟩) hb u3).base_le (Nat.le_trans h0 (Nat.le_of_lt hb))
theorem below_put4 {b b0 : Nat} {w w' : World} (h : Below b0 w w') (h0 : b0 ≤ b) (u0 u1 u2 u3 : Value) : Below b0 w ((((w'.setCell ⟨b, 0, none⟩ u0).setCell ⟨b, 1, none⟩ u1).setCell ⟨b, 2, none⟩ u2).setCell ⟨b, 3, none⟩ u3) :=
  (((h.setCell (p := ⟨b, 0, none⟩) h0 u0).setCell (p := ⟨b, 1, none⟩) h0 u1).setCell (p := ⟨b, 2, none⟩) h0 u2).setCell (p := ⟨b, 3, none⟩) h0 u3

end Go.Proofs.Ythbobfmjlnlfdaa
