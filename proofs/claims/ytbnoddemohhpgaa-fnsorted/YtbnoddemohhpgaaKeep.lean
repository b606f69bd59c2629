/- What lies in old blocks stays, but for one block. -/
import Derived.Test.YtbnoddemohhpgaaTree
namespace Go.Proofs.Ytbnoddemohhpgaa
open Go.RowKit

/-- Of what lay there at W all is as it was at w, but for block p. -/
def Keeps (p : Nat) (W w : World) : Prop := ∀ b o, b < W.heap.size → b ≠ p → w.cell? ⟨b, o, none⟩ = W.cell? ⟨b, o, none⟩
theorem Keeps.of {p : Nat} {W w : World} (h : Below W.heap.size W w) : Keeps p W w := fun b o hb _ => h.cell (p := ⟨b, o, none⟩) hb
theorem Keeps.at {p : Nat} {W w : World} (h : Keeps p W w) {b o : Nat} {v : Value} (k : W.cell? ⟨b, o, none⟩ = some v) (ne : b ≠ p) : w.cell? ⟨b, o, none⟩ = some v :=
  (h b o (World.block_lt_of_cell? _ _ k) ne).trans k
theorem Keeps.put1 {p : Nat} {W w : World} (h : Keeps p W w) (o : Nat) (u : Value) : Keeps p W (w.setCell ⟨p, o, none⟩ u) := fun b i hb ne => (cell_other (.inl (Ne.symm ne)) u).trans (h b i hb ne)
theorem Keeps.put4 {p : Nat} {W w : World} (h : Keeps p W w) (u0 u1 u2 u3 : Value) : Keeps p W ((((w.setCell ⟨p, 0, none⟩ u0).setCell ⟨p, 1, none⟩ u1).setCell ⟨p, 2, none⟩ u2).setCell ⟨p, 3, none⟩ u3) :=
  (((h.put1 0 u0).put1 1 u1).put1 2 u2).put1 3 u3
theorem below_put4' {b b0 : Nat} {w w' : World} (h : Below b0 w w') (h0 : b0 ≤ b) (u0 u1 u2 u3 : Value) : Below b0 w ((((w'.setCell ⟨b, 0, none⟩ u0).setCell ⟨b, 1, none⟩ u1).setCell ⟨b, 2, none⟩ u2).setCell ⟨b, 3, none⟩ u3) :=
  (((h.setCell (p := ⟨b, 0, none⟩) h0 u0).setCell (p := ⟨b, 1, none⟩) h0 u1).setCell (p := ⟨b, 2, none⟩) h0 u2).setCell (p := ⟨b, 3, none⟩) h0 u3
end Go.Proofs.Ytbnoddemohhpgaa
