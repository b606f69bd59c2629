/- A star that is drawn: l5Star. -/
import Derived.Test.YtbdpnfdpnaoicaaShR
import Derived.Test.YtbdpnfdpnaoicaaHeld
import Derived.Deep.Cut
namespace Go.Proofs.Ytbdpnfdpnaoicaa
open Go.RowKit

def dirL : List Int := [3, 0, 2, 1, 2, 2, 1, 2, 0, 3, -1, 2, -2, 2, -2, 1, -3, 0, -2, -1, -2, -2, -1, -2, 0, -3, 1, -2, 2, -2, 2, -1]
theorem dir_cell (w : World) (t : TypeId) (i : Nat) (hi : i < 32) : (w.alloc (.cells #[.int .i64 3, .int .i64 0, .int .i64 2, .int .i64 1, .int .i64 2, .int .i64 2, .int .i64 1, .int .i64 2, .int .i64 0, .int .i64 3, .int .i64 (-1), .int .i64 2, .int .i64 (-2), .int .i64 2, .int .i64 (-2), .int .i64 1, .int .i64 (-3), .int .i64 0, .int .i64 (-2), .int .i64 (-1), .int .i64 (-2), .int .i64 (-2), .int .i64 (-1), .int .i64 (-2), .int .i64 0, .int .i64 (-3), .int .i64 1, .int .i64 (-2), .int .i64 2, .int .i64 (-2), .int .i64 2, .int .i64 (-1)] t)).cell? ⟨w.heap.size, i, none⟩ = some (.int .i64 (dirL[i]?.getD 0)) := by
  have := cell_new w (dirL.map (Value.int .i64)).toArray t i (v := .int .i64 (dirL[i]?.getD 0)) (by
    have hl : i < dirL.length := hi
    simp [hl])
  exact this
theorem drawn_row {lo : Nat} {W0 w w' : World} {p : Nat} {v : Value} {ps : List (Int × Int)} (G : W0.grownBy w (some p)) (h : RowPt lo w v ps) (hl : W0.heap.size ≤ lo) (g : w.grownBy w' v.ownBlock) : W0.grownBy w' (some p) :=
  ⟨g.os.trans G.os, g.tape.trans G.tape, g.output.trans G.output, Nat.le_trans G.size g.size, fun i hi hr => (g.block i (Nat.lt_of_lt_of_le hi G.size) (fun e => by have := (World.ownsRow.lt h i e.symm).1; omega)).trans (G.block i hi hr)⟩
theorem Cur.row {lo : Nat} {w w' : World} {p n cap : Nat} {a : Option Addr} {v : Value} {ps : List (Int × Int)} (h : Cur w p a n cap) (R : RowPt lo w v ps) (g : w.grownBy w' v.ownBlock) (hp : p < lo) (hb : ∀ b off, a = some ⟨b, off, none⟩ → 0 < n → b < lo) : Cur w' p a n cap := by
  have hl := h.lt
  obtain ⟨c0, ⟨i, hi, c1⟩, ⟨h0, c2⟩, fr, byt, ap, mo⟩ := h
  have hbk := g.block p hl (fun e => by have := (World.ownsRow.lt R p e.symm).1; omega)
  have e : ∀ j, w'.cell? ⟨p, j, none⟩ = w.cell? ⟨p, j, none⟩ := fun j => World.cell?_of_block (a := ⟨p, j, none⟩) hbk
  refine ⟨(e 0).trans c0, ⟨i, hi, (e 1).trans c1⟩, ⟨h0, (e 2).trans c2⟩, fun j => (World.frozen?_of_block (a := ⟨p, j, none⟩) hbk).trans (fr j), ?_, ap, mo⟩
  intro j hj
  obtain ⟨b, off, ea, y, y0, y1, hc⟩ := byt j hj
  have hlt := hb b off ea (by omega)
  exact ⟨b, off, ea, y, y0, y1, (World.cell?_of_block (a := ⟨b, off + j, none⟩) (g.block b (World.block_lt_of_cell? _ _ hc) (fun e => by have := (World.ownsRow.lt R b e.symm).1; omega))).trans hc⟩

end Go.Proofs.Ytbdpnfdpnaoicaa
