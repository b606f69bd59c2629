/- A sector of the log, read: the specification's side. -/
import Derived.Test.YtonbmeepfgejmaaGreatDoorLgW
import Derived.Test.YtonbmeepfgejmaaGreatDoorPcS
import Derived.Test.YtonbmeepfgejmaaGreatDoorQuR
import Derived.Deep.DeepCutAuto
namespace Go.Proofs.YtonbmeepfgejmaaGreatDoor
open Go.RowKit

theorem Box4.grownL {lo p q : Nat} {w w' : World} {x0 x1 x2 x3 : Value} (h : Box4 lo w q x0 x1 x2 x3) (g : w.grownBy w' (some p)) (ne : q ≠ p) : Box4 lo w' q x0 x1 x2 x3 := by
  obtain ⟨hc, hf⟩ := grown_at g h.lt (by simpa using ne)
  exact ⟨(hc 0).trans h.c0, (hc 1).trans h.c1, (hc 2).trans h.c2, (hc 3).trans h.c3, fun o => (hf o).trans (h.fr o), h.lo⟩
theorem Box4.put3W {lo p : Nat} {w : World} {x0 x1 x2 x3 : Value} (h : Box4 lo w p x0 x1 x2 x3) (u : Value) : Box4 lo (w.setCell ⟨p, 3, none⟩ u) p x0 x1 x2 u :=
  ⟨(cell_other (.inr (by decide)) u).trans h.c0, (cell_other (.inr (by decide)) u).trans h.c1, (cell_other (.inr (by decide)) u).trans h.c2, cell_same h.c3 u, fun o => (World.frozen?_setCell ..).trans (h.fr o), h.lo⟩
/-- A byte of a row. -/
def u8N (bs : List Int) (k : Nat) : Int := bs[k]?.getD 0
/-- The piece that a sector has. -/
def lgPc (bs : List Int) : List Int := (bs.drop 16).take (u8N bs 9).toNat
/-- It is a sector of a log. -/
def LgIs (bs : List Int) : Prop := (1 ≤ lgGet bs 0 ∧ lgGet bs 0 ≤ 1000000) ∧ (1 ≤ u8N bs 8 ∧ u8N bs 8 ≤ 2) ∧ u8N bs 9 ≤ 44 ∧ (u8N bs 8 = 1 → u8N bs 9 = 44) ∧ lgSec (lgGet bs 0) (lgGet bs 4) (u8N bs 8 == 1) (lgPc bs) = bs
/-- What l12Read answers. -/
def RdRes (base : Nat) (w : World) (bs : List Int) (ep nu : Int) (m : Bool) (v : Value) (ok : Bool) : Prop :=
  (ok = true ∧ LgIs bs ∧ ep = lgGet bs 0 ∧ nu = lgGet bs 4 ∧ m = (u8N bs 8 == 1) ∧ RowB base w v (lgPc bs) ∧ ∃ ad c, v = .slice (some ad) (lgPc bs).length c) ∨ (ok = false ∧ ¬LgIs bs ∧ ep = 0 ∧ nu = 0 ∧ m = false ∧ v = .slice none 0 0)

end Go.Proofs.YtonbmeepfgejmaaGreatDoor
