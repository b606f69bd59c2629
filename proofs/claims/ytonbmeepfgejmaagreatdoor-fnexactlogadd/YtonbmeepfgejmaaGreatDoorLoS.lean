/- The specification's LogOpen: its scan. -/
import Derived.Test.YtonbmeepfgejmaaGreatDoorLgO
import Derived.Test.YtonbmeepfgejmaaGreatDoorDkRd
namespace Go.Proofs.YtonbmeepfgejmaaGreatDoor
open Go.RowKit

/-- What LogOpen answers, and where it lies. -/
def LoPost (base : Nat) (bs : List Int) (qs : List Wr) (F L : Int) (e : Ending) (w' : World) : Prop := ∃ (a b c d : Int) (v : Value) (vs : List Value) (rs : List (List Int)) (r : Bool), e = .returned (.tuple #[.agg #[.int .i64 a, .int .i64 b, .int .i64 c, .int .i64 d], v, .bool r]) ∧ LoRes bs qs F L a b c d rs r ∧ BsR base w' v vs rs
/-- What the scan has in memory. -/
structure LoM (b0 lo p : Nat) (wr : World) (v9 v15 : Value) (vs : List Value) (s : LgSt) (F L : Int) : Prop where
  out : BsR lo wr v9 vs s.rc
  row : RowB lo wr v15 s.bg
  own : ∃ k, v15.ownBlock = some k
  ap : ∀ k, v15.ownBlock = some k → v9.ownBlock ≠ some k ∧ ∀ u ∈ vs, u.ownBlock ≠ some k
  n10 : ∀ u ∈ v9 :: v15 :: vs, u.ownBlock ≠ some p
  box : Box4 b0 wr p (.int .i64 F) (.int .i64 L) (.int .i64 (s.wh : Int)) (.int .i64 0)
theorem LoM.below {b0 lo p : Nat} {w w' : World} {v9 v15 : Value} {vs : List Value} {s : LgSt} {F L : Int} (h : LoM b0 lo p w v9 v15 vs s F L) (hb : Below w.heap.size w w') : LoM b0 lo p w' v9 v15 vs s F L :=
  ⟨h.out.below hb, h.row.below hb, h.own, h.ap, h.n10, h.box.below hb⟩
theorem Box4.put2W {lo p : Nat} {w : World} {x0 x1 x2 x3 : Value} (h : Box4 lo w p x0 x1 x2 x3) (u : Value) : Box4 lo (w.setCell ⟨p, 2, none⟩ u) p x0 x1 u x3 :=
  ⟨(cell_other (.inr (by decide)) u).trans h.c0, (cell_other (.inr (by decide)) u).trans h.c1, cell_same h.c2 u, (cell_other (.inr (by decide)) u).trans h.c3, fun o => (World.frozen?_setCell ..).trans (h.fr o), h.lo⟩
theorem Box2.grownO {lo q : Nat} {w w' : World} {x0 x1 : Value} {row : Option Nat} (h : Box2 lo w q x0 x1) (g : w.grownBy w' row) (ne : row ≠ some q) : Box2 lo w' q x0 x1 := by
  obtain ⟨hc, hf⟩ := grown_at g h.lt (fun e => ne e.symm)
  exact ⟨(hc 0).trans h.c0, (hc 1).trans h.c1, fun o => (hf o).trans (h.fr o), h.lo⟩
/-- What is within a record. -/
def WiOk (s : LgSt) (wi : Int) : Prop := (s.st = 1 → wi = s.le) ∧ (s.st = 0 → wi = 0)
theorem RowB.someA {base n c : Nat} {w : World} {a : Option Addr} {ds : List Int} (_ : RowB base w (.slice a n c) ds) (k : ∃ k, (Value.slice a n c).ownBlock = some k) : ∃ d, a = some d := by
  cases a with
  | some d => exact ⟨d, rfl⟩
  | none => obtain ⟨k, q⟩ := k; cases q

end Go.Proofs.YtonbmeepfgejmaaGreatDoor
