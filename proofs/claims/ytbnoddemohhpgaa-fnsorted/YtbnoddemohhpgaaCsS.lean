/- CurveSort of the specification: the places of boxes, sorted. -/
import Derived.Test.YtbnoddemohhpgaaCurK
import Derived.Test.YtbnoddemohhpgaaBxsL
import Derived.Test.YtbnoddemohhpgaaIntsL
import Derived.Test.YtbnoddemohhpgaaCsM
import Derived.Test.YtbnoddemohhpgaaHeld
namespace Go.Proofs.Ytbnoddemohhpgaa
open Go.RowKit

/-- The key of the box at a place. -/
def csK (bs : List Bx) (j : Nat) : Int := cvKey (bxAt bs j).1 (bxAt bs j).2.1 (bxAt bs j).2.2.1 (bxAt bs j).2.2.2
/-- What CurveSort answers. -/
def csOk (bs : List Bx) (l : List Nat) : Prop := if bs.length ≤ 500 then Srt (csK bs) bs.length l else l = []
theorem csOk.one {bs : List Bx} {l l' : List Nat} (h : csOk bs l) (k : csOk bs l') : l = l' := by
  unfold csOk at *
  split at h
  · next c => rw [if_pos c] at k; exact h.one k
  · next c => rw [if_neg c] at k; rw [h, k]
theorem csOk.len {bs : List Bx} {l : List Nat} (h : csOk bs l) : l.length ≤ 500 := by
  unfold csOk at h
  split at h
  · rw [h.len]; assumption
  · rw [h]; simp
theorem mapN_at (l : List Nat) (j : Nat) : (l.map Int.ofNat)[j]?.getD 0 = ((l[j]?.getD 0 : Nat) : Int) := by
  rw [List.getElem?_map]
  cases l[j]? <;> rfl
theorem hole_setI {l : List Nat} {k x y : Nat} (hk : k ≤ l.length) : ((hole l k x).map Int.ofNat).set k (y : Int) = (hole l k y).map Int.ofNat := by
  rw [← hole_set (x := x) (y := y) hk, List.map_set]
  rfl
theorem hole_downI {l : List Nat} {k x y : Nat} (hk : k < l.length) (hy : l[k]?.getD 0 = y) : ((hole l (k + 1) x).map Int.ofNat).set (k + 1) (y : Int) = (hole l k y).map Int.ofNat := by
  have := hole_down (x := x) hk
  rw [hy] at this
  rw [← this, List.map_set]
  rfl
theorem RowI.at3 {base q cap : Nat} {w : World} {ds : List Int} (h : RowI base w (.slice (some ⟨q, 0, none⟩) ds.length cap) ds) {j : Nat} (hj : j < ds.length) : ∃ v, w.cell? ⟨q, j, none⟩ = some v := ⟨_, h.at' hj⟩

end Go.Proofs.Ytbnoddemohhpgaa
