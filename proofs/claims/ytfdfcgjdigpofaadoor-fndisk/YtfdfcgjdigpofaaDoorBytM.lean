/- The laws' helpers on bytes, with marks from any number on: eqByteS, markByteS, heldByteS. -/
import Derived.Test.YtfdfcgjdigpofaaDoorBytL
namespace Go.Proofs.YtfdfcgjdigpofaaDoor
open Go.RowKit


/-- Bytes that are marked, one by one. -/
def mkY (k : Int) (n : Nat) : List Int := (List.range n).map fun (i : Nat) => (k + (i : Int)) % 256
theorem mkY_len (k : Int) (n : Nat) : (mkY k n).length = n := by simp [mkY]
theorem mkY_at {k : Int} {n j : Nat} (h : j < n) : (mkY k n)[j]?.getD 0 = (k + (j : Int)) % 256 := by simp [mkY, h]

theorem mkY_done {k : Int} {n : Nat} {zs : List Int} (hl : zs.length = n) (h : ∀ i, i < n → zs[i]?.getD 0 = (k + (i : Int)) % 256) : zs = mkY k n := by
  refine List.ext_getElem? fun i => ?_
  by_cases hi : i < n
  · have := h i hi
    rw [List.getElem?_eq_getElem (by omega)] at this ⊢
    rw [List.getElem?_eq_getElem (by rw [mkY_len]; exact hi)]
    simp only [Option.getD_some] at this
    rw [this]
    simp [mkY]
  · rw [List.getElem?_eq_none (by omega), List.getElem?_eq_none (by rw [mkY_len]; omega)]

end Go.Proofs.YtfdfcgjdigpofaaDoor
