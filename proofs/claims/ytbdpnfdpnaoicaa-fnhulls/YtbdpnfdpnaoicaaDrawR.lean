/- Whole numbers that are drawn: l1Int of a list that is written out, l1Odd, DrawFracOf. -/
import Derived.Test.YtbdpnfdpnaoicaaCurN
namespace Go.Proofs.Ytbdpnfdpnaoicaa
open Go.RowKit

theorem ints_cell (L : List Int) (w : World) (t : TypeId) (j : Nat) (hj : j < L.length) : (w.alloc (.cells (L.map (Value.int .i64)).toArray t)).cell? ⟨w.heap.size, 0 + j, none⟩ = some (.int .i64 L[j]) := by
  refine cell_new _ _ _ _ ?_
  simp [hj]

/-- One of a list that lies in a block of its own. -/
theorem l1Int_list (p : Nat) (a : Option Addr) (n cap : Nat) (L : List Int) (b kc : Nat) (w : World) (h : Cur w p a n cap) (hk : 0 < L.length) (hm : L.length ≤ 256) (hl : ∀ j (hj : j < L.length), w.cell? ⟨b, 0 + j, none⟩ = some (.int .i64 L[j])) (hb : b ≠ p) :
    Calls Try.prog 47 #[.pointer (some ⟨p, 0, none⟩), .slice (some ⟨b, 0, none⟩) L.length kc] w fun e w' => ∃ z : Int, z ∈ L ∧ e = .returned (.int .i64 z) ∧ Cur w' p a n cap ∧ w.grownBy w' (some p) := by
  refine (l1Int_any p a n cap b 0 L.length kc w h hk hm (fun j hj => ⟨_, hl j hj⟩) hb).mono ?_
  rintro e w' ⟨j, hj, z, hz, rfl, hc, g⟩
  rw [hl j hj] at hz
  simp only [Option.some.injEq, Value.int.injEq, true_and] at hz
  exact ⟨z, by rw [← hz]; exact List.getElem_mem hj, rfl, hc, g⟩

/-- The limits, and beyond. -/
def oddL : List Int := [-1, 0, 1, 2, 255, 256, 65535, 2147483647, 2147483648, 4294967295, 4294967296, -2147483648, 9223372036854775807, -9223372036854775808]
theorem odd_bounds : ∀ z ∈ oddL, -9223372036854775808 ≤ z ∧ z ≤ 9223372036854775807 := by decide

end Go.Proofs.Ytbdpnfdpnaoicaa
