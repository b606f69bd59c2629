import Derived.Test.YtgcaemhcdpddiaaDoorLgC
import Derived.BigRegion
/- A number of four bytes, read. -/
namespace Go.Proofs.YtgcaemhcdpddiaaDoor
open Go.RowKit

/-- The number that stands in four bytes. -/
def lgGet (bs : List Int) (k : Nat) : Int := bs[k]?.getD 0 + bs[k + 1]?.getD 0 * 256 + bs[k + 2]?.getD 0 * 65536 + bs[k + 3]?.getD 0 * 16777216
theorem u8At {bs : List Int} (h8 : ∀ x ∈ bs, 0 ≤ x ∧ x < 256) (k : Nat) : 0 ≤ bs[k]?.getD 0 ∧ bs[k]?.getD 0 < 256 := by
  by_cases h : k < bs.length
  · rw [List.getElem?_eq_getElem h]
    exact h8 _ (List.getElem_mem h)
  · rw [List.getElem?_eq_none (by omega)]
    simp

set_option maxRecDepth 20000 in
set_option maxHeartbeats 2000000 in
theorem l12Get_any (a : Option Addr) (c : Nat) (bs : List Int) (k : Nat) (w : World) (h : SeesB w a c bs) (hk : k + 4 ≤ bs.length) (h8 : ∀ x ∈ bs, 0 ≤ x ∧ x < 256) :
    Calls Tryd.prog 31 #[.slice a bs.length c, .int .i64 k] w fun e w' => e = .returned (.int .i64 (lgGet bs k)) ∧ Below w.heap.size w w' := by
  have hm := h.max
  have hf := h.fits
  unfold maxLen at hm
  obtain ⟨b, off, rfl, hc⟩ := h.cells (ne_of_len rfl (by omega))
  have g0 := hc k (by omega)
  have g1 := hc (k + 1) (by omega)
  have g2 := hc (k + 2) (by omega)
  have g3 := hc (k + 3) (by omega)
  have y0 := u8At h8 k
  have y1 := u8At h8 (k + 1)
  have y2 := u8At h8 (k + 2)
  have y3 := u8At h8 (k + 3)
  have LG : Hid (lgGet bs k = bs[k]?.getD 0 + bs[k + 1]?.getD 0 * 256 + bs[k + 2]?.getD 0 * 65536 + bs[k + 3]?.getD 0 * 16777216) := rfl
  have BD : Below w.heap.size w w.drew := (Below.refl _ _).drew
  generalize bs[k]?.getD 0 = x0 at *
  generalize bs[k + 1]?.getD 0 = x1 at *
  generalize bs[k + 2]?.getD 0 = x2 at *
  generalize bs[k + 3]?.getD 0 = x3 at *
  clear hc h h8
  go_enter Tryd.func31, Tryd.ntmps31
  go_wp2_with fail
  go_region
  go_wp2
  go_ret
  exact ⟨by rw [LG.out]; rfl, BD⟩
end Go.Proofs.YtgcaemhcdpddiaaDoor

/- Whether it is a log of some disk, the specification's side. -/
namespace Go.Proofs.YtgcaemhcdpddiaaDoor
open Go.RowKit

/-- A log of some disk. -/
def LgFine (F L N E : Int) : Prop := 0 ≤ F ∧ F ≤ L ∧ L < 400 ∧ 0 ≤ N ∧ N ≤ L - F + 1 ∧ 1 ≤ E ∧ E ≤ 1000000
theorem in_yes {a x b : Int} (h : a ≤ x ∧ x ≤ b) : (decide (a ≤ x) && decide (x ≤ b)) = true := by rw [decide_eq_true h.1, decide_eq_true h.2]; rfl
theorem in_no {a x b : Int} (h : ¬(a ≤ x ∧ x ≤ b)) : (decide (a ≤ x) && decide (x ≤ b)) = false := by
  by_cases h1 : a ≤ x
  · rw [decide_eq_true h1, decide_eq_false (fun q => h ⟨h1, q⟩)]; rfl
  · rw [decide_eq_false h1]; rfl

end Go.Proofs.YtgcaemhcdpddiaaDoor
