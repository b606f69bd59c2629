/- A number as an int: impl.Small, spec.Small. -/
import Derived.Test.YtfddiojcahbkfakDoorTaken
import Derived.Laws.BitsAllLaws
namespace Go.Proofs.YtfddiojcahbkfakDoor
open Go.RowKit

/-- Whether an int holds it; the int. -/
def smB (z : Int) : Bool := decide (-9223372036854775808 ≤ z ∧ z ≤ 9223372036854775807)
def smZ (z : Int) : Int := if smB z = true then z else 0

theorem or0 {x : Int} (h0 : 0 ≤ x) (h1 : x < 4294967296) : bits BinOp.or IntKind.u64 0 x = x := by
  rw [u64_or 0 x (by decide) (by decide) h0 (by omega)]
  simp
  omega
theorem or1 {x y : Int} (h0 : 0 ≤ x) (h1 : x < 4294967296) (k0 : 0 ≤ y) (k1 : y < 4294967296) : bits BinOp.or IntKind.u64 x (y * 4294967296) = x + y * 4294967296 := by
  rw [u64_or x (y * 4294967296) h0 (by omega) (by omega) (by omega), Nat.or_comm, nat_join 32 _ _ (by omega) (by omega)]
  omega

theorem sm_in {z : Int} (h1 : -9223372036854775808 ≤ z) (h2 : z ≤ 9223372036854775807) : smZ z = z ∧ smB z = true := by
  have : smB z = true := decide_eq_true ⟨h1, h2⟩
  exact ⟨by unfold smZ; rw [if_pos this], this⟩
theorem sm_out {z : Int} (h : ¬ (-9223372036854775808 ≤ z ∧ z ≤ 9223372036854775807)) : smZ z = 0 ∧ smB z = false := by
  have : smB z = false := decide_eq_false h
  exact ⟨by unfold smZ; rw [this]; simp, this⟩

theorem wrap_back {s : Int} (h0 : 0 < s) (h1 : s ≤ 9223372036854775808) : wrap64 (IntKind.u64.wrap (-s)) = -s := by
  have e : IntKind.u64.wrap (-s) = 18446744073709551616 - s := by
    simp only [IntKind.wrap, IntKind.bits, IntKind.signed]
    simp
    omega
  rw [e]
  unfold wrap64
  omega

set_option maxHeartbeats 400000 in
theorem takenA (g : Bool) (a : Option Addr) (c : Nat) (xs : List Int) (w : World) (h : Sees w a c xs) :
    Calls Tryd.prog 28 #[.agg #[.bool g, .slice a xs.length c]] w fun e w' => ∃ a' c', e = .returned (.agg #[.bool (tkG g xs), .slice a' (tkL g xs).length c']) ∧ Hid (tkL g xs ≠ [] → a' = a ∧ c' = c) ∧ Below w.heap.size w w' := by
  by_cases hk : okB g xs = true
  · have e1 : tkG g xs = g := by unfold tkG; rw [hk]; simp
    have e2 : tkL g xs = xs := by unfold tkL; rw [if_pos hk]
    rw [e1, e2]
    clear e1 e2
    go_enter Tryd.func28, Tryd.ntmps28
    go_wp2_with fail
    refine (implOk g a c xs _ (h.below (below2 _ _ _))).mono ?_
    rintro e w1 ⟨rfl, hb⟩
    obtain ⟨q1, q2⟩ := at_block hb (b := w.heap.size) (by simp; omega)
    obtain ⟨q3, q4⟩ := at_block hb (b := w.heap.size + 1) (by simp)
    have hz : w.heap.size + 1 < w1.heap.size := by have := hb.size; simp at this; omega
    have hB := (below2 _ _ _).trans (hb.mono (by simp; omega))
    clear hb
    go_wp2
    have hF := (hB.setCell (p := ⟨w.heap.size + 1, 0, none⟩) (by dsimp only; omega) (.bool g)).setCell (p := ⟨w.heap.size + 1, 1, none⟩) (by dsimp only; omega) (.slice a xs.length c)
    exact bodyPost_ret (v := .agg #[.bool g, .slice a xs.length c]) (by simp [results, Tryd.results28, go_sem, q3]) rfl ⟨a, c, rfl, fun _ => ⟨rfl, rfl⟩, hF⟩
  · have hk' : okB g xs = false := by simpa using hk
    have e1 : tkG g xs = false := by unfold tkG; rw [hk']; simp
    have e2 : tkL g xs = [] := by unfold tkL; rw [if_neg hk]
    rw [e1, e2]
    clear e1 e2 hk
    go_enter Tryd.func28, Tryd.ntmps28
    go_wp2_with fail
    refine (implOk g a c xs _ (h.below (below2 _ _ _))).mono ?_
    rintro e w1 ⟨rfl, hb⟩
    obtain ⟨q3, q4⟩ := at_block hb (b := w.heap.size + 1) (by simp)
    have hz : w.heap.size + 1 < w1.heap.size := by have := hb.size; simp at this; omega
    have hB := (below2 _ _ _).trans (hb.mono (by simp; omega))
    clear hb
    go_wp2
    exact bodyPost_ret (v := .agg #[.bool false, .slice none 0 0]) (by simp [results, Tryd.results28, go_sem, q3]) rfl ⟨none, 0, rfl, fun h => absurd rfl h, (hB.setCell (by dsimp only; omega) _).setCell (by dsimp only; omega) _⟩

end Go.Proofs.YtfddiojcahbkfakDoor
