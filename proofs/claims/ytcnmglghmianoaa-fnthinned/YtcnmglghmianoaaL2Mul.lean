/- The specification's product of numbers of any size: l2Mul. -/
import Derived.Test.YtcnmglghmianoaaEq
import Derived.Test.YtcnmglghmianoaaSMul
import Derived.Test.YtcnmglghmianoaaSAdd
import Derived.Test.YtcnmglghmianoaaSNum
import Derived.Deep.RegionHeld3
namespace Go.Proofs.Ytcnmglghmianoaa
open Go.RowKit

set_option maxRecDepth 20000 in
set_option maxHeartbeats 4000000 in
theorem l2MulC (g g' : Bool) (a b : Option Addr) (c d : Nat) (xs ys : List Int) (w : World) (h : Sees w a c xs) (k : Sees w b d ys) (hs : xs.length + ys.length ≤ 1048576) :
    Calls Try.prog 61 #[.agg #[.bool g, .slice a xs.length c], .agg #[.bool g', .slice b ys.length d]] w fun e w' => ∃ v, e = .returned v ∧ IsNum w.heap.size w' v (sg (g != g') (val xs * val ys)) ∧ Below w.heap.size w w' := by
  have HS : Hid (xs.length + ys.length ≤ 1048576) := hs
  clear hs
  go_enter Try.func61, Try.ntmps61
  go_wp2_with fail
  go_region_held3 (fun w' => w'.cell? ⟨w.heap.size, 0, none⟩ = some (.bool g) ∧ w'.cell? ⟨w.heap.size, 1, none⟩ = some (.slice a xs.length c) ∧ w'.cell? ⟨w.heap.size + 1, 0, none⟩ = some (.bool g') ∧ w'.cell? ⟨w.heap.size + 1, 1, none⟩ = some (.slice b ys.length d))
    (first | exact k1 | exact k2 | exact ⟨(cell_put (by omega)).trans k2.1, (cell_put (by omega)).trans k2.2.1, (cell_put (by omega)).trans k2.2.2.1, (cell_put (by omega)).trans k2.2.2.2⟩ | (simp [go_sem, World.cell?_alloc_past]))
    (first
    | (go_at_call 72; refine (l1MulMagC a b c d xs ys _ ?_ ?_ HS.out).mono ?_; exact h.below (below3 _ _ _ _).drew; exact k.below (below3 _ _ _ _).drew; rintro e w1 ⟨a1, c1, zs, rfl, ho1, hv1, hl1, hb1⟩; have B1 := (below3 w _ _ _).drew.trans (hb1.mono (by simp <;> omega)); obtain ⟨q1, _⟩ := at_block hb1 (b := w.heap.size) (by simp <;> omega); obtain ⟨q2, _⟩ := at_block hb1 (b := w.heap.size + 1) (by simp <;> omega); obtain ⟨q3, q4⟩ := at_block hb1 (b := w.heap.size + 2) (by simp); have z1 : w.heap.size + 2 < w1.heap.size := (by have := hb1.size; simp at this; omega); have k1 : w1.cell? ⟨w.heap.size, 0, none⟩ = some (.bool g) ∧ w1.cell? ⟨w.heap.size, 1, none⟩ = some (.slice a xs.length c) ∧ w1.cell? ⟨w.heap.size + 1, 0, none⟩ = some (.bool g') ∧ w1.cell? ⟨w.heap.size + 1, 1, none⟩ = some (.slice b ys.length d) := (by simp [q1, q2, go_sem, World.cell?_alloc_past]); have E : Hid (sg (g != g') (val zs) = sg (g != g') (val xs * val ys)) := (by rw [hv1]; exact rfl); have HL6 : Hid (zs.length ≤ 2097152) := (by show _ ≤ _; have := HS.out; omega); clear hb1 q1 q2 hv1 hl1)
    | (go_at_call 52; refine (l1NumC (g != g') a1 c1 zs _ ho1.toSees HL6.out).mono ?_; rintro e w2 ⟨v, rfl, hI, hb2⟩; have B2 := B1.trans (hb2.mono B1.size); have k2 : w2.cell? ⟨w.heap.size, 0, none⟩ = some (.bool g) ∧ w2.cell? ⟨w.heap.size, 1, none⟩ = some (.slice a xs.length c) ∧ w2.cell? ⟨w.heap.size + 1, 0, none⟩ = some (.bool g') ∧ w2.cell? ⟨w.heap.size + 1, 1, none⟩ = some (.slice b ys.length d) := ⟨bat hb2 k1.1, bat hb2 k1.2.1, bat hb2 k1.2.2.1, bat hb2 k1.2.2.2⟩; have qa2 := (fun o => (hb2.cell (p := ⟨w.heap.size + 2, o, none⟩) z1).trans (q3 o)); have qb2 := (fun o => (hb2.frozen (p := ⟨w.heap.size + 2, o, none⟩) z1).trans (q4 o)); have z2 : w.heap.size + 2 < w2.heap.size := (by have := hb2.size; omega); have hJ := (hI.eq E.out).base_le (show w.heap.size + 3 ≤ w1.heap.size from z1); obtain ⟨g5, a5, l5, c5, rfl⟩ := hI.shape; clear hb2 q3 q4))
  all_goals
    go_wp2
    exact bodyPost_ret (v := .agg #[.bool g5, .slice a5 l5 c5]) (by simp [results, Try.results61, go_sem, qa2]) rfl ⟨_, rfl, hJ.put' (by omega) (by omega), below_put' B2 (by omega) _ _⟩
end Go.Proofs.Ytcnmglghmianoaa
