/- The specification's Join; how much a box grows, of both. -/
import Derived.Test.YtokmphhpnoochabBoxS
import Derived.Test.YtokmphhpnoochabBoxA
namespace Go.Proofs.Ytokmphhpnoochab
open Go.RowKit

theorem join_of {a b c d m n r s : Int} (h1 : boxOk a b c d = true) (h2 : boxOk m n r s = true) : bA [(a, b), (c, d), (m, n), (r, s)] = oA a b c d m n r s ∧ bB [(a, b), (c, d), (m, n), (r, s)] = oB a b c d m n r s ∧ bC [(a, b), (c, d), (m, n), (r, s)] = oC a b c d m n r s ∧ bD [(a, b), (c, d), (m, n), (r, s)] = oD a b c d m n r s := by
  have p1 := boxOk_le h1
  have p2 := boxOk_le h2
  have k1 : ptOk a b = true ∧ ptOk c d = true := by unfold boxOk at h1; simp only [Bool.and_eq_true] at h1; exact ⟨h1.1, h1.2.1⟩
  have k2 : ptOk m n = true ∧ ptOk r s = true := by unfold boxOk at h2; simp only [Bool.and_eq_true] at h2; exact ⟨h2.1, h2.2.1⟩
  have hb : bOk [(a, b), (c, d), (m, n), (r, s)] = true := by simp [bOk, okL, k1.1, k1.2, k2.1, k2.2]
  obtain ⟨e1, e2, e3, e4⟩ := b_good hb
  rw [e1, e2, e3, e4]
  unfold oA oB oC oD jA jB jC jD
  rw [h1, h2]
  simp only [hd, fA, fB, fC, fD, List.foldl_cons, List.foldl_nil, List.getElem?_cons_zero, Option.getD_some, Bool.or_self, if_true]
  omega
theorem seesP4 (w : World) (a b c d m n r s : Int) (t : TypeId) : SeesP (w.alloc (.cells #[.int .i64 a, .int .i64 b, .int .i64 c, .int .i64 d, .int .i64 m, .int .i64 n, .int .i64 r, .int .i64 s] t)) (some ⟨w.heap.size, 0, none⟩) 4 [(a, b), (c, d), (m, n), (r, s)] := by
  refine ⟨by simp, by simp [maxLen], fun _ => ⟨_, _, rfl, fun i hi => ?_⟩⟩
  have : i = 0 ∨ i = 1 ∨ i = 2 ∨ i = 3 := by simp at hi; omega
  rcases this with rfl | rfl | rfl | rfl
  all_goals exact ⟨cell_new _ _ _ _ rfl, cell_new _ _ _ _ rfl⟩

def grn (a b c d m n r s : Int) : Int := area (oA a b c d m n r s) (oB a b c d m n r s) (oC a b c d m n r s) (oD a b c d m n r s) - area a b c d
theorem wrap_mid {z : Int} (h : -9000000000000000 ≤ z) (k : z ≤ 9000000000000000) : IntKind.i64.wrap z = z := by rw [IntKind.wrap_i64]; omega
theorem area_bounds (a b c d : Int) : -400000000000000 ≤ area a b c d ∧ area a b c d ≤ 400000000000000 := by
  rw [area_is]
  exact (wide_dif a b c d).mul (high_dif a b c d)

set_option maxHeartbeats 2000000 in
theorem implGrown (a b c d m n r s : Int) (w : World) :
    Calls Try.prog 31 #[.agg #[.int .i64 a, .int .i64 b, .int .i64 c, .int .i64 d], .agg #[.int .i64 m, .int .i64 n, .int .i64 r, .int .i64 s]] w fun e w' => e = .returned (.int .i64 (grn a b c d m n r s)) ∧ Below w.heap.size w w' := by
  have H : Hid (grn a b c d m n r s = area (oA a b c d m n r s) (oB a b c d m n r s) (oC a b c d m n r s) (oD a b c d m n r s) - area a b c d) := (rfl : grn a b c d m n r s = _)
  obtain ⟨y1, y2⟩ := area_bounds (oA a b c d m n r s) (oB a b c d m n r s) (oC a b c d m n r s) (oD a b c d m n r s)
  obtain ⟨y3, y4⟩ := area_bounds a b c d
  have k0 := bcBB w a b c d m n r s 31 31
  have B0 := below2 w (.cells #[.int .i64 a, .int .i64 b, .int .i64 c, .int .i64 d] 31) (.cells #[.int .i64 m, .int .i64 n, .int .i64 r, .int .i64 s] 31)
  go_enter Try.func31, Try.ntmps31
  go_wp2_with fail
  generalize ((w.alloc (.cells #[.int .i64 a, .int .i64 b, .int .i64 c, .int .i64 d] 31)).alloc (.cells #[.int .i64 m, .int .i64 n, .int .i64 r, .int .i64 s] 31)) = W0 at *
  have B : Below W0.heap.size W0 W0 := Below.refl _ _
  go_region_held3 (fun w' => w'.cell? ⟨w.heap.size, 0, none⟩ = some (.int .i64 a) ∧ w'.cell? ⟨w.heap.size, 1, none⟩ = some (.int .i64 b) ∧ w'.cell? ⟨w.heap.size, 2, none⟩ = some (.int .i64 c) ∧ w'.cell? ⟨w.heap.size, 3, none⟩ = some (.int .i64 d) ∧ w'.cell? ⟨w.heap.size + 1, 0, none⟩ = some (.int .i64 m) ∧ w'.cell? ⟨w.heap.size + 1, 1, none⟩ = some (.int .i64 n) ∧ w'.cell? ⟨w.heap.size + 1, 2, none⟩ = some (.int .i64 r) ∧ w'.cell? ⟨w.heap.size + 1, 3, none⟩ = some (.int .i64 s))
    (first | exact k0 | exact bkBB B k0 | exact bkBB B.drew k0)
    (first
    | (go_at_call 25; refine (implJoin _ _ _ _ _ _ _ _ _).mono ?_; rintro e w1 ⟨rfl, hb⟩; (first | replace B := B.trans (hb.mono B.size) | replace B := B.drew.trans (hb.mono B.drew.size)))
    | (go_at_call 33; refine (implBoxArea _ _ _ _ _).mono ?_; rintro e w1 ⟨rfl, hb⟩; (first | replace B := B.trans (hb.mono B.size) | replace B := B.drew.trans (hb.mono B.drew.size))))
  all_goals
    go_wp2
    go_ret
    exact ⟨ret_int ((wrap_mid (by omega) (by omega)).trans H.out.symm), B0.trans (B.mono B0.size)⟩

end Go.Proofs.Ytokmphhpnoochab
