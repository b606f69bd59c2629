/- The specification's Join; how much a box grows, of both. -/
import Derived.Test.YthompofbdjdloaaGreatBoxS
import Derived.Test.YthompofbdjdloaaGreatBoxA
namespace Go.Proofs.YthompofbdjdloaaGreat
open Go.RowKit

theorem join_of {a b c d m n r s : Int} (h1 : boxOk a b c d = true) (h2 : boxOk m n r s = true) : bA [(a, b), (c, d), (m, n), (r, s)] = oA a b c d m n r s ∧ bB [(a, b), (c, d), (m, n), (r, s)] = oB a b c d m n r s ∧ bC [(a, b), (c, d), (m, n), (r, s)] = oC a b c d m n r s ∧ bD [(a, b), (c, d), (m, n), (r, s)] = oD a b c d m n r s := by
  have p1 := boxOk_le h1
  have p2 := boxOk_le h2
  have k1 : ptOk a b = true ∧ ptOk c d = true := by unfold boxOk at h1; simp only [Bool.and_eq_true] at h1; exact ⟨h1.1, h1.2.1⟩
  have k2 : ptOk m n = true ∧ ptOk r s = true := by unfold boxOk at h2; simp only [Bool.and_eq_true] at h2; exact ⟨h2.1, h2.2.1⟩
  have hb : bOk [(a, b), (c, d), (m, n), (r, s)] = true := by simp [bOk, okL, k1.1, k1.2, k2.1, k2.2]
  obtain ⟨e1, e2, e3, e4⟩ := b_good hb
  rw [e1, e2, e3, e4]
  unfold oA oB oC oD jA jB jC jD
  rw [h1, h2]
  simp only [hd, bxA, bxB, bxC, bxD, List.foldl_cons, List.foldl_nil, List.getElem?_cons_zero, Option.getD_some, Bool.or_self, if_true]
  omega
theorem seesP4 (w : World) (a b c d m n r s : Int) (t : TypeId) : SeesP (w.alloc (.cells #[.int .i64 a, .int .i64 b, .int .i64 c, .int .i64 d, .int .i64 m, .int .i64 n, .int .i64 r, .int .i64 s] t)) (some ⟨w.heap.size, 0, none⟩) 4 [(a, b), (c, d), (m, n), (r, s)] := by
  refine ⟨by simp, by simp [maxLen], fun _ => ⟨_, _, rfl, fun i hi => ?_⟩⟩
  have : i = 0 ∨ i = 1 ∨ i = 2 ∨ i = 3 := by simp at hi; omega
  rcases this with rfl | rfl | rfl | rfl
  all_goals exact ⟨cell_new _ _ _ _ rfl, cell_new _ _ _ _ rfl⟩

set_option maxHeartbeats 4000000 in
theorem specJoin (a b c d m n r s : Int) (w : World) :
    Calls Tryz.prog 114 #[.agg #[.int .i64 a, .int .i64 b, .int .i64 c, .int .i64 d], .agg #[.int .i64 m, .int .i64 n, .int .i64 r, .int .i64 s]] w fun e w' => e = .returned (.agg #[.int .i64 (oA a b c d m n r s), .int .i64 (oB a b c d m n r s), .int .i64 (oC a b c d m n r s), .int .i64 (oD a b c d m n r s)]) ∧ Below w.heap.size w w' := by
  have HO : Hid (oA a b c d m n r s = (if boxOk a b c d || boxOk m n r s then jA a b c d m n r s else 0) ∧ oB a b c d m n r s = (if boxOk a b c d || boxOk m n r s then jB a b c d m n r s else 0) ∧ oC a b c d m n r s = (if boxOk a b c d || boxOk m n r s then jC a b c d m n r s else 0) ∧ oD a b c d m n r s = (if boxOk a b c d || boxOk m n r s then jD a b c d m n r s else 0)) := ⟨rfl, rfl, rfl, rfl⟩
  have B := below3 w (.cells #[.int .i64 a, .int .i64 b, .int .i64 c, .int .i64 d] 28) (.cells #[.int .i64 m, .int .i64 n, .int .i64 r, .int .i64 s] 28) (.cells #[.int .i64 0, .int .i64 0, .int .i64 0, .int .i64 0] 28)
  have P0 := (Box4.new w (Nat.le_refl _) (.int .i64 a) (.int .i64 b) (.int .i64 c) (.int .i64 d) 28).below (below2 _ (.cells #[.int .i64 m, .int .i64 n, .int .i64 r, .int .i64 s] 28) (.cells #[.int .i64 0, .int .i64 0, .int .i64 0, .int .i64 0] 28))
  have P1 := (Box4.new (w.alloc (.cells #[.int .i64 a, .int .i64 b, .int .i64 c, .int .i64 d] 28)) (lo := w.heap.size) (by simp) (.int .i64 m) (.int .i64 n) (.int .i64 r) (.int .i64 s) 28).below (below1 _ (.cells #[.int .i64 0, .int .i64 0, .int .i64 0, .int .i64 0] 28))
  have P2 := Box4.new ((w.alloc (.cells #[.int .i64 a, .int .i64 b, .int .i64 c, .int .i64 d] 28)).alloc (.cells #[.int .i64 m, .int .i64 n, .int .i64 r, .int .i64 s] 28)) (lo := w.heap.size) (by simp; omega) (.int .i64 0) (.int .i64 0) (.int .i64 0) (.int .i64 0) 28
  simp only [World.size_alloc] at P1 P2
  go_enter Tryz.func114, Tryz.ntmps114
  go_wp2_with fail
  generalize (((w.alloc (.cells #[.int .i64 a, .int .i64 b, .int .i64 c, .int .i64 d] 28)).alloc (.cells #[.int .i64 m, .int .i64 n, .int .i64 r, .int .i64 s] 28)).alloc (.cells #[.int .i64 0, .int .i64 0, .int .i64 0, .int .i64 0] 28)) = W0 at *
  obtain ⟨a0, a1, a2, a3, _, _⟩ := id P0
  obtain ⟨b0, b1, b2, b3, _, _⟩ := id P1
  obtain ⟨d0, d1, d2, d3, df, _⟩ := id P2
  cases h1 : boxOk a b c d <;> cases h2 : boxOk m n r s
  · skip
    go_wp2_with (go_at_call 29; refine (specBoxOk _ _ _ _ _).mono ?_; rintro e w1 ⟨rfl, hb⟩; (first | rw [h1] | rw [h2]); replace B := B.trans (hb.mono B.size); replace P0 := P0.below hb; replace P1 := P1.below hb; replace P2 := P2.below hb; clear hb; obtain ⟨a0, a1, a2, a3, _, _⟩ := id P0; obtain ⟨b0, b1, b2, b3, _, _⟩ := id P1; obtain ⟨d0, d1, d2, d3, df, _⟩ := id P2)
    obtain ⟨o1, o2, o3, o4⟩ := HO.out
    rw [o1, o2, o3, o4, h1, h2]
    exact bodyPost_ret (v := _) (by simp [results, Tryz.results114, go_sem, d0, d1, d2, d3]; try rfl) rfl ⟨by simp, (((B.setCell (by simp; omega) _).setCell (by simp; omega) _).setCell (by simp; omega) _).setCell (by simp; omega) _⟩
  · skip
    go_wp2_with (go_at_call 29; refine (specBoxOk _ _ _ _ _).mono ?_; rintro e w1 ⟨rfl, hb⟩; (first | rw [h1] | rw [h2]); replace B := B.trans (hb.mono B.size); replace P0 := P0.below hb; replace P1 := P1.below hb; replace P2 := P2.below hb; clear hb; obtain ⟨a0, a1, a2, a3, _, _⟩ := id P0; obtain ⟨b0, b1, b2, b3, _, _⟩ := id P1; obtain ⟨d0, d1, d2, d3, df, _⟩ := id P2)
    obtain ⟨o1, o2, o3, o4⟩ := HO.out
    rw [o1, o2, o3, o4, h1, h2]
    exact bodyPost_ret (v := _) (by simp [results, Tryz.results114, go_sem, d0, d1, d2, d3]; try rfl) rfl ⟨by simp [jA, jB, jC, jD, h1, h2], (((B.setCell (by simp; omega) _).setCell (by simp; omega) _).setCell (by simp; omega) _).setCell (by simp; omega) _⟩
  · skip
    go_wp2_with (go_at_call 29; refine (specBoxOk _ _ _ _ _).mono ?_; rintro e w1 ⟨rfl, hb⟩; (first | rw [h1] | rw [h2]); replace B := B.trans (hb.mono B.size); replace P0 := P0.below hb; replace P1 := P1.below hb; replace P2 := P2.below hb; clear hb; obtain ⟨a0, a1, a2, a3, _, _⟩ := id P0; obtain ⟨b0, b1, b2, b3, _, _⟩ := id P1; obtain ⟨d0, d1, d2, d3, df, _⟩ := id P2)
    obtain ⟨o1, o2, o3, o4⟩ := HO.out
    rw [o1, o2, o3, o4, h1, h2]
    exact bodyPost_ret (v := _) (by simp [results, Tryz.results114, go_sem, d0, d1, d2, d3]; try rfl) rfl ⟨by simp [jA, jB, jC, jD, h2], (((B.setCell (by simp; omega) _).setCell (by simp; omega) _).setCell (by simp; omega) _).setCell (by simp; omega) _⟩
  · go_wp2_with (go_at_call 29; refine (specBoxOk _ _ _ _ _).mono ?_; rintro e w1 ⟨rfl, hb⟩; (first | rw [h1] | rw [h2]); replace B := B.trans (hb.mono B.size); replace P0 := P0.below hb; replace P1 := P1.below hb; replace P2 := P2.below hb; clear hb; obtain ⟨a0, a1, a2, a3, _, _⟩ := id P0; obtain ⟨b0, b1, b2, b3, _, _⟩ := id P1; obtain ⟨d0, d1, d2, d3, df, _⟩ := id P2)
    skip
    have bn := below1 w1 (.cells #[.int .i64 a, .int .i64 b, .int .i64 c, .int .i64 d, .int .i64 m, .int .i64 n, .int .i64 r, .int .i64 s] 26)
    have SP := seesP4 w1 a b c d m n r s 26
    replace B := B.trans (bn.mono B.size)
    replace P2 := P2.below bn
    clear bn P0 P1 a0 a1 a2 a3 b0 b1 b2 b3 d0 d1 d2 d3 df
    obtain ⟨e1, e2, e3, e4⟩ := join_of h1 h2
    refine (specBoxOf _ _ _ _ SP).mono ?_
    rintro e w2 ⟨rfl, hb⟩
    rw [e1, e2, e3, e4]
    clear e1 e2 e3 e4 SP
    replace B := B.trans (hb.mono B.size)
    replace P2 := P2.below hb
    clear hb
    have Z2 : w.heap.size + 1 + 1 < w2.heap.size := P2.lt
    obtain ⟨d0, d1, d2, d3, df, _⟩ := id P2
    go_wp2
    exact bodyPost_ret (v := .agg #[.int .i64 (oA a b c d m n r s), .int .i64 (oB a b c d m n r s), .int .i64 (oC a b c d m n r s), .int .i64 (oD a b c d m n r s)]) (by simp [results, Tryz.results114, go_sem, d0, d1, d2, d3, Z2]) rfl ⟨rfl, ((((B.setCell (by simp; omega) _).setCell (by simp; omega) _).setCell (by simp; omega) _).setCell (by simp; omega) _).alloc (by simp; omega) _⟩

def grn (a b c d m n r s : Int) : Int := area (oA a b c d m n r s) (oB a b c d m n r s) (oC a b c d m n r s) (oD a b c d m n r s) - area a b c d
theorem wrap_mid {z : Int} (h : -9000000000000000 ≤ z) (k : z ≤ 9000000000000000) : IntKind.i64.wrap z = z := by rw [IntKind.wrap_i64]; omega
theorem area_bounds (a b c d : Int) : -400000000000000 ≤ area a b c d ∧ area a b c d ≤ 400000000000000 := by
  rw [area_is]
  exact (wide_dif a b c d).mul (high_dif a b c d)

end Go.Proofs.YthompofbdjdloaaGreat
