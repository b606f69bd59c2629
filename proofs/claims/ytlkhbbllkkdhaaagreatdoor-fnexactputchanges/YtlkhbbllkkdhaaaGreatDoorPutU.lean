/- The bytes of a shape, of the specification: l8Put of each kind, PutShape. -/
import Derived.Test.YtlkhbbllkkdhaaaGreatDoorPutT
namespace Go.Proofs.YtlkhbbllkkdhaaaGreatDoor
open Go.RowKit

theorem flat_le {α : Type} (f : α → List Int) (C : Nat) {ps : List α} (h : ∀ i (hi : i < ps.length), (f ps[i]).length ≤ C) : ∀ j, j ≤ ps.length → ((ps.take j).flatMap f).length ≤ C * j
  | 0, _ => by simp
  | j + 1, hj => by
    have ih := flat_le f C h j (by omega)
    have := h j (by omega)
    rw [flat_step f (by omega), List.length_append, Nat.mul_add]
    omega
theorem rowA_at {rs : List (List (Int × Int))} {j : Nat} (h : j < rs.length) : rs[j] = rowA rs j := by unfold rowA; rw [List.getElem?_eq_getElem h]; rfl
theorem ptA_at {ps : List (Int × Int)} {j : Nat} (h : j < ps.length) : ps[j] = ptA ps j := by unfold ptA; rw [List.getElem?_eq_getElem h]; rfl

set_option maxRecDepth 20000 in
set_option maxHeartbeats 4000000 in
theorem l8Put1 (a : Option Addr) (c : Nat) (rs : List (List (Int × Int))) (w : World) (h : SeesS w a c rs) (hn : 0 < rs.length ∧ rs.length ≤ 12) (hl : ∀ i, i < rs.length → 0 < (rowA rs i).length ∧ (rowA rs i).length ≤ 60) :
    Calls Tryz.prog 16 #[.agg #[.int .i64 1, .slice a rs.length c]] w fun e w' => ∃ v', e = .returned v' ∧ RowB w.heap.size w' v' (shBy 1 rs) ∧ Below w.heap.size w w' := by
  obtain ⟨i8, hi8, hy0, hy1, hy2⟩ := info_parts infoB
  have hm := h.max
  have hf := h.fits
  unfold maxLen at hm
  have B0 := below1 w (.cells #[.int .i64 1, .slice a rs.length c] 42)
  have V0 := Box2.new w (lo := w.heap.size) (Nat.le_refl _) (.int .i64 1) (.slice a rs.length c) 42
  have S0 := h.below B0
  have HL : Hid (∀ i, i < rs.length → 0 < (rowA rs i).length ∧ (rowA rs i).length ≤ 60) := hl
  have HH : Hid (hdB 1 = [1] ++ leB 4 (tyN 1)) := rfl
  have HS : Hid (shBy 1 rs = hdB 1 ++ (ptB (ptA (rowA rs 0) 0).1 (ptA (rowA rs 0) 0).2)) := rfl
  have HD := hdB_len 1
  have ML4 : (leB 4 (tyN 1)).length = 4 := leB_len _ _
  have WT : Hid (IntKind.u64.wrap (tyN 1) = tyN 1) := by show IntKind.u64.wrap (tyN 1) = tyN 1; decide
  have TB : 0 ≤ tyN 1 ∧ tyN 1 ≤ 5 := by decide
  rw [HS.out]
  clear hl h HS
  obtain ⟨x, HX⟩ : ∃ x, Hid ((ptA (rowA rs 0) 0).1 = x) := ⟨_, rfl⟩
  obtain ⟨y, HY⟩ : ∃ y, Hid ((ptA (rowA rs 0) 0).2 = y) := ⟨_, rfl⟩
  rw [HX.out, HY.out]
  generalize HHd : hdB 1 = H at *
  go_enter Tryz.func16, Tryz.ntmps16
  go_upto_region 1 with fail
  generalize w.alloc (.cells #[.int .i64 1, .slice a rs.length c] 42) = W0 at *
  have hW := B0.size
  obtain ⟨b, off, rfl, hc⟩ := S0.cells (by intro e; rw [e] at hn; exact absurd hn.1 (by simp))
  have HC : Hid (∀ i, i < rs.length → ∃ a' c', W0.cell? ⟨b, off + i, none⟩ = some (.slice a' (rowA rs i).length c') ∧ SeesP W0 a' c' (rowA rs i)) := hc
  obtain ⟨t0, t1, _, _⟩ := id V0
  clear hc S0 V0
  have R1 := RowB.one W0 (base := W0.heap.size) (Nat.le_refl _) 1
  have N1 := below1 W0 (.cells #[.int .u8 1] 5)
  have z0 := bat N1 t0
  go_wp2_with fail
  generalize W0.alloc (.cells #[.int .u8 1] 5) = W1 at *
  refine (l8Type_any 1 (by omega) _).mono ?_
  rintro e w2 ⟨rfl, b2⟩
  have N2 := N1.trans (b2.mono N1.size)
  replace R1 := R1.below b2
  generalize hty : tyN 1 = ty at *
  clear b2 N1 z0
  go_wp2_with fail
  refine (l8Bytes_any ty 4 _ (by omega)).mono ?_
  rintro e w3 ⟨v3, rfl, R3, b3⟩
  rw [WT.out] at R3
  replace R1 := R1.below b3
  have N3 := N2.trans (b3.mono N2.size)
  obtain ⟨b4, c4, rfl, _, _⟩ := R3.shape (by intro e; rw [e] at ML4; cases ML4)
  have ML : (leB 4 ty).length ≤ 4 := by omega
  have hb3 := N3.size
  clear b3 N2 ML4
  generalize leB 4 ty = M at *
  go_wp2_with (at_builtin; (refine wpList_append_own_at _ rfl (.tmp 6) (.tmp 10) 24 rfl W0.heap.size 5 i8 (.int .u8 0) 1 1 Tryz.underlying24 hi8 hy0 hy1 hy2 rfl (by decide) (.slice (some ⟨W0.heap.size, 0, none⟩) 1 1) ([1] : List Int).length (([1] : List Int).map (Value.int .u8)) rfl R1 ⟨b4, 0, none⟩ M.length _ ((M : List Int).map (Value.int .u8)) rfl (by simp) R3.news (ones8 _) (by simp only [List.length_cons, List.length_nil]; unfold maxLen; omega) (by simp only [List.length_cons, List.length_nil]; omega) hb3 ?_; intro v7 w7 R7 G7 _ _; have N7 : Below W0.heap.size W0 w7 := N3.grown G7 hb3 (fun k hk => (World.ownsRow.lt R1 k hk).1); replace R7 : RowB W0.heap.size w7 v7 ([1] ++ M) := RowB.app R7; clear G7; rw [← HH.out] at R7; have hb7 := N7.size; clear R1 N3 R3 HH; have k0 := bat N7 t0; have k1 := bat N7 t1; obtain ⟨a', c', g0, PP⟩ := HC.out 0 hn.1; obtain ⟨l0, l1⟩ := HL.out 0 hn.1; simp only [Nat.add_zero] at g0; have PM := PP.max; have PF := PP.fits; unfold maxLen at PM; have g := bat N7 g0; obtain ⟨b', off', rfl, hp⟩ := PP.cells (by intro e; rw [e] at l0; exact absurd l0 (by simp)); obtain ⟨g1, g2⟩ := hp 0 l0; simp only [Nat.zero_mul, Nat.add_zero] at g1 g2; have g3 : w7.cell? ⟨b', off', none⟩ = some (.int .i64 x) := (by rw [← HX.out]; exact bat N7 g1); have g4 : w7.cell? ⟨b', off' + 1, none⟩ = some (.int .i64 y) := (by rw [← HY.out]; exact bat N7 g2); clear hp g1 g2 g0; generalize (rowA rs 0).length = m at *))
  go_at_call 26
  refine (l8Pt_any x y _).mono ?_
  rintro e w8 ⟨v8, rfl, R8, b8⟩
  have PL := ptB_len x y
  obtain ⟨b9, c9, rfl, _, _⟩ := R8.shape (by intro e; rw [e] at PL; cases PL)
  replace R7 := R7.below b8
  have N8 := N7.trans (b8.mono N7.size)
  have hb8 := N8.size
  have PL2 : (ptB x y).length ≤ 16 := by omega
  clear PL b8 N7
  generalize HQ : ptB x y = Q at *
  go_wp2_with (at_builtin; (refine wpList_append_own_at _ rfl (.tmp 16) (.tmp 23) 24 rfl W0.heap.size 5 i8 (.int .u8 0) 1 1 Tryz.underlying24 hi8 hy0 hy1 hy2 rfl (by decide) v7 (H : List Int).length ((H : List Int).map (Value.int .u8)) rfl R7 ⟨b9, 0, none⟩ (Q).length _ ((Q : List Int).map (Value.int .u8)) rfl (by simp) R8.news (ones8 _) (by unfold maxLen; omega) (by omega) hb8 ?_; intro v10 w10 R10 G10 _ _; have N10 : Below W0.heap.size W0 w10 := N8.grown G10 hb8 (fun k hk => (World.ownsRow.lt R7 k hk).1); replace R10 : RowB W0.heap.size w10 v10 ((H) ++ (Q)) := RowB.app R10; clear G10))
  go_ret
  exact ⟨_, rfl, by rw [HQ]; exact row_base R10 hW, B0.trans (N10.mono hW)⟩

set_option maxRecDepth 20000 in
set_option maxHeartbeats 4000000 in
theorem l8Put3 (a : Option Addr) (c : Nat) (rs : List (List (Int × Int))) (w : World) (h : SeesS w a c rs) (hn : 0 < rs.length ∧ rs.length ≤ 12) (hl : ∀ i, i < rs.length → 0 < (rowA rs i).length ∧ (rowA rs i).length ≤ 60) :
    Calls Tryz.prog 16 #[.agg #[.int .i64 3, .slice a rs.length c]] w fun e w' => ∃ v', e = .returned v' ∧ RowB w.heap.size w' v' (shBy 3 rs) ∧ Below w.heap.size w w' := by
  obtain ⟨i8, hi8, hy0, hy1, hy2⟩ := info_parts infoB
  have hm := h.max
  have hf := h.fits
  unfold maxLen at hm
  have B0 := below1 w (.cells #[.int .i64 3, .slice a rs.length c] 42)
  have V0 := Box2.new w (lo := w.heap.size) (Nat.le_refl _) (.int .i64 3) (.slice a rs.length c) 42
  have S0 := h.below B0
  have HL : Hid (∀ i, i < rs.length → 0 < (rowA rs i).length ∧ (rowA rs i).length ≤ 60) := hl
  have HH : Hid (hdB 3 = [1] ++ leB 4 (tyN 3)) := rfl
  have HS : Hid (shBy 3 rs = hdB 3 ++ (lnB (rowA rs 0))) := rfl
  have HD := hdB_len 3
  have ML4 : (leB 4 (tyN 3)).length = 4 := leB_len _ _
  have WT : Hid (IntKind.u64.wrap (tyN 3) = tyN 3) := by show IntKind.u64.wrap (tyN 3) = tyN 3; decide
  have TB : 0 ≤ tyN 3 ∧ tyN 3 ≤ 5 := by decide
  rw [HS.out]
  clear hl h HS
  generalize HHd : hdB 3 = H at *
  go_enter Tryz.func16, Tryz.ntmps16
  go_upto_region 1 with fail
  generalize w.alloc (.cells #[.int .i64 3, .slice a rs.length c] 42) = W0 at *
  have hW := B0.size
  obtain ⟨b, off, rfl, hc⟩ := S0.cells (by intro e; rw [e] at hn; exact absurd hn.1 (by simp))
  have HC : Hid (∀ i, i < rs.length → ∃ a' c', W0.cell? ⟨b, off + i, none⟩ = some (.slice a' (rowA rs i).length c') ∧ SeesP W0 a' c' (rowA rs i)) := hc
  obtain ⟨t0, t1, _, _⟩ := id V0
  clear hc S0 V0
  have R1 := RowB.one W0 (base := W0.heap.size) (Nat.le_refl _) 1
  have N1 := below1 W0 (.cells #[.int .u8 1] 5)
  have z0 := bat N1 t0
  go_wp2_with fail
  generalize W0.alloc (.cells #[.int .u8 1] 5) = W1 at *
  refine (l8Type_any 3 (by omega) _).mono ?_
  rintro e w2 ⟨rfl, b2⟩
  have N2 := N1.trans (b2.mono N1.size)
  replace R1 := R1.below b2
  generalize hty : tyN 3 = ty at *
  clear b2 N1 z0
  go_wp2_with fail
  refine (l8Bytes_any ty 4 _ (by omega)).mono ?_
  rintro e w3 ⟨v3, rfl, R3, b3⟩
  rw [WT.out] at R3
  replace R1 := R1.below b3
  have N3 := N2.trans (b3.mono N2.size)
  obtain ⟨b4, c4, rfl, _, _⟩ := R3.shape (by intro e; rw [e] at ML4; cases ML4)
  have ML : (leB 4 ty).length ≤ 4 := by omega
  have hb3 := N3.size
  clear b3 N2 ML4
  generalize leB 4 ty = M at *
  go_wp2_with (at_builtin; (refine wpList_append_own_at _ rfl (.tmp 6) (.tmp 10) 24 rfl W0.heap.size 5 i8 (.int .u8 0) 1 1 Tryz.underlying24 hi8 hy0 hy1 hy2 rfl (by decide) (.slice (some ⟨W0.heap.size, 0, none⟩) 1 1) ([1] : List Int).length (([1] : List Int).map (Value.int .u8)) rfl R1 ⟨b4, 0, none⟩ M.length _ ((M : List Int).map (Value.int .u8)) rfl (by simp) R3.news (ones8 _) (by simp only [List.length_cons, List.length_nil]; unfold maxLen; omega) (by simp only [List.length_cons, List.length_nil]; omega) hb3 ?_; intro v7 w7 R7 G7 _ _; have N7 : Below W0.heap.size W0 w7 := N3.grown G7 hb3 (fun k hk => (World.ownsRow.lt R1 k hk).1); replace R7 : RowB W0.heap.size w7 v7 ([1] ++ M) := RowB.app R7; clear G7; rw [← HH.out] at R7; have hb7 := N7.size; clear R1 N3 R3 HH; have k0 := bat N7 t0; have k1 := bat N7 t1; obtain ⟨a', c', g0, PP⟩ := HC.out 0 hn.1; obtain ⟨l0, l1⟩ := HL.out 0 hn.1; simp only [Nat.add_zero] at g0; have PM := PP.max; have PF := PP.fits; unfold maxLen at PM; have g := bat N7 g0; have P7 := PP.below N7; clear g0 PP; have LN := lnB_len (rowA rs 0)))
  go_at_call 27
  refine (l8Row_any false a' c' (rowA rs 0) _ P7 l0 l1).mono ?_
  rintro e w8 ⟨v8, rfl, R8, b8⟩
  replace R8 : RowB w7.heap.size w8 v8 (lnB (rowA rs 0)) := R8
  obtain ⟨b9, c9, rfl, _, _⟩ := R8.shape (by intro e; rw [e] at LN; simp at LN; omega)
  replace R7 := R7.below b8
  have N8 := N7.trans (b8.mono N7.size)
  have hb8 := N8.size
  have PL2 : (lnB (rowA rs 0)).length ≤ 1000 := by omega
  clear LN b8 N7 P7
  generalize HQ : lnB (rowA rs 0) = Q at *
  go_wp2_with (at_builtin; (refine wpList_append_own_at _ rfl (.tmp 27) (.tmp 32) 24 rfl W0.heap.size 5 i8 (.int .u8 0) 1 1 Tryz.underlying24 hi8 hy0 hy1 hy2 rfl (by decide) v7 (H : List Int).length ((H : List Int).map (Value.int .u8)) rfl R7 ⟨b9, 0, none⟩ (Q).length _ ((Q : List Int).map (Value.int .u8)) rfl (by simp) R8.news (ones8 _) (by unfold maxLen; omega) (by omega) hb8 ?_; intro v10 w10 R10 G10 _ _; have N10 : Below W0.heap.size W0 w10 := N8.grown G10 hb8 (fun k hk => (World.ownsRow.lt R7 k hk).1); replace R10 : RowB W0.heap.size w10 v10 ((H) ++ (Q)) := RowB.app R10; clear G10))
  go_ret
  exact ⟨_, rfl, by rw [HQ]; exact row_base R10 hW, B0.trans (N10.mono hW)⟩

set_option maxRecDepth 20000 in
set_option maxHeartbeats 4000000 in
theorem l8Put2 (a : Option Addr) (c : Nat) (rs : List (List (Int × Int))) (w : World) (h : SeesS w a c rs) (hn : 0 < rs.length ∧ rs.length ≤ 12) (hl : ∀ i, i < rs.length → 0 < (rowA rs i).length ∧ (rowA rs i).length ≤ 60) :
    Calls Tryz.prog 16 #[.agg #[.int .i64 2, .slice a rs.length c]] w fun e w' => ∃ v', e = .returned v' ∧ RowB w.heap.size w' v' (shBy 2 rs) ∧ Below w.heap.size w w' := by
  obtain ⟨i8, hi8, hy0, hy1, hy2⟩ := info_parts infoB
  have hm := h.max
  have hf := h.fits
  unfold maxLen at hm
  have B0 := below1 w (.cells #[.int .i64 2, .slice a rs.length c] 42)
  have V0 := Box2.new w (lo := w.heap.size) (Nat.le_refl _) (.int .i64 2) (.slice a rs.length c) 42
  have S0 := h.below B0
  have HL : Hid (∀ i, i < rs.length → 0 < (rowA rs i).length ∧ (rowA rs i).length ≤ 60) := hl
  have HH : Hid (hdB 2 = [1] ++ leB 4 (tyN 2)) := rfl
  have HS : Hid (shBy 2 rs = hdB 2 ++ (leB 4 (rowA rs 0).length ++ (rowA rs 0).flatMap ptP)) := rfl
  have HD := hdB_len 2
  have ML4 : (leB 4 (tyN 2)).length = 4 := leB_len _ _
  have WT : Hid (IntKind.u64.wrap (tyN 2) = tyN 2) := by show IntKind.u64.wrap (tyN 2) = tyN 2; decide
  have TB : 0 ≤ tyN 2 ∧ tyN 2 ≤ 5 := by decide
  rw [HS.out]
  clear hl h HS
  generalize HHd : hdB 2 = H at *
  go_enter Tryz.func16, Tryz.ntmps16
  go_upto_region 1 with fail
  generalize w.alloc (.cells #[.int .i64 2, .slice a rs.length c] 42) = W0 at *
  have hW := B0.size
  obtain ⟨b, off, rfl, hc⟩ := S0.cells (by intro e; rw [e] at hn; exact absurd hn.1 (by simp))
  have HC : Hid (∀ i, i < rs.length → ∃ a' c', W0.cell? ⟨b, off + i, none⟩ = some (.slice a' (rowA rs i).length c') ∧ SeesP W0 a' c' (rowA rs i)) := hc
  obtain ⟨t0, t1, _, _⟩ := id V0
  clear hc S0 V0
  have R1 := RowB.one W0 (base := W0.heap.size) (Nat.le_refl _) 1
  have N1 := below1 W0 (.cells #[.int .u8 1] 5)
  have z0 := bat N1 t0
  go_wp2_with fail
  generalize W0.alloc (.cells #[.int .u8 1] 5) = W1 at *
  refine (l8Type_any 2 (by omega) _).mono ?_
  rintro e w2 ⟨rfl, b2⟩
  have N2 := N1.trans (b2.mono N1.size)
  replace R1 := R1.below b2
  generalize hty : tyN 2 = ty at *
  clear b2 N1 z0
  go_wp2_with fail
  refine (l8Bytes_any ty 4 _ (by omega)).mono ?_
  rintro e w3 ⟨v3, rfl, R3, b3⟩
  rw [WT.out] at R3
  replace R1 := R1.below b3
  have N3 := N2.trans (b3.mono N2.size)
  obtain ⟨b4, c4, rfl, _, _⟩ := R3.shape (by intro e; rw [e] at ML4; cases ML4)
  have ML : (leB 4 ty).length ≤ 4 := by omega
  have hb3 := N3.size
  clear b3 N2 ML4
  generalize leB 4 ty = M at *
  go_wp2_with (at_builtin; (refine wpList_append_own_at _ rfl (.tmp 6) (.tmp 10) 24 rfl W0.heap.size 5 i8 (.int .u8 0) 1 1 Tryz.underlying24 hi8 hy0 hy1 hy2 rfl (by decide) (.slice (some ⟨W0.heap.size, 0, none⟩) 1 1) ([1] : List Int).length (([1] : List Int).map (Value.int .u8)) rfl R1 ⟨b4, 0, none⟩ M.length _ ((M : List Int).map (Value.int .u8)) rfl (by simp) R3.news (ones8 _) (by simp only [List.length_cons, List.length_nil]; unfold maxLen; omega) (by simp only [List.length_cons, List.length_nil]; omega) hb3 ?_; intro v7 w7 R7 G7 _ _; have N7 : Below W0.heap.size W0 w7 := N3.grown G7 hb3 (fun k hk => (World.ownsRow.lt R1 k hk).1); replace R7 : RowB W0.heap.size w7 v7 ([1] ++ M) := RowB.app R7; clear G7; rw [← HH.out] at R7; have hb7 := N7.size; clear R1 N3 R3 HH; have k0 := bat N7 t0; have k1 := bat N7 t1; obtain ⟨a', c', g0, PP⟩ := HC.out 0 hn.1; obtain ⟨l0, l1⟩ := HL.out 0 hn.1; simp only [Nat.add_zero] at g0; have PM := PP.max; have PF := PP.fits; unfold maxLen at PM; have g := bat N7 g0))
  go_at_call 15
  refine (l8Bytes_any ((rowA rs 0).length : Int) 4 _ (by omega)).mono ?_
  rintro e w8 ⟨v8, rfl, R8, b8⟩
  have WL : IntKind.u64.wrap ((rowA rs 0).length : Int) = (rowA rs 0).length := by rw [IntKind.wrap_u64]; omega
  rw [WL] at R8
  have PL := leB_len 4 ((rowA rs 0).length : Int)
  obtain ⟨b9, c9, rfl, _, _⟩ := R8.shape (by intro e; rw [e] at PL; cases PL)
  replace R7 := R7.below b8
  have N8 := N7.trans (b8.mono N7.size)
  have hb8 := N8.size
  have PL2 : (leB 4 ((rowA rs 0).length : Int)).length ≤ 4 := by omega
  clear PL b8 N7 WL g k0 k1
  obtain ⟨ps, HP⟩ : ∃ ps, Hid (rowA rs 0 = ps) := ⟨_, rfl⟩
  rw [HP.out] at PP l0 l1 g0 PF R8 PL2 ⊢
  obtain ⟨b', off', rfl, hp⟩ := PP.cells (by intro e; rw [e] at l0; exact absurd l0 (by simp))
  have HPP : Hid (∀ i, i < ps.length → W0.cell? ⟨b', off' + i * 2, none⟩ = some (.int .i64 (ps[i]?.getD (0, 0)).1) ∧ W0.cell? ⟨b', off' + i * 2 + 1, none⟩ = some (.int .i64 (ps[i]?.getD (0, 0)).2)) := hp
  clear hp
  generalize HQ : leB 4 (ps.length : Int) = Q at *
  have FL : Hid (∀ j, j ≤ ps.length → ((ps.take j).flatMap ptP).length ≤ 21 * j) := flat_le ptP 21 (fun i hi => by unfold ptP; rw [List.length_append, hdB_len, ptB_len]; omega)
  go_wp2_with (at_builtin; (refine wpList_append_own_at _ rfl (.tmp 36) (.tmp 42) 24 rfl W0.heap.size 5 i8 (.int .u8 0) 1 1 Tryz.underlying24 hi8 hy0 hy1 hy2 rfl (by decide) v7 (H : List Int).length ((H : List Int).map (Value.int .u8)) rfl R7 ⟨b9, 0, none⟩ (Q).length _ ((Q : List Int).map (Value.int .u8)) rfl (by simp) R8.news (ones8 _) (by unfold maxLen; omega) (by omega) hb8 ?_; intro v10 w10 R10 G10 _ _; have N10 : Below W0.heap.size W0 w10 := N8.grown G10 hb8 (fun k hk => (World.ownsRow.lt R7 k hk).1); replace R10 : RowB W0.heap.size w10 v10 ((H) ++ (Q)) := RowB.app R10; clear G10))
  clear R7 N8 R8
  have HQL : (H ++ Q).length ≤ 9 := by rw [List.length_append]; omega
  generalize HHQ : H ++ Q = HQ0 at *
  go_loopw [3, 4] (fun s3 s4 wr => ∃ j : Nat, j ≤ ps.length ∧ s4 = .int .i64 j ∧ RowB W0.heap.size wr s3 (HQ0 ++ (ps.take j).flatMap ptP) ∧ Below W0.heap.size W0 wr) (fun _ s4 _ => ps.length - (intOf s4).toNat)
  case atStart => exact ⟨0, Nat.zero_le _, rfl, by simpa using R10, N10⟩
  case round =>
    clear R10 N10
    obtain ⟨j, hj, rfl, RR, B⟩ := hrel
    rename World => wr
    have q0 := bat B t1
    have q1 := bat B g0
    by_cases hlt : j < ps.length
    · obtain ⟨p1, p2⟩ := HPP.out j hlt
      have FS : (ps.take (j + 1)).flatMap ptP = (ps.take j).flatMap ptP ++ (hdB 1 ++ ptB (ptA ps j).1 (ptA ps j).2) := by rw [flat_step ptP hlt, ptA_at hlt]; rfl
      have LL := FL.out j (by omega)
      have LL2 : (HQ0 ++ (ps.take j).flatMap ptP).length ≤ 1500 := by rw [List.length_append]; omega
      unfold ptA at FS
      generalize (ps[j]?.getD (0, 0)).1 = x at *
      generalize (ps[j]?.getD (0, 0)).2 = y at *
      clear LL
      generalize HLL : HQ0 ++ (ps.take j).flatMap ptP = L at *
      have h1 : hdB 1 = [1] ++ leB 4 1 := rfl
      have PL4 := leB_len 4 1
      have PLX := ptB_len x y
      go_wp2_with fail
      have N := (B.drew : Below W0.heap.size W0 _)
      have RW := RR.below ((Below.refl _ _).drew)
      refine wp_region_held_drew (S := Below W0.heap.size W0) (by kernel_rfl) N (fun hHeld => ?_)
      clear hHeld
      revert N RW
      generalize wr.drew = ww0
      intro N RW
      refine takeW (i := 0) (by simp only [List.getElem?_toArray, List.getElem?_cons_zero]; exact rfl) (by kernel_rfl) (by kernel_rfl) (by kernel_rfl) (by exact fun _ _ _ h => h) (by rfl) (by intro wq hSw; go_simp <;> with_reducible rfl) (by assumption) ?_
      try simp only [Act.put, List.setIfInBounds_toArray, List.set_cons_zero, List.set_cons_succ]
      refine takeW (i := 5) (by simp only [List.getElem?_toArray, List.getElem?_cons_succ, List.getElem?_cons_zero]; exact rfl) (by kernel_rfl) (by kernel_rfl) (by kernel_rfl) (by exact fun _ _ _ h => h) (by rfl) (by intro wq hSw; go_simp <;> with_reducible rfl) (by assumption) ?_
      try simp only [Act.put, List.setIfInBounds_toArray, List.set_cons_zero, List.set_cons_succ]
      refine takeW (i := 6) (by simp only [List.getElem?_toArray, List.getElem?_cons_succ, List.getElem?_cons_zero]; exact rfl) (by kernel_rfl) (by kernel_rfl) (by kernel_rfl) (by exact fun _ _ _ h => h) (by rfl) (by intro wq hSw; have z1 := bat hSw t1; have z2 := bat hSw g0; have z3 := bat hSw p1; have z4 := bat hSw p2; go_simp <;> with_reducible rfl) (by assumption) ?_
      try simp only [Act.put, List.setIfInBounds_toArray, List.set_cons_zero, List.set_cons_succ]
      refine takeW (i := 7) (by simp only [List.getElem?_toArray, List.getElem?_cons_succ, List.getElem?_cons_zero]; exact rfl) (by kernel_rfl) (by kernel_rfl) (by kernel_rfl) (by exact fun _ _ _ h => h) (by rfl) (by intro wq hSw; go_simp <;> with_reducible rfl) (by assumption) ?_
      try simp only [Act.put, List.setIfInBounds_toArray, List.set_cons_zero, List.set_cons_succ]
      refine takeW (i := 8) (by simp only [List.getElem?_toArray, List.getElem?_cons_succ, List.getElem?_cons_zero]; exact rfl) (by kernel_rfl) (by kernel_rfl) (by kernel_rfl) (by exact fun _ _ _ h => h) (by rfl) (by intro wq hSw; have z1 := bat hSw t1; have z2 := bat hSw g0; have z3 := bat hSw p1; have z4 := bat hSw p2; go_simp <;> with_reducible rfl) (by assumption) ?_
      try simp only [Act.put, List.setIfInBounds_toArray, List.set_cons_zero, List.set_cons_succ]
      refine takeW (i := 9) (by simp only [List.getElem?_toArray, List.getElem?_cons_succ, List.getElem?_cons_zero]; exact rfl) (by kernel_rfl) (by kernel_rfl) (by kernel_rfl) (by exact fun _ _ _ h => h) (by rfl) (by intro wq hSw; go_simp <;> with_reducible rfl) (by assumption) ?_
      try simp only [Act.put, List.setIfInBounds_toArray, List.set_cons_zero, List.set_cons_succ]
      refine takeW (i := 10) (by simp only [List.getElem?_toArray, List.getElem?_cons_succ, List.getElem?_cons_zero]; exact rfl) (by kernel_rfl) (by kernel_rfl) (by kernel_rfl) (by exact fun _ _ _ h => h) (by rfl) (by intro wq hSw; go_simp <;> with_reducible rfl) (by assumption) ?_
      try simp only [Act.put, List.setIfInBounds_toArray, List.set_cons_zero, List.set_cons_succ]
      refine takeW (i := 11) (by simp only [List.getElem?_toArray, List.getElem?_cons_succ, List.getElem?_cons_zero]; exact rfl) (by kernel_rfl) (by kernel_rfl) (by kernel_rfl) (by exact fun _ _ _ h => h) (by rfl) (by intro wq hSw; have z1 := bat hSw t1; have z2 := bat hSw g0; have z3 := bat hSw p1; have z4 := bat hSw p2; go_simp <;> with_reducible rfl) (by assumption) ?_
      try simp only [Act.put, List.setIfInBounds_toArray, List.set_cons_zero, List.set_cons_succ]
      refine wpAnyH_ready (rs := [1]) (by kernel_rfl) (by simp) (AllReadyH.cons (by simp only [List.getElem?_toArray, List.getElem?_cons_succ, List.getElem?_cons_zero]; exact rfl) (fun K hK => ?_) AllReadyH.nil)
      go_simp
      have bn := below1 ww0 (.cells #[.int .u8 1] 5)
      have NN1 := N.trans (bn.mono N.size)
      have RW1 := RW.below bn
      have NW := one_new8 ww0 5 1
      have nz1 := NN1.size
      refine hK.out _ _ NN1 (fun hHeld => ?_)
      clear hK K hHeld bn
      try simp only [Act.put, List.setIfInBounds_toArray, List.set_cons_zero, List.set_cons_succ]
      generalize hz9 : ww0.heap.size = z9 at *
      generalize ww0.alloc (.cells #[.int .u8 1] 5) = ww1 at *
      refine wpAnyH_ready (rs := [2]) (by kernel_rfl) (by simp) (AllReadyH.cons (by simp only [List.getElem?_toArray, List.getElem?_cons_succ, List.getElem?_cons_zero]; exact rfl) (fun K hK => ?_) AllReadyH.nil)
      refine wp_append_own _ (.tmp 53) (.tmp 54) 24 rfl W0.heap.size 5 i8 (.int .u8 0) 1 1 Tryz.underlying24 hi8 hy0 hy1 hy2 rfl (by decide) u3 (L : List Int).length ((L : List Int).map (Value.int .u8)) rfl RW1 ⟨z9, 0, none⟩ ([1] : List Int).length _ (([1] : List Int).map (Value.int .u8)) rfl (by simp) NW (ones8 _) (by simp only [List.length_cons, List.length_nil]; unfold maxLen; omega) (by simp only [List.length_cons, List.length_nil]; omega) nz1 ?_
      intro v11 w11 R11 G11 _
      have N11 : Below W0.heap.size W0 w11 := NN1.grown G11 nz1 (fun k hk => (World.ownsRow.lt RW1 k hk).1)
      replace R11 : RowB W0.heap.size w11 v11 ((L) ++ ([1])) := RowB.app R11
      have hb11 := N11.size
      refine hK.out _ _ N11 (fun hHeld => ?_)
      clear hK K hHeld G11
      try simp only [Act.put, List.setIfInBounds_toArray, List.set_cons_zero, List.set_cons_succ]
      refine wpAnyH_ready (rs := [3]) (by kernel_rfl) (by simp) (AllReadyH.cons (by simp only [List.getElem?_toArray, List.getElem?_cons_succ, List.getElem?_cons_zero]; exact rfl) (fun K hK => ?_) AllReadyH.nil)
      go_simp
      go_at_call 15
      refine (l8Bytes_any 1 4 _ (by omega)).mono ?_
      rintro e w12 ⟨v12, rfl, R12, b12⟩
      have N12 := N11.trans (b12.mono N11.size)
      replace R11 := R11.below b12
      replace R12 : RowB w11.heap.size w12 v12 (leB 4 1) := R12
      obtain ⟨b9, c9, rfl, _, _⟩ := R12.shape (by intro e; rw [e] at PL4; cases PL4)
      have hb12 := N12.size
      refine hK.out _ _ N12 (fun hHeld => ?_)
      clear hK K hHeld b12
      try simp only [Act.put, List.setIfInBounds_toArray, List.set_cons_zero, List.set_cons_succ]
      generalize HQ4 : leB 4 1 = Q4 at *
      refine wpAnyH_ready (rs := [4]) (by kernel_rfl) (by simp) (AllReadyH.cons (by simp only [List.getElem?_toArray, List.getElem?_cons_succ, List.getElem?_cons_zero]; exact rfl) (fun K hK => ?_) AllReadyH.nil)
      refine wp_append_own _ (.tmp 55) (.tmp 56) 24 rfl W0.heap.size 5 i8 (.int .u8 0) 1 1 Tryz.underlying24 hi8 hy0 hy1 hy2 rfl (by decide) v11 (L ++ [1] : List Int).length ((L ++ [1] : List Int).map (Value.int .u8)) rfl R11 ⟨b9, 0, none⟩ (Q4 : List Int).length _ ((Q4 : List Int).map (Value.int .u8)) rfl (by simp) R12.news (ones8 _) (by simp only [List.length_append, List.length_cons, List.length_nil]; unfold maxLen; omega) (by simp only [List.length_append, List.length_cons, List.length_nil]; omega) hb12 ?_
      intro v13 w13 R13 G13 _
      have N13 : Below W0.heap.size W0 w13 := N12.grown G13 hb12 (fun k hk => (World.ownsRow.lt R11 k hk).1)
      replace R13 : RowB W0.heap.size w13 v13 ((L ++ [1]) ++ (Q4)) := RowB.app R13
      have hb13 := N13.size
      refine hK.out _ _ N13 (fun hHeld => ?_)
      clear hK K hHeld G13
      try simp only [Act.put, List.setIfInBounds_toArray, List.set_cons_zero, List.set_cons_succ]
      refine wpAnyH_ready (rs := [12]) (by kernel_rfl) (by simp) (AllReadyH.cons (by simp only [List.getElem?_toArray, List.getElem?_cons_succ, List.getElem?_cons_zero]; exact rfl) (fun K hK => ?_) AllReadyH.nil)
      go_simp
      go_at_call 26
      refine (l8Pt_any x y _).mono ?_
      rintro e w14 ⟨v14, rfl, R14, b14⟩
      have N14 := N13.trans (b14.mono N13.size)
      replace R13 := R13.below b14
      obtain ⟨b99, c99, rfl, _, _⟩ := R14.shape (by intro e; rw [e] at PLX; cases PLX)
      have hb14 := N14.size
      refine hK.out _ _ N14 (fun hHeld => ?_)
      clear hK K hHeld b14
      try simp only [Act.put, List.setIfInBounds_toArray, List.set_cons_zero, List.set_cons_succ]
      generalize HQX : ptB x y = QX at *
      refine wpAnyH_ready (rs := [13]) (by kernel_rfl) (by simp) (AllReadyH.cons (by simp only [List.getElem?_toArray, List.getElem?_cons_succ, List.getElem?_cons_zero]; exact rfl) (fun K hK => ?_) AllReadyH.nil)
      refine wp_append_own _ (.tmp 57) (.tmp 65) 24 rfl W0.heap.size 5 i8 (.int .u8 0) 1 1 Tryz.underlying24 hi8 hy0 hy1 hy2 rfl (by decide) v13 (L ++ [1] ++ Q4 : List Int).length ((L ++ [1] ++ Q4 : List Int).map (Value.int .u8)) rfl R13 ⟨b99, 0, none⟩ (QX : List Int).length _ ((QX : List Int).map (Value.int .u8)) rfl (by simp) R14.news (ones8 _) (by simp only [List.length_append, List.length_cons, List.length_nil]; unfold maxLen; omega) (by simp only [List.length_append, List.length_cons, List.length_nil]; omega) hb14 ?_
      intro v15 w15 R15 G15 _
      have N15 : Below W0.heap.size W0 w15 := N14.grown G15 hb14 (fun k hk => (World.ownsRow.lt R13 k hk).1)
      replace R15 : RowB W0.heap.size w15 v15 ((L ++ [1] ++ Q4) ++ (QX)) := RowB.app R15
      have hb15 := N15.size
      refine hK.out _ _ N15 (fun hHeld => ?_)
      clear hK K hHeld G15
      try simp only [Act.put, List.setIfInBounds_toArray, List.set_cons_zero, List.set_cons_succ]
      refine takeW (i := 14) (by simp only [List.getElem?_toArray, List.getElem?_cons_succ, List.getElem?_cons_zero]; exact rfl) (by kernel_rfl) (by kernel_rfl) (by kernel_rfl) (by exact fun _ _ _ h => h) (by rfl) (by intro wq hSw; go_simp <;> with_reducible rfl) (by assumption) ?_
      try simp only [Act.put, List.setIfInBounds_toArray, List.set_cons_zero, List.set_cons_succ]
      refine wpAnyH_done (by kernel_rfl) ?_ _
      go_wp2
      go_roundw
      case rel =>
        refine ⟨j + 1, by omega, by go_num, ?_, N15⟩
        rw [FS, ← List.append_assoc, HLL, h1]
        simp only [← List.append_assoc]
        exact R15
      case measure => simp [intOf]; omega
    · obtain rfl : j = ps.length := by omega
      rw [List.take_length] at RR
      go_wp2
      go_ret
      exact ⟨_, rfl, by rw [HP.out, HQ, ← List.append_assoc, HHQ]; exact row_base RR hW, B0.trans (B.mono hW)⟩

set_option maxRecDepth 20000 in
set_option maxHeartbeats 4000000 in
theorem l8Put4 (a : Option Addr) (c : Nat) (rs : List (List (Int × Int))) (w : World) (h : SeesS w a c rs) (hn : 0 < rs.length ∧ rs.length ≤ 12) (hl : ∀ i, i < rs.length → 0 < (rowA rs i).length ∧ (rowA rs i).length ≤ 60) :
    Calls Tryz.prog 16 #[.agg #[.int .i64 4, .slice a rs.length c]] w fun e w' => ∃ v', e = .returned v' ∧ RowB w.heap.size w' v' (shBy 4 rs) ∧ Below w.heap.size w w' := by
  obtain ⟨i8, hi8, hy0, hy1, hy2⟩ := info_parts infoB
  have hm := h.max
  have hf := h.fits
  unfold maxLen at hm
  have B0 := below1 w (.cells #[.int .i64 4, .slice a rs.length c] 42)
  have V0 := Box2.new w (lo := w.heap.size) (Nat.le_refl _) (.int .i64 4) (.slice a rs.length c) 42
  have S0 := h.below B0
  have HL : Hid (∀ i, i < rs.length → 0 < (rowA rs i).length ∧ (rowA rs i).length ≤ 60) := hl
  have HH : Hid (hdB 4 = [1] ++ leB 4 (tyN 4)) := rfl
  have HS : Hid (shBy 4 rs = hdB 4 ++ (leB 4 rs.length ++ rs.flatMap lnP)) := rfl
  have HD := hdB_len 4
  have ML4 : (leB 4 (tyN 4)).length = 4 := leB_len _ _
  have WT : Hid (IntKind.u64.wrap (tyN 4) = tyN 4) := by show IntKind.u64.wrap (tyN 4) = tyN 4; decide
  have TB : 0 ≤ tyN 4 ∧ tyN 4 ≤ 5 := by decide
  rw [HS.out]
  clear hl h HS
  generalize HHd : hdB 4 = H at *
  go_enter Tryz.func16, Tryz.ntmps16
  go_upto_region 1 with fail
  generalize w.alloc (.cells #[.int .i64 4, .slice a rs.length c] 42) = W0 at *
  have hW := B0.size
  obtain ⟨b, off, rfl, hc⟩ := S0.cells (by intro e; rw [e] at hn; exact absurd hn.1 (by simp))
  have HC : Hid (∀ i, i < rs.length → ∃ a' c', W0.cell? ⟨b, off + i, none⟩ = some (.slice a' (rowA rs i).length c') ∧ SeesP W0 a' c' (rowA rs i)) := hc
  obtain ⟨t0, t1, _, _⟩ := id V0
  clear hc S0 V0
  have R1 := RowB.one W0 (base := W0.heap.size) (Nat.le_refl _) 1
  have N1 := below1 W0 (.cells #[.int .u8 1] 5)
  have z0 := bat N1 t0
  go_wp2_with fail
  generalize W0.alloc (.cells #[.int .u8 1] 5) = W1 at *
  refine (l8Type_any 4 (by omega) _).mono ?_
  rintro e w2 ⟨rfl, b2⟩
  have N2 := N1.trans (b2.mono N1.size)
  replace R1 := R1.below b2
  generalize hty : tyN 4 = ty at *
  clear b2 N1 z0
  go_wp2_with fail
  refine (l8Bytes_any ty 4 _ (by omega)).mono ?_
  rintro e w3 ⟨v3, rfl, R3, b3⟩
  rw [WT.out] at R3
  replace R1 := R1.below b3
  have N3 := N2.trans (b3.mono N2.size)
  obtain ⟨b4, c4, rfl, _, _⟩ := R3.shape (by intro e; rw [e] at ML4; cases ML4)
  have ML : (leB 4 ty).length ≤ 4 := by omega
  have hb3 := N3.size
  clear b3 N2 ML4
  generalize leB 4 ty = M at *
  go_wp2_with (at_builtin; (refine wpList_append_own_at _ rfl (.tmp 6) (.tmp 10) 24 rfl W0.heap.size 5 i8 (.int .u8 0) 1 1 Tryz.underlying24 hi8 hy0 hy1 hy2 rfl (by decide) (.slice (some ⟨W0.heap.size, 0, none⟩) 1 1) ([1] : List Int).length (([1] : List Int).map (Value.int .u8)) rfl R1 ⟨b4, 0, none⟩ M.length _ ((M : List Int).map (Value.int .u8)) rfl (by simp) R3.news (ones8 _) (by simp only [List.length_cons, List.length_nil]; unfold maxLen; omega) (by simp only [List.length_cons, List.length_nil]; omega) hb3 ?_; intro v7 w7 R7 G7 _ _; have N7 : Below W0.heap.size W0 w7 := N3.grown G7 hb3 (fun k hk => (World.ownsRow.lt R1 k hk).1); replace R7 : RowB W0.heap.size w7 v7 ([1] ++ M) := RowB.app R7; clear G7; rw [← HH.out] at R7; have hb7 := N7.size; clear R1 N3 R3 HH; have k0 := bat N7 t0; have k1 := bat N7 t1; skip))
  go_at_call 15
  refine (l8Bytes_any (rs.length : Int) 4 _ (by omega)).mono ?_
  rintro e w8 ⟨v8, rfl, R8, b8⟩
  have WL : IntKind.u64.wrap (rs.length : Int) = rs.length := by rw [IntKind.wrap_u64]; omega
  rw [WL] at R8
  have PL := leB_len 4 (rs.length : Int)
  obtain ⟨b9, c9, rfl, _, _⟩ := R8.shape (by intro e; rw [e] at PL; cases PL)
  replace R7 := R7.below b8
  have N8 := N7.trans (b8.mono N7.size)
  have hb8 := N8.size
  have PL2 : (leB 4 (rs.length : Int)).length ≤ 4 := by omega
  clear PL b8 N7 WL k0 k1
  generalize HQ : leB 4 (rs.length : Int) = Q at *
  have FL : Hid (∀ j, j ≤ rs.length → ((rs.take j).flatMap lnP).length ≤ 1000 * j) := flat_le lnP 1000 (fun i hi => by
    have l := HL.out i hi
    rw [rowA_at hi]
    unfold lnP; rw [List.length_append, hdB_len, lnB_len]; omega)
  go_wp2_with (at_builtin; (refine wpList_append_own_at _ rfl (.tmp 68) (.tmp 72) 24 rfl W0.heap.size 5 i8 (.int .u8 0) 1 1 Tryz.underlying24 hi8 hy0 hy1 hy2 rfl (by decide) v7 (H : List Int).length ((H : List Int).map (Value.int .u8)) rfl R7 ⟨b9, 0, none⟩ (Q).length _ ((Q : List Int).map (Value.int .u8)) rfl (by simp) R8.news (ones8 _) (by unfold maxLen; omega) (by omega) hb8 ?_; intro v10 w10 R10 G10 _ _; have N10 : Below W0.heap.size W0 w10 := N8.grown G10 hb8 (fun k hk => (World.ownsRow.lt R7 k hk).1); replace R10 : RowB W0.heap.size w10 v10 ((H) ++ (Q)) := RowB.app R10; clear G10))
  clear R7 N8 R8
  have HQL : (H ++ Q).length ≤ 9 := by rw [List.length_append]; omega
  generalize HHQ : H ++ Q = HQ0 at *
  go_loopw [3, 5] (fun s3 s5 wr => ∃ j : Nat, j ≤ rs.length ∧ s5 = .int .i64 j ∧ RowB W0.heap.size wr s3 (HQ0 ++ (rs.take j).flatMap lnP) ∧ Below W0.heap.size W0 wr) (fun _ s5 _ => rs.length - (intOf s5).toNat)
  case atStart => exact ⟨0, Nat.zero_le _, rfl, by simpa using R10, N10⟩
  case round =>
    clear R10 N10
    obtain ⟨j, hj, rfl, RR, B⟩ := hrel
    rename World => wr
    have q0 := bat B t1
    have q1 := bat B t0
    have hbr := B.size
    by_cases hlt : j < rs.length
    · obtain ⟨a', c', g0, PP⟩ := HC.out j hlt
      obtain ⟨l0, l1⟩ := HL.out j hlt
      have FS : (rs.take (j + 1)).flatMap lnP = (rs.take j).flatMap lnP ++ (hdB 3 ++ lnB (rowA rs j)) := by rw [flat_step lnP hlt, rowA_at hlt]; first | done | rfl
      have LL := FL.out j (by omega)
      have LL2 : (HQ0 ++ (rs.take j).flatMap lnP).length ≤ 13000 := by rw [List.length_append]; omega
      have PM := PP.max
      have PF := PP.fits
      unfold maxLen at PM
      generalize rowA rs j = ps at *
      clear LL
      generalize HLL : HQ0 ++ (rs.take j).flatMap lnP = L at *
      have LN : (lnB (clR false ps)).length ≤ 1000 ∧ 0 < (lnB (clR false ps)).length := by rw [lnB_len, clR_len l0]; constructor <;> simp <;> omega

      have h1 : Hid (hdB 3 = [1] ++ leB 4 2) := rfl
      have PL4 : Hid ((leB 4 2).length = 4) := leB_len 4 2
      have PL5 : (leB 4 2).length ≤ 4 := by rw [leB_len]; omega
      have bn := below1 wr (.cells #[.int .u8 1] 5)
      have NN1 := B.trans (bn.mono B.size)
      have RW1 := RR.below bn
      have NW := one_new8 wr 5 1
      have nz1 := NN1.size
      clear bn
      go_wp2_with (at_builtin; (refine wpList_append_own_at _ rfl (.tmp 84) (.tmp 85) 24 rfl W0.heap.size 5 i8 (.int .u8 0) 1 1 Tryz.underlying24 hi8 hy0 hy1 hy2 rfl (by decide) u3 (L : List Int).length ((L : List Int).map (Value.int .u8)) rfl RW1 ⟨wr.heap.size, 0, none⟩ 1 _ (([1] : List Int).map (Value.int .u8)) rfl (by simp) NW (ones8 _) (by unfold maxLen; omega) (by omega) nz1 ?_; intro v11 w11 R11 G11 _ _; have N11 : Below W0.heap.size W0 w11 := NN1.grown G11 nz1 (fun k hk => (World.ownsRow.lt RW1 k hk).1); replace R11 : RowB W0.heap.size w11 v11 (L ++ [1]) := RowB.app R11; clear G11 RW1 NN1 NW))
      go_at_call 15
      refine (l8Bytes_any 2 4 _ (by omega)).mono ?_
      rintro e w12 ⟨v12, rfl, R12, b12⟩
      have N12 := N11.trans (b12.mono N11.size)
      replace R11 := R11.below b12
      replace R12 : RowB w11.heap.size w12 v12 (leB 4 2) := R12
      obtain ⟨b9, c9, rfl, _, _⟩ := R12.shape (by intro e; have q := PL4.out; rw [e] at q; cases q)
      have hb12 := N12.size
      clear b12
      generalize HQ4 : leB 4 2 = Q4 at *
      go_wp2_with (at_builtin; (refine wpList_append_own_at _ rfl (.tmp 86) (.tmp 87) 24 rfl W0.heap.size 5 i8 (.int .u8 0) 1 1 Tryz.underlying24 hi8 hy0 hy1 hy2 rfl (by decide) v11 (L ++ [1] : List Int).length ((L ++ [1] : List Int).map (Value.int .u8)) rfl R11 ⟨b9, 0, none⟩ Q4.length _ ((Q4 : List Int).map (Value.int .u8)) rfl (by simp) R12.news (ones8 _) (by simp only [List.length_append, List.length_cons, List.length_nil]; unfold maxLen; omega) (by simp only [List.length_append, List.length_cons, List.length_nil]; omega) hb12 ?_; intro v13 w13 R13 G13 _ _; have N13 : Below W0.heap.size W0 w13 := N12.grown G13 hb12 (fun k hk => (World.ownsRow.lt R11 k hk).1); replace R13 : RowB W0.heap.size w13 v13 (L ++ [1] ++ Q4) := RowB.app R13; clear G13 R11 R12 N12 N11))
      have LL3 : (L ++ [1] ++ Q4).length ≤ 13100 := by simp only [List.length_append, List.length_cons, List.length_nil]; omega
      generalize HL5 : L ++ [1] ++ Q4 = L5 at *
      have N := (N13.drew : Below W0.heap.size W0 _)
      have RW := R13.below ((Below.refl _ _).drew)
      refine wp_region_held_drew (S := Below W0.heap.size W0) (by kernel_rfl) N (fun hHeld => ?_)
      clear hHeld
      revert N RW
      generalize w13.drew = ww0
      intro N RW
      refine takeW (i := 0) (by simp only [List.getElem?_toArray, List.getElem?_cons_zero]; exact rfl) (by kernel_rfl) (by kernel_rfl) (by kernel_rfl) (by exact fun _ _ _ h => h) (by rfl) (by intro wq hSw; go_simp <;> with_reducible rfl) (by assumption) ?_
      try simp only [Act.put, List.setIfInBounds_toArray, List.set_cons_zero, List.set_cons_succ]
      refine takeW (i := 1) (by simp only [List.getElem?_toArray, List.getElem?_cons_succ, List.getElem?_cons_zero]; exact rfl) (by kernel_rfl) (by kernel_rfl) (by kernel_rfl) (by exact fun _ _ _ h => h) (by rfl) (by intro wq hSw; go_simp <;> with_reducible rfl) (by assumption) ?_
      try simp only [Act.put, List.setIfInBounds_toArray, List.set_cons_zero, List.set_cons_succ]
      refine takeW (i := 2) (by simp only [List.getElem?_toArray, List.getElem?_cons_succ, List.getElem?_cons_zero]; exact rfl) (by kernel_rfl) (by kernel_rfl) (by kernel_rfl) (by exact fun _ _ _ h => h) (by rfl) (by intro wq hSw; have z1 := bat hSw t1; have z2 := bat hSw g0; have z3 := bat hSw t0; go_simp <;> with_reducible rfl) (by assumption) ?_
      try simp only [Act.put, List.setIfInBounds_toArray, List.set_cons_zero, List.set_cons_succ]
      refine takeW (i := 3) (by simp only [List.getElem?_toArray, List.getElem?_cons_succ, List.getElem?_cons_zero]; exact rfl) (by kernel_rfl) (by kernel_rfl) (by kernel_rfl) (by exact fun _ _ _ h => h) (by rfl) (by intro wq hSw; go_simp <;> with_reducible rfl) (by assumption) ?_
      try simp only [Act.put, List.setIfInBounds_toArray, List.set_cons_zero, List.set_cons_succ]
      refine takeW (i := 4) (by simp only [List.getElem?_toArray, List.getElem?_cons_succ, List.getElem?_cons_zero]; exact rfl) (by kernel_rfl) (by kernel_rfl) (by kernel_rfl) (by exact fun _ _ _ h => h) (by rfl) (by intro wq hSw; go_simp <;> with_reducible rfl) (by assumption) ?_
      try simp only [Act.put, List.setIfInBounds_toArray, List.set_cons_zero, List.set_cons_succ]
      refine takeW (i := 5) (by simp only [List.getElem?_toArray, List.getElem?_cons_succ, List.getElem?_cons_zero]; exact rfl) (by kernel_rfl) (by kernel_rfl) (by kernel_rfl) (by exact fun _ _ _ h => h) (by rfl) (by intro wq hSw; have z1 := bat hSw t1; have z2 := bat hSw g0; have z3 := bat hSw t0; go_simp <;> with_reducible rfl) (by assumption) ?_
      try simp only [Act.put, List.setIfInBounds_toArray, List.set_cons_zero, List.set_cons_succ]
      refine takeW (i := 6) (by simp only [List.getElem?_toArray, List.getElem?_cons_succ, List.getElem?_cons_zero]; exact rfl) (by kernel_rfl) (by kernel_rfl) (by kernel_rfl) (by exact fun _ _ _ h => h) (by rfl) (by intro wq hSw; go_simp <;> with_reducible rfl) (by assumption) ?_
      try simp only [Act.put, List.setIfInBounds_toArray, List.set_cons_zero, List.set_cons_succ]
      refine takeW (i := 7) (by simp only [List.getElem?_toArray, List.getElem?_cons_succ, List.getElem?_cons_zero]; exact rfl) (by kernel_rfl) (by kernel_rfl) (by kernel_rfl) (by exact fun _ _ _ h => h) (by rfl) (by intro wq hSw; have z1 := bat hSw t1; have z2 := bat hSw g0; have z3 := bat hSw t0; go_simp <;> with_reducible rfl) (by assumption) ?_
      try simp only [Act.put, List.setIfInBounds_toArray, List.set_cons_zero, List.set_cons_succ]
      refine takeW (i := 8) (by simp only [List.getElem?_toArray, List.getElem?_cons_succ, List.getElem?_cons_zero]; exact rfl) (by kernel_rfl) (by kernel_rfl) (by kernel_rfl) (by exact fun _ _ _ h => h) (by rfl) (by intro wq hSw; go_simp <;> with_reducible rfl) (by assumption) ?_
      try simp only [Act.put, List.setIfInBounds_toArray, List.set_cons_zero, List.set_cons_succ]
      refine wpAnyH_ready (rs := [9]) (by kernel_rfl) (by simp) (AllReadyH.cons (by simp only [List.getElem?_toArray, List.getElem?_cons_succ, List.getElem?_cons_zero]; exact rfl) (fun K hK => ?_) AllReadyH.nil)
      go_simp
      go_at_call 27
      refine (l8Row_any false a' c' ps _ (PP.below N) l0 l1).mono ?_
      rintro e w14 ⟨v14, rfl, R14, b14⟩
      have N14 := N.trans (b14.mono N.size)
      replace RW := RW.below b14
      obtain ⟨b99, c99, rfl, _, _⟩ := R14.shape (by intro e; rw [e] at LN; simp at LN)
      have hb14 := N14.size
      refine hK.out _ _ N14 (fun hHeld => ?_)
      clear hK K hHeld b14
      try simp only [Act.put, List.setIfInBounds_toArray, List.set_cons_zero, List.set_cons_succ]
      generalize HQX : lnB (clR false ps) = QX at *
      refine wpAnyH_ready (rs := [10]) (by kernel_rfl) (by simp) (AllReadyH.cons (by simp only [List.getElem?_toArray, List.getElem?_cons_succ, List.getElem?_cons_zero]; exact rfl) (fun K hK => ?_) AllReadyH.nil)
      refine wp_append_own _ (.tmp 89) (.tmp 98) 24 rfl W0.heap.size 5 i8 (.int .u8 0) 1 1 Tryz.underlying24 hi8 hy0 hy1 hy2 rfl (by decide) v13 (L5 : List Int).length ((L5 : List Int).map (Value.int .u8)) rfl RW ⟨b99, 0, none⟩ (QX : List Int).length _ ((QX : List Int).map (Value.int .u8)) rfl (by simp) R14.news (ones8 _) (by unfold maxLen; omega) (by omega) hb14 ?_
      intro v15 w15 R15 G15 _
      have N15 : Below W0.heap.size W0 w15 := N14.grown G15 hb14 (fun k hk => (World.ownsRow.lt RW k hk).1)
      replace R15 : RowB W0.heap.size w15 v15 ((L5) ++ (QX)) := RowB.app R15
      have hb15 := N15.size
      refine hK.out _ _ N15 (fun hHeld => ?_)
      clear hK K hHeld G15
      try simp only [Act.put, List.setIfInBounds_toArray, List.set_cons_zero, List.set_cons_succ]
      refine takeW (i := 11) (by simp only [List.getElem?_toArray, List.getElem?_cons_succ, List.getElem?_cons_zero]; exact rfl) (by kernel_rfl) (by kernel_rfl) (by kernel_rfl) (by exact fun _ _ _ h => h) (by rfl) (by intro wq hSw; go_simp <;> with_reducible rfl) (by assumption) ?_
      try simp only [Act.put, List.setIfInBounds_toArray, List.set_cons_zero, List.set_cons_succ]
      refine wpAnyH_done (by kernel_rfl) ?_ _
      go_wp2
      go_roundw
      case rel =>
        refine ⟨j + 1, by omega, by go_num, ?_, N15⟩
        rw [FS, ← List.append_assoc, HLL, h1.out, show lnB ps = QX from HQX, ← List.append_assoc, ← List.append_assoc, HL5]
        exact R15
      case measure => simp [intOf]; omega
    · obtain rfl : j = rs.length := by omega
      rw [List.take_length] at RR
      go_wp2
      go_ret
      exact ⟨_, rfl, by rw [HQ, ← List.append_assoc, HHQ]; exact row_base RR hW, B0.trans (B.mono hW)⟩

set_option maxRecDepth 20000 in
set_option maxHeartbeats 4000000 in
theorem l8Put5 (a : Option Addr) (c : Nat) (rs : List (List (Int × Int))) (w : World) (h : SeesS w a c rs) (hn : 0 < rs.length ∧ rs.length ≤ 12) (hl : ∀ i, i < rs.length → 0 < (rowA rs i).length ∧ (rowA rs i).length ≤ 60) :
    Calls Tryz.prog 16 #[.agg #[.int .i64 5, .slice a rs.length c]] w fun e w' => ∃ v', e = .returned v' ∧ RowB w.heap.size w' v' (shBy 5 rs) ∧ Below w.heap.size w w' := by
  obtain ⟨i8, hi8, hy0, hy1, hy2⟩ := info_parts infoB
  have hm := h.max
  have hf := h.fits
  unfold maxLen at hm
  have B0 := below1 w (.cells #[.int .i64 5, .slice a rs.length c] 42)
  have V0 := Box2.new w (lo := w.heap.size) (Nat.le_refl _) (.int .i64 5) (.slice a rs.length c) 42
  have S0 := h.below B0
  have HL : Hid (∀ i, i < rs.length → 0 < (rowA rs i).length ∧ (rowA rs i).length ≤ 60) := hl
  have HH : Hid (hdB 5 = [1] ++ leB 4 (tyN 5)) := rfl
  have HS : Hid (shBy 5 rs = hdB 5 ++ (leB 4 rs.length ++ rs.flatMap rgB)) := rfl
  have HD := hdB_len 5
  have ML4 : (leB 4 (tyN 5)).length = 4 := leB_len _ _
  have WT : Hid (IntKind.u64.wrap (tyN 5) = tyN 5) := by show IntKind.u64.wrap (tyN 5) = tyN 5; decide
  have TB : 0 ≤ tyN 5 ∧ tyN 5 ≤ 5 := by decide
  rw [HS.out]
  clear hl h HS
  generalize HHd : hdB 5 = H at *
  go_enter Tryz.func16, Tryz.ntmps16
  go_upto_region 1 with fail
  generalize w.alloc (.cells #[.int .i64 5, .slice a rs.length c] 42) = W0 at *
  have hW := B0.size
  obtain ⟨b, off, rfl, hc⟩ := S0.cells (by intro e; rw [e] at hn; exact absurd hn.1 (by simp))
  have HC : Hid (∀ i, i < rs.length → ∃ a' c', W0.cell? ⟨b, off + i, none⟩ = some (.slice a' (rowA rs i).length c') ∧ SeesP W0 a' c' (rowA rs i)) := hc
  obtain ⟨t0, t1, _, _⟩ := id V0
  clear hc S0 V0
  have R1 := RowB.one W0 (base := W0.heap.size) (Nat.le_refl _) 1
  have N1 := below1 W0 (.cells #[.int .u8 1] 5)
  have z0 := bat N1 t0
  go_wp2_with fail
  generalize W0.alloc (.cells #[.int .u8 1] 5) = W1 at *
  refine (l8Type_any 5 (by omega) _).mono ?_
  rintro e w2 ⟨rfl, b2⟩
  have N2 := N1.trans (b2.mono N1.size)
  replace R1 := R1.below b2
  generalize hty : tyN 5 = ty at *
  clear b2 N1 z0
  go_wp2_with fail
  refine (l8Bytes_any ty 4 _ (by omega)).mono ?_
  rintro e w3 ⟨v3, rfl, R3, b3⟩
  rw [WT.out] at R3
  replace R1 := R1.below b3
  have N3 := N2.trans (b3.mono N2.size)
  obtain ⟨b4, c4, rfl, _, _⟩ := R3.shape (by intro e; rw [e] at ML4; cases ML4)
  have ML : (leB 4 ty).length ≤ 4 := by omega
  have hb3 := N3.size
  clear b3 N2 ML4
  generalize leB 4 ty = M at *
  go_wp2_with (at_builtin; (refine wpList_append_own_at _ rfl (.tmp 6) (.tmp 10) 24 rfl W0.heap.size 5 i8 (.int .u8 0) 1 1 Tryz.underlying24 hi8 hy0 hy1 hy2 rfl (by decide) (.slice (some ⟨W0.heap.size, 0, none⟩) 1 1) ([1] : List Int).length (([1] : List Int).map (Value.int .u8)) rfl R1 ⟨b4, 0, none⟩ M.length _ ((M : List Int).map (Value.int .u8)) rfl (by simp) R3.news (ones8 _) (by simp only [List.length_cons, List.length_nil]; unfold maxLen; omega) (by simp only [List.length_cons, List.length_nil]; omega) hb3 ?_; intro v7 w7 R7 G7 _ _; have N7 : Below W0.heap.size W0 w7 := N3.grown G7 hb3 (fun k hk => (World.ownsRow.lt R1 k hk).1); replace R7 : RowB W0.heap.size w7 v7 ([1] ++ M) := RowB.app R7; clear G7; rw [← HH.out] at R7; have hb7 := N7.size; clear R1 N3 R3 HH; have k0 := bat N7 t0; have k1 := bat N7 t1; skip))
  go_at_call 15
  refine (l8Bytes_any (rs.length : Int) 4 _ (by omega)).mono ?_
  rintro e w8 ⟨v8, rfl, R8, b8⟩
  have WL : IntKind.u64.wrap (rs.length : Int) = rs.length := by rw [IntKind.wrap_u64]; omega
  rw [WL] at R8
  have PL := leB_len 4 (rs.length : Int)
  obtain ⟨b9, c9, rfl, _, _⟩ := R8.shape (by intro e; rw [e] at PL; cases PL)
  replace R7 := R7.below b8
  have N8 := N7.trans (b8.mono N7.size)
  have hb8 := N8.size
  have PL2 : (leB 4 (rs.length : Int)).length ≤ 4 := by omega
  clear PL b8 N7 WL k0 k1
  generalize HQ : leB 4 (rs.length : Int) = Q at *
  have FL : Hid (∀ j, j ≤ rs.length → ((rs.take j).flatMap rgB).length ≤ 1000 * j) := flat_le rgB 1000 (fun i hi => by
    have l := HL.out i hi
    rw [rowA_at hi]
    unfold rgB; rw [lnB_len, List.length_append, List.length_take]; omega)
  go_wp2_with (at_builtin; (refine wpList_append_own_at _ rfl (.tmp 68) (.tmp 72) 24 rfl W0.heap.size 5 i8 (.int .u8 0) 1 1 Tryz.underlying24 hi8 hy0 hy1 hy2 rfl (by decide) v7 (H : List Int).length ((H : List Int).map (Value.int .u8)) rfl R7 ⟨b9, 0, none⟩ (Q).length _ ((Q : List Int).map (Value.int .u8)) rfl (by simp) R8.news (ones8 _) (by unfold maxLen; omega) (by omega) hb8 ?_; intro v10 w10 R10 G10 _ _; have N10 : Below W0.heap.size W0 w10 := N8.grown G10 hb8 (fun k hk => (World.ownsRow.lt R7 k hk).1); replace R10 : RowB W0.heap.size w10 v10 ((H) ++ (Q)) := RowB.app R10; clear G10))
  clear R7 N8 R8
  have HQL : (H ++ Q).length ≤ 9 := by rw [List.length_append]; omega
  generalize HHQ : H ++ Q = HQ0 at *
  go_loopw [3, 5] (fun s3 s5 wr => ∃ j : Nat, j ≤ rs.length ∧ s5 = .int .i64 j ∧ RowB W0.heap.size wr s3 (HQ0 ++ (rs.take j).flatMap rgB) ∧ Below W0.heap.size W0 wr) (fun _ s5 _ => rs.length - (intOf s5).toNat)
  case atStart => exact ⟨0, Nat.zero_le _, rfl, by simpa using R10, N10⟩
  case round =>
    clear R10 N10
    obtain ⟨j, hj, rfl, RR, B⟩ := hrel
    rename World => wr
    have q0 := bat B t1
    have q1 := bat B t0
    have hbr := B.size
    by_cases hlt : j < rs.length
    · obtain ⟨a', c', g0, PP⟩ := HC.out j hlt
      obtain ⟨l0, l1⟩ := HL.out j hlt
      have FS : (rs.take (j + 1)).flatMap rgB = (rs.take j).flatMap rgB ++ (rgB (rowA rs j)) := by rw [flat_step rgB hlt, rowA_at hlt]; first | done | rfl
      have LL := FL.out j (by omega)
      have LL2 : (HQ0 ++ (rs.take j).flatMap rgB).length ≤ 13000 := by rw [List.length_append]; omega
      have PM := PP.max
      have PF := PP.fits
      unfold maxLen at PM
      generalize rowA rs j = ps at *
      clear LL
      generalize HLL : HQ0 ++ (rs.take j).flatMap rgB = L at *
      have LN : (lnB (clR true ps)).length ≤ 1000 ∧ 0 < (lnB (clR true ps)).length := by rw [lnB_len, clR_len l0]; constructor <;> simp <;> omega

      go_wp2_with fail
      have N := (B.drew : Below W0.heap.size W0 _)
      have RW := RR.below ((Below.refl _ _).drew)
      refine wp_region_held_drew (S := Below W0.heap.size W0) (by kernel_rfl) N (fun hHeld => ?_)
      clear hHeld
      revert N RW
      generalize wr.drew = ww0
      intro N RW
      refine takeW (i := 0) (by simp only [List.getElem?_toArray, List.getElem?_cons_zero]; exact rfl) (by kernel_rfl) (by kernel_rfl) (by kernel_rfl) (by exact fun _ _ _ h => h) (by rfl) (by intro wq hSw; go_simp <;> with_reducible rfl) (by assumption) ?_
      try simp only [Act.put, List.setIfInBounds_toArray, List.set_cons_zero, List.set_cons_succ]
      refine takeW (i := 1) (by simp only [List.getElem?_toArray, List.getElem?_cons_succ, List.getElem?_cons_zero]; exact rfl) (by kernel_rfl) (by kernel_rfl) (by kernel_rfl) (by exact fun _ _ _ h => h) (by rfl) (by intro wq hSw; go_simp <;> with_reducible rfl) (by assumption) ?_
      try simp only [Act.put, List.setIfInBounds_toArray, List.set_cons_zero, List.set_cons_succ]
      refine takeW (i := 2) (by simp only [List.getElem?_toArray, List.getElem?_cons_succ, List.getElem?_cons_zero]; exact rfl) (by kernel_rfl) (by kernel_rfl) (by kernel_rfl) (by exact fun _ _ _ h => h) (by rfl) (by intro wq hSw; have z1 := bat hSw t1; have z2 := bat hSw g0; have z3 := bat hSw t0; go_simp <;> with_reducible rfl) (by assumption) ?_
      try simp only [Act.put, List.setIfInBounds_toArray, List.set_cons_zero, List.set_cons_succ]
      refine takeW (i := 3) (by simp only [List.getElem?_toArray, List.getElem?_cons_succ, List.getElem?_cons_zero]; exact rfl) (by kernel_rfl) (by kernel_rfl) (by kernel_rfl) (by exact fun _ _ _ h => h) (by rfl) (by intro wq hSw; go_simp <;> with_reducible rfl) (by assumption) ?_
      try simp only [Act.put, List.setIfInBounds_toArray, List.set_cons_zero, List.set_cons_succ]
      refine takeW (i := 4) (by simp only [List.getElem?_toArray, List.getElem?_cons_succ, List.getElem?_cons_zero]; exact rfl) (by kernel_rfl) (by kernel_rfl) (by kernel_rfl) (by exact fun _ _ _ h => h) (by rfl) (by intro wq hSw; go_simp <;> with_reducible rfl) (by assumption) ?_
      try simp only [Act.put, List.setIfInBounds_toArray, List.set_cons_zero, List.set_cons_succ]
      refine takeW (i := 5) (by simp only [List.getElem?_toArray, List.getElem?_cons_succ, List.getElem?_cons_zero]; exact rfl) (by kernel_rfl) (by kernel_rfl) (by kernel_rfl) (by exact fun _ _ _ h => h) (by rfl) (by intro wq hSw; have z1 := bat hSw t1; have z2 := bat hSw g0; have z3 := bat hSw t0; go_simp <;> with_reducible rfl) (by assumption) ?_
      try simp only [Act.put, List.setIfInBounds_toArray, List.set_cons_zero, List.set_cons_succ]
      refine takeW (i := 6) (by simp only [List.getElem?_toArray, List.getElem?_cons_succ, List.getElem?_cons_zero]; exact rfl) (by kernel_rfl) (by kernel_rfl) (by kernel_rfl) (by exact fun _ _ _ h => h) (by rfl) (by intro wq hSw; go_simp <;> with_reducible rfl) (by assumption) ?_
      try simp only [Act.put, List.setIfInBounds_toArray, List.set_cons_zero, List.set_cons_succ]
      refine takeW (i := 7) (by simp only [List.getElem?_toArray, List.getElem?_cons_succ, List.getElem?_cons_zero]; exact rfl) (by kernel_rfl) (by kernel_rfl) (by kernel_rfl) (by exact fun _ _ _ h => h) (by rfl) (by intro wq hSw; have z1 := bat hSw t1; have z2 := bat hSw g0; have z3 := bat hSw t0; go_simp <;> with_reducible rfl) (by assumption) ?_
      try simp only [Act.put, List.setIfInBounds_toArray, List.set_cons_zero, List.set_cons_succ]
      refine takeW (i := 8) (by simp only [List.getElem?_toArray, List.getElem?_cons_succ, List.getElem?_cons_zero]; exact rfl) (by kernel_rfl) (by kernel_rfl) (by kernel_rfl) (by exact fun _ _ _ h => h) (by rfl) (by intro wq hSw; go_simp <;> with_reducible rfl) (by assumption) ?_
      try simp only [Act.put, List.setIfInBounds_toArray, List.set_cons_zero, List.set_cons_succ]
      refine wpAnyH_ready (rs := [9]) (by kernel_rfl) (by simp) (AllReadyH.cons (by simp only [List.getElem?_toArray, List.getElem?_cons_succ, List.getElem?_cons_zero]; exact rfl) (fun K hK => ?_) AllReadyH.nil)
      go_simp
      go_at_call 27
      refine (l8Row_any true a' c' ps _ (PP.below N) l0 l1).mono ?_
      rintro e w14 ⟨v14, rfl, R14, b14⟩
      have N14 := N.trans (b14.mono N.size)
      replace RW := RW.below b14
      obtain ⟨b99, c99, rfl, _, _⟩ := R14.shape (by intro e; rw [e] at LN; simp at LN)
      have hb14 := N14.size
      refine hK.out _ _ N14 (fun hHeld => ?_)
      clear hK K hHeld b14
      try simp only [Act.put, List.setIfInBounds_toArray, List.set_cons_zero, List.set_cons_succ]
      generalize HQX : lnB (clR true ps) = QX at *
      refine wpAnyH_ready (rs := [10]) (by kernel_rfl) (by simp) (AllReadyH.cons (by simp only [List.getElem?_toArray, List.getElem?_cons_succ, List.getElem?_cons_zero]; exact rfl) (fun K hK => ?_) AllReadyH.nil)
      refine wp_append_own _ (.tmp 89) (.tmp 98) 24 rfl W0.heap.size 5 i8 (.int .u8 0) 1 1 Tryz.underlying24 hi8 hy0 hy1 hy2 rfl (by decide) u3 (L : List Int).length ((L : List Int).map (Value.int .u8)) rfl RW ⟨b99, 0, none⟩ (QX : List Int).length _ ((QX : List Int).map (Value.int .u8)) rfl (by simp) R14.news (ones8 _) (by unfold maxLen; omega) (by omega) hb14 ?_
      intro v15 w15 R15 G15 _
      have N15 : Below W0.heap.size W0 w15 := N14.grown G15 hb14 (fun k hk => (World.ownsRow.lt RW k hk).1)
      replace R15 : RowB W0.heap.size w15 v15 ((L) ++ (QX)) := RowB.app R15
      have hb15 := N15.size
      refine hK.out _ _ N15 (fun hHeld => ?_)
      clear hK K hHeld G15
      try simp only [Act.put, List.setIfInBounds_toArray, List.set_cons_zero, List.set_cons_succ]
      refine takeW (i := 11) (by simp only [List.getElem?_toArray, List.getElem?_cons_succ, List.getElem?_cons_zero]; exact rfl) (by kernel_rfl) (by kernel_rfl) (by kernel_rfl) (by exact fun _ _ _ h => h) (by rfl) (by intro wq hSw; go_simp <;> with_reducible rfl) (by assumption) ?_
      try simp only [Act.put, List.setIfInBounds_toArray, List.set_cons_zero, List.set_cons_succ]
      refine wpAnyH_done (by kernel_rfl) ?_ _
      go_wp2
      go_roundw
      case rel =>
        refine ⟨j + 1, by omega, by go_num, ?_, N15⟩
        rw [FS, ← List.append_assoc, HLL, show rgB ps = QX from HQX]
        exact R15
      case measure => simp [intOf]; omega
    · obtain rfl : j = rs.length := by omega
      rw [List.take_length] at RR
      go_wp2
      go_ret
      exact ⟨_, rfl, by rw [HQ, ← List.append_assoc, HHQ]; exact row_base RR hW, B0.trans (B.mono hW)⟩

theorem good_some {k : Int} {rs : List (List (Int × Int))} (h : goodB k rs = true) : 0 < rs.length := by
  have hf : formB k rs = true := by
    unfold goodB goodTo at h
    rw [Bool.and_eq_true] at h
    exact h.1
  cases rs with
  | nil =>
    unfold formB at hf
    simp [inB] at hf
  | cons p r => simp
theorem l8Put_any (k : Int) (a : Option Addr) (c : Nat) (rs : List (List (Int × Int))) (w : World) (h : SeesS w a c rs) (g : goodB k rs = true) :
    Calls Tryz.prog 16 #[.agg #[.int .i64 k, .slice a rs.length c]] w fun e w' => ∃ v', e = .returned v' ∧ RowB w.heap.size w' v' (shBy k rs) ∧ Below w.heap.size w w' := by
  obtain ⟨hk, h1, h2⟩ := goodS_rows g
  have h0 := good_some g
  have hl : ∀ i, i < rs.length → 0 < (rowA rs i).length ∧ (rowA rs i).length ≤ 60 := fun i hi => (h2 i hi).2
  rcases kinds hk with rfl | rfl | rfl | rfl | rfl
  · exact l8Put1 a c rs w h ⟨h0, h1⟩ hl
  · exact l8Put2 a c rs w h ⟨h0, h1⟩ hl
  · exact l8Put3 a c rs w h ⟨h0, h1⟩ hl
  · exact l8Put4 a c rs w h ⟨h0, h1⟩ hl
  · exact l8Put5 a c rs w h ⟨h0, h1⟩ hl

end Go.Proofs.YtlkhbbllkkdhaaaGreatDoor
