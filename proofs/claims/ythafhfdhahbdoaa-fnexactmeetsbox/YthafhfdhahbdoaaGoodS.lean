/- Which shapes are good, of the specification: Check's code, l5Good. -/
import Derived.Test.YthafhfdhahbdoaaFormS
import Derived.Test.YthafhfdhahbdoaaRingH
namespace Go.Proofs.Ythafhfdhahbdoaa
open Go.RowKit

/-- A ring of an area without a fault. -/
def ringB (rs : List (List (Int × Int))) (r : Nat) : Bool := if r = 0 then firstB (rowA rs 0) else holeB rs r
def ringsB (rs : List (List (Int × Int))) : Nat → Bool
  | 0 => true
  | j + 1 => ringsB rs j && ringB rs j
/-- Good up to a ring. -/
def goodTo (k : Int) (rs : List (List (Int × Int))) (j : Nat) : Bool := formB k rs && (!decide (k = 5) || ringsB rs j)
def goodB (k : Int) (rs : List (List (Int × Int))) : Bool := goodTo k rs rs.length
theorem ringsB_mono {rs : List (List (Int × Int))} : ∀ {j m : Nat}, j ≤ m → ringsB rs m = true → ringsB rs j = true
  | j, 0, h, e => by obtain rfl : j = 0 := by omega
                     exact e
  | j, m + 1, h, e => by
    rcases Nat.lt_or_ge m j with c | c
    · obtain rfl : j = m + 1 := by omega
      exact e
    · simp only [ringsB, Bool.and_eq_true] at e
      exact ringsB_mono c e.1
theorem goodTo_mono {k : Int} {rs : List (List (Int × Int))} {j m : Nat} (h : j ≤ m) (e : goodTo k rs m = true) : goodTo k rs j = true := by
  unfold goodTo at *
  rw [Bool.and_eq_true, Bool.or_eq_true] at *
  exact ⟨e.1, e.2.imp id (ringsB_mono h)⟩
/-- What the form tells of each row. -/
theorem form_row {k : Int} {rs : List (List (Int × Int))} (h : formB k rs = true) {i : Nat} (hi : i < rs.length) : inB (rowA rs i).length (leastN k) (mostN k) = true ∧ okL (rowA rs i) = true := by
  have hr : rowsBad k rs rs.length = false := by
    cases q : rowsBad k rs rs.length
    · rfl
    · rw [formB, q] at h
      simp at h
  have hf : rowF k (rowA rs i) = false := by
    cases q : rowF k (rowA rs i)
    · rfl
    · rw [rows_found hi q] at hr
      cases hr
  have hb : rowBad k (rowA rs i) (rowA rs i).length = false := by
    cases q : rowBad k (rowA rs i) (rowA rs i).length
    · rfl
    · rw [rowF, q] at hf
      simp at hf
  refine ⟨?_, ?_⟩
  · cases q : inB (rowA rs i).length (leastN k) (mostN k)
    · rw [rowF, q] at hf
      cases hf
    · rfl
  · unfold okL
    rw [List.all_eq_true]
    intro p hp
    obtain ⟨m, hm, e⟩ := List.mem_iff_getElem.mp hp
    have hpt : ptBad k (rowA rs i) m = false := by
      cases q : ptBad k (rowA rs i) m
      · rfl
      · have := rowF_found (k := k) hm q
        rw [hf] at this
        cases this
    have ha : ptA (rowA rs i) m = p := by unfold ptA; rw [List.getElem?_eq_getElem hm, ← e]; rfl
    rw [ptBad, ha] at hpt
    cases q : ptOk p.1 p.2
    · rw [q] at hpt
      cases hpt
    · rfl
theorem area_row {rs : List (List (Int × Int))} (h : formB 5 rs = true) (i : Nat) (hi : i < rs.length) : okL (rowA rs i) = true ∧ 3 ≤ (rowA rs i).length ∧ (rowA rs i).length ≤ 60 := by
  obtain ⟨h1, h2⟩ := form_row h hi
  have h3 := inB_true.1 h1
  rw [show leastN 5 = 3 from rfl, show mostN 5 = 60 from rfl] at h3
  exact ⟨h2, by omega, by omega⟩

theorem l5Ring_any (n : Int) (a : Option Addr) (c : Nat) (rs : List (List (Int × Int))) (r : Nat) (w : World) (h : SeesS w a c rs) (hr : r < rs.length) (ok : ∀ i, i < rs.length → okL (rowA rs i) = true ∧ 3 ≤ (rowA rs i).length ∧ (rowA rs i).length ≤ 60) :
    Calls Try.prog 35 #[.agg #[.int .i64 n, .slice a rs.length c], .int .i64 r] w fun e w' => ∃ z x y : Int, e = .returned (.tuple #[.int .i64 z, .int .i64 x, .int .i64 y]) ∧ Hid (decide (z = 0) = ringB rs r) ∧ Below w.heap.size w w' := by
  unfold ringB
  by_cases h0 : r = 0
  · subst h0
    rw [if_pos rfl]
    obtain ⟨o1, o2, o3⟩ := ok 0 hr
    exact l5Ring_zero n a c rs w h hr o1 o3
  · rw [if_neg h0]
    exact l5Ring_hole n a c rs r w h (by omega) hr (fun i hi => ⟨(ok i hi).1, by have := (ok i hi).2.1; omega, (ok i hi).2.2⟩)

set_option maxRecDepth 20000 in
set_option maxHeartbeats 2000000 in
theorem specCheck (n : Int) (a : Option Addr) (c : Nat) (rs : List (List (Int × Int))) (w : World) (h : SeesS w a c rs) :
    Calls Try.prog 22 #[.agg #[.int .i64 n, .slice a rs.length c]] w fun e w' => ∃ z x y : Int, e = .returned (.tuple #[.int .i64 z, .int .i64 x, .int .i64 y]) ∧ Hid (decide (z = 0) = goodB n rs) ∧ Below w.heap.size w w' := by
  have hm := h.max
  have hf := h.fits
  unfold maxLen at hm
  have B0 := below1 w (.cells #[.int .i64 n, .slice a rs.length c] 33)
  have V0 := Box2.new w (lo := w.heap.size) (Nat.le_refl _) (.int .i64 n) (.slice a rs.length c) 33
  obtain ⟨k0, k1, _, _⟩ := id V0
  have SW := h.below B0
  go_enter Try.func22, Try.ntmps22
  go_wp2_with fail
  generalize w.alloc (.cells #[.int .i64 n, .slice a rs.length c] 33) = W at *
  refine (l5Form_any n a c rs _ SW).mono ?_
  rintro e w1 ⟨z, x, y, rfl, HZ, hb⟩
  have HZ0 : Hid (decide (z = 0) = goodTo n rs 0) := by
    show _ = _
    rw [HZ.out]
    unfold goodTo
    simp [ringsB]
  clear HZ k0 k1
  go_wp2
  go_loopw [5, 6, 7, 8] (fun s5 s6 s7 s8 wr => ∃ (j : Nat) (z x y : Int), j ≤ rs.length ∧ s8 = .int .i64 j ∧ s5 = .int .i64 z ∧ s6 = .int .i64 x ∧ s7 = .int .i64 y ∧ Hid (decide (z = 0) = goodTo n rs j) ∧ Below W.heap.size W wr) (fun _ _ _ s8 _ => rs.length - (intOf s8).toNat)
  case atStart => exact ⟨0, z, x, y, Nat.zero_le _, rfl, rfl, rfl, rfl, HZ0, hb⟩
  case round =>
    clear HZ0 hb
    obtain ⟨j, z, x, y, hj, rfl, rfl, rfl, rfl, HZ, N⟩ := hrel
    rename World => wr
    obtain ⟨k0, k1, _, _⟩ := V0.below N
    by_cases hlt : j < rs.length
    · by_cases hz : z = 0
      · subst hz
        by_cases h5 : n = 5
        · subst h5
          have hg : goodTo 5 rs j = true := HZ.out.symm
          have hform : formB 5 rs = true := by unfold goodTo at hg; rw [Bool.and_eq_true] at hg; exact hg.1
          have HN : Hid (goodTo 5 rs (j + 1) = ringB rs j) := by
            show _ = _
            unfold goodTo at hg ⊢
            rw [hform] at hg ⊢
            simp only [ringsB, decide_true, Bool.not_true, Bool.false_or, Bool.true_and] at hg ⊢
            rw [hg, Bool.true_and]
          clear HZ hg
          go_wp2_with fail
          refine (l5Ring_any 5 a c rs j _ (SW.below N) hlt (area_row hform)).mono ?_
          rintro e w3 ⟨z2, x2, y2, rfl, HZ2, hb⟩
          replace N := N.trans (hb.mono N.size)
          clear hb k0 k1
          go_wp2
          go_roundw
          case rel => exact ⟨j + 1, z2, x2, y2, by omega, by go_num, rfl, rfl, rfl, HZ2.out.trans HN.out.symm, N⟩
          case measure => simp [intOf]; omega
        · have b5 : (n == 5) = false := by simp [h5]
          have F : Hid (decide ((0 : Int) = 0) = goodB n rs) := by
            show _ = _
            rw [HZ.out]
            unfold goodB goodTo
            rw [decide_eq_false h5]
            rfl
          clear HZ
          go_wp2
          refine bodyPost_ret (v := .tuple #[.int .i64 0, .int .i64 x, .int .i64 y]) (by simp [results, Try.results22, go_sem]) rfl ?_
          first
          | exact ⟨_, _, _, rfl, F, B0.trans (N.mono B0.size)⟩
          | exact ⟨_, ⟨_, _, rfl⟩, F, B0.trans (N.mono B0.size)⟩
      · have bz : (z == 0) = false := by simp [hz]
        have F : Hid (decide (z = 0) = goodB n rs) := by
          show _ = _
          have q := HZ.out
          rw [decide_eq_false hz] at q ⊢
          cases g : goodB n rs
          · rfl
          · have := goodTo_mono hj g
            rw [← q] at this
            cases this
        clear HZ
        go_wp2
        refine bodyPost_ret (v := .tuple #[.int .i64 z, .int .i64 x, .int .i64 y]) (by simp [results, Try.results22, go_sem]) rfl ?_
        first
        | exact ⟨_, _, _, rfl, F, B0.trans (N.mono B0.size)⟩
        | exact ⟨_, ⟨_, _, rfl⟩, F, B0.trans (N.mono B0.size)⟩
    · obtain rfl : j = rs.length := by omega
      have F : Hid (decide (z = 0) = goodB n rs) := HZ
      clear HZ
      go_wp2
      refine bodyPost_ret (v := .tuple #[.int .i64 z, .int .i64 x, .int .i64 y]) (by simp [results, Try.results22, go_sem]) rfl ?_
      first
      | exact ⟨_, _, _, rfl, F, B0.trans (N.mono B0.size)⟩
      | exact ⟨_, ⟨_, _, rfl⟩, F, B0.trans (N.mono B0.size)⟩

set_option maxRecDepth 20000 in
theorem l5Good_any (n : Int) (a : Option Addr) (c : Nat) (rs : List (List (Int × Int))) (w : World) (h : SeesS w a c rs) :
    Calls Try.prog 11 #[.agg #[.int .i64 n, .slice a rs.length c]] w fun e w' => e = .returned (.bool (goodB n rs)) ∧ Below w.heap.size w w' := by
  have B0 := below1 w (.cells #[.int .i64 n, .slice a rs.length c] 33)
  have SW := h.below B0
  go_enter Try.func11, Try.ntmps11
  go_wp2_with fail
  refine (specCheck n a c rs _ SW).mono ?_
  rintro e w1 ⟨z, x, y, rfl, HZ, hb⟩
  replace B0 := B0.trans (hb.mono B0.size)
  clear hb SW h
  by_cases hz : z = 0
  · subst hz
    have F : Hid (goodB n rs = true) := HZ.out.symm
    clear HZ
    go_wp2
    go_ret
    exact ⟨by rw [F.out]; rfl, B0⟩
  · have bz : (z == 0) = false := by simp [hz]
    have F : Hid (goodB n rs = false) := by
      show _ = _
      rw [← HZ.out, decide_eq_false hz]
    clear HZ
    go_wp2
    go_ret
    exact ⟨by rw [F.out]; rfl, B0⟩
end Go.Proofs.Ythafhfdhahbdoaa
