/- The first edge of a ring that has a point together with one of others: of the program (firstMeeting). -/
import Derived.Test.YthafhfdhahbdoaaConQ
import Derived.Test.YthafhfdhahbdoaaSpotI
import Derived.Test.YthafhfdhahbdoaaTouch
namespace Go.Proofs.Ythafhfdhahbdoaa
open Go.RowKit

/-- Two segments have a point together. -/
def mtS (e f : Sg) : Bool := metI e.1.1 e.1.2 e.2.1 e.2.2 f.1.1 f.1.2 f.2.1 f.2.2
def anyE (e : Sg) (fs : List Sg) : Bool := fs.any (mtS e)
/-- One of some has a point together with one of others. -/
def anyQ (es fs : List Sg) : Bool := es.any fun e => anyE e fs
theorem take_sg {es : List Sg} {j : Nat} (h : j < es.length) : es.take (j + 1) = es.take j ++ [sgA es j] := by
  rw [List.take_add_one, List.getElem?_eq_getElem h]
  unfold sgA
  rw [List.getElem?_eq_getElem h]
  rfl
theorem anyE_step {e : Sg} {fs : List Sg} {j : Nat} (h : j < fs.length) (k : anyE e (fs.take j) = false) : anyE e (fs.take (j + 1)) = mtS e (sgA fs j) := by
  unfold anyE at *
  rw [take_sg h, List.any_append, k]
  simp
theorem anyE_found {e : Sg} {fs : List Sg} {j : Nat} (h : j < fs.length) (k : mtS e (sgA fs j) = true) : anyE e fs = true := by
  unfold anyE
  rw [List.any_eq_true]
  refine ⟨sgA fs j, ?_, k⟩
  unfold sgA
  rw [List.getElem?_eq_getElem h]
  exact List.getElem_mem h
theorem anyQ_step {es fs : List Sg} {j : Nat} (h : j < es.length) (k : anyQ (es.take j) fs = false) : anyQ (es.take (j + 1)) fs = anyE (sgA es j) fs := by
  unfold anyQ at *
  rw [take_sg h, List.any_append, k]
  simp
theorem anyQ_found {es fs : List Sg} {j : Nat} (h : j < es.length) (k : anyE (sgA es j) fs = true) : anyQ es fs = true := by
  unfold anyQ
  rw [List.any_eq_true]
  refine ⟨sgA es j, ?_, k⟩
  unfold sgA
  rw [List.getElem?_eq_getElem h]
  exact List.getElem_mem h

set_option maxRecDepth 20000 in
set_option maxHeartbeats 2500000 in
theorem firstMeeting_any (a b : Option Addr) (c d : Nat) (es : List Sg) (rs : List (List Sg)) (w : World) (h : SeesQ w a c es) (k : SeesR w b d rs) (ok : okQ es = true) (oq : okQ rs.flatten = true) (hn : rs.length ≤ 12) (hl : ∀ i, i < rs.length → 0 < (rowQ rs i).length ∧ (rowQ rs i).length ≤ 60) :
    Calls Try.prog 72 #[.slice a es.length c, .slice b rs.length d] w fun e w' => ∃ z : Int, e = .returned (.int .i64 z) ∧ Hid (decide (0 ≤ z) = anyQ es rs.flatten ∧ -1 ≤ z ∧ z < es.length + 1) ∧ Below w.heap.size w w' := by
  have hm := h.max
  have hf := h.fits
  unfold maxLen at hm
  obtain ⟨fs, hfs⟩ : ∃ z, Hid (rs.flatten = z) := ⟨_, rfl⟩
  rw [hfs.out] at oq ⊢
  go_enter Try.func72, Try.ntmps72
  go_wp2_with fail
  refine (concatQ b d rs _ k hn hl).mono ?_
  rintro e w1 ⟨v, rfl, R, B0⟩
  rw [hfs.out] at R
  clear hl k hfs
  obtain ⟨a2, c2, rfl, f2, m2⟩ := R.shape
  have S := R.sees
  replace h := h.below B0
  unfold maxLen at m2
  clear R
  go_wp2
  go_loopw [14] (fun s14 wr => ∃ j : Nat, j ≤ es.length ∧ s14 = .int .i64 j ∧ Hid (anyQ (es.take j) fs = false) ∧ Below w1.heap.size w1 wr) (fun s14 _ => es.length - (intOf s14).toNat)
  case atStart => exact ⟨0, Nat.zero_le _, rfl, rfl, Below.refl _ _⟩
  case round =>
    obtain ⟨j, hj, rfl, T, B⟩ := hrel
    rename World => wr
    by_cases hlt : j < es.length
    · obtain ⟨⟨a1, a2⟩, ⟨a3, a4⟩⟩ := okQ_at ok hlt
      obtain ⟨b0, off, rfl, hc⟩ := (h.below B).cells (by intro e; simp [e] at hlt)
      obtain ⟨g1, g2, g3, g4⟩ := hc j hlt
      clear hc
      have RF : Hid (anyE (sgA es j) fs = true → decide (0 ≤ (j : Int)) = anyQ es fs ∧ -1 ≤ (j : Int) ∧ (j : Int) < es.length + 1) := fun q => ⟨by rw [anyQ_found hlt q]; simp, by omega, by omega⟩
      have RN : Hid (anyE (sgA es j) fs = false → anyQ (es.take (j + 1)) fs = false) := fun q => by rw [anyQ_step hlt T.out]; exact q
      clear T
      generalize sgA es j = e0 at *
      obtain ⟨⟨x, y⟩, ⟨u, v⟩⟩ := e0
      dsimp only at a1 a2 a3 a4 g1 g2 g3 g4
      have K0 := Box4.new wr (lo := w.heap.size) (Nat.le_trans B0.size B.size) (.int .i64 x) (.int .i64 y) (.int .i64 u) (.int .i64 v) 56
      have bn := below1 wr (.cells #[.int .i64 x, .int .i64 y, .int .i64 u, .int .i64 v] 56)
      replace B := B.trans (bn.mono B.size)
      clear bn
      go_wp2
      clear g1 g2 g3 g4
      generalize wr.alloc (.cells #[.int .i64 x, .int .i64 y, .int .i64 u, .int .i64 v] 56) = W0 at *
      generalize wr.heap.size = qe at *
      go_loopw [21] (fun s21 wi => ∃ i : Nat, i ≤ fs.length ∧ s21 = .int .i64 i ∧ Hid (anyE ((x, y), (u, v)) (fs.take i) = false) ∧ Below W0.heap.size W0 wi) (fun s21 _ => fs.length - (intOf s21).toNat)
      case atStart => exact ⟨0, Nat.zero_le _, rfl, rfl, Below.refl _ _⟩
      case round =>
        obtain ⟨i, hi, rfl, M, Bi⟩ := hrel
        rename World => wi
        by_cases hli : i < fs.length
        · obtain ⟨⟨c1, c2⟩, ⟨c3, c4⟩⟩ := okQ_at oq hli
          obtain ⟨b2, off2, rfl, hc2⟩ := ((S.below B).below Bi).cells (by intro e; simp [e] at hli)
          obtain ⟨g1, g2, g3, g4⟩ := hc2 i hli
          clear hc2
          have MF : Hid (mtS ((x, y), (u, v)) (sgA fs i) = true → decide (0 ≤ (j : Int)) = anyQ es fs ∧ -1 ≤ (j : Int) ∧ (j : Int) < es.length + 1) := fun q => RF.out (anyE_found hli q)
          have MN : Hid (mtS ((x, y), (u, v)) (sgA fs i) = false → anyE ((x, y), (u, v)) (fs.take (i + 1)) = false) := fun q => by rw [anyE_step hli M.out]; exact q
          clear M
          generalize sgA fs i = f0 at *
          obtain ⟨⟨x2, y2⟩, ⟨u2, v2⟩⟩ := f0
          dsimp only at c1 c2 c3 c4 g1 g2 g3 g4
          have E : Hid (mtS ((x, y), (u, v)) ((x2, y2), (u2, v2)) = metI x y u v x2 y2 u2 v2) := (rfl : mtS _ _ = _)
          rw [E.out] at MF MN
          have K1 := Box4.new wi (lo := w.heap.size) (Nat.le_trans B0.size (Nat.le_trans B.size Bi.size)) (.int .i64 x2) (.int .i64 y2) (.int .i64 u2) (.int .i64 v2) 56
          have bn := below1 wi (.cells #[.int .i64 x2, .int .i64 y2, .int .i64 u2, .int .i64 v2] 56)
          replace Bi := Bi.trans (bn.mono Bi.size)
          clear bn E
          obtain ⟨n0, n1, n2, n3, _, _⟩ := K0.below Bi
          obtain ⟨m0, m1, m2', m3, _, _⟩ := id K1
          go_wp2_with fail
          refine (meet_any x y u v x2 y2 u2 v2 _ a1 a2 a3 a4 c1 c2 c3 c4).mono ?_
          rintro e w3 ⟨rfl, hb⟩
          replace Bi := Bi.trans (hb.mono Bi.size)
          clear hb n0 n1 n2 n3 m0 m1 m2' m3 K1 g1 g2 g3 g4
          cases o1 : metI x y u v x2 y2 u2 v2
          · have R := MN.out o1
            clear MN MF o1
            go_wp2
            go_roundw
            case rel => exact ⟨i + 1, by omega, by go_num, R, Bi⟩
            case measure => simp [intOf]; omega
          · have R4 : Hid (decide (0 ≤ (j : Int)) = anyQ es fs ∧ -1 ≤ (j : Int) ∧ (j : Int) < es.length + 1) := MF.out o1
            clear MN MF o1
            go_wp2
            go_ret
            exact ⟨_, rfl, R4, B0.trans ((B.trans (Bi.mono B.size)).mono B0.size)⟩
        · obtain rfl : i = fs.length := by omega
          have M2 := M.out
          rw [List.take_length] at M2
          have R := RN.out M2
          clear RN RF M M2
          go_wp2
          go_roundw
          case rel => exact ⟨j + 1, by omega, by go_num, R, B.trans (Bi.mono B.size)⟩
          case measure => simp [intOf]; omega
    · obtain rfl : j = es.length := by omega
      have T2 : Hid (anyQ es fs = false) := by have := T.out; rwa [List.take_length] at this
      clear T
      go_wp2
      go_ret
      exact ⟨-1, rfl, ⟨by rw [T2.out]; rfl, by omega, by omega⟩, B0.trans (B.mono B0.size)⟩
end Go.Proofs.Ythafhfdhahbdoaa
