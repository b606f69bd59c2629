import Derived.Test.YtinlomcaagdbiaaGreatRing
import Derived.Test.YtinlomcaagdbiaaGreatPtM
import Derived.Test.YtinlomcaagdbiaaGreatSeg
import Derived.Test.YtinlomcaagdbiaaGreatSpotI
/- Whether an edge of a ring meets one of another one: of the specification (l5Touch). -/
namespace Go.Proofs.YtinlomcaagdbiaaGreat
open Go.RowKit

def mtE (ps qs : List (Int × Int)) (i k : Nat) : Bool := metI (ptA ps i).1 (ptA ps i).2 (ptA ps (nx ps.length i)).1 (ptA ps (nx ps.length i)).2 (ptA qs k).1 (ptA qs k).2 (ptA qs (nx qs.length k)).1 (ptA qs (nx qs.length k)).2
def mtR (ps qs : List (Int × Int)) (i : Nat) : Nat → Bool
 | 0 => false
 | k + 1 => mtR ps qs i k || mtE ps qs i k
def tch (ps qs : List (Int × Int)) : Nat → Bool
 | 0 => false
 | i + 1 => tch ps qs i || mtR ps qs i qs.length
theorem mtR_mono {ps qs : List (Int × Int)} {i : Nat} : ∀ {k m : Nat}, k ≤ m → mtR ps qs i k = true → mtR ps qs i m = true
 | k, 0, h, e => by
   obtain rfl : k = 0 := by omega
   exact e
 | k, m + 1, h, e => by
  rcases Nat.lt_or_ge m k with c | c
  ·obtain rfl : k = m + 1 := by omega
   exact e
  ·simp only [mtR]
   rw [mtR_mono c e]
   rfl
theorem tch_mono {ps qs : List (Int × Int)} : ∀ {k m : Nat}, k ≤ m → tch ps qs k = true → tch ps qs m = true
 | k, 0, h, e => by
   obtain rfl : k = 0 := by omega
   exact e
 | k, m + 1, h, e => by
  rcases Nat.lt_or_ge m k with c | c
  ·obtain rfl : k = m + 1 := by omega
   exact e
  ·simp only [tch]
   rw [tch_mono c e]
   rfl

set_option maxRecDepth 20000 in
set_option maxHeartbeats 1500000 in
theorem l5Touch_any (a b : Option Addr) (c d : Nat) (ps qs : List (Int × Int)) (w : World) (h : SeesP w a c ps) (k : SeesP w b d qs) (ok : okL ps = true) (oq : okL qs = true) :
  Calls Tryz.prog 90 #[.slice a ps.length c, .slice b qs.length d] w fun e w' => ∃ z : Int, e = .returned (.int .i64 z) ∧ Hid (decide (0 ≤ z) = tch ps qs ps.length ∧ -1 ≤ z ∧ z < ps.length + 1) ∧ Below w.heap.size w w' := by
 have hm := h.max
 have hf := h.fits
 unfold maxLen at hm
 have km := k.max
 have kf := k.fits
 unfold maxLen at km
 go_enter Tryz.func90, Tryz.ntmps90
 go_wp2
 go_loopw [5, 6, 7, 8, 9, 10] (fun s5 _ _ _ _ _ wr => ∃ j : Nat, j ≤ ps.length ∧ s5 = .int .i64 j ∧ Hid (tch ps qs j = false) ∧ Below w.heap.size w wr) (fun s5 _ _ _ _ _ _ => ps.length - (intOf s5).toNat)
 case atStart => exact ⟨0, Nat.zero_le _, rfl, rfl, Below.refl _ _⟩
 case round =>
  obtain ⟨j, hj, rfl, T, B⟩ := hrel
  rename World => wr
  by_cases hlt : j < ps.length
  ·obtain ⟨a1, a2⟩ := okL_at ok hlt
   obtain ⟨a3, a4⟩ := okL_at ok (nx_lt hlt)
   go_wp2_with fail
   refine (l5Edge_any a c ps j _ (h.below B) hlt).mono ?_
   rintro e w1 ⟨rfl, hb⟩
   replace B := B.trans (hb.mono B.size)
   clear hb
   obtain ⟨x, hx⟩ : ∃ z, Hid ((ptA ps j).1 = z) := ⟨_, rfl⟩
   obtain ⟨y, hy⟩ : ∃ z, Hid ((ptA ps j).2 = z) := ⟨_, rfl⟩
   obtain ⟨u, hu⟩ : ∃ z, Hid ((ptA ps (nx ps.length j)).1 = z) := ⟨_, rfl⟩
   obtain ⟨v, hv⟩ : ∃ z, Hid ((ptA ps (nx ps.length j)).2 = z) := ⟨_, rfl⟩
   rw [hx.out, hy.out, hu.out, hv.out]
   rw [hx.out] at a1
   rw [hy.out] at a2
   rw [hu.out] at a3
   rw [hv.out] at a4
   have V1 := (Box2.new w1 (lo := w.heap.size) B.size (.int .i64 x) (.int .i64 y) 25).below (below1 _ (.cells #[.int .i64 u, .int .i64 v] 25))
   have V2 := Box2.new (w1.alloc (.cells #[.int .i64 x, .int .i64 y] 25)) (lo := w.heap.size) (by have := B.size; simp; omega) (.int .i64 u) (.int .i64 v) 25
   rw [World.size_alloc] at V2
   have bn := below2 w1 (.cells #[.int .i64 x, .int .i64 y] 25) (.cells #[.int .i64 u, .int .i64 v] 25)
   replace B := B.trans (bn.mono B.size)
   clear bn
   go_wp2_with fail
   generalize (w1.alloc (.cells #[.int .i64 x, .int .i64 y] 25)).alloc (.cells #[.int .i64 u, .int .i64 v] 25) = W1 at *
   generalize w1.heap.size = q1 at *
   go_loopw [8, 9, 10] (fun s8 _ _ wi => ∃ i : Nat, i ≤ qs.length ∧ s8 = .int .i64 i ∧ Hid (mtR ps qs j i = false) ∧ Below W1.heap.size W1 wi) (fun s8 _ _ _ => qs.length - (intOf s8).toNat)
   case atStart => exact ⟨0, Nat.zero_le _, rfl, rfl, Below.refl _ _⟩
   case round =>
    obtain ⟨i, hi, rfl, M, Bi⟩ := hrel
    rename World => wi
    by_cases hli : i < qs.length
    ·obtain ⟨c1, c2⟩ := okL_at oq hli
     obtain ⟨c3, c4⟩ := okL_at oq (nx_lt hli)
     go_wp2_with fail
     refine (l5Edge_any b d qs i _ ((k.below B).below Bi) hli).mono ?_
     rintro e w2 ⟨rfl, hb⟩
     replace Bi := Bi.trans (hb.mono Bi.size)
     clear hb
     have E : Hid (mtE ps qs j i = metI x y u v (ptA qs i).1 (ptA qs i).2 (ptA qs (nx qs.length i)).1 (ptA qs (nx qs.length i)).2) := by
      show _ = _
      unfold mtE
      rw [hx.out, hy.out, hu.out, hv.out]
     generalize (ptA qs i).1 = x2 at *
     generalize (ptA qs i).2 = y2 at *
     generalize (ptA qs (nx qs.length i)).1 = u2 at *
     generalize (ptA qs (nx qs.length i)).2 = v2 at *
     have V3 := (Box2.new w2 (lo := w.heap.size) (Nat.le_trans B.size Bi.size) (.int .i64 x2) (.int .i64 y2) 25).below (below1 _ (.cells #[.int .i64 u2, .int .i64 v2] 25))
     have V4 := Box2.new (w2.alloc (.cells #[.int .i64 x2, .int .i64 y2] 25)) (lo := w.heap.size) (by have := Nat.le_trans B.size Bi.size; simp; omega) (.int .i64 u2) (.int .i64 v2) 25
     rw [World.size_alloc] at V4
     have bn := below2 w2 (.cells #[.int .i64 x2, .int .i64 y2] 25) (.cells #[.int .i64 u2, .int .i64 v2] 25)
     replace Bi := Bi.trans (bn.mono Bi.size)
     clear bn
     obtain ⟨g0, g1, _, _⟩ := V1.below Bi
     obtain ⟨g2, g3, _, _⟩ := V2.below Bi
     obtain ⟨g4, g5, _, _⟩ := id V3
     obtain ⟨g6, g7, _, _⟩ := id V4
     go_wp2_with fail
     generalize (w2.alloc (.cells #[.int .i64 x2, .int .i64 y2] 25)).alloc (.cells #[.int .i64 u2, .int .i64 v2] 25) = W2 at *
     refine (l3Meet_any x y u v x2 y2 u2 v2 _ a1 a2 a3 a4 c1 c2 c3 c4).mono ?_
     rintro e w3 ⟨rfl, hb⟩
     rw [← met_same]
     replace Bi := Bi.trans (hb.mono Bi.size)
     clear hb g0 g1 g2 g3 g4 g5 g6 g7 V3 V4
     cases hq : metI x y u v x2 y2 u2 v2
     ·rw [hq] at E
      go_wp2
      go_roundw
      case rel => exact ⟨i + 1, by omega, by go_num, (by show _ = _; simp only [mtR]; rw [M.out, E.out]; rfl), Bi⟩
      case measure => simp [intOf]; omega
     ·rw [hq] at E
      have R1 : mtR ps qs j (i + 1) = true := by simp only [mtR]; rw [E.out]; simp
      have R2 := mtR_mono (show i + 1 ≤ qs.length by omega) R1
      have R3 : tch ps qs (j + 1) = true := by simp only [tch]; rw [R2]; simp
      have R4 : Hid (decide (0 ≤ (j : Int)) = tch ps qs ps.length ∧ -1 ≤ (j : Int) ∧ (j : Int) < ps.length + 1) := ⟨by rw [tch_mono (show j + 1 ≤ ps.length by omega) R3]; simp, by omega, by omega⟩
      clear R1 R2 R3
      go_wp2
      go_ret
      exact ⟨_, rfl, R4, B.trans (Bi.mono B.size)⟩
    ·obtain rfl : i = qs.length := by omega
     go_wp2
     go_roundw
     case rel => exact ⟨j + 1, by omega, by go_num, (by show _ = _; simp only [tch]; rw [T.out, M.out]; rfl), B.trans (Bi.mono B.size)⟩
     case measure => simp [intOf]; omega
  ·obtain rfl : j = ps.length := by omega
   go_wp2
   go_ret
   exact ⟨-1, rfl, ⟨by rw [T.out]; rfl, by omega, by omega⟩, B⟩
end Go.Proofs.YtinlomcaagdbiaaGreat

/- The first edge of a ring that has a point together with one of others: of the program (firstMeeting). -/
namespace Go.Proofs.YtinlomcaagdbiaaGreat
open Go.RowKit

def mtS (e f : Sg) : Bool := metI e.1.1 e.1.2 e.2.1 e.2.2 f.1.1 f.1.2 f.2.1 f.2.2
def anyE (e : Sg) (fs : List Sg) : Bool := fs.any (mtS e)
def anyQ (es fs : List Sg) : Bool := es.any fun e => anyE e fs
theorem take_sg {es : List Sg} {j : Nat} (h : j < es.length) : es.take (j + 1) = es.take j ++ [sgA es j] := by
 rw [List.take_add_one, List.getElem?_eq_getElem h]
 unfold sgA
 rw [List.getElem?_eq_getElem h]
 rfl
theorem anyE_step {e : Sg} {fs : List Sg} {j : Nat} (h : j < fs.length) (k : anyE e (fs.take j) = false) : anyE e (fs.take (j + 1)) = mtS e (sgA fs j) := by
 unfold anyE at *
 rw [take_sg h, List.any_append, k]
 simp
theorem anyE_found {e : Sg} {fs : List Sg} {j : Nat} (h : j < fs.length) (k : mtS e (sgA fs j) = true) : anyE e fs = true := by
 unfold anyE
 rw [List.any_eq_true]
 refine ⟨sgA fs j, ?_, k⟩
 unfold sgA
 rw [List.getElem?_eq_getElem h]
 exact List.getElem_mem h
theorem anyQ_step {es fs : List Sg} {j : Nat} (h : j < es.length) (k : anyQ (es.take j) fs = false) : anyQ (es.take (j + 1)) fs = anyE (sgA es j) fs := by
 unfold anyQ at *
 rw [take_sg h, List.any_append, k]
 simp
theorem anyQ_found {es fs : List Sg} {j : Nat} (h : j < es.length) (k : anyE (sgA es j) fs = true) : anyQ es fs = true := by
 unfold anyQ
 rw [List.any_eq_true]
 refine ⟨sgA es j, ?_, k⟩
 unfold sgA
 rw [List.getElem?_eq_getElem h]
 exact List.getElem_mem h

set_option maxRecDepth 20000 in
set_option maxHeartbeats 2500000 in
theorem firstMeeting_any (a b : Option Addr) (c d : Nat) (es : List Sg) (rs : List (List Sg)) (w : World) (h : SeesQ w a c es) (k : SeesR w b d rs) (ok : okQ es = true) (oq : okQ rs.flatten = true) (hn : rs.length ≤ 12) (hl : ∀ i, i < rs.length → 0 < (rowQ rs i).length ∧ (rowQ rs i).length ≤ 60) :
  Calls Tryz.prog 119 #[.slice a es.length c, .slice b rs.length d] w fun e w' => ∃ z : Int, e = .returned (.int .i64 z) ∧ Hid (decide (0 ≤ z) = anyQ es rs.flatten ∧ -1 ≤ z ∧ z < es.length + 1) ∧ Below w.heap.size w w' := by
 have hm := h.max
 have hf := h.fits
 unfold maxLen at hm
 obtain ⟨fs, hfs⟩ : ∃ z, Hid (rs.flatten = z) := ⟨_, rfl⟩
 rw [hfs.out] at oq ⊢
 go_enter Tryz.func119, Tryz.ntmps119
 go_wp2_with fail
 refine (concatQ b d rs _ k hn hl).mono ?_
 rintro e w1 ⟨v, rfl, R, B0⟩
 rw [hfs.out] at R
 clear hl k hfs
 obtain ⟨a2, c2, rfl, f2, m2⟩ := R.shape
 have S := R.sees
 replace h := h.below B0
 unfold maxLen at m2
 clear R
 go_wp2
 go_loopw [14] (fun s14 wr => ∃ j : Nat, j ≤ es.length ∧ s14 = .int .i64 j ∧ Hid (anyQ (es.take j) fs = false) ∧ Below w1.heap.size w1 wr) (fun s14 _ => es.length - (intOf s14).toNat)
 case atStart => exact ⟨0, Nat.zero_le _, rfl, rfl, Below.refl _ _⟩
 case round =>
  obtain ⟨j, hj, rfl, T, B⟩ := hrel
  rename World => wr
  by_cases hlt : j < es.length
  ·obtain ⟨⟨a1, a2⟩, ⟨a3, a4⟩⟩ := okQ_at ok hlt
   obtain ⟨b0, off, rfl, hc⟩ := (h.below B).cells (by intro e; simp [e] at hlt)
   obtain ⟨g1, g2, g3, g4⟩ := hc j hlt
   clear hc
   have RF : Hid (anyE (sgA es j) fs = true → decide (0 ≤ (j : Int)) = anyQ es fs ∧ -1 ≤ (j : Int) ∧ (j : Int) < es.length + 1) := fun q => ⟨by rw [anyQ_found hlt q]; simp, by omega, by omega⟩
   have RN : Hid (anyE (sgA es j) fs = false → anyQ (es.take (j + 1)) fs = false) := fun q => by rw [anyQ_step hlt T.out]; exact q
   clear T
   generalize sgA es j = e0 at *
   obtain ⟨⟨x, y⟩, ⟨u, v⟩⟩ := e0
   dsimp only at a1 a2 a3 a4 g1 g2 g3 g4
   have K0 := Box4.new wr (lo := w.heap.size) (Nat.le_trans B0.size B.size) (.int .i64 x) (.int .i64 y) (.int .i64 u) (.int .i64 v) 182
   have bn := below1 wr (.cells #[.int .i64 x, .int .i64 y, .int .i64 u, .int .i64 v] 182)
   replace B := B.trans (bn.mono B.size)
   clear bn
   go_wp2
   clear g1 g2 g3 g4
   generalize wr.alloc (.cells #[.int .i64 x, .int .i64 y, .int .i64 u, .int .i64 v] 182) = W0 at *
   generalize wr.heap.size = qe at *
   go_loopw [21] (fun s21 wi => ∃ i : Nat, i ≤ fs.length ∧ s21 = .int .i64 i ∧ Hid (anyE ((x, y), (u, v)) (fs.take i) = false) ∧ Below W0.heap.size W0 wi) (fun s21 _ => fs.length - (intOf s21).toNat)
   case atStart => exact ⟨0, Nat.zero_le _, rfl, rfl, Below.refl _ _⟩
   case round =>
    obtain ⟨i, hi, rfl, M, Bi⟩ := hrel
    rename World => wi
    by_cases hli : i < fs.length
    ·obtain ⟨⟨c1, c2⟩, ⟨c3, c4⟩⟩ := okQ_at oq hli
     obtain ⟨b2, off2, rfl, hc2⟩ := ((S.below B).below Bi).cells (by intro e; simp [e] at hli)
     obtain ⟨g1, g2, g3, g4⟩ := hc2 i hli
     clear hc2
     have MF : Hid (mtS ((x, y), (u, v)) (sgA fs i) = true → decide (0 ≤ (j : Int)) = anyQ es fs ∧ -1 ≤ (j : Int) ∧ (j : Int) < es.length + 1) := fun q => RF.out (anyE_found hli q)
     have MN : Hid (mtS ((x, y), (u, v)) (sgA fs i) = false → anyE ((x, y), (u, v)) (fs.take (i + 1)) = false) := fun q => by rw [anyE_step hli M.out]; exact q
     clear M
     generalize sgA fs i = f0 at *
     obtain ⟨⟨x2, y2⟩, ⟨u2, v2⟩⟩ := f0
     dsimp only at c1 c2 c3 c4 g1 g2 g3 g4
     have E : Hid (mtS ((x, y), (u, v)) ((x2, y2), (u2, v2)) = metI x y u v x2 y2 u2 v2) := (rfl : mtS _ _ = _)
     rw [E.out] at MF MN
     have K1 := Box4.new wi (lo := w.heap.size) (Nat.le_trans B0.size (Nat.le_trans B.size Bi.size)) (.int .i64 x2) (.int .i64 y2) (.int .i64 u2) (.int .i64 v2) 182
     have bn := below1 wi (.cells #[.int .i64 x2, .int .i64 y2, .int .i64 u2, .int .i64 v2] 182)
     replace Bi := Bi.trans (bn.mono Bi.size)
     clear bn E
     obtain ⟨n0, n1, n2, n3, _, _⟩ := K0.below Bi
     obtain ⟨m0, m1, m2', m3, _, _⟩ := id K1
     go_wp2_with fail
     refine (meet_any x y u v x2 y2 u2 v2 _ a1 a2 a3 a4 c1 c2 c3 c4).mono ?_
     rintro e w3 ⟨rfl, hb⟩
     replace Bi := Bi.trans (hb.mono Bi.size)
     clear hb n0 n1 n2 n3 m0 m1 m2' m3 K1 g1 g2 g3 g4
     cases o1 : metI x y u v x2 y2 u2 v2
     ·have R := MN.out o1
      clear MN MF o1
      go_wp2
      go_roundw
      case rel => exact ⟨i + 1, by omega, by go_num, R, Bi⟩
      case measure => simp [intOf]; omega
     ·have R4 : Hid (decide (0 ≤ (j : Int)) = anyQ es fs ∧ -1 ≤ (j : Int) ∧ (j : Int) < es.length + 1) := MF.out o1
      clear MN MF o1
      go_wp2
      go_ret
      exact ⟨_, rfl, R4, B0.trans ((B.trans (Bi.mono B.size)).mono B0.size)⟩
    ·obtain rfl : i = fs.length := by omega
     have M2 := M.out
     rw [List.take_length] at M2
     have R := RN.out M2
     clear RN RF M M2
     go_wp2
     go_roundw
     case rel => exact ⟨j + 1, by omega, by go_num, R, B.trans (Bi.mono B.size)⟩
     case measure => simp [intOf]; omega
  ·obtain rfl : j = es.length := by omega
   have T2 : Hid (anyQ es fs = false) := by have := T.out; rwa [List.take_length] at this
   clear T
   go_wp2
   go_ret
   exact ⟨-1, rfl, ⟨by rw [T2.out]; rfl, by omega, by omega⟩, B0.trans (B.mono B0.size)⟩
end Go.Proofs.YtinlomcaagdbiaaGreat
