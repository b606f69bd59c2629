import Derived.Test.YtinlomcaagdbiaaGreatGoodI
import Derived.Test.YtinlomcaagdbiaaGreatSeg
import Derived.Test.YtinlomcaagdbiaaGreatPtB
import Derived.BigRegion
/- All points of a shape: of the specification (l5Points). -/
namespace Go.Proofs.YtinlomcaagdbiaaGreat
open Go.RowKit

set_option maxRecDepth 20000 in
set_option maxHeartbeats 1000000 in
theorem l5Points_any (n : Int) (a : Option Addr) (c : Nat) (rs : List (List (Int × Int))) (w : World) (h : SeesS w a c rs) (hn : rs.length ≤ 12) (hl : ∀ i, i < rs.length → 0 < (rowA rs i).length ∧ (rowA rs i).length ≤ 60) :
  Calls Tryz.prog 37 #[.agg #[.int .i64 n, .slice a rs.length c]] w fun e w' => ∃ v, e = .returned v ∧ RowPt w.heap.size w' v rs.flatten ∧ Below w.heap.size w w' := by
 obtain ⟨i0, hi, hz0, hz1, hz2⟩ := info_parts infoPt
 have hm := h.max
 have hf := h.fits
 unfold maxLen at hm
 have B0 := below1 w (.cells #[.int .i64 n, .slice a rs.length c] 50)
 have R0 := RowPt.empty (w.alloc (.cells #[.int .i64 n, .slice a rs.length c] 50)) (Nat.le_refl _)
 have B1 := below1 (w.alloc (.cells #[.int .i64 n, .slice a rs.length c] 50)) (.cells #[] 25)
 have VS := Box2.new w (lo := w.heap.size) (Nat.le_refl _) (.int .i64 n) (.slice a rs.length c) 50
 have SW := h.below B0
 have hW : (w.alloc (.cells #[.int .i64 n, .slice a rs.length c] 50)).heap.size = w.heap.size + 1 := by simp
 rw [hW] at R0 B1
 have HL : Hid (∀ i, i < rs.length → 0 < (rowA rs i).length ∧ (rowA rs i).length ≤ 60) := hl
 have HB : Hid (∀ j, j ≤ rs.length → lenToP rs j ≤ 60 * j) := lenToP_le rs (fun i q => (hl i q).2)
 have HF : Hid (∀ j, j ≤ rs.length → (rs.take j).flatten.length = lenToP rs j) := lenToP_flat rs
 clear hl h
 go_enter Tryz.func37, Tryz.ntmps37
 go_wp2
 generalize w.alloc (.cells #[.int .i64 n, .slice a rs.length c] 50) = W1 at *
 generalize W1.alloc (.cells #[] 25) = W at *
 go_loopw [3, 4] (fun s3 s4 wr => ∃ j : Nat, j ≤ rs.length ∧ s4 = .int .i64 j ∧ RowPt (w.heap.size + 1) wr s3 (rs.take j).flatten ∧ Below (w.heap.size + 1) W1 wr) (fun _ s4 _ => rs.length - (intOf s4).toNat)
 case atStart => exact ⟨0, Nat.zero_le _, rfl, R0, B1⟩
 case round =>
  clear R0 B1
  obtain ⟨i, hi', rfl, R, B⟩ := hrel
  rename World => wr
  have B' : Below W1.heap.size W1 wr := by rw [hW]; exact B
  obtain ⟨k0, k1, _, _⟩ := VS.below B'
  by_cases hli : i < rs.length
  ·obtain ⟨b, off, rfl, hc⟩ := (SW.below B').cells (by intro e; simp [e] at hli)
   obtain ⟨a', c', g, S⟩ := hc i hli
   obtain ⟨b1, b2⟩ := HL.out i hli
   have FT := flat_takeP rs i hli
   have b3 : ((rs.take i).flatten).length ≤ 60 * i := by rw [HF.out i (by omega)]; exact HB.out i (by omega)
   obtain ⟨b5, o5, rfl, _⟩ := S.cells (by intro e; simp [e] at b1)
   have NW := S.news
   obtain ⟨ts, hts⟩ : ∃ z, Hid ((rs.take i).flatten = z) := ⟨_, rfl⟩
   rw [hts.out] at FT R b3
   have HFT : Hid ((rs.take (i + 1)).flatten = ts ++ rowA rs i) := FT
   clear hc FT hts S
   generalize rowA rs i = qs at *
   have bz : w.heap.size + 1 ≤ wr.heap.size := by have := B'.size; omega
   go_wp2_with (at_builtin; refine wpList_append_own _ rfl (.tmp 13) (.tmp 18) 78 rfl (w.heap.size + 1) 25 i0 (.agg #[.int .i64 0, .int .i64 0]) 2 16 Tryz.underlying78 hi hz0 hz1 hz2 rfl (by decide) u3 ts.length (ptC ts) rfl R ⟨b5, o5, none⟩ qs.length _ (ptC qs) rfl (ptC_len _) NW (ptC_ones _) (by unfold maxLen; omega) (by omega) bz ?_)
   intro v7 w7 R7 G7 _
   rw [← ptC_append, ← List.length_append] at R7
   have B7 := B.grown G7 bz (fun k hk => (World.ownsRow.lt R k hk).1)
   clear k0 k1
   go_wp2
   go_roundw
   case rel => exact ⟨i + 1, by omega, by go_num, (by rw [HFT.out]; exact R7), B7⟩
   case measure => simp [intOf]; omega
  ·obtain rfl : i = rs.length := by omega
   rw [List.take_length] at R
   go_wp2
   go_ret
   exact ⟨_, rfl, row_base R (by omega), B0.trans (B'.mono B0.size)⟩
end Go.Proofs.YtinlomcaagdbiaaGreat

/- Overlaps, points in boxes, boxes in boxes. -/
namespace Go.Proofs.YtinlomcaagdbiaaGreat
open Go.RowKit

theorem boxOk_le {a b c d : Int} (h : boxOk a b c d = true) : a ≤ c ∧ b ≤ d := by unfold boxOk at h; simp at h; exact h.2.2
theorem boxOk_crd {a b c d : Int} (h : boxOk a b c d = true) : Crd a ∧ Crd b ∧ Crd c ∧ Crd d := by
 unfold boxOk ptOk at h
 simp only [Bool.and_eq_true, inB_true] at h
 unfold Crd
 omega
end Go.Proofs.YtinlomcaagdbiaaGreat

/- A box that grows in place. -/
namespace Go.Proofs.YtinlomcaagdbiaaGreat
open Go.RowKit

theorem grownBy_draw {w w' : World} {row : Option Nat} (h : w.grownBy w' row) : w.grownBy w'.drew row := grownBy_drewN h 1
theorem Box4.drew {lo p : Nat} {w : World} {x0 x1 x2 x3 : Value} (h : Box4 lo w p x0 x1 x2 x3) : Box4 lo w.drew p x0 x1 x2 x3 := ⟨h.c0, h.c1, h.c2, h.c3, h.fr, h.lo⟩
theorem Box4.as {lo p : Nat} {w : World} {a b c d a' b' c' d' : Int} (h : Box4 lo w p (.int .i64 a) (.int .i64 b) (.int .i64 c) (.int .i64 d)) (e1 : a = a') (e2 : b = b') (e3 : c = c') (e4 : d = d') :
  Box4 lo w p (.int .i64 a') (.int .i64 b') (.int .i64 c') (.int .i64 d') := by subst e1 e2 e3 e4; exact h

set_option maxHeartbeats 4000000 in
theorem reach_any (lo p : Nat) (a b c d x y : Int) (w : World) (P : Box4 lo w p (.int .i64 a) (.int .i64 b) (.int .i64 c) (.int .i64 d)) :
  Calls Tryz.prog 79 #[.pointer (some ⟨p, 0, none⟩), .agg #[.int .i64 x, .int .i64 y]] w fun e w' => e = .returned (.tuple #[]) ∧ Box4 lo w' p (.int .i64 (min a x)) (.int .i64 (min b y)) (.int .i64 (max c x)) (.int .i64 (max d y)) ∧ w.grownBy w' (some p) := by
 have k0 := ptbox1 w x y 25
 have B0 := ptbelow1 w x y 25
 have G : w.grownBy (w.alloc (.cells #[.int .i64 x, .int .i64 y] 25)) (some p) := World.grownBy_alloc _ _ _
 have hp := P.lt
 replace P := P.below B0
 have hp' : w.heap.size ≠ p := by omega
 go_enter Tryz.func79, Tryz.ntmps79
 go_wp2_with fail
 generalize (w.alloc (.cells #[.int .i64 x, .int .i64 y] 25)) = W0 at *
 have Q := P
 obtain ⟨c0, c1, c2, c3, cf, _⟩ := P
 obtain ⟨k1, k2⟩ := k0
 go_region
 clear c0 c1 c2 c3 cf
 have j1 := (put_old2 (o := 0) hp' (.int .i64 (if x < a then x else a)) (.int .i64 (if y < b then y else b))).trans k1
 have j2 := (put_old2 (o := 1) hp' (.int .i64 (if x < a then x else a)) (.int .i64 (if y < b then y else b))).trans k2
 clear k1 k2 B0
 replace Q := (Q.putLo (.int .i64 (if x < a then x else a)) (.int .i64 (if y < b then y else b)))
 replace G := (grownBy_setCell (grownBy_setCell G (p := ⟨p, 0, none⟩) rfl (.int .i64 (if x < a then x else a))) (p := ⟨p, 1, none⟩) rfl (.int .i64 (if y < b then y else b)))
 generalize (W0.setCell ⟨p, 0, none⟩ (.int .i64 (if x < a then x else a))).setCell ⟨p, 1, none⟩ (.int .i64 (if y < b then y else b)) = W1 at *
 have E1 : Hid ((if x < a then x else a) = min a x) := by show (if x < a then x else a) = min a x; split <;> omega
 have E2 : Hid ((if y < b then y else b) = min b y) := by show (if y < b then y else b) = min b y; split <;> omega
 have E3 : (if c < x then x else c) = max c x := by split <;> omega
 have E4 : (if d < y then y else d) = max d y := by split <;> omega
 rw [E1.out, E2.out] at Q ⊢
 have F3 : Hid ((if c < x then x else c) = max c x) := E3
 have F4 : Hid ((if d < y then y else d) = max d y) := E4
 clear E1 E2 E3 E4
 have i1 : W1.drew.cell? ⟨w.heap.size, 0, none⟩ = some (.int .i64 x) := j1
 have i2 : W1.drew.cell? ⟨w.heap.size, 1, none⟩ = some (.int .i64 y) := j2
 replace Q := Q.drew
 replace G := grownBy_draw G
 clear j1 j2
 generalize W1.drew = W2 at *
 have Q2 := Q
 obtain ⟨c0, c1, c2, c3, cf, _⟩ := Q
 go_wp2_with fail
 go_region
 rw [F3.out, F4.out]
 go_wp2_with fail
 exact bodyPost_end (results_none Tryz.results79 _ _ _) rfl ⟨rfl, (Q2.putHi (.int .i64 (max c x)) (.int .i64 (max d y))).drew, grownBy_draw (grownBy_setCell (grownBy_setCell G (p := ⟨p, 2, none⟩) rfl (.int .i64 (max c x))) (p := ⟨p, 3, none⟩) rfl (.int .i64 (max d y)))⟩

end Go.Proofs.YtinlomcaagdbiaaGreat

/- A box that takes another one in; the program's Join. -/
namespace Go.Proofs.YtinlomcaagdbiaaGreat
open Go.RowKit

def jA (a b c d m n r s : Int) : Int := if boxOk m n r s then (if boxOk a b c d then min a m else m) else a
def jB (a b c d m n r s : Int) : Int := if boxOk m n r s then (if boxOk a b c d then min b n else n) else b
def jC (a b c d m n r s : Int) : Int := if boxOk m n r s then (if boxOk a b c d then max c r else r) else c
def jD (a b c d m n r s : Int) : Int := if boxOk m n r s then (if boxOk a b c d then max d s else s) else d
def oA (a b c d m n r s : Int) : Int := if boxOk a b c d || boxOk m n r s then jA a b c d m n r s else 0
def oB (a b c d m n r s : Int) : Int := if boxOk a b c d || boxOk m n r s then jB a b c d m n r s else 0
def oC (a b c d m n r s : Int) : Int := if boxOk a b c d || boxOk m n r s then jC a b c d m n r s else 0
def oD (a b c d m n r s : Int) : Int := if boxOk a b c d || boxOk m n r s then jD a b c d m n r s else 0
theorem crd_boxOk {a b c d : Int} (h1 : Crd a) (h2 : Crd b) (h3 : Crd c) (h4 : Crd d) (h5 : a ≤ c) (h6 : b ≤ d) : boxOk a b c d = true := by
 unfold boxOk ptOk
 simp only [Bool.and_eq_true, inB_true, decide_eq_true_eq]
 exact ⟨⟨h1, h2⟩, ⟨h3, h4⟩, h5, h6⟩
theorem crd_min {a b : Int} (h : Crd a) (k : Crd b) : Crd (min a b) := by unfold Crd at *; omega
theorem crd_max {a b : Int} (h : Crd a) (k : Crd b) : Crd (max a b) := by unfold Crd at *; omega
theorem joined_ok (a b c d m n r s : Int) : boxOk (jA a b c d m n r s) (jB a b c d m n r s) (jC a b c d m n r s) (jD a b c d m n r s) = (boxOk a b c d || boxOk m n r s) := by
 unfold jA jB jC jD
 cases h1 : boxOk a b c d <;> cases h2 : boxOk m n r s
 ·simpa using h1
 ·simpa using h2
 ·simpa using h1
 ·obtain ⟨p1, p2, p3, p4⟩ := boxOk_crd h1
  obtain ⟨q1, q2, q3, q4⟩ := boxOk_crd h2
  have := boxOk_le h1
  have := boxOk_le h2
  simp only [if_true, Bool.true_or]
  exact crd_boxOk (crd_min p1 q1) (crd_min p2 q2) (crd_max p3 q3) (crd_max p4 q4) (by omega) (by omega)
theorem grow_b {w w' : World} {row : Option Nat} (h : Below w.heap.size w w') : w.grownBy w' row := ⟨h.os, h.tape, h.output, h.size, fun k hk _ => h.block k hk⟩
theorem Box4.grown {lo p q : Nat} {w w' : World} {x0 x1 x2 x3 : Value} (h : Box4 lo w q x0 x1 x2 x3) (g : w.grownBy w' (some p)) (ne : q ≠ p) : Box4 lo w' q x0 x1 x2 x3 := by
 obtain ⟨hc, hf⟩ := grown_at g h.lt (by simpa using ne)
 exact ⟨(hc 0).trans h.c0, (hc 1).trans h.c1, (hc 2).trans h.c2, (hc 3).trans h.c3, fun o => (hf o).trans (h.fr o), h.lo⟩

set_option maxHeartbeats 4000000 in
theorem enclose_any (lo p : Nat) (a b c d m n r s : Int) (w : World) (P : Box4 lo w p (.int .i64 a) (.int .i64 b) (.int .i64 c) (.int .i64 d)) :
  Calls Tryz.prog 148 #[.pointer (some ⟨p, 0, none⟩), .agg #[.int .i64 m, .int .i64 n, .int .i64 r, .int .i64 s]] w fun e w' => e = .returned (.tuple #[]) ∧ Box4 lo w' p (.int .i64 (jA a b c d m n r s)) (.int .i64 (jB a b c d m n r s)) (.int .i64 (jC a b c d m n r s)) (.int .i64 (jD a b c d m n r s)) ∧ w.grownBy w' (some p) := by
 have K := Box4.new w (Nat.le_refl _) (.int .i64 m) (.int .i64 n) (.int .i64 r) (.int .i64 s) 27
 have B0 := below1 w (.cells #[.int .i64 m, .int .i64 n, .int .i64 r, .int .i64 s] 27)
 have G : w.grownBy (w.alloc (.cells #[.int .i64 m, .int .i64 n, .int .i64 r, .int .i64 s] 27)) (some p) := World.grownBy_alloc _ _ _
 have hp := P.lt
 replace P := P.below B0
 have hp' : w.heap.size ≠ p := by omega
 clear B0
 have HA : Hid (jA a b c d m n r s = if boxOk m n r s then (if boxOk a b c d then min a m else m) else a) := (rfl : jA a b c d m n r s = _)
 have HB : Hid (jB a b c d m n r s = if boxOk m n r s then (if boxOk a b c d then min b n else n) else b) := (rfl : jB a b c d m n r s = _)
 have HC : Hid (jC a b c d m n r s = if boxOk m n r s then (if boxOk a b c d then max c r else r) else c) := (rfl : jC a b c d m n r s = _)
 have HD : Hid (jD a b c d m n r s = if boxOk m n r s then (if boxOk a b c d then max d s else s) else d) := (rfl : jD a b c d m n r s = _)
 go_enter Tryz.func148, Tryz.ntmps148
 go_wp2_with fail
 generalize w.alloc (.cells #[.int .i64 m, .int .i64 n, .int .i64 r, .int .i64 s] 27) = W0 at *
 obtain ⟨c0, c1, c2, c3, cf, _⟩ := id P
 obtain ⟨k0, k1, k2, k3, _, _⟩ := id K
 cases hM : boxOk m n r s
 ·go_wp2_with (go_at_call 122; refine (implBoxOk _ _ _ _ _).mono ?_; rintro e w1 ⟨rfl, hb⟩; (first | rw [hM] | rw [hA]); replace G := grownBy_trans G (grow_b hb); replace P := P.below hb; replace K := K.below hb; clear hb; obtain ⟨c0, c1, c2, c3, cf, _⟩ := id P; obtain ⟨k0, k1, k2, k3, _, _⟩ := id K)
  exact bodyPost_end (results_none Tryz.results148 _ _ _) rfl ⟨rfl, P.as (by rw [HA.out, hM]; rfl) (by rw [HB.out, hM]; rfl) (by rw [HC.out, hM]; rfl) (by rw [HD.out, hM]; rfl), G⟩
 ·cases hA : boxOk a b c d
  ·go_wp2_with (go_at_call 122; refine (implBoxOk _ _ _ _ _).mono ?_; rintro e w1 ⟨rfl, hb⟩; (first | rw [hM] | rw [hA]); replace G := grownBy_trans G (grow_b hb); replace P := P.below hb; replace K := K.below hb; clear hb; obtain ⟨c0, c1, c2, c3, cf, _⟩ := id P; obtain ⟨k0, k1, k2, k3, _, _⟩ := id K)
   exact bodyPost_end (results_none Tryz.results148 _ _ _) rfl ⟨rfl, (P.put (.int .i64 m) (.int .i64 n) (.int .i64 r) (.int .i64 s)).as (by rw [HA.out, hM, hA]; rfl) (by rw [HB.out, hM, hA]; rfl) (by rw [HC.out, hM, hA]; rfl) (by rw [HD.out, hM, hA]; rfl), grownBy_setCell (grownBy_setCell (grownBy_setCell (grownBy_setCell G (p := ⟨p, 0, none⟩) rfl _) (p := ⟨p, 1, none⟩) rfl _) (p := ⟨p, 2, none⟩) rfl _) (p := ⟨p, 3, none⟩) rfl _⟩
  ·have g1 := boxOk_le hA
   have g2 := boxOk_le hM
   have EQ : Hid (a ≤ c ∧ b ≤ d ∧ m ≤ r ∧ n ≤ s) := ⟨g1.1, g1.2, g2.1, g2.2⟩
   clear g1 g2
   go_wp2_with (go_at_call 122; refine (implBoxOk _ _ _ _ _).mono ?_; rintro e w1 ⟨rfl, hb⟩; (first | rw [hM] | rw [hA]); replace G := grownBy_trans G (grow_b hb); replace P := P.below hb; replace K := K.below hb; clear hb; obtain ⟨c0, c1, c2, c3, cf, _⟩ := id P; obtain ⟨k0, k1, k2, k3, _, _⟩ := id K)
   clear c0 c1 c2 c3 cf k0 k1 k2 k3
   refine (reach_any _ _ _ _ _ _ _ _ _ P).mono ?_
   rintro e w2 ⟨rfl, P2, g⟩
   replace G := grownBy_trans G g
   replace K := K.grown g hp'
   clear g P
   obtain ⟨k0, k1, k2, k3, _, _⟩ := id K
   go_wp2_with fail
   refine (reach_any _ _ _ _ _ _ _ _ _ P2).mono ?_
   rintro e w3 ⟨rfl, P3, g⟩
   replace G := grownBy_trans G g
   clear g P2 k0 k1 k2 k3 K
   go_wp2_with fail
   obtain ⟨e1, e2, e3, e4⟩ := EQ.out
   exact bodyPost_end (results_none Tryz.results148 _ _ _) rfl ⟨rfl, P3.as (by rw [HA.out, hM, hA]; simp only [if_true]; omega) (by rw [HB.out, hM, hA]; simp only [if_true]; omega) (by rw [HC.out, hM, hA]; simp only [if_true]; omega) (by rw [HD.out, hM, hA]; simp only [if_true]; omega), G⟩

end Go.Proofs.YtinlomcaagdbiaaGreat

/- The least box of a list of points: of the program. -/
namespace Go.Proofs.YtinlomcaagdbiaaGreat
open Go.RowKit

theorem SeesP.grown {w w' : World} {b0 o0 p cap : Nat} {ps : List (Int × Int)} (h : SeesP w (some ⟨b0, o0, none⟩) cap ps) (hg : w.grownBy w' (some p)) (ne : b0 ≠ p) : SeesP w' (some ⟨b0, o0, none⟩) cap ps :=
 ⟨h.fits, h.max, fun hn => by
  obtain ⟨b, off, ha, hc⟩ := h.cells hn
  simp only [Option.some.injEq, Addr.mk.injEq] at ha
  obtain ⟨rfl, rfl, _⟩ := ha
  refine ⟨b0, o0, rfl, fun i hi => ?_⟩
  have hl : b0 < w.heap.size := World.block_lt_of_cell? _ _ (hc i hi).1
  obtain ⟨q, _⟩ := grown_at hg hl (by simpa using ne)
  exact ⟨(q _).trans (hc i hi).1, (q _).trans (hc i hi).2⟩⟩

set_option maxHeartbeats 4000000 in
theorem implBoxOf (a : Option Addr) (cap : Nat) (ps : List (Int × Int)) (w : World) (h : SeesP w a cap ps) :
  Calls Tryz.prog 61 #[.slice a ps.length cap] w fun e w' => e = .returned (.tuple #[.agg #[.int .i64 (bA ps), .int .i64 (bB ps), .int .i64 (bC ps), .int .i64 (bD ps)], .bool (bOk ps)]) ∧ Below w.heap.size w w' := by
 have hm := h.max
 have hf := h.fits
 unfold maxLen at hm
 by_cases hn : ps.length = 0
 ·obtain rfl : ps = [] := List.eq_nil_of_length_eq_zero hn
  clear h hf hn
  go_enter Tryz.func61, Tryz.ntmps61
  go_wp2
  exact bodyPost_ret (v := .tuple #[.agg #[.int .i64 0, .int .i64 0, .int .i64 0, .int .i64 0], .bool false]) (by simp [results, Tryz.results61, go_sem]) rfl ⟨rfl, below1 _ _⟩
 ·obtain ⟨b0, o0, rfl, hc⟩ := h.cells (by intro e; simp [e] at hn)
  obtain ⟨g1, g2⟩ := hc 0 (by omega)
  have hlt : b0 < w.heap.size := World.block_lt_of_cell? _ _ g1
  have hpos : 0 < ps.length := by omega
  obtain ⟨x0, hx⟩ : ∃ x, Hid ((hd ps).1 = x) := ⟨_, rfl⟩
  obtain ⟨y0, hy⟩ : ∃ y, Hid ((hd ps).2 = y) := ⟨_, rfl⟩
  have E1 : (ps[0]?.getD (0, 0)).1 = x0 := hx.out
  have E2 : (ps[0]?.getD (0, 0)).2 = y0 := hy.out
  rw [E1] at g1
  rw [E2] at g2
  simp only [Nat.zero_mul, Nat.add_zero] at g1 g2
  have B := below1 w (.cells #[.int .i64 0, .int .i64 0, .int .i64 0, .int .i64 0] 27)
  have P0 := Box4.new w (Nat.le_refl _) (.int .i64 0) (.int .i64 0) (.int .i64 0) (.int .i64 0) 27
  replace h := h.below B
  have hn0 : ((ps.length : Int) == 0) = false := by simpa using hn
  clear hc E1 E2 hn
  go_enter Tryz.func61, Tryz.ntmps61
  go_wp2_with fail
  refine (boxAt_any _ _ _).mono ?_
  rintro e w1 ⟨rfl, hb⟩
  replace B := B.trans (hb.mono B.size)
  replace h := h.below hb
  replace P0 := P0.below hb
  clear hb g1 g2
  have P1 := Box4.new w1 (lo := w.heap.size) B.size (.int .i64 x0) (.int .i64 y0) (.int .i64 x0) (.int .i64 y0) 27
  have bn := below1 w1 (.cells #[.int .i64 x0, .int .i64 y0, .int .i64 x0, .int .i64 y0] 27)
  have hq : w.heap.size < w1.heap.size := P0.lt
  replace h := h.below bn
  replace P0 := P0.below bn
  replace B := B.trans (bn.mono B.size)
  clear bn
  go_wp2_with fail
  generalize hQ : w1.heap.size = q at *
  generalize w1.alloc (.cells #[.int .i64 x0, .int .i64 y0, .int .i64 x0, .int .i64 y0] 27) = W1 at *
  clear hQ
  go_loopw [6, 17] (fun v i wr => ∃ j : Nat, j ≤ ps.length ∧ i = .int .i64 j ∧ Box4 w.heap.size wr q (.int .i64 (bxA (ps.take j) x0)) (.int .i64 (bxB (ps.take j) y0)) (.int .i64 (bxC (ps.take j) x0)) (.int .i64 (bxD (ps.take j) y0)) ∧ Box4 w.heap.size wr w.heap.size (.int .i64 0) (.int .i64 0) (.int .i64 0) (.int .i64 0) ∧ SeesP wr (some ⟨b0, o0, none⟩) cap ps ∧ Hid (okL (ps.take j) = true) ∧ Below w.heap.size w wr) (fun _ i _ => ps.length - (intOf i).toNat)
  case atStart => exact ⟨0, Nat.zero_le _, rfl, P1, P0, h, (rfl : okL (ps.take 0) = true), B⟩
  case round =>
   clear P1 P0 h B
   obtain ⟨j, hj, rfl, P1, P0, h, hk, B⟩ := hrel
   by_cases hlt' : j < ps.length
   ·skip
    obtain ⟨b1, o1, e, hc⟩ := h.cells (by intro e; simp [e] at hpos)
    simp only [Option.some.injEq, Addr.mk.injEq] at e
    obtain ⟨rfl, rfl, _⟩ := e
    obtain ⟨g1, g2⟩ := hc j hlt'
    obtain ⟨x, ux⟩ : ∃ x, Hid ((ps[j]?.getD (0, 0)).1 = x) := ⟨_, rfl⟩
    obtain ⟨y, uy⟩ : ∃ y, Hid ((ps[j]?.getD (0, 0)).2 = y) := ⟨_, rfl⟩
    rw [ux.out] at g1
    rw [uy.out] at g2
    clear hc
    rename_i wr _ _
    have Q1 := P1
    have K := Box2.new wr (lo := w.heap.size) B.size (.int .i64 x) (.int .i64 y) 25
    have bn := below1 wr (.cells #[.int .i64 x, .int .i64 y] 25)
    replace h := h.below bn
    replace P0 := P0.below bn
    replace P1 := P1.below bn
    replace B := B.trans (bn.mono B.size)
    clear bn
    have hlt2 : wr.heap.size < (wr.alloc (.cells #[.int .i64 x, .int .i64 y] 25)).heap.size := by simp
    have hqr : wr.heap.size ≠ q := by
     have := Q1.lt
     omega
    go_wp2_with fail
    generalize wr.alloc (.cells #[.int .i64 x, .int .i64 y] 25) = W2 at *
    refine (implPtOk _ _ _).mono ?_
    rintro e w3 ⟨rfl, hb⟩
    replace h := h.below hb
    replace P0 := P0.below hb
    replace P1 := P1.below hb
    replace K := K.below hb
    replace B := B.trans (hb.mono B.size)
    clear hb g1 g2
    cases hk2 : ptOk x y
    ·skip
     have hbad := okL_bad hlt' (by rw [ux.out, uy.out]; exact hk2)
     have hb0 : bOk ps = false := by unfold bOk; rw [hbad]; simp
     obtain ⟨e1, e2, e3, e4⟩ := b_bad hb0
     obtain ⟨d0, d1, d2, d3, df, _⟩ := id P0
     go_wp2
     rw [e1, e2, e3, e4, hb0]
     exact bodyPost_ret (v := .tuple #[.agg #[.int .i64 0, .int .i64 0, .int .i64 0, .int .i64 0], .bool false]) (by simp [results, Tryz.results61, go_sem, d0, d1, d2, d3]) rfl ⟨rfl, (((B.setCell (by simp) _).setCell (by simp) _).setCell (by simp) _).setCell (by simp) _⟩
    ·obtain ⟨k1, k2, _, _⟩ := id K
     go_wp2_with fail
     refine (reach_any _ _ _ _ _ _ _ _ _ P1).mono ?_
     rintro e w4 ⟨rfl, P4, gg⟩
     replace B := B.grown gg B.size (fun k hk => by injection hk with hk; subst hk; omega)
     replace P0 := P0.grown gg (by omega)
     replace h := h.grown gg (by omega)
     clear gg P1 K k1 k2
     obtain ⟨f1, _, f3, _⟩ := f_step hlt' x0
     obtain ⟨_, f2, _, f4⟩ := f_step hlt' y0
     have F : Hid (bxA (ps.take (j + 1)) x0 = min (bxA (ps.take j) x0) x ∧ bxB (ps.take (j + 1)) y0 = min (bxB (ps.take j) y0) y ∧ bxC (ps.take (j + 1)) x0 = max (bxC (ps.take j) x0) x ∧ bxD (ps.take (j + 1)) y0 = max (bxD (ps.take j) y0) y) := by
      rw [ux.out] at f1 f3
      rw [uy.out] at f2 f4
      exact ⟨f1, f2, f3, f4⟩
     have OK : Hid (okL (ps.take (j + 1)) = true) := by
      show _ = true
      rw [okL_step hlt' hk.out, ux.out, uy.out, hk2]
     clear f1 f2 f3 f4
     go_wp2_with fail
     go_roundw
     case rel =>
      obtain ⟨f1, f2, f3, f4⟩ := F.out
      exact ⟨j + 1, by omega, by go_num, P4.as f1.symm f2.symm f3.symm f4.symm, P0, h, OK, B⟩
     case measure => simp [intOf]; omega
   ·skip
    have hje : j = ps.length := by omega
    subst hje
    rw [List.take_length] at P1 hk
    have hgood : bOk ps = true := by unfold bOk; rw [hk.out]; cases ps with | nil => simp at hpos | cons => rfl
    obtain ⟨e1, e2, e3, e4⟩ := b_good hgood
    rw [hx.out] at e1 e3
    rw [hy.out] at e2 e4
    obtain ⟨d0, d1, d2, d3, df, _⟩ := id P0
    obtain ⟨c0, c1, c2, c3, cf, _⟩ := id P1
    go_wp2
    rw [e1, e2, e3, e4, hgood]
    exact bodyPost_ret (v := .tuple #[.agg #[.int .i64 (bxA ps x0), .int .i64 (bxB ps y0), .int .i64 (bxC ps x0), .int .i64 (bxD ps y0)], .bool true]) (by simp [results, Tryz.results61, go_sem, d0, d1, d2, d3]) rfl ⟨rfl, (((B.setCell (by simp) _).setCell (by simp) _).setCell (by simp) _).setCell (by simp) _⟩

end Go.Proofs.YtinlomcaagdbiaaGreat
