/- A box that takes another one in; the program's Join. -/
import Derived.Test.YtdkhaghcnijilaaGreatBoxJ
namespace Go.Proofs.YtdkhaghcnijilaaGreat
open Go.RowKit

def jA (a b c d m n r s : Int) : Int := if boxOk m n r s then (if boxOk a b c d then min a m else m) else a
def jB (a b c d m n r s : Int) : Int := if boxOk m n r s then (if boxOk a b c d then min b n else n) else b
def jC (a b c d m n r s : Int) : Int := if boxOk m n r s then (if boxOk a b c d then max c r else r) else c
def jD (a b c d m n r s : Int) : Int := if boxOk m n r s then (if boxOk a b c d then max d s else s) else d
def oA (a b c d m n r s : Int) : Int := if boxOk a b c d || boxOk m n r s then jA a b c d m n r s else 0
def oB (a b c d m n r s : Int) : Int := if boxOk a b c d || boxOk m n r s then jB a b c d m n r s else 0
def oC (a b c d m n r s : Int) : Int := if boxOk a b c d || boxOk m n r s then jC a b c d m n r s else 0
def oD (a b c d m n r s : Int) : Int := if boxOk a b c d || boxOk m n r s then jD a b c d m n r s else 0
theorem crd_boxOk {a b c d : Int} (h1 : Crd a) (h2 : Crd b) (h3 : Crd c) (h4 : Crd d) (h5 : a ≤ c) (h6 : b ≤ d) : boxOk a b c d = true := by
  unfold boxOk ptOk
  simp only [Bool.and_eq_true, inB_true, decide_eq_true_eq]
  exact ⟨⟨h1, h2⟩, ⟨h3, h4⟩, h5, h6⟩
theorem crd_min {a b : Int} (h : Crd a) (k : Crd b) : Crd (min a b) := by unfold Crd at *; omega
theorem crd_max {a b : Int} (h : Crd a) (k : Crd b) : Crd (max a b) := by unfold Crd at *; omega
theorem joined_ok (a b c d m n r s : Int) : boxOk (jA a b c d m n r s) (jB a b c d m n r s) (jC a b c d m n r s) (jD a b c d m n r s) = (boxOk a b c d || boxOk m n r s) := by
  unfold jA jB jC jD
  cases h1 : boxOk a b c d <;> cases h2 : boxOk m n r s
  · simpa using h1
  · simpa using h2
  · simpa using h1
  · obtain ⟨p1, p2, p3, p4⟩ := boxOk_crd h1
    obtain ⟨q1, q2, q3, q4⟩ := boxOk_crd h2
    have := boxOk_le h1
    have := boxOk_le h2
    simp only [if_true, Bool.true_or]
    exact crd_boxOk (crd_min p1 q1) (crd_min p2 q2) (crd_max p3 q3) (crd_max p4 q4) (by omega) (by omega)
theorem grow_b {w w' : World} {row : Option Nat} (h : Below w.heap.size w w') : w.grownBy w' row := ⟨h.os, h.tape, h.output, h.size, fun k hk _ => h.block k hk⟩
theorem Box4.grown {lo p q : Nat} {w w' : World} {x0 x1 x2 x3 : Value} (h : Box4 lo w q x0 x1 x2 x3) (g : w.grownBy w' (some p)) (ne : q ≠ p) : Box4 lo w' q x0 x1 x2 x3 := by
  obtain ⟨hc, hf⟩ := grown_at g h.lt (by simpa using ne)
  exact ⟨(hc 0).trans h.c0, (hc 1).trans h.c1, (hc 2).trans h.c2, (hc 3).trans h.c3, fun o => (hf o).trans (h.fr o), h.lo⟩

set_option maxHeartbeats 4000000 in
theorem enclose_any (lo p : Nat) (a b c d m n r s : Int) (w : World) (P : Box4 lo w p (.int .i64 a) (.int .i64 b) (.int .i64 c) (.int .i64 d)) :
    Calls Tryz.prog 191 #[.pointer (some ⟨p, 0, none⟩), .agg #[.int .i64 m, .int .i64 n, .int .i64 r, .int .i64 s]] w fun e w' => e = .returned (.tuple #[]) ∧ Box4 lo w' p (.int .i64 (jA a b c d m n r s)) (.int .i64 (jB a b c d m n r s)) (.int .i64 (jC a b c d m n r s)) (.int .i64 (jD a b c d m n r s)) ∧ w.grownBy w' (some p) := by
  have K := Box4.new w (Nat.le_refl _) (.int .i64 m) (.int .i64 n) (.int .i64 r) (.int .i64 s) 35
  have B0 := below1 w (.cells #[.int .i64 m, .int .i64 n, .int .i64 r, .int .i64 s] 35)
  have G : w.grownBy (w.alloc (.cells #[.int .i64 m, .int .i64 n, .int .i64 r, .int .i64 s] 35)) (some p) := World.grownBy_alloc _ _ _
  have hp := P.lt
  replace P := P.below B0
  have hp' : w.heap.size ≠ p := by omega
  clear B0
  have HA : Hid (jA a b c d m n r s = if boxOk m n r s then (if boxOk a b c d then min a m else m) else a) := (rfl : jA a b c d m n r s = _)
  have HB : Hid (jB a b c d m n r s = if boxOk m n r s then (if boxOk a b c d then min b n else n) else b) := (rfl : jB a b c d m n r s = _)
  have HC : Hid (jC a b c d m n r s = if boxOk m n r s then (if boxOk a b c d then max c r else r) else c) := (rfl : jC a b c d m n r s = _)
  have HD : Hid (jD a b c d m n r s = if boxOk m n r s then (if boxOk a b c d then max d s else s) else d) := (rfl : jD a b c d m n r s = _)
  go_enter Tryz.func191, Tryz.ntmps191
  go_wp2_with fail
  generalize w.alloc (.cells #[.int .i64 m, .int .i64 n, .int .i64 r, .int .i64 s] 35) = W0 at *
  obtain ⟨c0, c1, c2, c3, cf, _⟩ := id P
  obtain ⟨k0, k1, k2, k3, _, _⟩ := id K
  cases hM : boxOk m n r s
  · go_wp2_with (go_at_call 55; refine (implBoxOk _ _ _ _ _).mono ?_; rintro e w1 ⟨rfl, hb⟩; (first | rw [hM] | rw [hA]); replace G := grownBy_trans G (grow_b hb); replace P := P.below hb; replace K := K.below hb; clear hb; obtain ⟨c0, c1, c2, c3, cf, _⟩ := id P; obtain ⟨k0, k1, k2, k3, _, _⟩ := id K)
    exact bodyPost_end (results_none Tryz.results191 _ _ _) rfl ⟨rfl, P.as (by rw [HA.out, hM]; rfl) (by rw [HB.out, hM]; rfl) (by rw [HC.out, hM]; rfl) (by rw [HD.out, hM]; rfl), G⟩
  · cases hA : boxOk a b c d
    · go_wp2_with (go_at_call 55; refine (implBoxOk _ _ _ _ _).mono ?_; rintro e w1 ⟨rfl, hb⟩; (first | rw [hM] | rw [hA]); replace G := grownBy_trans G (grow_b hb); replace P := P.below hb; replace K := K.below hb; clear hb; obtain ⟨c0, c1, c2, c3, cf, _⟩ := id P; obtain ⟨k0, k1, k2, k3, _, _⟩ := id K)
      exact bodyPost_end (results_none Tryz.results191 _ _ _) rfl ⟨rfl, (P.put (.int .i64 m) (.int .i64 n) (.int .i64 r) (.int .i64 s)).as (by rw [HA.out, hM, hA]; rfl) (by rw [HB.out, hM, hA]; rfl) (by rw [HC.out, hM, hA]; rfl) (by rw [HD.out, hM, hA]; rfl), grownBy_setCell (grownBy_setCell (grownBy_setCell (grownBy_setCell G (p := ⟨p, 0, none⟩) rfl _) (p := ⟨p, 1, none⟩) rfl _) (p := ⟨p, 2, none⟩) rfl _) (p := ⟨p, 3, none⟩) rfl _⟩
    · have g1 := boxOk_le hA
      have g2 := boxOk_le hM
      have EQ : Hid (a ≤ c ∧ b ≤ d ∧ m ≤ r ∧ n ≤ s) := ⟨g1.1, g1.2, g2.1, g2.2⟩
      clear g1 g2
      go_wp2_with (go_at_call 55; refine (implBoxOk _ _ _ _ _).mono ?_; rintro e w1 ⟨rfl, hb⟩; (first | rw [hM] | rw [hA]); replace G := grownBy_trans G (grow_b hb); replace P := P.below hb; replace K := K.below hb; clear hb; obtain ⟨c0, c1, c2, c3, cf, _⟩ := id P; obtain ⟨k0, k1, k2, k3, _, _⟩ := id K)
      clear c0 c1 c2 c3 cf k0 k1 k2 k3
      refine (reach_any _ _ _ _ _ _ _ _ _ P).mono ?_
      rintro e w2 ⟨rfl, P2, g⟩
      replace G := grownBy_trans G g
      replace K := K.grown g hp'
      clear g P
      obtain ⟨k0, k1, k2, k3, _, _⟩ := id K
      go_wp2_with fail
      refine (reach_any _ _ _ _ _ _ _ _ _ P2).mono ?_
      rintro e w3 ⟨rfl, P3, g⟩
      replace G := grownBy_trans G g
      clear g P2 k0 k1 k2 k3 K
      go_wp2_with fail
      obtain ⟨e1, e2, e3, e4⟩ := EQ.out
      exact bodyPost_end (results_none Tryz.results191 _ _ _) rfl ⟨rfl, P3.as (by rw [HA.out, hM, hA]; simp only [if_true]; omega) (by rw [HB.out, hM, hA]; simp only [if_true]; omega) (by rw [HC.out, hM, hA]; simp only [if_true]; omega) (by rw [HD.out, hM, hA]; simp only [if_true]; omega), G⟩

set_option maxHeartbeats 4000000 in
theorem implJoin (a b c d m n r s : Int) (w : World) :
    Calls Tryz.prog 182 #[.agg #[.int .i64 a, .int .i64 b, .int .i64 c, .int .i64 d], .agg #[.int .i64 m, .int .i64 n, .int .i64 r, .int .i64 s]] w fun e w' => e = .returned (.agg #[.int .i64 (oA a b c d m n r s), .int .i64 (oB a b c d m n r s), .int .i64 (oC a b c d m n r s), .int .i64 (oD a b c d m n r s)]) ∧ Below w.heap.size w w' := by
  have HO : Hid (oA a b c d m n r s = (if boxOk a b c d || boxOk m n r s then jA a b c d m n r s else 0) ∧ oB a b c d m n r s = (if boxOk a b c d || boxOk m n r s then jB a b c d m n r s else 0) ∧ oC a b c d m n r s = (if boxOk a b c d || boxOk m n r s then jC a b c d m n r s else 0) ∧ oD a b c d m n r s = (if boxOk a b c d || boxOk m n r s then jD a b c d m n r s else 0)) := ⟨rfl, rfl, rfl, rfl⟩
  have HJ : Hid (boxOk (jA a b c d m n r s) (jB a b c d m n r s) (jC a b c d m n r s) (jD a b c d m n r s) = (boxOk a b c d || boxOk m n r s)) := joined_ok a b c d m n r s
  have B := below4 w (.cells #[.int .i64 a, .int .i64 b, .int .i64 c, .int .i64 d] 35) (.cells #[.int .i64 m, .int .i64 n, .int .i64 r, .int .i64 s] 35) (.cells #[.int .i64 0, .int .i64 0, .int .i64 0, .int .i64 0] 35) (.cells #[.int .i64 a, .int .i64 b, .int .i64 c, .int .i64 d] 35)
  have P2 := (Box4.new ((w.alloc (.cells #[.int .i64 a, .int .i64 b, .int .i64 c, .int .i64 d] 35)).alloc (.cells #[.int .i64 m, .int .i64 n, .int .i64 r, .int .i64 s] 35)) (lo := w.heap.size) (by simp; omega) (.int .i64 0) (.int .i64 0) (.int .i64 0) (.int .i64 0) 35).below (below1 _ (.cells #[.int .i64 a, .int .i64 b, .int .i64 c, .int .i64 d] 35))
  have P3 := Box4.new (((w.alloc (.cells #[.int .i64 a, .int .i64 b, .int .i64 c, .int .i64 d] 35)).alloc (.cells #[.int .i64 m, .int .i64 n, .int .i64 r, .int .i64 s] 35)).alloc (.cells #[.int .i64 0, .int .i64 0, .int .i64 0, .int .i64 0] 35)) (lo := w.heap.size) (by simp; omega) (.int .i64 a) (.int .i64 b) (.int .i64 c) (.int .i64 d) 35
  simp only [World.size_alloc] at P2 P3
  go_enter Tryz.func182, Tryz.ntmps182
  go_wp2_with fail
  generalize ((((w.alloc (.cells #[.int .i64 a, .int .i64 b, .int .i64 c, .int .i64 d] 35)).alloc (.cells #[.int .i64 m, .int .i64 n, .int .i64 r, .int .i64 s] 35)).alloc (.cells #[.int .i64 0, .int .i64 0, .int .i64 0, .int .i64 0] 35)).alloc (.cells #[.int .i64 a, .int .i64 b, .int .i64 c, .int .i64 d] 35)) = W0 at *
  refine (enclose_any _ _ _ _ _ _ _ _ _ _ _ P3).mono ?_
  rintro e w1 ⟨rfl, P, g⟩
  replace B := B.grown g B.size (fun k hk => by injection hk with hk; subst hk; omega)
  replace P2 := P2.grown g (by omega)
  clear g P3
  obtain ⟨c0, c1, c2, c3, cf, _⟩ := id P
  go_wp2_with fail
  refine (implBoxOk _ _ _ _ _).mono ?_
  rintro e w2 ⟨rfl, hb⟩
  rw [HJ.out]
  replace B := B.trans (hb.mono B.size)
  replace P := P.below hb
  replace P2 := P2.below hb
  clear hb c0 c1 c2 c3 cf
  have R2 := P2
  obtain ⟨c0, c1, c2, c3, cf, _⟩ := id P
  obtain ⟨d0, d1, d2, d3, df, _⟩ := id P2
  cases h : (boxOk a b c d || boxOk m n r s)
  all_goals
    go_wp2
    obtain ⟨o1, o2, o3, o4⟩ := HO.out
    rw [o1, o2, o3, o4, h]
    exact bodyPost_ret (v := _) (by simp [results, Tryz.results182, go_sem, d0, d1, d2, d3]; try rfl) rfl ⟨by simp, (((B.setCell (by simp; omega) _).setCell (by simp; omega) _).setCell (by simp; omega) _).setCell (by simp; omega) _⟩

end Go.Proofs.YtdkhaghcnijilaaGreat
