import Derived.Test.YtinlomcaagdbiaaGreatGoodI
import Derived.Test.YtinlomcaagdbiaaGreatPtsA
import Derived.Test.YtinlomcaagdbiaaGreatBoxS
import Derived.Test.YtinlomcaagdbiaaGreatShapeM
import Derived.BigRegion
import Derived.Test.YtinlomcaagdbiaaGreatEnL
import Derived.Test.YtinlomcaagdbiaaGreatSeg
import Derived.Deep.RegionHeld3
import Derived.Test.YtinlomcaagdbiaaGreatPtB
/- The box of a shape: of both (ShapeBox). -/
namespace Go.Proofs.YtinlomcaagdbiaaGreat
open Go.RowKit

theorem Box4.reads {lo p : Nat} {w : World} {x0 x1 x2 x3 : Value} (h : Box4 lo w p x0 x1 x2 x3) (u0 u1 u2 u3 : Value) : (w.setCell ⟨p, 0, none⟩ u0).cell? ⟨p, 0, none⟩ = some u0 ∧ ((w.setCell ⟨p, 0, none⟩ u0).setCell ⟨p, 1, none⟩ u1).cell? ⟨p, 1, none⟩ = some u1 ∧ (((w.setCell ⟨p, 0, none⟩ u0).setCell ⟨p, 1, none⟩ u1).setCell ⟨p, 2, none⟩ u2).cell? ⟨p, 2, none⟩ = some u2 ∧ ((((w.setCell ⟨p, 0, none⟩ u0).setCell ⟨p, 1, none⟩ u1).setCell ⟨p, 2, none⟩ u2).setCell ⟨p, 3, none⟩ u3).cell? ⟨p, 3, none⟩ = some u3 :=
 ⟨cell_same h.c0 _, cell_same ((cell_other (.inr (by decide)) _).trans h.c1) _, cell_same ((cell_other (.inr (by decide)) _).trans ((cell_other (.inr (by decide)) _).trans h.c2)) _, cell_same ((cell_other (.inr (by decide)) _).trans ((cell_other (.inr (by decide)) _).trans ((cell_other (.inr (by decide)) _).trans h.c3))) _⟩
theorem good_rows {k : Int} {rs : List (List (Int × Int))} (h : goodB k rs = true) : rs.length ≤ 12 ∧ ∀ i, i < rs.length → 0 < (rowA rs i).length ∧ (rowA rs i).length ≤ 60 := by
 have hk : 1 ≤ k ∧ k ≤ 5 := by
  rcases Classical.em (1 ≤ k ∧ k ≤ 5) with c | c
  ·exact c
  ·rw [good_none c] at h
   cases h
 have hf : formB k rs = true := by
  unfold goodB goodTo at h
  rw [Bool.and_eq_true] at h
  exact h.1
 refine ⟨?_, fun i hi => ?_⟩
 ·have e := hf
  unfold formB at e
  cases c : inB rs.length 1 12
  ·rw [c] at e
   simp at e
  ·have := inB_true.1 c
   omega
 ·obtain ⟨h1, _⟩ := form_row hf hi
  have h2 := inB_true.1 h1
  have h3 : 1 ≤ leastN k ∧ mostN k ≤ 60 := by rcases kinds hk with rfl | rfl | rfl | rfl | rfl <;> decide
  omega
def sbA (k : Int) (rs : List (List (Int × Int))) : Int := if goodB k rs then bA rs.flatten else 0
def sbB (k : Int) (rs : List (List (Int × Int))) : Int := if goodB k rs then bB rs.flatten else 0
def sbC (k : Int) (rs : List (List (Int × Int))) : Int := if goodB k rs then bC rs.flatten else 0
def sbD (k : Int) (rs : List (List (Int × Int))) : Int := if goodB k rs then bD rs.flatten else 0
theorem sb_bad {k : Int} {rs : List (List (Int × Int))} (h : goodB k rs = false) : sbA k rs = 0 ∧ sbB k rs = 0 ∧ sbC k rs = 0 ∧ sbD k rs = 0 := by
 unfold sbA sbB sbC sbD
 rw [h]
 exact ⟨rfl, rfl, rfl, rfl⟩
theorem sb_good {k : Int} {rs : List (List (Int × Int))} (h : goodB k rs = true) : sbA k rs = bA rs.flatten ∧ sbB k rs = bB rs.flatten ∧ sbC k rs = bC rs.flatten ∧ sbD k rs = bD rs.flatten := by
 unfold sbA sbB sbC sbD
 rw [h]
 exact ⟨rfl, rfl, rfl, rfl⟩


set_option maxRecDepth 20000 in
set_option maxHeartbeats 2000000 in
theorem specShapeBox (n : Int) (a : Option Addr) (c : Nat) (rs : List (List (Int × Int))) (w : World) (h : SeesS w a c rs) :
  Calls Tryz.prog 15 #[.agg #[.int .i64 n, .slice a rs.length c]] w fun e w' => e = .returned (.agg #[.int .i64 (sbA n rs), .int .i64 (sbB n rs), .int .i64 (sbC n rs), .int .i64 (sbD n rs)]) ∧ Below w.heap.size w w' := by
 have bn := below1 w (.cells #[.int .i64 n, .slice a rs.length c] 50)
 have bz := bn.size
 have B0 := bn.trans ((below1 _ (.cells #[.int .i64 0, .int .i64 0, .int .i64 0, .int .i64 0] 27)).mono bz)
 have V0 := Box4.new (w.alloc (.cells #[.int .i64 n, .slice a rs.length c] 50)) (lo := w.heap.size) bz (.int .i64 0) (.int .i64 0) (.int .i64 0) (.int .i64 0) 27
 have VS := (Box2.new w (lo := w.heap.size) (Nat.le_refl _) (.int .i64 n) (.slice a rs.length c) 50).below (below1 _ (.cells #[.int .i64 0, .int .i64 0, .int .i64 0, .int .i64 0] 27))
 rw [World.size_alloc] at V0
 clear bn bz
 have SW := h.below B0
 obtain ⟨k0, k1, _, _⟩ := id VS
 go_enter Tryz.func15, Tryz.ntmps15
 go_wp2_with fail
 generalize (w.alloc (.cells #[.int .i64 n, .slice a rs.length c] 50)).alloc (.cells #[.int .i64 0, .int .i64 0, .int .i64 0, .int .i64 0] 27) = W at *
 refine (l5Good_any n a c rs _ SW).mono ?_
 rintro e w1 ⟨rfl, hb⟩
 replace V0 := V0.below hb
 replace VS := VS.below hb
 replace B0 := B0.trans (hb.mono B0.size)
 replace SW := SW.below hb
 clear hb k0 k1 h
 cases hg : goodB n rs
 ·have F : Hid (sbA n rs = 0 ∧ sbB n rs = 0 ∧ sbC n rs = 0 ∧ sbD n rs = 0) := sb_bad hg
  clear hg
  have RC := Box4.chain B0 V0 (.int .i64 0) (.int .i64 0) (.int .i64 0) (.int .i64 0)
  obtain ⟨r0, r1, r2, r3⟩ := V0.reads (.int .i64 0) (.int .i64 0) (.int .i64 0) (.int .i64 0)
  obtain ⟨o0, o1, o2, o3, of, _⟩ := id V0
  go_wp2
  refine bodyPost_ret (v := .agg #[.int .i64 0, .int .i64 0, .int .i64 0, .int .i64 0]) (by simp [results, Tryz.results15, go_sem, r0, r1, r2, r3]) rfl ?_
  exact ⟨by rw [F.out.1, F.out.2.1, F.out.2.2.1, F.out.2.2.2], RC⟩
 ·obtain ⟨hle, hrow⟩ := good_rows hg
  have F : Hid (sbA n rs = bA rs.flatten ∧ sbB n rs = bB rs.flatten ∧ sbC n rs = bC rs.flatten ∧ sbD n rs = bD rs.flatten) := sb_good hg
  clear hg
  obtain ⟨k0, k1, _, _⟩ := id VS
  go_wp2_with fail
  refine (l5Points_any n a c rs _ SW hle hrow).mono ?_
  rintro e w2 ⟨v, rfl, R, hb⟩
  replace V0 := V0.below hb
  replace B0 := B0.trans (hb.mono B0.size)
  clear hb k0 k1 hrow VS SW
  obtain ⟨a2, c2, rfl, _, _⟩ := R.shape
  generalize rs.flatten = ps at *
  go_wp2_with fail
  refine (specBoxOf _ _ ps _ R.seesP).mono ?_
  rintro e w3 ⟨rfl, hb⟩
  replace V0 := V0.below hb
  replace B0 := B0.trans (hb.mono B0.size)
  clear hb R
  generalize bA ps = u1 at *
  generalize bB ps = u2 at *
  generalize bC ps = u3 at *
  generalize bD ps = u4 at *
  generalize bOk ps = u5 at *
  have bn := below1 w3 (.cells #[.int .i64 u1, .int .i64 u2, .int .i64 u3, .int .i64 u4] 27)
  have V1 := Box4.new w3 (lo := w.heap.size) B0.size (.int .i64 u1) (.int .i64 u2) (.int .i64 u3) (.int .i64 u4) 27
  replace V0 := V0.below bn
  replace B0 := B0.trans (bn.mono B0.size)
  clear bn
  go_upto_region 4 with fail
  generalize w3.alloc (.cells #[.int .i64 u1, .int .i64 u2, .int .i64 u3, .int .i64 u4] 27) = W4 at *
  generalize w3.heap.size = q4 at *
  have RC := Box4.chain B0 V0 (.int .i64 u1) (.int .i64 u2) (.int .i64 u3) (.int .i64 u4)
  obtain ⟨r0, r1, r2, r3⟩ := V0.reads (.int .i64 u1) (.int .i64 u2) (.int .i64 u3) (.int .i64 u4)
  obtain ⟨o0, o1, o2, o3, of, _⟩ := id V0
  obtain ⟨p0, p1, p2, p3, _, _⟩ := id V1
  go_wp2
  refine bodyPost_ret (v := .agg #[.int .i64 u1, .int .i64 u2, .int .i64 u3, .int .i64 u4]) (by simp [results, Tryz.results15, go_sem, r0, r1, r2, r3]) rfl ?_
  exact ⟨by rw [F.out.1, F.out.2.1, F.out.2.2.1, F.out.2.2.2], RC⟩

set_option maxRecDepth 20000 in
set_option maxHeartbeats 2000000 in
theorem boxAround_any (n : Int) (a : Option Addr) (c : Nat) (rs : List (List (Int × Int))) (w : World) (h : SeesS w a c rs) (hg : goodB n rs = true) :
  Calls Tryz.prog 45 #[.agg #[.int .i64 n, .slice a rs.length c]] w fun e w' => e = .returned (.agg #[.int .i64 (bA rs.flatten), .int .i64 (bB rs.flatten), .int .i64 (bC rs.flatten), .int .i64 (bD rs.flatten)]) ∧ Below w.heap.size w w' := by
 have bn := below1 w (.cells #[.int .i64 n, .slice a rs.length c] 50)
 have bz := bn.size
 have B0 := bn.trans ((below1 _ (.cells #[.int .i64 0, .int .i64 0, .int .i64 0, .int .i64 0] 27)).mono bz)
 have V0 := Box4.new (w.alloc (.cells #[.int .i64 n, .slice a rs.length c] 50)) (lo := w.heap.size) bz (.int .i64 0) (.int .i64 0) (.int .i64 0) (.int .i64 0) 27
 have VS := (Box2.new w (lo := w.heap.size) (Nat.le_refl _) (.int .i64 n) (.slice a rs.length c) 50).below (below1 _ (.cells #[.int .i64 0, .int .i64 0, .int .i64 0, .int .i64 0] 27))
 rw [World.size_alloc] at V0
 clear bn bz
 have SW := h.below B0
 obtain ⟨k0, k1, _, _⟩ := id VS
 go_enter Tryz.func45, Tryz.ntmps45
 obtain ⟨hle, hrow⟩ := good_rows hg
 clear hg h
 go_wp2_with fail
 generalize (w.alloc (.cells #[.int .i64 n, .slice a rs.length c] 50)).alloc (.cells #[.int .i64 0, .int .i64 0, .int .i64 0, .int .i64 0] 27) = W at *
 refine (concatP a c rs _ SW hle hrow).mono ?_
 rintro e w2 ⟨v, rfl, R, hb⟩
 replace V0 := V0.below hb
 replace B0 := B0.trans (hb.mono B0.size)
 clear hb k0 k1 hrow VS SW
 obtain ⟨a2, c2, rfl, _, _⟩ := R.shape
 obtain ⟨ps, hps⟩ : ∃ ps, Hid (rs.flatten = ps) := ⟨_, rfl⟩
 have F : Hid (bA rs.flatten = bA ps ∧ bB rs.flatten = bB ps ∧ bC rs.flatten = bC ps ∧ bD rs.flatten = bD ps) := by show _ ∧ _; rw [hps.out]; exact ⟨rfl, rfl, rfl, rfl⟩
 rw [hps.out] at R ⊢
 clear hps
 go_wp2_with fail
 refine (implBoxOf _ _ ps _ R.seesP).mono ?_
 rintro e w3 ⟨rfl, hb⟩
 replace V0 := V0.below hb
 replace B0 := B0.trans (hb.mono B0.size)
 clear hb R
 generalize bA ps = u1 at *
 generalize bB ps = u2 at *
 generalize bC ps = u3 at *
 generalize bD ps = u4 at *
 generalize bOk ps = u5 at *
 have bn := below1 w3 (.cells #[.int .i64 u1, .int .i64 u2, .int .i64 u3, .int .i64 u4] 27)
 have V1 := Box4.new w3 (lo := w.heap.size) B0.size (.int .i64 u1) (.int .i64 u2) (.int .i64 u3) (.int .i64 u4) 27
 replace V0 := V0.below bn
 replace B0 := B0.trans (bn.mono B0.size)
 clear bn
 go_upto_region 2 with fail
 generalize w3.alloc (.cells #[.int .i64 u1, .int .i64 u2, .int .i64 u3, .int .i64 u4] 27) = W4 at *
 generalize w3.heap.size = q4 at *
 have RC := Box4.chain B0 V0 (.int .i64 u1) (.int .i64 u2) (.int .i64 u3) (.int .i64 u4)
 obtain ⟨r0, r1, r2, r3⟩ := V0.reads (.int .i64 u1) (.int .i64 u2) (.int .i64 u3) (.int .i64 u4)
 obtain ⟨o0, o1, o2, o3, of, _⟩ := id V0
 obtain ⟨p0, p1, p2, p3, _, _⟩ := id V1
 go_wp2
 refine bodyPost_ret (v := .agg #[.int .i64 u1, .int .i64 u2, .int .i64 u3, .int .i64 u4]) (by simp [results, Tryz.results45, go_sem, r0, r1, r2, r3]) rfl ?_
 exact ⟨by rw [F.out.1, F.out.2.1, F.out.2.2.1, F.out.2.2.2], RC⟩

end Go.Proofs.YtinlomcaagdbiaaGreat

/- Whether two shapes are the same: of the program and of the specification. -/
namespace Go.Proofs.YtinlomcaagdbiaaGreat
open Go.RowKit

end Go.Proofs.YtinlomcaagdbiaaGreat

/- A change: the laws' helpers on it; whether it is right, of both sides. -/
namespace Go.Proofs.YtinlomcaagdbiaaGreat
open Go.RowKit

theorem isId_any (n : Int) (w : World) :
  Calls Tryz.prog 41 #[.int .i64 n] w fun e w' => e = .returned (.bool (inB n 1 1000000)) ∧ w' = w := by
 have H : Hid (inB n 1 1000000 = (decide (1 ≤ n) && decide (n ≤ 1000000))) := (rfl : inB n 1 1000000 = _)
 by_cases h1 : 1 ≤ n <;> by_cases h2 : n ≤ 1000000
 all_goals
  go_enter Tryz.func41, Tryz.ntmps41
  go_wp2
  go_ret
  exact ⟨by rw [H.out]; simp [h1, h2], rfl⟩
end Go.Proofs.YtinlomcaagdbiaaGreat

/- Whether a list of entries is a map: of both sides. -/
namespace Go.Proofs.YtinlomcaagdbiaaGreat
open Go.RowKit

def ahE (es : List En) : Nat → Int
 | 0 => 0
 | j + 1 => (enA es j).1
def atE (es : List En) (i : Nat) : Bool := inB (enA es i).1 1 1000000 && (decide (ahE es i < (enA es i).1) && goodB (enA es i).2.1 (enA es i).2.2)
def mpTo (es : List En) (j : Nat) : Bool := (List.range j).all (atE es)
def mpB (es : List En) : Bool := decide (es.length ≤ 500) && mpTo es es.length
theorem mpTo_succ (es : List En) (j : Nat) : mpTo es (j + 1) = (mpTo es j && atE es j) := by unfold mpTo; rw [List.range_succ, List.all_append]; simp
theorem mpTo_no {es : List En} {j n : Nat} (hj : j < n) (h : atE es j = false) : mpTo es n = false := by
 unfold mpTo
 rw [Bool.eq_false_iff]
 intro q
 rw [List.all_eq_true] at q
 have := q j (List.mem_range.2 hj)
 rw [h] at this
 cases this

set_option maxRecDepth 20000 in
set_option maxHeartbeats 2000000 in
theorem implMapOk (a : Option Addr) (c : Nat) (es : List En) (w : World) (h : SeesEn w a c es) :
  Calls Tryz.prog 18 #[.slice a es.length c] w fun e w' => e = .returned (.bool (mpB es)) ∧ Below w.heap.size w w' := by
 have hm := h.max
 have hf := h.fits
 unfold maxLen at hm
 obtain ⟨z, HZ⟩ : ∃ z, Hid (mpB es = z) := ⟨_, rfl⟩
 rw [HZ.out]
 by_cases hl : es.length ≤ 500
 ·have hn5 : ¬ (500 : Int) < es.length := by omega
  have ZN : Hid (∀ j, j < es.length → atE es j = false → z = false) := fun j hj q => by
   rw [← HZ.out]; unfold mpB; rw [mpTo_no hj q, Bool.and_false]
  have ZY : Hid (mpTo es es.length = true → z = true) := fun q => by
   rw [← HZ.out]; unfold mpB; rw [q, decide_eq_true hl]; rfl
  clear HZ
  go_enter Tryz.func18, Tryz.ntmps18
  go_wp2
  go_loopw [3, 11] (fun s3 s11 wr => ∃ (j : Nat) (y : Int), j ≤ es.length ∧ s11 = .int .i64 j ∧ s3 = .int .i64 y ∧ Hid (y = ahE es j) ∧ Hid (mpTo es j = true) ∧ Below w.heap.size w wr) (fun _ s11 _ => es.length - (intOf s11).toNat)
  case atStart => exact ⟨0, 0, Nat.zero_le _, rfl, rfl, rfl, rfl, Below.refl _ _⟩
  case round =>
   obtain ⟨j, y, hj, rfl, rfl, hy, hto, B⟩ := hrel
   rename World => wr
   by_cases hlt : j < es.length
   ·obtain ⟨b, off, rfl, hc⟩ := (h.below B).cells (by intro e; simp [e] at hlt)
    obtain ⟨g0, g1, a', c', g2, sp⟩ := hc j hlt
    have EA : Hid (atE es j = (inB (enA es j).1 1 1000000 && (decide (y < (enA es j).1) && goodB (enA es j).2.1 (enA es j).2.2))) := by show _ = _; unfold atE; rw [hy.out]
    have EN : Hid (ahE es (j + 1) = (enA es j).1) := rfl
    clear hc hy
    generalize enA es j = en at *
    obtain ⟨ix, n, rs⟩ := en
    dsimp only at g0 g1 g2 sp EA EN
    have bn := below1 wr (.cells #[.int .i64 ix, .int .i64 n, .slice a' rs.length c'] 52)
    have k0 := cell_new wr #[.int .i64 ix, .int .i64 n, .slice a' rs.length c'] 52 0 rfl
    have k1 := cell_new wr #[.int .i64 ix, .int .i64 n, .slice a' rs.length c'] 52 1 rfl
    have k2 := cell_new wr #[.int .i64 ix, .int .i64 n, .slice a' rs.length c'] 52 2 rfl
    replace sp := sp.below bn
    replace B := B.trans (bn.mono B.size)
    cases hi : inB ix 1 1000000
    ·have Z : Hid (z = false) := ZN.out j hlt (by rw [EA.out, hi]; rfl)
     clear EA EN hto
     go_wp2_with (go_at_call 41; refine (isId_any _ _).mono ?_; rintro e w1 ⟨rfl, rfl⟩; rw [hi])
     go_ret
     exact ⟨by rw [Z.out]; rfl, B⟩
    ·by_cases hy2 : y < ix
     ·have nle : ¬ ix ≤ y := by omega
      cases hg : goodB n rs
      ·have Z : Hid (z = false) := ZN.out j hlt (by rw [EA.out, hi, hg, Bool.and_false]; rfl)
       clear EA EN hto
       go_wp2_with (go_at_call 41; refine (isId_any _ _).mono ?_; rintro e w1 ⟨rfl, rfl⟩; rw [hi])
       generalize wr.alloc (.cells #[.int .i64 ix, .int .i64 n, .slice a' rs.length c'] 52) = W1 at *
       generalize wr.heap.size = q1 at *
       refine (good_any n a' c' rs _ sp).mono ?_
       rintro e w2 ⟨rfl, hb⟩
       rw [hg]
       replace B := B.trans (hb.mono B.size)
       clear hb k0 k1 k2 sp
       go_wp2
       go_ret
       exact ⟨by rw [Z.out]; rfl, B⟩
      ·have HT : Hid (mpTo es (j + 1) = true) := by show _ = _; rw [mpTo_succ, hto.out, EA.out, hi, hg, decide_eq_true hy2]; rfl
       have HY : Hid (ix = ahE es (j + 1)) := EN.out.symm
       clear EA EN hto
       go_wp2_with (go_at_call 41; refine (isId_any _ _).mono ?_; rintro e w1 ⟨rfl, rfl⟩; rw [hi])
       generalize wr.alloc (.cells #[.int .i64 ix, .int .i64 n, .slice a' rs.length c'] 52) = W1 at *
       generalize wr.heap.size = q1 at *
       refine (good_any n a' c' rs _ sp).mono ?_
       rintro e w2 ⟨rfl, hb⟩
       rw [hg]
       replace B := B.trans (hb.mono B.size)
       replace k0 := bat hb k0
       clear hb k1 k2 sp
       go_wp2
       go_roundw
       case rel => exact ⟨j + 1, ix, by omega, by go_num, rfl, HY, HT, B⟩
       case measure => simp [intOf]; omega
     ·have le : ix ≤ y := by omega
      have Z : Hid (z = false) := ZN.out j hlt (by rw [EA.out, hi, decide_eq_false hy2]; rfl)
      clear EA EN hto
      go_wp2_with (go_at_call 41; refine (isId_any _ _).mono ?_; rintro e w1 ⟨rfl, rfl⟩; rw [hi])
      go_ret
      exact ⟨by rw [Z.out]; rfl, B⟩
   ·obtain rfl : j = es.length := by omega
    have Z : Hid (z = true) := ZY.out hto.out
    clear hto hy
    go_wp2
    go_ret
    exact ⟨by rw [Z.out]; rfl, B⟩
 ·have hn5 : (500 : Int) < es.length := by omega
  have Z : Hid (z = false) := by show _ = _; rw [← HZ.out]; unfold mpB; rw [decide_eq_false hl]; rfl
  clear HZ hl
  go_enter Tryz.func18, Tryz.ntmps18
  go_wp2
  go_ret
  exact ⟨by rw [Z.out]; rfl, Below.refl _ _⟩
end Go.Proofs.YtinlomcaagdbiaaGreat

/- The laws' helpers on lists of boxes: their sizes, their copies, whether two are equal, their marks. -/
namespace Go.Proofs.YtinlomcaagdbiaaGreat
open Go.RowKit

abbrev Bx := Int × Int × Int × Int
def bxAt (bs : List Bx) (i : Nat) : Bx := bs[i]?.getD (0, 0, 0, 0)
def Four (w : World) (b o : Nat) (x : Bx) : Prop := w.cell? ⟨b, o, none⟩ = some (.int .i64 x.1) ∧ w.cell? ⟨b, o + 1, none⟩ = some (.int .i64 x.2.1) ∧ w.cell? ⟨b, o + 2, none⟩ = some (.int .i64 x.2.2.1) ∧ w.cell? ⟨b, o + 3, none⟩ = some (.int .i64 x.2.2.2)
theorem Four.below {w w' : World} {b o : Nat} {x : Bx} (h : Four w b o x) (hb : Below w.heap.size w w') : Four w' b o x := ⟨bat hb h.1, bat hb h.2.1, bat hb h.2.2.1, bat hb h.2.2.2⟩
structure SeesX (w : World) (a : Option Addr) (cap : Nat) (bs : List Bx) : Prop where
 fits : bs.length ≤ cap
 max : cap ≤ maxLen
 cells : bs ≠ [] → ∃ b off, a = some ⟨b, off, none⟩ ∧ ∀ i, i < bs.length → Four w b (off + i * 4) (bxAt bs i)
theorem SeesX.below {w w' : World} {a : Option Addr} {cap : Nat} {bs : List Bx} (h : SeesX w a cap bs) (hb : Below w.heap.size w w') : SeesX w' a cap bs :=
 ⟨h.fits, h.max, fun hn => by
  obtain ⟨b, off, ha, hc⟩ := h.cells hn
  exact ⟨b, off, ha, fun i hi => (hc i hi).below hb⟩⟩

theorem infoX : (Tryz.prog.info? 27).map (fun i => (i.zero, i.size, i.bytes)) = some (some (.agg #[.int .i64 0, .int .i64 0, .int .i64 0, .int .i64 0]), 4, 32) := by kernel_rfl

def put4 (w : World) (g o : Nat) (x : Bx) : World := (((w.setCell ⟨g, o, none⟩ (.int .i64 x.1)).setCell ⟨g, o + 1, none⟩ (.int .i64 x.2.1)).setCell ⟨g, o + 2, none⟩ (.int .i64 x.2.2.1)).setCell ⟨g, o + 3, none⟩ (.int .i64 x.2.2.2)
theorem put4_at {w : World} {g o : Nat} {x : Bx} (h : ∀ k, k < 4 → ∃ v, w.cell? ⟨g, o + k, none⟩ = some v) : Four (put4 w g o x) g o x := by
 obtain ⟨v0, h0⟩ := h 0 (by omega)
 obtain ⟨v1, h1⟩ := h 1 (by omega)
 obtain ⟨v2, h2⟩ := h 2 (by omega)
 obtain ⟨v3, h3⟩ := h 3 (by omega)
 unfold put4
 refine ⟨?_, ?_, ?_, ?_⟩
 ·exact (cell_other (.inr (by omega)) _).trans ((cell_other (.inr (by omega)) _).trans ((cell_other (.inr (by omega)) _).trans (cell_same h0 _)))
 ·exact (cell_other (.inr (by omega)) _).trans ((cell_other (.inr (by omega)) _).trans (cell_same ((cell_other (.inr (by omega)) _).trans h1) _))
 ·exact (cell_other (.inr (by omega)) _).trans (cell_same ((cell_other (.inr (by omega)) _).trans ((cell_other (.inr (by omega)) _).trans h2)) _)
 ·exact cell_same ((cell_other (.inr (by omega)) _).trans ((cell_other (.inr (by omega)) _).trans ((cell_other (.inr (by omega)) _).trans h3))) _
end Go.Proofs.YtinlomcaagdbiaaGreat

/- Trees of boxes as they lie in memory; how great they are (szNode, szNodeS, szIntS). -/
namespace Go.Proofs.YtinlomcaagdbiaaGreat
open Go.RowKit

inductive Nd where
 | mk (b : Bx) (bs : List Bx) (is : List Int) (ks : List Nd)
def Nd.b : Nd → Bx | .mk b _ _ _ => b
def Nd.bs : Nd → List Bx | .mk _ bs _ _ => bs
def Nd.is : Nd → List Int | .mk _ _ is _ => is
def Nd.ks : Nd → List Nd | .mk _ _ _ ks => ks
theorem Nd.ind {P : Nd → Prop} (h : ∀ b bs is ks, (∀ k ∈ ks, P k) → P (.mk b bs is ks)) : ∀ t, P t := by
 have key : ∀ (n : Nat) (t : Nd), SizeOf.sizeOf t < n → P t := by
  intro n
  induction n with
  | zero => intro t h; omega
  | succ n ih =>
   intro t ht
   obtain ⟨b, bs, is, ks⟩ := t
   refine h b bs is ks (fun k hk => ih k ?_)
   have := List.sizeOf_lt_of_mem hk
   simp only [Nd.mk.sizeOf_spec] at ht
   omega
 exact fun t => key (SizeOf.sizeOf t + 1) t (Nat.lt_succ_self _)
instance : Inhabited Nd := ⟨.mk (0, 0, 0, 0) [] [] []⟩
def ndA (ks : List Nd) (i : Nat) : Nd := ks[i]?.getD default
theorem ndA_mem {ks : List Nd} {i : Nat} (h : i < ks.length) : ndA ks i ∈ ks := by
 unfold ndA
 rw [List.getElem?_eq_getElem h]
 exact List.getElem_mem h
structure SeesI (w : World) (a : Option Addr) (cap : Nat) (is : List Int) : Prop where
 fits : is.length ≤ cap
 max : cap ≤ maxLen
 cells : is ≠ [] → ∃ b off, a = some ⟨b, off, none⟩ ∧ ∀ i, i < is.length → w.cell? ⟨b, off + i, none⟩ = some (.int .i64 (is[i]?.getD 0))
theorem SeesI.below {w w' : World} {a : Option Addr} {cap : Nat} {is : List Int} (h : SeesI w a cap is) (hb : Below w.heap.size w w') : SeesI w' a cap is :=
 ⟨h.fits, h.max, fun hn => by
  obtain ⟨b, off, ha, hc⟩ := h.cells hn
  exact ⟨b, off, ha, fun i hi => bat hb (hc i hi)⟩⟩
structure Sev (w : World) (p o : Nat) (x : Bx) (v1 v2 v3 : Value) : Prop where
 four : Four w p o x
 c4 : w.cell? ⟨p, o + 4, none⟩ = some v1
 c5 : w.cell? ⟨p, o + 5, none⟩ = some v2
 c6 : w.cell? ⟨p, o + 6, none⟩ = some v3
theorem Sev.below {w w' : World} {p o : Nat} {x : Bx} {v1 v2 v3 : Value} (h : Sev w p o x v1 v2 v3) (hb : Below w.heap.size w w') : Sev w' p o x v1 v2 v3 := ⟨h.four.below hb, bat hb h.c4, bat hb h.c5, bat hb h.c6⟩
theorem Sev.put {w : World} {p q o k : Nat} {x : Bx} {v1 v2 v3 : Value} (h : Sev w p o x v1 v2 v3) (hp : p ≠ q ∨ k < o ∨ o + 7 ≤ k) (u : Value) : Sev (w.setCell ⟨q, k, none⟩ u) p o x v1 v2 v3 := by
 have e : ∀ j, o ≤ j → j < o + 7 → (w.setCell ⟨q, k, none⟩ u).cell? ⟨p, j, none⟩ = w.cell? ⟨p, j, none⟩ := fun j h1 h2 => by
  rcases hp with c | c | c
  ·exact cell_other (.inl (Ne.symm c)) u
  ·exact cell_other (.inr (by omega)) u
  ·exact cell_other (.inr (by omega)) u
 obtain ⟨⟨f0, f1, f2, f3⟩, f4, f5, f6⟩ := h
 exact ⟨⟨(e _ (by omega) (by omega)).trans f0, (e _ (by omega) (by omega)).trans f1, (e _ (by omega) (by omega)).trans f2, (e _ (by omega) (by omega)).trans f3⟩, (e _ (by omega) (by omega)).trans f4, (e _ (by omega) (by omega)).trans f5, (e _ (by omega) (by omega)).trans f6⟩
def From (lo n : Nat) (a : Option Addr) : Prop := ∀ b off, a = some ⟨b, off, none⟩ → 0 < n → lo ≤ b
inductive NdIn (lo : Nat) (w : World) : Nd → Value → Value → Value → Prop where
 | mk {b : Bx} {bs : List Bx} {is : List Int} {ks : List Nd} {a1 a2 a3 : Option Addr} {c1 c2 c3 : Nat} (s1 : SeesX w a1 c1 bs) (f1 : From lo bs.length a1) (s2 : SeesI w a2 c2 is) (f2 : From lo is.length a2) (h3 : ks.length ≤ c3) (m3 : c3 ≤ maxLen) (f3 : From lo ks.length a3)
   {p o : Nat} {g1 g2 g3 : Nat → Value} (ha : ks ≠ [] → a3 = some ⟨p, o, none⟩) (hS : ∀ i, i < ks.length → Sev w p (o + i * 7) (ndA ks i).b (g1 i) (g2 i) (g3 i)) (hN : ∀ i, i < ks.length → NdIn lo w (ndA ks i) (g1 i) (g2 i) (g3 i)) : NdIn lo w (.mk b bs is ks) (.slice a1 bs.length c1) (.slice a2 is.length c2) (.slice a3 ks.length c3)
structure NdsIn (lo : Nat) (w : World) (a : Option Addr) (c : Nat) (ks : List Nd) : Prop where
 fits : ks.length ≤ c
 max : c ≤ maxLen
 frm : From lo ks.length a
 cells : ks ≠ [] → ∃ p o, a = some ⟨p, o, none⟩ ∧ ∀ i, i < ks.length → ∃ v1 v2 v3, Sev w p (o + i * 7) (ndA ks i).b v1 v2 v3 ∧ NdIn lo w (ndA ks i) v1 v2 v3
theorem NdIn.open {lo : Nat} {w : World} {t : Nd} {v1 v2 v3 : Value} (h : NdIn lo w t v1 v2 v3) : ∃ a1 c1 a2 c2 a3 c3, v1 = .slice a1 t.bs.length c1 ∧ v2 = .slice a2 t.is.length c2 ∧ v3 = .slice a3 t.ks.length c3 ∧ SeesX w a1 c1 t.bs ∧ From lo t.bs.length a1 ∧ SeesI w a2 c2 t.is ∧ From lo t.is.length a2 ∧ NdsIn lo w a3 c3 t.ks := by
 cases h with
 | mk s1 f1 s2 f2 h3 m3 f3 ha hS hN => exact ⟨_, _, _, _, _, _, rfl, rfl, rfl, s1, f1, s2, f2, ⟨h3, m3, f3, fun hn => ⟨_, _, ha hn, fun i hi => ⟨_, _, _, hS i hi, hN i hi⟩⟩⟩⟩
theorem NdIn.keep {lo : Nat} {w w' : World} (hb : Below w.heap.size w w') : ∀ (t : Nd) {v1 v2 v3 : Value}, NdIn lo w t v1 v2 v3 → NdIn lo w' t v1 v2 v3 := by
 refine Nd.ind (P := fun t => ∀ {v1 v2 v3 : Value}, NdIn lo w t v1 v2 v3 → NdIn lo w' t v1 v2 v3) ?_
 intro b bs is ks ih v1 v2 v3 h
 cases h with
 | mk s1 f1 s2 f2 h3 m3 f3 ha hS hN => exact .mk (s1.below hb) f1 (s2.below hb) f2 h3 m3 f3 ha (fun i hi => (hS i hi).below hb) (fun i hi => ih _ (ndA_mem hi) (hN i hi))
theorem NdsIn.below {lo : Nat} {w w' : World} {a : Option Addr} {c : Nat} {ks : List Nd} (h : NdsIn lo w a c ks) (hb : Below w.heap.size w w') : NdsIn lo w' a c ks :=
 ⟨h.fits, h.max, h.frm, fun hn => by
  obtain ⟨p, o, ea, hc⟩ := h.cells hn
  refine ⟨p, o, ea, fun i hi => ?_⟩
  obtain ⟨v1, v2, v3, S, N⟩ := hc i hi
  exact ⟨v1, v2, v3, S.below hb, NdIn.keep hb _ N⟩⟩
def ndSz : Nd → Nat
 | .mk _ bs is ks => bs.length + is.length + ks.length + ndsSz ks
where ndsSz : List Nd → Nat
 | [] => 0
 | k :: ks => ndSz k + ndsSz ks
end Go.Proofs.YtinlomcaagdbiaaGreat

/- Trees of a call's own: a kid's rows lie above its own block. -/
namespace Go.Proofs.YtinlomcaagdbiaaGreat
open Go.RowKit

def Plain (w : World) (p : Nat) : Prop := ∃ cs T, w.heap[p]? = some (.cells cs T (0, 0))
theorem Plain.lt {w : World} {p : Nat} (h : Plain w p) : p < w.heap.size := by
 obtain ⟨cs, T, e⟩ := h
 rcases Nat.lt_or_ge p w.heap.size with k | k
 ·exact k
 ·rw [Array.getElem?_eq_none k] at e
  cases e
theorem Plain.below {w w' : World} {p : Nat} (h : Plain w p) (hb : Below w.heap.size w w') : Plain w' p := by
 have hl := h.lt
 obtain ⟨cs, T, e⟩ := h
 exact ⟨cs, T, (hb.block p hl).trans e⟩
theorem Plain.put {w : World} {p q k : Nat} (h : Plain w p) (u : Value) : Plain (w.setCell ⟨q, k, none⟩ u) p := by
 obtain ⟨cs, T, e⟩ := h
 by_cases hq : p = q
 ·subst hq
  refine ⟨cs.setIfInBounds k u, T, ?_⟩
  simp only [World.setCell]
  rw [Array.getElem?_modify, if_pos rfl, e]
  rfl
 ·exact ⟨cs, T, (Below.heap_setCell w ⟨q, k, none⟩ u p hq).trans e⟩
theorem Plain.new (w : World) (cs : Array Value) (T : TypeId) : Plain (w.alloc (.cells cs T)) w.heap.size := ⟨cs, T, heap_alloc_new _ _⟩
end Go.Proofs.YtinlomcaagdbiaaGreat
