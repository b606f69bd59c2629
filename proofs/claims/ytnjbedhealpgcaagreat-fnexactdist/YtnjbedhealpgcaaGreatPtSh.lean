import Derived.Test.YtnjbedhealpgcaaGreatParL
import Derived.Test.YtnjbedhealpgcaaGreatGapM
import Derived.Test.YtnjbedhealpgcaaGreatShapeM
import Derived.Test.YtnjbedhealpgcaaGreatGoodS
import Derived.Test.YtnjbedhealpgcaaGreatMeetS
import Derived.Test.YtnjbedhealpgcaaGreatDivI
import Derived.Test.YtnjbedhealpgcaaGreatHeldQ
/- The shape of one point: impl.pointShape. -/
namespace Go.Proofs.YtnjbedhealpgcaaGreat
open Go.RowKit

theorem Box2.reads {lo p : Nat} {w : World} {x0 x1 : Value} (h : Box2 lo w p x0 x1) (u0 u1 : Value) : (w.setCell ⟨p, 0, none⟩ u0).cell? ⟨p, 0, none⟩ = some u0 ∧ ((w.setCell ⟨p, 0, none⟩ u0).setCell ⟨p, 1, none⟩ u1).cell? ⟨p, 1, none⟩ = some u1 :=
 ⟨cell_same h.c0 _, cell_same ((cell_other (.inr (by decide)) _).trans h.c1) _⟩
theorem seesP_new (w : World) (x y : Int) (t : TypeId) : SeesP (w.alloc (.cells #[.int .i64 x, .int .i64 y] t)) (some ⟨w.heap.size, 0, none⟩) 1 [(x, y)] :=
 ⟨Nat.le_refl _, by unfold maxLen; omega, fun _ => ⟨_, 0, rfl, fun i hi => by
  obtain rfl : i = 0 := by simp at hi; omega
  exact ⟨cell_new w #[.int .i64 x, .int .i64 y] t 0 rfl, cell_new w #[.int .i64 x, .int .i64 y] t 1 rfl⟩⟩⟩
theorem seesS_of {w : World} {a : Option Addr} {c b : Nat} {ps : List (Int × Int)} (h : SeesP w a c ps) (k : w.cell? ⟨b, 0, none⟩ = some (.slice a ps.length c)) : SeesS w (some ⟨b, 0, none⟩) 1 [ps] :=
 ⟨Nat.le_refl _, by unfold maxLen; omega, fun _ => ⟨_, 0, rfl, fun i hi => by
  obtain rfl : i = 0 := by simp at hi; omega
  exact ⟨a, c, k, h⟩⟩⟩
theorem row_put {w : World} {q b g c : Nat} {ps : List (Int × Int)} (h : SeesP w (some ⟨q, 0, none⟩) c ps) (k : w.cell? ⟨b, 0, none⟩ = some (.slice (some ⟨q, 0, none⟩) ps.length c)) (n0 : q ≠ g) (n1 : b ≠ g) (u0 u1 : Value) :
  SeesP ((w.setCell ⟨g, 0, none⟩ u0).setCell ⟨g, 1, none⟩ u1) (some ⟨q, 0, none⟩) c ps ∧ ((w.setCell ⟨g, 0, none⟩ u0).setCell ⟨g, 1, none⟩ u1).cell? ⟨b, 0, none⟩ = some (.slice (some ⟨q, 0, none⟩) ps.length c) := by
 have ne : ∀ b' off, (some ⟨q, 0, none⟩ : Option Addr) = some ⟨b', off, none⟩ → b' ≠ g := by
  intro b' off e
  simp only [Option.some.injEq, Addr.mk.injEq] at e
  omega
 exact ⟨(h.put1 ne 0 u0).put1 ne 1 u1, (cell_other (.inl n1.symm) _).trans ((cell_other (.inl n1.symm) _).trans k)⟩
set_option maxRecDepth 20000 in
set_option maxHeartbeats 2000000 in
theorem pointShape_parts (x y : Int) (w : World) :
  Calls Tryz.prog 23 #[.agg #[.int .i64 x, .int .i64 y]] w fun e w' => ∃ q b : Nat, e = .returned (.agg #[.int .i64 1, .slice (some ⟨b, 0, none⟩) 1 1]) ∧ (w.heap.size ≤ q ∧ w.heap.size ≤ b) ∧ SeesP w' (some ⟨q, 0, none⟩) 1 [(x, y)] ∧ w'.cell? ⟨b, 0, none⟩ = some (.slice (some ⟨q, 0, none⟩) 1 1) ∧ Below w.heap.size w w' := by
 have bn := below1 w (.cells #[.int .i64 x, .int .i64 y] 38)
 have bz := bn.size
 have B0 := bn.trans ((below1 _ (.cells #[.int .i64 0, .slice none 0 0] 36)).mono bz)
 have V1 := (Box2.new w (lo := w.heap.size) (Nat.le_refl _) (.int .i64 x) (.int .i64 y) 38).below (below1 _ (.cells #[.int .i64 0, .slice none 0 0] 36))
 have V0 := Box2.new (w.alloc (.cells #[.int .i64 x, .int .i64 y] 38)) (lo := w.heap.size) bz (.int .i64 0) (.slice none 0 0) 36
 rw [World.size_alloc] at V0
 clear bn bz
 have HW : w.heap.size + 1 < ((w.alloc (.cells #[.int .i64 x, .int .i64 y] 38)).alloc (.cells #[.int .i64 0, .slice none 0 0] 36)).heap.size := by simp
 obtain ⟨k0, k1, _, _⟩ := id V1
 go_enter Tryz.func23, Tryz.ntmps23
 go_upto_region 1 with fail
 generalize (w.alloc (.cells #[.int .i64 x, .int .i64 y] 38)).alloc (.cells #[.int .i64 0, .slice none 0 0] 36) = W at *
 have SP := (seesP_new W x y 38).below (below1 _ (.cells #[.slice (some ⟨W.heap.size, 0, none⟩) 1 1] 55))
 have CK := cell_new (W.alloc (.cells #[.int .i64 x, .int .i64 y] 38)) #[.slice (some ⟨W.heap.size, 0, none⟩) 1 1] 55 0 rfl
 have bn := below2 W (.cells #[.int .i64 x, .int .i64 y] 38) (.cells #[.slice (some ⟨W.heap.size, 0, none⟩) 1 1] 55)
 replace V0 := V0.below bn
 replace B0 := B0.trans (bn.mono B0.size)
 have zn := World.size_alloc W (.cells #[.int .i64 x, .int .i64 y] 38)
 rw [zn] at CK
 clear bn zn
 obtain ⟨r0, r1⟩ := V0.reads (.int .i64 1) (.slice (some ⟨W.heap.size + 1, 0, none⟩) 1 1)
 have RC := Box2.chain B0 V0 (.int .i64 1) (.slice (some ⟨W.heap.size + 1, 0, none⟩) 1 1)
 obtain ⟨o0, o1, of, _⟩ := id V0
 have S2 := row_put SP CK (g := w.heap.size + 1) (by omega) (by omega) (.int .i64 1) (.slice (some ⟨W.heap.size + 1, 0, none⟩) 1 1)
 clear SP CK V0 V1
 go_wp2
 refine bodyPost_ret (v := .agg #[.int .i64 1, .slice (some ⟨W.heap.size + 1, 0, none⟩) 1 1]) (by simp [results, Tryz.results23, go_sem, r0, r1]) rfl ?_
 exact ⟨_, _, rfl, ⟨by omega, by omega⟩, S2.1, S2.2, RC⟩
theorem pointShape_any (x y : Int) (w : World) :
  Calls Tryz.prog 23 #[.agg #[.int .i64 x, .int .i64 y]] w fun e w' => ∃ a : Option Addr, e = .returned (.agg #[.int .i64 1, .slice a 1 1]) ∧ SeesS w' a 1 [[(x, y)]] ∧ Below w.heap.size w w' := by
 refine (pointShape_parts x y w).mono ?_
 rintro e w' ⟨q, b, rfl, _, h1, h2, hb⟩
 exact ⟨_, rfl, seesS_of h1 h2, hb⟩

open Go.RowKit

theorem good_pt (x y : Int) : goodB 1 [[(x, y)]] = ptOk x y := by
 rw [good_form (by decide)]
 simp [formB, rowsBad, rowF, rowBad, ptBad, rowA, ptA, mostN, leastN, sevN, inB]
def hasP (n : Int) (rs : List (List (Int × Int))) (p : Int × Int) : Bool := (decide (n = 5) && decide (locI rs p ≠ 0)) || onQ (segL n rs) p
theorem meet_pt (n : Int) (rs : List (List (Int × Int))) (p : Int × Int) : meetS n rs 1 [[p]] = hasP n rs p := by
 have e1 : segL 1 [[p]] = [(p, p)] := rfl
 have e2 : anyQ (segL n rs) [(p, p)] = onQ (segL n rs) p := by
  unfold anyQ onQ anyE mtS
  simp only [List.any_cons, List.any_nil, Bool.or_false, met_point]
 have e3 : hasL rs [[p]].flatten = decide (locI rs p ≠ 0) := by simp [hasL]
 unfold meetS hasP
 rw [e1, e2, e3, decide_eq_false (p := (1 : Int) = 5) (by decide), Bool.false_and, Bool.false_or, Bool.or_comm]
set_option maxRecDepth 20000 in
set_option maxHeartbeats 2000000 in
theorem l6Has_any (n : Int) (a : Option Addr) (c : Nat) (rs : List (List (Int × Int))) (x y : Int) (w : World) (h : SeesS w a c rs) (g : goodB n rs = true) (cx : Crd x) (cy : Crd y) :
  Calls Tryz.prog 38 #[.agg #[.int .i64 n, .slice a rs.length c], .agg #[.int .i64 x, .int .i64 y]] w fun e w' => e = .returned (.bool (hasP n rs (x, y))) ∧ Below w.heap.size w w' := by
 have B0 := below2 w (.cells #[.int .i64 n, .slice a rs.length c] 36) (.cells #[.int .i64 x, .int .i64 y] 38)
 have V1 := (Box2.new w (lo := w.heap.size) (Nat.le_refl _) (.int .i64 n) (.slice a rs.length c) 36).below (below1 _ (.cells #[.int .i64 x, .int .i64 y] 38))
 have V2 := Box2.new (w.alloc (.cells #[.int .i64 n, .slice a rs.length c] 36)) (lo := w.heap.size) (by simp) (.int .i64 x) (.int .i64 y) 38
 rw [World.size_alloc] at V2
 have S1 := h.below B0
 clear h
 have o1 := okQ_seg g
 obtain ⟨n1, r1⟩ := good_least g
 have z1 := good_some g
 have ok1 := good_okL g
 have HL : Hid (n = 5 → lcS rs (x, y) (rs.length - 1) = locI rs (x, y)) := fun e => by subst e; exact (loc_same (areaR_of g) (x, y)).symm
 have HP : Hid (hasP n rs (x, y) = ((decide (n = 5) && decide (locI rs (x, y) ≠ 0)) || onQ (segL n rs) (x, y))) := (rfl : hasP n rs (x, y) = _)
 have C1 := fun (W : World) (S : SeesS W a c rs) => l5Segs_any n a c rs W S n1 r1
 clear g n1 r1
 generalize segL n rs = es at *
 obtain ⟨k0, k1, _, _⟩ := id V1
 obtain ⟨k2, k3, _, _⟩ := id V2
 by_cases h5 : n = 5
 ·have b5 : (n == 5) = true := by simp [h5]
  have HC : Hid (lcS rs (x, y) (rs.length - 1) = locI rs (x, y)) := HL.out h5
  have H5 : Hid (n = 5) := h5
  clear h5
  obtain ⟨lc, HLC⟩ : ∃ z, Hid (locI rs (x, y) = z) := ⟨_, rfl⟩
  go_enter Tryz.func38, Tryz.ntmps38
  go_wp2_with fail
  generalize (w.alloc (.cells #[.int .i64 n, .slice a rs.length c] 36)).alloc (.cells #[.int .i64 x, .int .i64 y] 38) = W0 at *
  refine (l6Locate_any n a c rs x y _ S1 z1 ok1 cx cy).mono ?_
  rintro e w1 ⟨rfl, hb⟩
  rw [HC.out, HLC.out]
  replace V1 := V1.below hb
  replace V2 := V2.below hb
  replace S1 := S1.below hb
  replace B0 := B0.trans (hb.mono B0.size)
  clear hb k0 k1 k2 k3
  by_cases hz : lc = 0
  ·have bz : (lc == 0) = true := by simp [hz]
   have bn : (lc != 0) = false := by simp [hz]
   have F5 : Hid ((decide (n = 5) && decide (locI rs (x, y) ≠ 0)) = false) := by show _ = _; rw [HLC.out, hz]; simp
   clear hz HLC HC HL
   obtain ⟨k0, k1, _, _⟩ := id V1
   go_wp2_with fail
   refine (C1 _ S1).mono ?_
   rintro e w2 ⟨v2, rfl, RQ, hb⟩
   replace V2 := V2.below hb
   replace B0 := B0.trans (hb.mono B0.size)
   clear hb k0 k1 C1 V1 S1
   obtain ⟨e1, f1, rfl, f2, m2⟩ := RQ.shape
   have Q1 := RQ.sees
   clear RQ
   unfold maxLen at m2
   go_wp2
   go_loopw [6] (fun s wr => ∃ j : Nat, j ≤ es.length ∧ s = .int .i64 j ∧ Hid (onQ (es.take j) (x, y) = false) ∧ Below w2.heap.size w2 wr) (fun s _ => es.length - (intOf s).toNat)
   case atStart => exact ⟨0, Nat.zero_le _, rfl, rfl, Below.refl _ _⟩
   case round =>
    obtain ⟨j, hj, rfl, T, B⟩ := hrel
    rename World => wr
    by_cases hlt : j < es.length
    ·obtain ⟨⟨a1', a2'⟩, ⟨a3', a4'⟩⟩ := okQ_at o1 hlt
     obtain ⟨b0, off, rfl, hc⟩ := (Q1.below B).cells (by intro e; simp [e] at hlt)
     obtain ⟨p1, p2, p3, p4⟩ := hc j hlt
     obtain ⟨k2, k3, _, _⟩ := V2.below B
     have RF : Hid (onB (sgA es j).1.1 (sgA es j).1.2 (sgA es j).2.1 (sgA es j).2.2 x y = true → onQ es (x, y) = true) := fun q => onQ_found hlt q
     have RN : Hid (onB (sgA es j).1.1 (sgA es j).1.2 (sgA es j).2.1 (sgA es j).2.2 x y = false → onQ (es.take (j + 1)) (x, y) = false) := fun q => (onQ_step hlt T.out).trans q
     clear T hc
     generalize sgA es j = e0 at *
     obtain ⟨⟨x1, y1⟩, ⟨x2, y2⟩⟩ := e0
     dsimp only at a1' a2' a3' a4' p1 p2 p3 p4 RF RN
     go_upto_region 7 with fail
     refine wp_region_held_drew (S := Below wr.heap.size wr) (by kernel_rfl) ((Below.refl _ _).drew) (fun hHeld => ?_)
     have N : Below wr.heap.size wr wr.drew := hHeld
     revert hHeld N
     generalize wr.drew = w7w0
     intro hHeld N
     refine takeA (i := 0) (h := ?_)
     refine takeA (i := 1) (h := ?_)
     refine takeA (i := 2) (h := ?_)
     refine takeA (i := 3) (h := ?_)
     refine takeA (i := 4) (hy := by intro wq hSw; have q0 := bat hSw p1; have q1 := bat hSw p2; have q2 := bat hSw p3; have q3 := bat hSw p4; have q4 := bat hSw k2; have q5 := bat hSw k3; go_simp <;> with_reducible rfl) (h := ?_)
     refine takeA (i := 5) (h := ?_)
     refine takeA (i := 6) (h := ?_)
     refine takeA (i := 7) (h := ?_)
     refine takeA (i := 8) (h := ?_)
     refine takeA (i := 9) (hy := by intro wq hSw; have q0 := bat hSw p1; have q1 := bat hSw p2; have q2 := bat hSw p3; have q3 := bat hSw p4; have q4 := bat hSw k2; have q5 := bat hSw k3; go_simp <;> with_reducible rfl) (h := ?_)
     refine takeA (i := 10) (hy := by intro wq hSw; have q0 := bat hSw p1; have q1 := bat hSw p2; have q2 := bat hSw p3; have q3 := bat hSw p4; have q4 := bat hSw k2; have q5 := bat hSw k3; go_simp <;> with_reducible rfl) (h := ?_)
     refine rdA (i := 11) (h := fun K hK => ?_)
     go_simp
     refine (l3On_any x1 y1 x2 y2 x y _ a1' a2' a3' a4' cx cy).mono ?_
     rintro e w7w1 ⟨rfl, hb⟩
     replace N := N.trans (hb.mono N.size)
     clear hb
     refine hK.out _ _ N (fun hHeld => ?_)
     clear hK K
     try simp only [Act.put, sA, sB, sC]
     refine wpAnyH_done (by kernel_rfl) ?_ _
     skip
     have N2 := B.trans (N.mono B.size)
     clear N p1 p2 p3 p4 k2 k3
     cases q0 : onB x1 y1 x2 y2 x y
     ·have R := RN.out q0
      clear RN RF q0
      go_wp2
      go_roundw
      case rel => exact ⟨j + 1, by omega, by go_num, R, N2⟩
      case measure => simp [intOf]; omega
     ·have R : Hid (onQ es (x, y) = true) := RF.out q0
      clear RN RF q0
      go_wp2
      go_ret
      exact ⟨by rw [HP.out, R.out, Bool.or_true]; first | done | rfl, B0.trans (N2.mono B0.size)⟩
    ·obtain rfl : j = es.length := by omega
     have T2 : Hid (onQ es (x, y) = false) := by have := T.out; rwa [List.take_length] at this
     clear T
     go_wp2
     go_ret
     exact ⟨by rw [HP.out, T2.out, F5.out]; first | done | rfl, B0.trans (B.mono B0.size)⟩
  ·have bz : (lc == 0) = false := by simp [hz]
   have bn : (lc != 0) = true := by simp [hz]
   have R : Hid (hasP n rs (x, y) = true) := by show _ = _; rw [HP.out, HLC.out, decide_eq_true H5.out, decide_eq_true hz]; rfl
   clear hz
   go_wp2
   go_ret
   exact ⟨by rw [R.out]; first | done | rfl, B0⟩
 ·have b5 : (n == 5) = false := by simp [h5]
  have F5 : Hid ((decide (n = 5) && decide (locI rs (x, y) ≠ 0)) = false) := by show _ = _; rw [decide_eq_false h5]; rfl
  clear h5
  go_enter Tryz.func38, Tryz.ntmps38
  go_upto_region 3 with fail
  generalize (w.alloc (.cells #[.int .i64 n, .slice a rs.length c] 36)).alloc (.cells #[.int .i64 x, .int .i64 y] 38) = W0 at *
  clear k0 k1 k2 k3
  obtain ⟨k0, k1, _, _⟩ := id V1
  go_wp2_with fail
  refine (C1 _ S1).mono ?_
  rintro e w2 ⟨v2, rfl, RQ, hb⟩
  replace V2 := V2.below hb
  replace B0 := B0.trans (hb.mono B0.size)
  clear hb k0 k1 C1 V1 S1
  obtain ⟨e1, f1, rfl, f2, m2⟩ := RQ.shape
  have Q1 := RQ.sees
  clear RQ
  unfold maxLen at m2
  go_wp2
  go_loopw [6] (fun s wr => ∃ j : Nat, j ≤ es.length ∧ s = .int .i64 j ∧ Hid (onQ (es.take j) (x, y) = false) ∧ Below w2.heap.size w2 wr) (fun s _ => es.length - (intOf s).toNat)
  case atStart => exact ⟨0, Nat.zero_le _, rfl, rfl, Below.refl _ _⟩
  case round =>
   obtain ⟨j, hj, rfl, T, B⟩ := hrel
   rename World => wr
   by_cases hlt : j < es.length
   ·obtain ⟨⟨a1', a2'⟩, ⟨a3', a4'⟩⟩ := okQ_at o1 hlt
    obtain ⟨b0, off, rfl, hc⟩ := (Q1.below B).cells (by intro e; simp [e] at hlt)
    obtain ⟨p1, p2, p3, p4⟩ := hc j hlt
    obtain ⟨k2, k3, _, _⟩ := V2.below B
    have RF : Hid (onB (sgA es j).1.1 (sgA es j).1.2 (sgA es j).2.1 (sgA es j).2.2 x y = true → onQ es (x, y) = true) := fun q => onQ_found hlt q
    have RN : Hid (onB (sgA es j).1.1 (sgA es j).1.2 (sgA es j).2.1 (sgA es j).2.2 x y = false → onQ (es.take (j + 1)) (x, y) = false) := fun q => (onQ_step hlt T.out).trans q
    clear T hc
    generalize sgA es j = e0 at *
    obtain ⟨⟨x1, y1⟩, ⟨x2, y2⟩⟩ := e0
    dsimp only at a1' a2' a3' a4' p1 p2 p3 p4 RF RN
    go_upto_region 7 with fail
    refine wp_region_held_drew (S := Below wr.heap.size wr) (by kernel_rfl) ((Below.refl _ _).drew) (fun hHeld => ?_)
    have N : Below wr.heap.size wr wr.drew := hHeld
    revert hHeld N
    generalize wr.drew = w7w0
    intro hHeld N
    refine takeA (i := 0) (h := ?_)
    refine takeA (i := 1) (h := ?_)
    refine takeA (i := 2) (h := ?_)
    refine takeA (i := 3) (h := ?_)
    refine takeA (i := 4) (hy := by intro wq hSw; have q0 := bat hSw p1; have q1 := bat hSw p2; have q2 := bat hSw p3; have q3 := bat hSw p4; have q4 := bat hSw k2; have q5 := bat hSw k3; go_simp <;> with_reducible rfl) (h := ?_)
    refine takeA (i := 5) (h := ?_)
    refine takeA (i := 6) (h := ?_)
    refine takeA (i := 7) (h := ?_)
    refine takeA (i := 8) (h := ?_)
    refine takeA (i := 9) (hy := by intro wq hSw; have q0 := bat hSw p1; have q1 := bat hSw p2; have q2 := bat hSw p3; have q3 := bat hSw p4; have q4 := bat hSw k2; have q5 := bat hSw k3; go_simp <;> with_reducible rfl) (h := ?_)
    refine takeA (i := 10) (hy := by intro wq hSw; have q0 := bat hSw p1; have q1 := bat hSw p2; have q2 := bat hSw p3; have q3 := bat hSw p4; have q4 := bat hSw k2; have q5 := bat hSw k3; go_simp <;> with_reducible rfl) (h := ?_)
    refine rdA (i := 11) (h := fun K hK => ?_)
    go_simp
    refine (l3On_any x1 y1 x2 y2 x y _ a1' a2' a3' a4' cx cy).mono ?_
    rintro e w7w1 ⟨rfl, hb⟩
    replace N := N.trans (hb.mono N.size)
    clear hb
    refine hK.out _ _ N (fun hHeld => ?_)
    clear hK K
    try simp only [Act.put, sA, sB, sC]
    refine wpAnyH_done (by kernel_rfl) ?_ _
    skip
    have N2 := B.trans (N.mono B.size)
    clear N p1 p2 p3 p4 k2 k3
    cases q0 : onB x1 y1 x2 y2 x y
    ·have R := RN.out q0
     clear RN RF q0
     go_wp2
     go_roundw
     case rel => exact ⟨j + 1, by omega, by go_num, R, N2⟩
     case measure => simp [intOf]; omega
    ·have R : Hid (onQ es (x, y) = true) := RF.out q0
     clear RN RF q0
     go_wp2
     go_ret
     exact ⟨by rw [HP.out, R.out, Bool.or_true]; first | done | rfl, B0.trans (N2.mono B0.size)⟩
   ·obtain rfl : j = es.length := by omega
    have T2 : Hid (onQ es (x, y) = false) := by have := T.out; rwa [List.take_length] at this
    clear T
    go_wp2
    go_ret
    exact ⟨by rw [HP.out, T2.out, F5.out]; first | done | rfl, B0.trans (B.mono B0.size)⟩

def rN (ux uy vx vy : Int) : Int := if ux = 0 ∧ uy = 0 ∨ ux * vx + uy * vy < 0 then sqq vx vy else if 0 < ux * (vx - ux) + uy * (vy - uy) then sqq (vx - ux) (vy - uy) else (ux * vy - uy * vx) * (ux * vy - uy * vx)
def rD (ux uy vx vy : Int) : Int := if ux = 0 ∧ uy = 0 ∨ ux * vx + uy * vy < 0 then 1 else if 0 < ux * (vx - ux) + uy * (vy - uy) then 1 else sqq ux uy
theorem r_same {ux uy vx vy : Int} (h : ux = 0 ∧ uy = 0) : rN ux uy vx vy = sqq vx vy ∧ rD ux uy vx vy = 1 := by
 unfold rN rD
 rw [if_pos (.inl h), if_pos (.inl h)]
 exact ⟨rfl, rfl⟩
theorem r_before {ux uy vx vy : Int} (h : ux * vx + uy * vy < 0) : rN ux uy vx vy = sqq vx vy ∧ rD ux uy vx vy = 1 := by
 unfold rN rD
 rw [if_pos (.inr h), if_pos (.inr h)]
 exact ⟨rfl, rfl⟩
theorem r_behind {ux uy vx vy : Int} (hu : ux ≠ 0 ∨ uy ≠ 0) (h : 0 < ux * (vx - ux) + uy * (vy - uy)) : rN ux uy vx vy = sqq (vx - ux) (vy - uy) ∧ rD ux uy vx vy = 1 := by
 have hw := sqq_pos hu
 have e : ux * (vx - ux) + uy * (vy - uy) = (ux * vx + uy * vy) - sqq ux uy := by unfold sqq; grind
 have n : ¬ (ux = 0 ∧ uy = 0 ∨ ux * vx + uy * vy < 0) := by
  rintro (⟨q, r⟩ | q)
  ·rcases hu with hu | hu
   ·exact hu q
   ·exact hu r
  ·omega
 unfold rN rD
 rw [if_neg n, if_neg n, if_pos h, if_pos h]
 exact ⟨rfl, rfl⟩
theorem r_beside {ux uy vx vy : Int} (hu : ux ≠ 0 ∨ uy ≠ 0) (h1 : ¬ ux * vx + uy * vy < 0) (h2 : ¬ 0 < ux * (vx - ux) + uy * (vy - uy)) : rN ux uy vx vy = (ux * vy - uy * vx) * (ux * vy - uy * vx) ∧ rD ux uy vx vy = sqq ux uy := by
 have n : ¬ (ux = 0 ∧ uy = 0 ∨ ux * vx + uy * vy < 0) := by
  rintro (⟨q, r⟩ | q)
  ·rcases hu with hu | hu
   ·exact hu q
   ·exact hu r
  ·omega
 unfold rN rD
 rw [if_neg n, if_neg n, if_neg h2, if_neg h2]
 exact ⟨rfl, rfl⟩
theorem gq_one (n : Int) : gqN n 1 = n ∧ gqD n 1 = 1 := by
 unfold gqN gqD
 simp
theorem r_low (ux uy vx vy : Int) : gqN (rN ux uy vx vy) (rD ux uy vx vy) = gN ux uy vx vy ∧ gqD (rN ux uy vx vy) (rD ux uy vx vy) = gD ux uy vx vy := by
 by_cases h0 : ux = 0 ∧ uy = 0
 ·obtain ⟨a, b⟩ := r_same (vx := vx) (vy := vy) h0
  obtain ⟨c, d⟩ := g_same (vx := vx) (vy := vy) h0
  rw [a, b, c, d]
  exact gq_one _
 ·have hu : ux ≠ 0 ∨ uy ≠ 0 := by
   rcases Classical.em (ux = 0) with e | e
   ·exact .inr (fun q => h0 ⟨e, q⟩)
   ·exact .inl e
  by_cases h1 : ux * vx + uy * vy < 0
  ·obtain ⟨a, b⟩ := r_before h1
   obtain ⟨c, d⟩ := g_before h1
   rw [a, b, c, d]
   exact gq_one _
  ·by_cases h2 : 0 < ux * (vx - ux) + uy * (vy - uy)
   ·obtain ⟨a, b⟩ := r_behind hu h2
    obtain ⟨c, d⟩ := g_behind hu h2
    rw [a, b, c, d]
    exact gq_one _
   ·obtain ⟨a, b⟩ := r_beside hu h1 h2
    obtain ⟨c, d⟩ := g_beside hu h1 h2
    rw [a, b, c, d]
    exact ⟨rfl, rfl⟩
theorem sq_nn (z : Int) : 0 ≤ z * z := by
 rcases Int.le_total 0 z with h | h
 ·exact Int.mul_nonneg h h
 ·have := Int.mul_nonneg (a := -z) (b := -z) (by omega) (by omega); rwa [Int.neg_mul_neg] at this
theorem r_pos (ux uy vx vy : Int) : 0 ≤ rN ux uy vx vy ∧ 0 < rD ux uy vx vy := by
 have sn : ∀ x y, 0 ≤ sqq x y := fun x y => by unfold sqq; have := sq_nn x; have := sq_nn y; omega
 by_cases h0 : ux = 0 ∧ uy = 0
 ·obtain ⟨a, b⟩ := r_same (vx := vx) (vy := vy) h0
  rw [a, b]
  exact ⟨sn _ _, by decide⟩
 ·have hu : ux ≠ 0 ∨ uy ≠ 0 := by
   rcases Classical.em (ux = 0) with e | e
   ·exact .inr (fun q => h0 ⟨e, q⟩)
   ·exact .inl e
  by_cases h1 : ux * vx + uy * vy < 0
  ·obtain ⟨a, b⟩ := r_before h1
   rw [a, b]
   exact ⟨sn _ _, by decide⟩
  ·by_cases h2 : 0 < ux * (vx - ux) + uy * (vy - uy)
   ·obtain ⟨a, b⟩ := r_behind hu h2
    rw [a, b]
    exact ⟨sn _ _, by decide⟩
   ·obtain ⟨a, b⟩ := r_beside hu h1 h2
    rw [a, b]
    exact ⟨sq_nn _, sqq_pos hu⟩
open Go.RowKit

theorem Box2.both {lo p : Nat} {w : World} {x0 x1 : Value} (h : Box2 lo w p x0 x1) : w.cell? ⟨p, 0, none⟩ = some x0 ∧ w.cell? ⟨p, 1, none⟩ = some x1 := ⟨h.c0, h.c1⟩
open Go.RowKit

def Keeps (p : Nat) (W w : World) : Prop := ∀ b o, b < W.heap.size → b ≠ p → w.cell? ⟨b, o, none⟩ = W.cell? ⟨b, o, none⟩
theorem Keeps.of {p : Nat} {W w : World} (h : Below W.heap.size W w) : Keeps p W w := fun b o hb _ => h.cell (p := ⟨b, o, none⟩) hb
theorem Keeps.at {p : Nat} {W w : World} (h : Keeps p W w) {b o : Nat} {v : Value} (k : W.cell? ⟨b, o, none⟩ = some v) (ne : b ≠ p) : w.cell? ⟨b, o, none⟩ = some v :=
 (h b o (World.block_lt_of_cell? _ _ k) ne).trans k
theorem Keeps.put1 {p : Nat} {W w : World} (h : Keeps p W w) (o : Nat) (u : Value) : Keeps p W (w.setCell ⟨p, o, none⟩ u) := fun b i hb ne => (cell_other (.inl (Ne.symm ne)) u).trans (h b i hb ne)
theorem Keeps.put4 {p : Nat} {W w : World} (h : Keeps p W w) (u0 u1 u2 u3 : Value) : Keeps p W ((((w.setCell ⟨p, 0, none⟩ u0).setCell ⟨p, 1, none⟩ u1).setCell ⟨p, 2, none⟩ u2).setCell ⟨p, 3, none⟩ u3) :=
 (((h.put1 0 u0).put1 1 u1).put1 2 u2).put1 3 u3
theorem below_put4' {b b0 : Nat} {w w' : World} (h : Below b0 w w') (h0 : b0 ≤ b) (u0 u1 u2 u3 : Value) : Below b0 w ((((w'.setCell ⟨b, 0, none⟩ u0).setCell ⟨b, 1, none⟩ u1).setCell ⟨b, 2, none⟩ u2).setCell ⟨b, 3, none⟩ u3) :=
 (((h.setCell (p := ⟨b, 0, none⟩) h0 u0).setCell (p := ⟨b, 1, none⟩) h0 u1).setCell (p := ⟨b, 2, none⟩) h0 u2).setCell (p := ⟨b, 3, none⟩) h0 u3
open Go.RowKit

theorem gboxes (x1 y1 x2 y2 x3 y3 : Int) (w : World) :
  Box2 w.heap.size ((((w.alloc (.cells #[.int .i64 x1, .int .i64 y1] 38)).alloc (.cells #[.int .i64 x2, .int .i64 y2] 38)).alloc (.cells #[.int .i64 x3, .int .i64 y3] 38)).alloc (.cells #[.bool false, .slice none 0 0, .bool false, .slice none 0 0] 32)) (w.heap.size) (.int .i64 x1) (.int .i64 y1) ∧ Box2 w.heap.size ((((w.alloc (.cells #[.int .i64 x1, .int .i64 y1] 38)).alloc (.cells #[.int .i64 x2, .int .i64 y2] 38)).alloc (.cells #[.int .i64 x3, .int .i64 y3] 38)).alloc (.cells #[.bool false, .slice none 0 0, .bool false, .slice none 0 0] 32)) (w.heap.size + 1) (.int .i64 x2) (.int .i64 y2) ∧ Box2 w.heap.size ((((w.alloc (.cells #[.int .i64 x1, .int .i64 y1] 38)).alloc (.cells #[.int .i64 x2, .int .i64 y2] 38)).alloc (.cells #[.int .i64 x3, .int .i64 y3] 38)).alloc (.cells #[.bool false, .slice none 0 0, .bool false, .slice none 0 0] 32)) (w.heap.size + 1 + 1) (.int .i64 x3) (.int .i64 y3) ∧ Box4 w.heap.size ((((w.alloc (.cells #[.int .i64 x1, .int .i64 y1] 38)).alloc (.cells #[.int .i64 x2, .int .i64 y2] 38)).alloc (.cells #[.int .i64 x3, .int .i64 y3] 38)).alloc (.cells #[.bool false, .slice none 0 0, .bool false, .slice none 0 0] 32)) (w.heap.size + 1 + 1 + 1) (.bool false) (.slice none 0 0) (.bool false) (.slice none 0 0) ∧ Below w.heap.size w ((((w.alloc (.cells #[.int .i64 x1, .int .i64 y1] 38)).alloc (.cells #[.int .i64 x2, .int .i64 y2] 38)).alloc (.cells #[.int .i64 x3, .int .i64 y3] 38)).alloc (.cells #[.bool false, .slice none 0 0, .bool false, .slice none 0 0] 32)) := by
 refine ⟨?_, ?_, ?_, ?_, below4 _ _ _ _ _⟩
 ·exact (((Box2.new w (Nat.le_refl _) (.int .i64 x1) (.int .i64 y1) 38).below (below1 _ _)).below (below1 _ _)).below (below1 _ _)
 ·have this : Box2 w.heap.size ((((w.alloc (.cells #[.int .i64 x1, .int .i64 y1] 38)).alloc (.cells #[.int .i64 x2, .int .i64 y2] 38)).alloc (.cells #[.int .i64 x3, .int .i64 y3] 38)).alloc (.cells #[.bool false, .slice none 0 0, .bool false, .slice none 0 0] 32)) (w.alloc (.cells #[.int .i64 x1, .int .i64 y1] 38)).heap.size (.int .i64 x2) (.int .i64 y2) := (((Box2.new (w.alloc (.cells #[.int .i64 x1, .int .i64 y1] 38)) (lo := w.heap.size) (by simp) (.int .i64 x2) (.int .i64 y2) 38).below (below1 _ _)).below (below1 _ _))
  rwa [World.size_alloc] at this
 ·have this : Box2 w.heap.size ((((w.alloc (.cells #[.int .i64 x1, .int .i64 y1] 38)).alloc (.cells #[.int .i64 x2, .int .i64 y2] 38)).alloc (.cells #[.int .i64 x3, .int .i64 y3] 38)).alloc (.cells #[.bool false, .slice none 0 0, .bool false, .slice none 0 0] 32)) ((w.alloc (.cells #[.int .i64 x1, .int .i64 y1] 38)).alloc (.cells #[.int .i64 x2, .int .i64 y2] 38)).heap.size (.int .i64 x3) (.int .i64 y3) := ((Box2.new ((w.alloc (.cells #[.int .i64 x1, .int .i64 y1] 38)).alloc (.cells #[.int .i64 x2, .int .i64 y2] 38)) (lo := w.heap.size) (by simp; omega) (.int .i64 x3) (.int .i64 y3) 38).below (below1 _ _))
  rwa [World.size_alloc, World.size_alloc] at this
 ·have := (Box4.new (((w.alloc (.cells #[.int .i64 x1, .int .i64 y1] 38)).alloc (.cells #[.int .i64 x2, .int .i64 y2] 38)).alloc (.cells #[.int .i64 x3, .int .i64 y3] 38)) (lo := w.heap.size) (by simp; omega) (.bool false) (.slice none 0 0) (.bool false) (.slice none 0 0) 32)
  rwa [World.size_alloc, World.size_alloc, World.size_alloc] at this
theorem sqq_le {x y : Int} (hx : Dif x) (hy : Dif y) : sqq x y ≤ 800000000000000 := by
 have h1 := hx.mul hx
 have h2 := hy.mul hy
 unfold sqq
 omega
theorem r_bound (ux uy vx vy : Int) (h1 : Dif ux) (h2 : Dif uy) (h3 : Dif vx) (h4 : Dif vy) (h5 : Dif (vx - ux)) (h6 : Dif (vy - uy)) : rN ux uy vx vy < 4294967296 ^ 4 ∧ rD ux uy vx vy < 4294967296 ^ 2 := by
 have e4 : (4294967296 : Int) ^ 4 = 340282366920938463463374607431768211456 := by decide
 have e2 : (4294967296 : Int) ^ 2 = 18446744073709551616 := by decide
 have s1 := sqq_le h3 h4
 have s2 := sqq_le h5 h6
 have s3 := sqq_le h1 h2
 have q1 := h1.mul h4
 have q2 := h2.mul h3
 obtain ⟨cr, hcr⟩ : ∃ z, ux * vy - uy * vx = z := ⟨_, rfl⟩
 have b1 : -800000000000000 ≤ cr ∧ cr ≤ 800000000000000 := by omega
 have q3 := Int.mul_nonneg (show 0 ≤ 800000000000000 - cr by omega) (show 0 ≤ 800000000000000 + cr by omega)
 have q4 : (800000000000000 - cr) * (800000000000000 + cr) = 640000000000000000000000000000 - cr * cr := by grind
 unfold rN rD
 rw [hcr, e4, e2]
 constructor
 ·split
  ·omega
  ·split
   ·omega
   ·omega
 ·split
  ·omega
  ·split
   ·omega
   ·omega
open Go.RowKit

theorem capture {P : Program} {ops : Array Oper} {Q : Exit → Act → World → Prop} {md : Region.Mode} {S : World → Prop} {fuel : Nat} {listed : Array Bool} {a : Act} {w : World}
  (h : ∀ wp : Nat → Array Bool → Act → World → Prop, (∀ f l a w, wp f l a w = wpAnyH P md ops Q S f l a w) → wp fuel listed a w) : wpAnyH P md ops Q S fuel listed a w :=
 h (fun f l a w => wpAnyH P md ops Q S f l a w) (fun _ _ _ _ => rfl)
theorem met {wp : Nat → Array Bool → Act → World → Prop} {f : Nat} {l l' : Array Bool} {a : Act} {w : World} (h : wp f l' a w) (e : l = l') : wp f l a w := e ▸ h
end Go.Proofs.YtnjbedhealpgcaaGreat
