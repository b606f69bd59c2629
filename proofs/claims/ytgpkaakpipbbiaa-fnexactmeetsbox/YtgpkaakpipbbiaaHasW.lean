/- Whether a point is one of a shape's: of both (pointShape, Has). -/
import Derived.Test.YtgpkaakpipbbiaaMeetS
namespace Go.Proofs.Ytgpkaakpipbbiaa
open Go.RowKit

theorem good_pt (x y : Int) : goodB 1 [[(x, y)]] = ptOk x y := by
  rw [good_form (by decide)]
  simp [formB, rowsBad, rowF, rowBad, ptBad, rowA, ptA, mostN, leastN, sevN, inB]
theorem Box2.reads {lo p : Nat} {w : World} {x0 x1 : Value} (h : Box2 lo w p x0 x1) (u0 u1 : Value) : (w.setCell ⟨p, 0, none⟩ u0).cell? ⟨p, 0, none⟩ = some u0 ∧ ((w.setCell ⟨p, 0, none⟩ u0).setCell ⟨p, 1, none⟩ u1).cell? ⟨p, 1, none⟩ = some u1 :=
  ⟨cell_same h.c0 _, cell_same ((cell_other (.inr (by decide)) _).trans h.c1) _⟩
/-- Whether a point is one of a shape's. -/
def hasP (n : Int) (rs : List (List (Int × Int))) (p : Int × Int) : Bool := (decide (n = 5) && decide (locI rs p ≠ 0)) || onQ (segL n rs) p
theorem meet_pt (n : Int) (rs : List (List (Int × Int))) (p : Int × Int) : meetS n rs 1 [[p]] = hasP n rs p := by
  have e1 : segL 1 [[p]] = [(p, p)] := rfl
  have e2 : anyQ (segL n rs) [(p, p)] = onQ (segL n rs) p := by
    unfold anyQ onQ anyE mtS
    simp only [List.any_cons, List.any_nil, Bool.or_false, met_point]
  have e3 : hasL rs [[p]].flatten = decide (locI rs p ≠ 0) := by simp [hasL]
  unfold meetS hasP
  rw [e1, e2, e3, decide_eq_false (p := (1 : Int) = 5) (by decide), Bool.false_and, Bool.false_or, Bool.or_comm]
/-- What Has answers. -/
def hsV (n : Int) (rs : List (List (Int × Int))) (x y : Int) : Bool := (goodB n rs && ptOk x y) && hasP n rs (x, y)
theorem hs_same (n : Int) (rs : List (List (Int × Int))) (x y : Int) : smV n rs 1 [[(x, y)]] = hsV n rs x y := by
  unfold smV hsV
  rw [good_pt, meet_pt]
theorem seesP_new (w : World) (x y : Int) (t : TypeId) : SeesP (w.alloc (.cells #[.int .i64 x, .int .i64 y] t)) (some ⟨w.heap.size, 0, none⟩) 1 [(x, y)] :=
  ⟨Nat.le_refl _, by unfold maxLen; omega, fun _ => ⟨_, 0, rfl, fun i hi => by
    obtain rfl : i = 0 := by simp at hi; omega
    exact ⟨cell_new w #[.int .i64 x, .int .i64 y] t 0 rfl, cell_new w #[.int .i64 x, .int .i64 y] t 1 rfl⟩⟩⟩
theorem seesS_of {w : World} {a : Option Addr} {c b : Nat} {ps : List (Int × Int)} (h : SeesP w a c ps) (k : w.cell? ⟨b, 0, none⟩ = some (.slice a ps.length c)) : SeesS w (some ⟨b, 0, none⟩) 1 [ps] :=
  ⟨Nat.le_refl _, by unfold maxLen; omega, fun _ => ⟨_, 0, rfl, fun i hi => by
    obtain rfl : i = 0 := by simp at hi; omega
    exact ⟨a, c, k, h⟩⟩⟩
/-- A list of one row stays where another block is written. -/
theorem row_put {w : World} {q b g c : Nat} {ps : List (Int × Int)} (h : SeesP w (some ⟨q, 0, none⟩) c ps) (k : w.cell? ⟨b, 0, none⟩ = some (.slice (some ⟨q, 0, none⟩) ps.length c)) (n0 : q ≠ g) (n1 : b ≠ g) (u0 u1 : Value) :
    SeesP ((w.setCell ⟨g, 0, none⟩ u0).setCell ⟨g, 1, none⟩ u1) (some ⟨q, 0, none⟩) c ps ∧ ((w.setCell ⟨g, 0, none⟩ u0).setCell ⟨g, 1, none⟩ u1).cell? ⟨b, 0, none⟩ = some (.slice (some ⟨q, 0, none⟩) ps.length c) := by
  have ne : ∀ b' off, (some ⟨q, 0, none⟩ : Option Addr) = some ⟨b', off, none⟩ → b' ≠ g := by
    intro b' off e
    simp only [Option.some.injEq, Addr.mk.injEq] at e
    omega
  exact ⟨(h.put1 ne 0 u0).put1 ne 1 u1, (cell_other (.inl n1.symm) _).trans ((cell_other (.inl n1.symm) _).trans k)⟩
theorem seesS_put {w : World} {q b g c : Nat} {ps : List (Int × Int)} (h : SeesP w (some ⟨q, 0, none⟩) c ps) (k : w.cell? ⟨b, 0, none⟩ = some (.slice (some ⟨q, 0, none⟩) ps.length c)) (n0 : q ≠ g) (n1 : b ≠ g) (u0 u1 : Value) :
    SeesS ((w.setCell ⟨g, 0, none⟩ u0).setCell ⟨g, 1, none⟩ u1) (some ⟨b, 0, none⟩) 1 [ps] := by
  obtain ⟨h1, h2⟩ := row_put h k n0 n1 u0 u1
  exact seesS_of h1 h2

set_option maxRecDepth 20000 in
set_option maxHeartbeats 2000000 in
theorem pointShape_parts (x y : Int) (w : World) :
    Calls Try.prog 32 #[.agg #[.int .i64 x, .int .i64 y]] w fun e w' => ∃ q b : Nat, e = .returned (.agg #[.int .i64 1, .slice (some ⟨b, 0, none⟩) 1 1]) ∧ (w.heap.size ≤ q ∧ w.heap.size ≤ b) ∧ SeesP w' (some ⟨q, 0, none⟩) 1 [(x, y)] ∧ w'.cell? ⟨b, 0, none⟩ = some (.slice (some ⟨q, 0, none⟩) 1 1) ∧ Below w.heap.size w w' := by
  have bn := below1 w (.cells #[.int .i64 x, .int .i64 y] 33)
  have bz := bn.size
  have B0 := bn.trans ((below1 _ (.cells #[.int .i64 0, .slice none 0 0] 31)).mono bz)
  have V1 := (Box2.new w (lo := w.heap.size) (Nat.le_refl _) (.int .i64 x) (.int .i64 y) 33).below (below1 _ (.cells #[.int .i64 0, .slice none 0 0] 31))
  have V0 := Box2.new (w.alloc (.cells #[.int .i64 x, .int .i64 y] 33)) (lo := w.heap.size) bz (.int .i64 0) (.slice none 0 0) 31
  rw [World.size_alloc] at V0
  clear bn bz
  have HW : w.heap.size + 1 < ((w.alloc (.cells #[.int .i64 x, .int .i64 y] 33)).alloc (.cells #[.int .i64 0, .slice none 0 0] 31)).heap.size := by simp
  obtain ⟨k0, k1, _, _⟩ := id V1
  go_enter Try.func32, Try.ntmps32
  go_upto_region 1 with fail
  generalize (w.alloc (.cells #[.int .i64 x, .int .i64 y] 33)).alloc (.cells #[.int .i64 0, .slice none 0 0] 31) = W at *
  have SP := (seesP_new W x y 33).below (below1 _ (.cells #[.slice (some ⟨W.heap.size, 0, none⟩) 1 1] 52))
  have CK := cell_new (W.alloc (.cells #[.int .i64 x, .int .i64 y] 33)) #[.slice (some ⟨W.heap.size, 0, none⟩) 1 1] 52 0 rfl
  have bn := below2 W (.cells #[.int .i64 x, .int .i64 y] 33) (.cells #[.slice (some ⟨W.heap.size, 0, none⟩) 1 1] 52)
  replace V0 := V0.below bn
  replace B0 := B0.trans (bn.mono B0.size)
  have zn := World.size_alloc W (.cells #[.int .i64 x, .int .i64 y] 33)
  rw [zn] at CK
  clear bn zn
  obtain ⟨r0, r1⟩ := V0.reads (.int .i64 1) (.slice (some ⟨W.heap.size + 1, 0, none⟩) 1 1)
  have RC := Box2.chain B0 V0 (.int .i64 1) (.slice (some ⟨W.heap.size + 1, 0, none⟩) 1 1)
  obtain ⟨o0, o1, of, _⟩ := id V0
  have S2 := row_put SP CK (g := w.heap.size + 1) (by omega) (by omega) (.int .i64 1) (.slice (some ⟨W.heap.size + 1, 0, none⟩) 1 1)
  clear SP CK V0 V1
  go_wp2
  refine bodyPost_ret (v := .agg #[.int .i64 1, .slice (some ⟨W.heap.size + 1, 0, none⟩) 1 1]) (by simp [results, Try.results32, go_sem, r0, r1]) rfl ?_
  exact ⟨_, _, rfl, ⟨by omega, by omega⟩, S2.1, S2.2, RC⟩
theorem pointShape_any (x y : Int) (w : World) :
    Calls Try.prog 32 #[.agg #[.int .i64 x, .int .i64 y]] w fun e w' => ∃ a : Option Addr, e = .returned (.agg #[.int .i64 1, .slice a 1 1]) ∧ SeesS w' a 1 [[(x, y)]] ∧ Below w.heap.size w w' := by
  refine (pointShape_parts x y w).mono ?_
  rintro e w' ⟨q, b, rfl, _, h1, h2, hb⟩
  exact ⟨_, rfl, seesS_of h1 h2, hb⟩

set_option maxRecDepth 20000 in
set_option maxHeartbeats 2000000 in
theorem implHas (n : Int) (a : Option Addr) (c : Nat) (rs : List (List (Int × Int))) (x y : Int) (w : World) (h : SeesS w a c rs) :
    Calls Try.prog 14 #[.agg #[.int .i64 n, .slice a rs.length c], .agg #[.int .i64 x, .int .i64 y]] w fun e w' => e = .returned (.bool (hsV n rs x y)) ∧ Below w.heap.size w w' := by
  have B0 := below2 w (.cells #[.int .i64 n, .slice a rs.length c] 31) (.cells #[.int .i64 x, .int .i64 y] 33)
  have V1 := (Box2.new w (lo := w.heap.size) (Nat.le_refl _) (.int .i64 n) (.slice a rs.length c) 31).below (below1 _ (.cells #[.int .i64 x, .int .i64 y] 33))
  have V2 := Box2.new (w.alloc (.cells #[.int .i64 n, .slice a rs.length c] 31)) (lo := w.heap.size) (by simp) (.int .i64 x) (.int .i64 y) 33
  rw [World.size_alloc] at V2
  have S1 := h.below B0
  clear h
  obtain ⟨z, HZ⟩ : ∃ z, Hid (hsV n rs x y = z) := ⟨_, rfl⟩
  obtain ⟨k0, k1, _, _⟩ := id V1
  obtain ⟨k2, k3, _, _⟩ := id V2
  go_enter Try.func14, Try.ntmps14
  go_upto_region 1 with fail
  generalize (w.alloc (.cells #[.int .i64 n, .slice a rs.length c] 31)).alloc (.cells #[.int .i64 x, .int .i64 y] 33) = W0 at *
  refine wp_region_held_drew (S := Below W0.heap.size W0) (by kernel_rfl) ((Below.refl _ _).drew) (fun hHeld => ?_)
  have N : Below W0.heap.size W0 W0.drew := hHeld
  revert hHeld N
  generalize W0.drew = w1w0
  intro hHeld N
  refine takeQ (i := 0) (gt rfl) (by kernel_rfl) (fun _ _ _ h => h) (by rfl) (by intro wq hSw; have q0 := bat hSw k0; have q1 := bat hSw k1; have q2 := bat hSw k2; have q3 := bat hSw k3; go_simp <;> with_reducible rfl) (by assumption) ?_
  try simp only [Act.put, sA, sB, sC]
  refine takeQ (i := 1) (gt rfl) (by kernel_rfl) (fun _ _ _ h => h) (by rfl) (by intro wq hSw; have q0 := bat hSw k0; have q1 := bat hSw k1; have q2 := bat hSw k2; have q3 := bat hSw k3; go_simp <;> with_reducible rfl) (by assumption) ?_
  try simp only [Act.put, sA, sB, sC]
  refine wpAnyH_ready (rs := [2]) (by kernel_rfl) (by simp) (AllReadyH.cons (gt rfl) (fun K hK => ?_) AllReadyH.nil)
  go_simp
  refine (pointShape_any x y _).mono ?_
  rintro e w1w1 ⟨q, rfl, SP, hb⟩
  replace N := N.trans (hb.mono N.size)
  clear hb
  refine hK.out _ _ N (fun hHeld => ?_)
  clear hK K
  try simp only [Act.put, sA, sB, sC]
  refine wpAnyH_ready (rs := [3]) (by kernel_rfl) (by simp) (AllReadyH.cons (gt rfl) (fun K hK => ?_) AllReadyH.nil)
  go_simp
  refine (implShapesMeet n 1 a q c 1 rs [[(x, y)]] _ (S1.below N) SP).mono ?_
  rintro e w1w2 ⟨rfl, hb⟩
  rw [hs_same, HZ.out]
  replace SP := SP.below hb
  replace N := N.trans (hb.mono N.size)
  clear hb
  refine hK.out _ _ N (fun hHeld => ?_)
  clear hK K
  try simp only [Act.put, sA, sB, sC]
  refine takeQ (i := 4) (gt rfl) (by kernel_rfl) (fun _ _ _ h => h) (by rfl) (by intro wq _; go_simp <;> with_reducible rfl) (by assumption) ?_
  try simp only [Act.put, sA, sB, sC]
  refine wpAnyH_done (by kernel_rfl) ?_ _
  go_wp2
  go_ret
  exact ⟨by rw [HZ.out]; first | done | rfl, B0.trans (N.mono B0.size)⟩

set_option maxRecDepth 20000 in
set_option maxHeartbeats 2000000 in
theorem l6Has_any (n : Int) (a : Option Addr) (c : Nat) (rs : List (List (Int × Int))) (x y : Int) (w : World) (h : SeesS w a c rs) (g : goodB n rs = true) (cx : Crd x) (cy : Crd y) :
    Calls Try.prog 31 #[.agg #[.int .i64 n, .slice a rs.length c], .agg #[.int .i64 x, .int .i64 y]] w fun e w' => e = .returned (.bool (hasP n rs (x, y))) ∧ Below w.heap.size w w' := by
  have B0 := below2 w (.cells #[.int .i64 n, .slice a rs.length c] 31) (.cells #[.int .i64 x, .int .i64 y] 33)
  have V1 := (Box2.new w (lo := w.heap.size) (Nat.le_refl _) (.int .i64 n) (.slice a rs.length c) 31).below (below1 _ (.cells #[.int .i64 x, .int .i64 y] 33))
  have V2 := Box2.new (w.alloc (.cells #[.int .i64 n, .slice a rs.length c] 31)) (lo := w.heap.size) (by simp) (.int .i64 x) (.int .i64 y) 33
  rw [World.size_alloc] at V2
  have S1 := h.below B0
  clear h
  have o1 := okQ_seg g
  obtain ⟨n1, r1⟩ := good_least g
  have z1 := good_some g
  have ok1 := good_okL g
  have HL : Hid (n = 5 → lcS rs (x, y) (rs.length - 1) = locI rs (x, y)) := fun e => by subst e; exact (loc_same (areaR_of g) (x, y)).symm
  have HP : Hid (hasP n rs (x, y) = ((decide (n = 5) && decide (locI rs (x, y) ≠ 0)) || onQ (segL n rs) (x, y))) := (rfl : hasP n rs (x, y) = _)
  have C1 := fun (W : World) (S : SeesS W a c rs) => l5Segs_any n a c rs W S n1 r1
  clear g n1 r1
  generalize segL n rs = es at *
  obtain ⟨k0, k1, _, _⟩ := id V1
  obtain ⟨k2, k3, _, _⟩ := id V2
  by_cases h5 : n = 5
  · have b5 : (n == 5) = true := by simp [h5]
    have HC : Hid (lcS rs (x, y) (rs.length - 1) = locI rs (x, y)) := HL.out h5
    have H5 : Hid (n = 5) := h5
    clear h5
    obtain ⟨lc, HLC⟩ : ∃ z, Hid (locI rs (x, y) = z) := ⟨_, rfl⟩
    go_enter Try.func31, Try.ntmps31
    go_wp2_with fail
    generalize (w.alloc (.cells #[.int .i64 n, .slice a rs.length c] 31)).alloc (.cells #[.int .i64 x, .int .i64 y] 33) = W0 at *
    refine (l6Locate_any n a c rs x y _ S1 z1 ok1 cx cy).mono ?_
    rintro e w1 ⟨rfl, hb⟩
    rw [HC.out, HLC.out]
    replace V1 := V1.below hb
    replace V2 := V2.below hb
    replace S1 := S1.below hb
    replace B0 := B0.trans (hb.mono B0.size)
    clear hb k0 k1 k2 k3
    by_cases hz : lc = 0
    · have bz : (lc == 0) = true := by simp [hz]
      have bn : (lc != 0) = false := by simp [hz]
      have F5 : Hid ((decide (n = 5) && decide (locI rs (x, y) ≠ 0)) = false) := by show _ = _; rw [HLC.out, hz]; simp
      clear hz HLC HC HL
      obtain ⟨k0, k1, _, _⟩ := id V1
      go_wp2_with fail
      refine (C1 _ S1).mono ?_
      rintro e w2 ⟨v2, rfl, RQ, hb⟩
      replace V2 := V2.below hb
      replace B0 := B0.trans (hb.mono B0.size)
      clear hb k0 k1 C1 V1 S1
      obtain ⟨e1, f1, rfl, f2, m2⟩ := RQ.shape
      have Q1 := RQ.sees
      clear RQ
      unfold maxLen at m2
      go_wp2
      go_loopw [6] (fun s wr => ∃ j : Nat, j ≤ es.length ∧ s = .int .i64 j ∧ Hid (onQ (es.take j) (x, y) = false) ∧ Below w2.heap.size w2 wr) (fun s _ => es.length - (intOf s).toNat)
      case atStart => exact ⟨0, Nat.zero_le _, rfl, rfl, Below.refl _ _⟩
      case round =>
        obtain ⟨j, hj, rfl, T, B⟩ := hrel
        rename World => wr
        by_cases hlt : j < es.length
        · obtain ⟨⟨a1', a2'⟩, ⟨a3', a4'⟩⟩ := okQ_at o1 hlt
          obtain ⟨b0, off, rfl, hc⟩ := (Q1.below B).cells (by intro e; simp [e] at hlt)
          obtain ⟨p1, p2, p3, p4⟩ := hc j hlt
          obtain ⟨k2, k3, _, _⟩ := V2.below B
          have RF : Hid (onB (sgA es j).1.1 (sgA es j).1.2 (sgA es j).2.1 (sgA es j).2.2 x y = true → onQ es (x, y) = true) := fun q => onQ_found hlt q
          have RN : Hid (onB (sgA es j).1.1 (sgA es j).1.2 (sgA es j).2.1 (sgA es j).2.2 x y = false → onQ (es.take (j + 1)) (x, y) = false) := fun q => (onQ_step hlt T.out).trans q
          clear T hc
          generalize sgA es j = e0 at *
          obtain ⟨⟨x1, y1⟩, ⟨x2, y2⟩⟩ := e0
          dsimp only at a1' a2' a3' a4' p1 p2 p3 p4 RF RN
          go_upto_region 7 with fail
          refine wp_region_held_drew (S := Below wr.heap.size wr) (by kernel_rfl) ((Below.refl _ _).drew) (fun hHeld => ?_)
          have N : Below wr.heap.size wr wr.drew := hHeld
          revert hHeld N
          generalize wr.drew = w7w0
          intro hHeld N
          refine takeQ (i := 0) (gt rfl) (by kernel_rfl) (fun _ _ _ h => h) (by rfl) (by intro wq _; go_simp <;> with_reducible rfl) (by assumption) ?_
          try simp only [Act.put, sA, sB, sC]
          refine takeQ (i := 1) (gt rfl) (by kernel_rfl) (fun _ _ _ h => h) (by rfl) (by intro wq _; go_simp <;> with_reducible rfl) (by assumption) ?_
          try simp only [Act.put, sA, sB, sC]
          refine takeQ (i := 2) (gt rfl) (by kernel_rfl) (fun _ _ _ h => h) (by rfl) (by intro wq _; go_simp <;> with_reducible rfl) (by assumption) ?_
          try simp only [Act.put, sA, sB, sC]
          refine takeQ (i := 3) (gt rfl) (by kernel_rfl) (fun _ _ _ h => h) (by rfl) (by intro wq _; go_simp <;> with_reducible rfl) (by assumption) ?_
          try simp only [Act.put, sA, sB, sC]
          refine takeQ (i := 4) (gt rfl) (by kernel_rfl) (fun _ _ _ h => h) (by rfl) (by intro wq hSw; have q0 := bat hSw p1; have q1 := bat hSw p2; have q2 := bat hSw p3; have q3 := bat hSw p4; have q4 := bat hSw k2; have q5 := bat hSw k3; go_simp <;> with_reducible rfl) (by assumption) ?_
          try simp only [Act.put, sA, sB, sC]
          refine takeQ (i := 5) (gt rfl) (by kernel_rfl) (fun _ _ _ h => h) (by rfl) (by intro wq _; go_simp <;> with_reducible rfl) (by assumption) ?_
          try simp only [Act.put, sA, sB, sC]
          refine takeQ (i := 6) (gt rfl) (by kernel_rfl) (fun _ _ _ h => h) (by rfl) (by intro wq _; go_simp <;> with_reducible rfl) (by assumption) ?_
          try simp only [Act.put, sA, sB, sC]
          refine takeQ (i := 7) (gt rfl) (by kernel_rfl) (fun _ _ _ h => h) (by rfl) (by intro wq _; go_simp <;> with_reducible rfl) (by assumption) ?_
          try simp only [Act.put, sA, sB, sC]
          refine takeQ (i := 8) (gt rfl) (by kernel_rfl) (fun _ _ _ h => h) (by rfl) (by intro wq _; go_simp <;> with_reducible rfl) (by assumption) ?_
          try simp only [Act.put, sA, sB, sC]
          refine takeQ (i := 9) (gt rfl) (by kernel_rfl) (fun _ _ _ h => h) (by rfl) (by intro wq hSw; have q0 := bat hSw p1; have q1 := bat hSw p2; have q2 := bat hSw p3; have q3 := bat hSw p4; have q4 := bat hSw k2; have q5 := bat hSw k3; go_simp <;> with_reducible rfl) (by assumption) ?_
          try simp only [Act.put, sA, sB, sC]
          refine takeQ (i := 10) (gt rfl) (by kernel_rfl) (fun _ _ _ h => h) (by rfl) (by intro wq hSw; have q0 := bat hSw p1; have q1 := bat hSw p2; have q2 := bat hSw p3; have q3 := bat hSw p4; have q4 := bat hSw k2; have q5 := bat hSw k3; go_simp <;> with_reducible rfl) (by assumption) ?_
          try simp only [Act.put, sA, sB, sC]
          refine wpAnyH_ready (rs := [11]) (by kernel_rfl) (by simp) (AllReadyH.cons (gt rfl) (fun K hK => ?_) AllReadyH.nil)
          go_simp
          refine (l3On_any x1 y1 x2 y2 x y _ a1' a2' a3' a4' cx cy).mono ?_
          rintro e w7w1 ⟨rfl, hb⟩
          replace N := N.trans (hb.mono N.size)
          clear hb
          refine hK.out _ _ N (fun hHeld => ?_)
          clear hK K
          try simp only [Act.put, sA, sB, sC]
          refine wpAnyH_done (by kernel_rfl) ?_ _
          skip
          have N2 := B.trans (N.mono B.size)
          clear N p1 p2 p3 p4 k2 k3
          cases q0 : onB x1 y1 x2 y2 x y
          · have R := RN.out q0
            clear RN RF q0
            go_wp2
            go_roundw
            case rel => exact ⟨j + 1, by omega, by go_num, R, N2⟩
            case measure => simp [intOf]; omega
          · have R : Hid (onQ es (x, y) = true) := RF.out q0
            clear RN RF q0
            go_wp2
            go_ret
            exact ⟨by rw [HP.out, R.out, Bool.or_true]; first | done | rfl, B0.trans (N2.mono B0.size)⟩
        · obtain rfl : j = es.length := by omega
          have T2 : Hid (onQ es (x, y) = false) := by have := T.out; rwa [List.take_length] at this
          clear T
          go_wp2
          go_ret
          exact ⟨by rw [HP.out, T2.out, F5.out]; first | done | rfl, B0.trans (B.mono B0.size)⟩
    · have bz : (lc == 0) = false := by simp [hz]
      have bn : (lc != 0) = true := by simp [hz]
      have R : Hid (hasP n rs (x, y) = true) := by show _ = _; rw [HP.out, HLC.out, decide_eq_true H5.out, decide_eq_true hz]; rfl
      clear hz
      go_wp2
      go_ret
      exact ⟨by rw [R.out]; first | done | rfl, B0⟩
  · have b5 : (n == 5) = false := by simp [h5]
    have F5 : Hid ((decide (n = 5) && decide (locI rs (x, y) ≠ 0)) = false) := by show _ = _; rw [decide_eq_false h5]; rfl
    clear h5
    go_enter Try.func31, Try.ntmps31
    go_upto_region 3 with fail
    generalize (w.alloc (.cells #[.int .i64 n, .slice a rs.length c] 31)).alloc (.cells #[.int .i64 x, .int .i64 y] 33) = W0 at *
    clear k0 k1 k2 k3
    obtain ⟨k0, k1, _, _⟩ := id V1
    go_wp2_with fail
    refine (C1 _ S1).mono ?_
    rintro e w2 ⟨v2, rfl, RQ, hb⟩
    replace V2 := V2.below hb
    replace B0 := B0.trans (hb.mono B0.size)
    clear hb k0 k1 C1 V1 S1
    obtain ⟨e1, f1, rfl, f2, m2⟩ := RQ.shape
    have Q1 := RQ.sees
    clear RQ
    unfold maxLen at m2
    go_wp2
    go_loopw [6] (fun s wr => ∃ j : Nat, j ≤ es.length ∧ s = .int .i64 j ∧ Hid (onQ (es.take j) (x, y) = false) ∧ Below w2.heap.size w2 wr) (fun s _ => es.length - (intOf s).toNat)
    case atStart => exact ⟨0, Nat.zero_le _, rfl, rfl, Below.refl _ _⟩
    case round =>
      obtain ⟨j, hj, rfl, T, B⟩ := hrel
      rename World => wr
      by_cases hlt : j < es.length
      · obtain ⟨⟨a1', a2'⟩, ⟨a3', a4'⟩⟩ := okQ_at o1 hlt
        obtain ⟨b0, off, rfl, hc⟩ := (Q1.below B).cells (by intro e; simp [e] at hlt)
        obtain ⟨p1, p2, p3, p4⟩ := hc j hlt
        obtain ⟨k2, k3, _, _⟩ := V2.below B
        have RF : Hid (onB (sgA es j).1.1 (sgA es j).1.2 (sgA es j).2.1 (sgA es j).2.2 x y = true → onQ es (x, y) = true) := fun q => onQ_found hlt q
        have RN : Hid (onB (sgA es j).1.1 (sgA es j).1.2 (sgA es j).2.1 (sgA es j).2.2 x y = false → onQ (es.take (j + 1)) (x, y) = false) := fun q => (onQ_step hlt T.out).trans q
        clear T hc
        generalize sgA es j = e0 at *
        obtain ⟨⟨x1, y1⟩, ⟨x2, y2⟩⟩ := e0
        dsimp only at a1' a2' a3' a4' p1 p2 p3 p4 RF RN
        go_upto_region 7 with fail
        refine wp_region_held_drew (S := Below wr.heap.size wr) (by kernel_rfl) ((Below.refl _ _).drew) (fun hHeld => ?_)
        have N : Below wr.heap.size wr wr.drew := hHeld
        revert hHeld N
        generalize wr.drew = w7w0
        intro hHeld N
        refine takeQ (i := 0) (gt rfl) (by kernel_rfl) (fun _ _ _ h => h) (by rfl) (by intro wq _; go_simp <;> with_reducible rfl) (by assumption) ?_
        try simp only [Act.put, sA, sB, sC]
        refine takeQ (i := 1) (gt rfl) (by kernel_rfl) (fun _ _ _ h => h) (by rfl) (by intro wq _; go_simp <;> with_reducible rfl) (by assumption) ?_
        try simp only [Act.put, sA, sB, sC]
        refine takeQ (i := 2) (gt rfl) (by kernel_rfl) (fun _ _ _ h => h) (by rfl) (by intro wq _; go_simp <;> with_reducible rfl) (by assumption) ?_
        try simp only [Act.put, sA, sB, sC]
        refine takeQ (i := 3) (gt rfl) (by kernel_rfl) (fun _ _ _ h => h) (by rfl) (by intro wq _; go_simp <;> with_reducible rfl) (by assumption) ?_
        try simp only [Act.put, sA, sB, sC]
        refine takeQ (i := 4) (gt rfl) (by kernel_rfl) (fun _ _ _ h => h) (by rfl) (by intro wq hSw; have q0 := bat hSw p1; have q1 := bat hSw p2; have q2 := bat hSw p3; have q3 := bat hSw p4; have q4 := bat hSw k2; have q5 := bat hSw k3; go_simp <;> with_reducible rfl) (by assumption) ?_
        try simp only [Act.put, sA, sB, sC]
        refine takeQ (i := 5) (gt rfl) (by kernel_rfl) (fun _ _ _ h => h) (by rfl) (by intro wq _; go_simp <;> with_reducible rfl) (by assumption) ?_
        try simp only [Act.put, sA, sB, sC]
        refine takeQ (i := 6) (gt rfl) (by kernel_rfl) (fun _ _ _ h => h) (by rfl) (by intro wq _; go_simp <;> with_reducible rfl) (by assumption) ?_
        try simp only [Act.put, sA, sB, sC]
        refine takeQ (i := 7) (gt rfl) (by kernel_rfl) (fun _ _ _ h => h) (by rfl) (by intro wq _; go_simp <;> with_reducible rfl) (by assumption) ?_
        try simp only [Act.put, sA, sB, sC]
        refine takeQ (i := 8) (gt rfl) (by kernel_rfl) (fun _ _ _ h => h) (by rfl) (by intro wq _; go_simp <;> with_reducible rfl) (by assumption) ?_
        try simp only [Act.put, sA, sB, sC]
        refine takeQ (i := 9) (gt rfl) (by kernel_rfl) (fun _ _ _ h => h) (by rfl) (by intro wq hSw; have q0 := bat hSw p1; have q1 := bat hSw p2; have q2 := bat hSw p3; have q3 := bat hSw p4; have q4 := bat hSw k2; have q5 := bat hSw k3; go_simp <;> with_reducible rfl) (by assumption) ?_
        try simp only [Act.put, sA, sB, sC]
        refine takeQ (i := 10) (gt rfl) (by kernel_rfl) (fun _ _ _ h => h) (by rfl) (by intro wq hSw; have q0 := bat hSw p1; have q1 := bat hSw p2; have q2 := bat hSw p3; have q3 := bat hSw p4; have q4 := bat hSw k2; have q5 := bat hSw k3; go_simp <;> with_reducible rfl) (by assumption) ?_
        try simp only [Act.put, sA, sB, sC]
        refine wpAnyH_ready (rs := [11]) (by kernel_rfl) (by simp) (AllReadyH.cons (gt rfl) (fun K hK => ?_) AllReadyH.nil)
        go_simp
        refine (l3On_any x1 y1 x2 y2 x y _ a1' a2' a3' a4' cx cy).mono ?_
        rintro e w7w1 ⟨rfl, hb⟩
        replace N := N.trans (hb.mono N.size)
        clear hb
        refine hK.out _ _ N (fun hHeld => ?_)
        clear hK K
        try simp only [Act.put, sA, sB, sC]
        refine wpAnyH_done (by kernel_rfl) ?_ _
        skip
        have N2 := B.trans (N.mono B.size)
        clear N p1 p2 p3 p4 k2 k3
        cases q0 : onB x1 y1 x2 y2 x y
        · have R := RN.out q0
          clear RN RF q0
          go_wp2
          go_roundw
          case rel => exact ⟨j + 1, by omega, by go_num, R, N2⟩
          case measure => simp [intOf]; omega
        · have R : Hid (onQ es (x, y) = true) := RF.out q0
          clear RN RF q0
          go_wp2
          go_ret
          exact ⟨by rw [HP.out, R.out, Bool.or_true]; first | done | rfl, B0.trans (N2.mono B0.size)⟩
      · obtain rfl : j = es.length := by omega
        have T2 : Hid (onQ es (x, y) = false) := by have := T.out; rwa [List.take_length] at this
        clear T
        go_wp2
        go_ret
        exact ⟨by rw [HP.out, T2.out, F5.out]; first | done | rfl, B0.trans (B.mono B0.size)⟩

set_option maxRecDepth 20000 in
set_option maxHeartbeats 2000000 in
theorem specHas (n : Int) (a : Option Addr) (c : Nat) (rs : List (List (Int × Int))) (x y : Int) (w : World) (h : SeesS w a c rs) :
    Calls Try.prog 13 #[.agg #[.int .i64 n, .slice a rs.length c], .agg #[.int .i64 x, .int .i64 y]] w fun e w' => e = .returned (.bool (hsV n rs x y)) ∧ Below w.heap.size w w' := by
  have B0 := below2 w (.cells #[.int .i64 n, .slice a rs.length c] 31) (.cells #[.int .i64 x, .int .i64 y] 33)
  have V1 := (Box2.new w (lo := w.heap.size) (Nat.le_refl _) (.int .i64 n) (.slice a rs.length c) 31).below (below1 _ (.cells #[.int .i64 x, .int .i64 y] 33))
  have V2 := Box2.new (w.alloc (.cells #[.int .i64 n, .slice a rs.length c] 31)) (lo := w.heap.size) (by simp) (.int .i64 x) (.int .i64 y) 33
  rw [World.size_alloc] at V2
  have S1 := h.below B0
  clear h
  have HV : Hid (hsV n rs x y = ((goodB n rs && ptOk x y) && hasP n rs (x, y))) := (rfl : hsV n rs x y = _)
  obtain ⟨k0, k1, _, _⟩ := id V1
  go_enter Try.func13, Try.ntmps13
  go_wp2_with fail
  generalize (w.alloc (.cells #[.int .i64 n, .slice a rs.length c] 31)).alloc (.cells #[.int .i64 x, .int .i64 y] 33) = W0 at *
  refine (l5Good_any n a c rs _ S1).mono ?_
  rintro e w1 ⟨rfl, hb⟩
  replace V1 := V1.below hb
  replace V2 := V2.below hb
  replace S1 := S1.below hb
  replace B0 := B0.trans (hb.mono B0.size)
  clear hb k0 k1
  cases g1 : goodB n rs
  · rw [g1, Bool.false_and, Bool.false_and] at HV
    clear g1
    go_wp2
    go_ret
    exact ⟨by rw [HV.out]; first | done | rfl, B0⟩
  · rw [g1, Bool.true_and] at HV
    obtain ⟨k2, k3, _, _⟩ := id V2
    have G1 : Hid (goodB n rs = true) := g1
    clear g1
    go_wp2_with fail
    refine (specPtOk x y _).mono ?_
    rintro e w2 ⟨rfl, hb⟩
    replace V1 := V1.below hb
    replace V2 := V2.below hb
    replace S1 := S1.below hb
    replace B0 := B0.trans (hb.mono B0.size)
    clear hb k2 k3
    cases g2 : ptOk x y
    · rw [g2, Bool.false_and] at HV
      clear g2
      go_wp2
      go_ret
      exact ⟨by rw [HV.out]; first | done | rfl, B0⟩
    · rw [g2, Bool.true_and] at HV
      obtain ⟨cx, cy⟩ := ptOk_crd g2
      have M := fun (W : World) (S : SeesS W a c rs) => l6Has_any n a c rs x y W S G1.out cx cy
      rw [← HV.out] at M
      clear g2
      obtain ⟨k0, k1, _, _⟩ := id V1
      obtain ⟨k2, k3, _, _⟩ := id V2
      obtain ⟨z, HZ⟩ : ∃ z, Hid (hsV n rs x y = z) := ⟨_, rfl⟩
      rw [HZ.out] at M
      go_wp2_with fail
      refine (M _ S1).mono ?_
      rintro e w3 ⟨rfl, hb⟩
      replace B0 := B0.trans (hb.mono B0.size)
      clear hb k0 k1 k2 k3
      go_wp2
      go_ret
      exact ⟨by rw [HZ.out]; first | done | rfl, B0⟩
end Go.Proofs.Ytgpkaakpipbbiaa
