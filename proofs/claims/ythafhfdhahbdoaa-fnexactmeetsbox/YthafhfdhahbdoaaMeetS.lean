/- Whether two shapes meet: of the specification (l6Meet, ShapesMeet). -/
import Derived.Test.YthafhfdhahbdoaaMtgW
import Derived.Test.YthafhfdhahbdoaaLocS
import Derived.Test.YthafhfdhahbdoaaPtsA
namespace Go.Proofs.Ythafhfdhahbdoaa
open Go.RowKit

theorem takeP {ps : List (Int × Int)} {i : Nat} (h : i < ps.length) : ps.take (i + 1) = ps.take i ++ [ptA ps i] := by
  rw [List.take_add_one, List.getElem?_eq_getElem h]
  unfold ptA
  rw [List.getElem?_eq_getElem h]
  rfl
theorem hasL_step {rs : List (List (Int × Int))} {ps : List (Int × Int)} {i : Nat} (h : i < ps.length) (k : hasL rs (ps.take i) = false) (z : locI rs (ptA ps i) = 0) : hasL rs (ps.take (i + 1)) = false := by
  unfold hasL at *
  rw [takeP h, List.any_append, k]
  simp [z]
theorem hasL_found {rs : List (List (Int × Int))} {ps : List (Int × Int)} {i : Nat} (h : i < ps.length) (z : locI rs (ptA ps i) ≠ 0) : hasL rs ps = true := by
  unfold hasL
  rw [List.any_eq_true]
  exact ⟨ptA ps i, ptA_mem h, by simp [z]⟩
theorem okL_flat {k : Int} {rs : List (List (Int × Int))} (h : goodB k rs = true) : okL rs.flatten = true := by
  have ok := good_okL h
  unfold okL
  rw [List.all_flatten, List.all_eq_true]
  intro r hr
  obtain ⟨j, hj, rfl⟩ := List.mem_iff_getElem.mp hr
  have er : rowA rs j = rs[j] := by unfold rowA; rw [List.getElem?_eq_getElem hj]; rfl
  have := ok j hj
  rw [er] at this
  exact this
theorem good_least {k : Int} {rs : List (List (Int × Int))} (h : goodB k rs = true) : rs.length ≤ 12 ∧ ∀ i, i < rs.length → 0 < (rowA rs i).length ∧ (rowA rs i).length ≤ 60 := by
  obtain ⟨_, h2, h3⟩ := goodS_rows h
  exact ⟨h2, fun i hi => (h3 i hi).2⟩
theorem keepC4 {W W' : World} {p q : Nat} {b off : Nat} {v0 v1 v2 v3 : Value} (k : W.cell? ⟨p, 0, none⟩ = some v0 ∧ W.cell? ⟨p, 1, none⟩ = some v1 ∧ W.cell? ⟨b, off, none⟩ = some v2 ∧ W.cell? ⟨b, q, none⟩ = some v3) (hb : Below W.heap.size W W') :
    W'.cell? ⟨p, 0, none⟩ = some v0 ∧ W'.cell? ⟨p, 1, none⟩ = some v1 ∧ W'.cell? ⟨b, off, none⟩ = some v2 ∧ W'.cell? ⟨b, q, none⟩ = some v3 :=
  ⟨bat hb k.1, bat hb k.2.1, bat hb k.2.2.1, bat hb k.2.2.2⟩
theorem keepC8 {W W' : World} {b d o0 o1 o2 o3 q0 q1 q2 q3 : Nat} {v0 v1 v2 v3 v4 v5 v6 v7 : Value} (k : W.cell? ⟨b, o0, none⟩ = some v0 ∧ W.cell? ⟨b, o1, none⟩ = some v1 ∧ W.cell? ⟨b, o2, none⟩ = some v2 ∧ W.cell? ⟨b, o3, none⟩ = some v3 ∧ W.cell? ⟨d, q0, none⟩ = some v4 ∧ W.cell? ⟨d, q1, none⟩ = some v5 ∧ W.cell? ⟨d, q2, none⟩ = some v6 ∧ W.cell? ⟨d, q3, none⟩ = some v7) (hb : Below W.heap.size W W') :
    W'.cell? ⟨b, o0, none⟩ = some v0 ∧ W'.cell? ⟨b, o1, none⟩ = some v1 ∧ W'.cell? ⟨b, o2, none⟩ = some v2 ∧ W'.cell? ⟨b, o3, none⟩ = some v3 ∧ W'.cell? ⟨d, q0, none⟩ = some v4 ∧ W'.cell? ⟨d, q1, none⟩ = some v5 ∧ W'.cell? ⟨d, q2, none⟩ = some v6 ∧ W'.cell? ⟨d, q3, none⟩ = some v7 :=
  ⟨bat hb k.1, bat hb k.2.1, bat hb k.2.2.1, bat hb k.2.2.2.1, bat hb k.2.2.2.2.1, bat hb k.2.2.2.2.2.1, bat hb k.2.2.2.2.2.2.1, bat hb k.2.2.2.2.2.2.2⟩

set_option maxRecDepth 20000 in
set_option maxHeartbeats 4000000 in
theorem l6Meet_any (k1 k2 : Int) (a1 a2 : Option Addr) (c1 c2 : Nat) (rs ts : List (List (Int × Int))) (w : World) (h1 : SeesS w a1 c1 rs) (h2 : SeesS w a2 c2 ts) (g1 : goodB k1 rs = true) (g2 : goodB k2 ts = true) :
    Calls Try.prog 13 #[.agg #[.int .i64 k1, .slice a1 rs.length c1], .agg #[.int .i64 k2, .slice a2 ts.length c2]] w fun e w' => e = .returned (.bool (meetS k1 rs k2 ts)) ∧ Below w.heap.size w w' := by
  have B0 := below2 w (.cells #[.int .i64 k1, .slice a1 rs.length c1] 33) (.cells #[.int .i64 k2, .slice a2 ts.length c2] 33)
  have V1 := (Box2.new w (lo := w.heap.size) (Nat.le_refl _) (.int .i64 k1) (.slice a1 rs.length c1) 33).below (below1 _ (.cells #[.int .i64 k2, .slice a2 ts.length c2] 33))
  have V2 := Box2.new (w.alloc (.cells #[.int .i64 k1, .slice a1 rs.length c1] 33)) (lo := w.heap.size) (by simp) (.int .i64 k2) (.slice a2 ts.length c2) 33
  rw [World.size_alloc] at V2
  have S1 := h1.below B0
  have S2 := h2.below B0
  clear h1 h2
  have o1 := okQ_seg g1
  have o2 := okQ_seg g2
  have O3 := okL_flat g1
  have O4 := okL_flat g2
  obtain ⟨n1, r1⟩ := good_least g1
  obtain ⟨n2, r2⟩ := good_least g2
  have z1 := good_some g1
  have z2 := good_some g2
  have ok1 := good_okL g1
  have ok2 := good_okL g2
  have HS1 : Hid (k1 = 5 → ∀ p, lcS rs p (rs.length - 1) = locI rs p) := fun e p => by subst e; exact (loc_same (areaR_of g1) p).symm
  have HS2 : Hid (k2 = 5 → ∀ p, lcS ts p (ts.length - 1) = locI ts p) := fun e p => by subst e; exact (loc_same (areaR_of g2) p).symm
  have HM : Hid (meetS k1 rs k2 ts = (anyQ (segL k1 rs) (segL k2 ts) || ((decide (k2 = 5) && hasL ts rs.flatten) || (decide (k1 = 5) && hasL rs ts.flatten)))) := (rfl : meetS k1 rs k2 ts = _)
  have C1 := fun (W : World) (S : SeesS W a1 c1 rs) => l5Segs_any k1 a1 c1 rs W S n1 r1
  have C2 := fun (W : World) (S : SeesS W a2 c2 ts) => l5Segs_any k2 a2 c2 ts W S n2 r2
  have D1 := fun (W : World) (S : SeesS W a1 c1 rs) => l5Points_any k1 a1 c1 rs W S n1 r1
  have D2 := fun (W : World) (S : SeesS W a2 c2 ts) => l5Points_any k2 a2 c2 ts W S n2 r2
  clear g1 g2 n1 n2 r1 r2
  generalize segL k1 rs = es at *
  generalize segL k2 ts = fs at *
  generalize rs.flatten = ps at *
  generalize ts.flatten = qs at *
  obtain ⟨k0, k1', _, _⟩ := id V1
  go_enter Try.func13, Try.ntmps13
  go_wp2_with fail
  generalize (w.alloc (.cells #[.int .i64 k1, .slice a1 rs.length c1] 33)).alloc (.cells #[.int .i64 k2, .slice a2 ts.length c2] 33) = W0 at *
  refine (C1 _ S1).mono ?_
  rintro e w1 ⟨v1, rfl, RQ1, hb⟩
  replace V1 := V1.below hb
  replace V2 := V2.below hb
  replace S1 := S1.below hb
  replace S2 := S2.below hb
  replace B0 := B0.trans (hb.mono B0.size)
  clear hb k0 k1' C1
  obtain ⟨e1, f1, rfl, f2, m2⟩ := RQ1.shape
  have Q1 := RQ1.sees
  clear RQ1
  obtain ⟨k0, k1', _, _⟩ := id V2
  go_wp2_with fail
  refine (C2 _ S2).mono ?_
  rintro e w2 ⟨v2, rfl, RQ2, hb⟩
  replace V1 := V1.below hb
  replace V2 := V2.below hb
  replace S1 := S1.below hb
  replace S2 := S2.below hb
  replace B0 := B0.trans (hb.mono B0.size)
  replace Q1 := Q1.below hb
  clear hb k0 k1' C2
  obtain ⟨e2, f3, rfl, f4, m4⟩ := RQ2.shape
  have Q2 := RQ2.sees
  clear RQ2
  unfold maxLen at m2 m4
  go_wp2
  go_loopw [7, 8] (fun s7 _ wr => ∃ j : Nat, j ≤ es.length ∧ s7 = .int .i64 j ∧ Hid (anyQ (es.take j) fs = false) ∧ Below w2.heap.size w2 wr) (fun s7 _ _ => es.length - (intOf s7).toNat)
  case atStart => exact ⟨0, Nat.zero_le _, rfl, rfl, Below.refl _ _⟩
  case round =>
    obtain ⟨j, hj, rfl, T, B⟩ := hrel
    rename World => wr
    by_cases hlt : j < es.length
    · obtain ⟨⟨a1', a2'⟩, ⟨a3', a4'⟩⟩ := okQ_at o1 hlt
      have RF : Hid (anyE (sgA es j) fs = true → meetS k1 rs k2 ts = true) := fun q => by rw [HM.out, anyQ_found hlt q]; rfl
      have RN : Hid (anyE (sgA es j) fs = false → anyQ (es.take (j + 1)) fs = false) := fun q => by rw [anyQ_step hlt T.out]; exact q
      clear T
      go_wp2
      go_loopw [8] (fun s8 wi => ∃ i : Nat, i ≤ fs.length ∧ s8 = .int .i64 i ∧ Hid (anyE (sgA es j) (fs.take i) = false) ∧ Below wr.heap.size wr wi) (fun s8 _ => fs.length - (intOf s8).toNat)
      case atStart => exact ⟨0, Nat.zero_le _, rfl, rfl, Below.refl _ _⟩
      case round =>
        obtain ⟨i, hi, rfl, M, Bi⟩ := hrel
        rename World => wi
        by_cases hli : i < fs.length
        · obtain ⟨⟨c1', c2'⟩, ⟨c3', c4'⟩⟩ := okQ_at o2 hli
          obtain ⟨b0, off, rfl, hc⟩ := ((Q1.below B).below Bi).cells (by intro e; simp [e] at hlt)
          obtain ⟨b2, off2, rfl, hc2⟩ := ((Q2.below B).below Bi).cells (by intro e; simp [e] at hli)
          obtain ⟨p1, p2, p3, p4⟩ := hc j hlt
          obtain ⟨t1, t2, t3, t4⟩ := hc2 i hli
          have MF : Hid (mtS (sgA es j) (sgA fs i) = true → meetS k1 rs k2 ts = true) := fun q => RF.out (anyE_found hli q)
          have MN : Hid (mtS (sgA es j) (sgA fs i) = false → anyE (sgA es j) (fs.take (i + 1)) = false) := fun q => by rw [anyE_step hli M.out]; exact q
          clear M hc hc2
          generalize sgA es j = e0 at *
          generalize sgA fs i = f0 at *
          obtain ⟨⟨x, y⟩, ⟨u, v⟩⟩ := e0
          obtain ⟨⟨x2, y2⟩, ⟨u2, v2⟩⟩ := f0
          dsimp only at a1' a2' a3' a4' c1' c2' c3' c4' p1 p2 p3 p4 t1 t2 t3 t4
          have E : Hid (mtS ((x, y), (u, v)) ((x2, y2), (u2, v2)) = metI x y u v x2 y2 u2 v2) := (rfl : mtS _ _ = _)
          rw [E.out] at MF MN
          clear E
          go_upto_region 9 with fail
          refine wp_region_held_drew (S := Below wi.heap.size wi) (by kernel_rfl) ((Below.refl _ _).drew) (fun hHeld => ?_)
          have N : Below wi.heap.size wi wi.drew := hHeld
          revert hHeld N
          generalize wi.drew = w9w0
          intro hHeld N
          refine takeQ (i := 0) (gt rfl) (by kernel_rfl) (fun _ _ _ h => h) (by rfl) (by intro wq _; go_simp <;> with_reducible rfl) (by assumption) ?_
          try simp only [Act.put, sA, sB, sC]
          refine takeQ (i := 1) (gt rfl) (by kernel_rfl) (fun _ _ _ h => h) (by rfl) (by intro wq _; go_simp <;> with_reducible rfl) (by assumption) ?_
          try simp only [Act.put, sA, sB, sC]
          refine takeQ (i := 2) (gt rfl) (by kernel_rfl) (fun _ _ _ h => h) (by rfl) (by intro wq _; go_simp <;> with_reducible rfl) (by assumption) ?_
          try simp only [Act.put, sA, sB, sC]
          refine takeQ (i := 3) (gt rfl) (by kernel_rfl) (fun _ _ _ h => h) (by rfl) (by intro wq _; go_simp <;> with_reducible rfl) (by assumption) ?_
          try simp only [Act.put, sA, sB, sC]
          refine takeQ (i := 4) (gt rfl) (by kernel_rfl) (fun _ _ _ h => h) (by rfl) (by intro wq hSw; have q0 := bat hSw p1; have q1 := bat hSw p2; have q2 := bat hSw p3; have q3 := bat hSw p4; have q4 := bat hSw t1; have q5 := bat hSw t2; have q6 := bat hSw t3; have q7 := bat hSw t4; go_simp <;> with_reducible rfl) (by assumption) ?_
          try simp only [Act.put, sA, sB, sC]
          refine takeQ (i := 5) (gt rfl) (by kernel_rfl) (fun _ _ _ h => h) (by rfl) (by intro wq _; go_simp <;> with_reducible rfl) (by assumption) ?_
          try simp only [Act.put, sA, sB, sC]
          refine takeQ (i := 6) (gt rfl) (by kernel_rfl) (fun _ _ _ h => h) (by rfl) (by intro wq _; go_simp <;> with_reducible rfl) (by assumption) ?_
          try simp only [Act.put, sA, sB, sC]
          refine takeQ (i := 7) (gt rfl) (by kernel_rfl) (fun _ _ _ h => h) (by rfl) (by intro wq _; go_simp <;> with_reducible rfl) (by assumption) ?_
          try simp only [Act.put, sA, sB, sC]
          refine takeQ (i := 8) (gt rfl) (by kernel_rfl) (fun _ _ _ h => h) (by rfl) (by intro wq _; go_simp <;> with_reducible rfl) (by assumption) ?_
          try simp only [Act.put, sA, sB, sC]
          refine takeQ (i := 9) (gt rfl) (by kernel_rfl) (fun _ _ _ h => h) (by rfl) (by intro wq hSw; have q0 := bat hSw p1; have q1 := bat hSw p2; have q2 := bat hSw p3; have q3 := bat hSw p4; have q4 := bat hSw t1; have q5 := bat hSw t2; have q6 := bat hSw t3; have q7 := bat hSw t4; go_simp <;> with_reducible rfl) (by assumption) ?_
          try simp only [Act.put, sA, sB, sC]
          refine takeQ (i := 10) (gt rfl) (by kernel_rfl) (fun _ _ _ h => h) (by rfl) (by intro wq _; go_simp <;> with_reducible rfl) (by assumption) ?_
          try simp only [Act.put, sA, sB, sC]
          refine takeQ (i := 11) (gt rfl) (by kernel_rfl) (fun _ _ _ h => h) (by rfl) (by intro wq _; go_simp <;> with_reducible rfl) (by assumption) ?_
          try simp only [Act.put, sA, sB, sC]
          refine takeQ (i := 12) (gt rfl) (by kernel_rfl) (fun _ _ _ h => h) (by rfl) (by intro wq _; go_simp <;> with_reducible rfl) (by assumption) ?_
          try simp only [Act.put, sA, sB, sC]
          refine takeQ (i := 13) (gt rfl) (by kernel_rfl) (fun _ _ _ h => h) (by rfl) (by intro wq _; go_simp <;> with_reducible rfl) (by assumption) ?_
          try simp only [Act.put, sA, sB, sC]
          refine takeQ (i := 14) (gt rfl) (by kernel_rfl) (fun _ _ _ h => h) (by rfl) (by intro wq hSw; have q0 := bat hSw p1; have q1 := bat hSw p2; have q2 := bat hSw p3; have q3 := bat hSw p4; have q4 := bat hSw t1; have q5 := bat hSw t2; have q6 := bat hSw t3; have q7 := bat hSw t4; go_simp <;> with_reducible rfl) (by assumption) ?_
          try simp only [Act.put, sA, sB, sC]
          refine takeQ (i := 15) (gt rfl) (by kernel_rfl) (fun _ _ _ h => h) (by rfl) (by intro wq _; go_simp <;> with_reducible rfl) (by assumption) ?_
          try simp only [Act.put, sA, sB, sC]
          refine takeQ (i := 16) (gt rfl) (by kernel_rfl) (fun _ _ _ h => h) (by rfl) (by intro wq _; go_simp <;> with_reducible rfl) (by assumption) ?_
          try simp only [Act.put, sA, sB, sC]
          refine takeQ (i := 17) (gt rfl) (by kernel_rfl) (fun _ _ _ h => h) (by rfl) (by intro wq _; go_simp <;> with_reducible rfl) (by assumption) ?_
          try simp only [Act.put, sA, sB, sC]
          refine takeQ (i := 18) (gt rfl) (by kernel_rfl) (fun _ _ _ h => h) (by rfl) (by intro wq _; go_simp <;> with_reducible rfl) (by assumption) ?_
          try simp only [Act.put, sA, sB, sC]
          refine takeQ (i := 19) (gt rfl) (by kernel_rfl) (fun _ _ _ h => h) (by rfl) (by intro wq hSw; have q0 := bat hSw p1; have q1 := bat hSw p2; have q2 := bat hSw p3; have q3 := bat hSw p4; have q4 := bat hSw t1; have q5 := bat hSw t2; have q6 := bat hSw t3; have q7 := bat hSw t4; go_simp <;> with_reducible rfl) (by assumption) ?_
          try simp only [Act.put, sA, sB, sC]
          refine wpAnyH_ready (rs := [20]) (by kernel_rfl) (by simp) (AllReadyH.cons (gt rfl) (fun K hK => ?_) AllReadyH.nil)
          go_simp
          refine (l3Meet_any x y u v x2 y2 u2 v2 _ a1' a2' a3' a4' c1' c2' c3' c4').mono ?_
          rintro e w9w1 ⟨rfl, hb⟩
          rw [← met_same]
          replace N := N.trans (hb.mono N.size)
          clear hb
          refine hK.out _ _ N (fun hHeld => ?_)
          clear hK K
          try simp only [Act.put, sA, sB, sC]
          refine wpAnyH_done (by kernel_rfl) ?_ _
          skip
          have N2 := Bi.trans (N.mono Bi.size)
          clear N p1 p2 p3 p4 t1 t2 t3 t4
          cases q0 : metI x y u v x2 y2 u2 v2
          · have R := MN.out q0
            clear MN MF q0
            go_wp2
            go_roundw
            case rel => exact ⟨i + 1, by omega, by go_num, R, N2⟩
            case measure => simp [intOf]; omega
          · have R : Hid (meetS k1 rs k2 ts = true) := MF.out q0
            clear MN MF q0
            go_wp2
            go_ret
            exact ⟨by rw [R.out]; first | done | rfl, B0.trans ((B.trans (N2.mono B.size)).mono B0.size)⟩
        · obtain rfl : i = fs.length := by omega
          have M2 := M.out
          rw [List.take_length] at M2
          have R := RN.out M2
          clear RN RF M M2
          go_wp2
          go_roundw
          case rel => exact ⟨j + 1, by omega, by go_num, R, B.trans (Bi.mono B.size)⟩
          case measure => simp [intOf]; omega
    · obtain rfl : j = es.length := by omega
      have T2 : Hid (anyQ es fs = false) := by have := T.out; rwa [List.take_length] at this
      clear T Q1 Q2 o1 o2 m2 m4 f2 f4
      replace V1 := V1.below B
      replace V2 := V2.below B
      replace S1 := S1.below B
      replace S2 := S2.below B
      replace B0 := B0.trans (B.mono B0.size)
      clear B
      obtain ⟨k0, k1', _, _⟩ := id V1
      go_wp2_with fail
      refine (D1 _ S1).mono ?_
      rintro e w3 ⟨v3, rfl, RP1, hb⟩
      replace V1 := V1.below hb
      replace V2 := V2.below hb
      replace S1 := S1.below hb
      replace S2 := S2.below hb
      replace B0 := B0.trans (hb.mono B0.size)
      clear hb k0 k1' D1
      obtain ⟨e3, f5, rfl, f6, m6⟩ := RP1.shape
      have Q3 := RP1.seesP
      clear RP1
      obtain ⟨k0, k1', _, _⟩ := id V2
      go_wp2_with fail
      refine (D2 _ S2).mono ?_
      rintro e w4 ⟨v4, rfl, RP2, hb⟩
      replace V1 := V1.below hb
      replace V2 := V2.below hb
      replace S1 := S1.below hb
      replace S2 := S2.below hb
      replace B0 := B0.trans (hb.mono B0.size)
      replace Q3 := Q3.below hb
      clear hb k0 k1' D2
      obtain ⟨e4, f7, rfl, f8, m8⟩ := RP2.shape
      have Q4 := RP2.seesP
      clear RP2
      unfold maxLen at m6 m8
      go_wp2
      go_loopw [11] (fun s wr => ∃ i : Nat, i ≤ ps.length ∧ s = .int .i64 i ∧ Hid ((decide (k2 = 5) && hasL ts (ps.take i)) = false) ∧ Below w4.heap.size w4 wr) (fun s _ => ps.length - (intOf s).toNat)
      case atStart => exact ⟨0, Nat.zero_le _, rfl, (by show _ = _; simp [hasL]), Below.refl _ _⟩
      case round =>
        obtain ⟨i, hi, rfl, T, B⟩ := hrel
        rename World => wr
        obtain ⟨k0, k1', _, _⟩ := V2.below B
        by_cases hlt : i < ps.length
        · have hlt2 : (i : Int) < (ps.length : Int) := by omega
          by_cases h5 : k2 = 5
          · have b5 : (k2 == 5) = true := by simp [h5]
            have HT : Hid (hasL ts (ps.take i) = false) := by have := T.out; rwa [decide_eq_true h5, Bool.true_and] at this
            obtain ⟨cx, cy⟩ := okL_at O3 hlt
            obtain ⟨b0, off, rfl, hc⟩ := (Q3.below B).cells (by intro e; simp [e] at hlt)
            obtain ⟨g1', g2'⟩ : wr.cell? ⟨b0, off + i * 2, none⟩ = some (.int .i64 (ptA ps i).1) ∧ wr.cell? ⟨b0, off + i * 2 + 1, none⟩ = some (.int .i64 (ptA ps i).2) := hc i hlt
            have HL : Hid (lcS ts (ptA ps i) (ts.length - 1) = locI ts (ptA ps i)) := HS2.out h5 _
            have H5 : Hid (k2 = 5) := h5
            clear h5
            have RF : Hid (locI ts (ptA ps i) ≠ 0 → hasL ts ps = true) := fun q => hasL_found hlt q
            have RN : Hid (locI ts (ptA ps i) = 0 → hasL ts (ps.take (i + 1)) = false) := fun q => hasL_step hlt HT.out q
            clear hc T HT
            generalize ptA ps i = p0 at *
            obtain ⟨x, y⟩ := p0
            dsimp only at cx cy g1' g2'
            obtain ⟨lc, HLC⟩ : ∃ z, Hid (locI ts (x, y) = z) := ⟨_, rfl⟩
            rw [HLC.out] at HL RF RN
            have SB := S2.below B
            go_upto_region 16 with fail
            refine wp_region_held_drew (S := Below wr.heap.size wr) (by kernel_rfl) ((Below.refl _ _).drew) (fun hHeld => ?_)
            have N : Below wr.heap.size wr wr.drew := hHeld
            revert hHeld N
            generalize wr.drew = w16w0
            intro hHeld N
            refine takeQ (i := 0) (gt rfl) (by kernel_rfl) (fun _ _ _ h => h) (by rfl) (by intro wq hSw; have q0 := bat hSw k0; have q1 := bat hSw k1'; have q2 := bat hSw g1'; have q3 := bat hSw g2'; go_simp <;> with_reducible rfl) (by assumption) ?_
            try simp only [Act.put, sA, sB, sC]
            refine takeQ (i := 1) (gt rfl) (by kernel_rfl) (fun _ _ _ h => h) (by rfl) (by intro wq _; go_simp <;> with_reducible rfl) (by assumption) ?_
            try simp only [Act.put, sA, sB, sC]
            refine takeQ (i := 2) (gt rfl) (by kernel_rfl) (fun _ _ _ h => h) (by rfl) (by intro wq _; go_simp <;> with_reducible rfl) (by assumption) ?_
            try simp only [Act.put, sA, sB, sC]
            refine takeQ (i := 3) (gt rfl) (by kernel_rfl) (fun _ _ _ h => h) (by rfl) (by intro wq _; go_simp <;> with_reducible rfl) (by assumption) ?_
            try simp only [Act.put, sA, sB, sC]
            refine takeQ (i := 4) (gt rfl) (by kernel_rfl) (fun _ _ _ h => h) (by rfl) (by intro wq hSw; have q0 := bat hSw k0; have q1 := bat hSw k1'; have q2 := bat hSw g1'; have q3 := bat hSw g2'; go_simp <;> with_reducible rfl) (by assumption) ?_
            try simp only [Act.put, sA, sB, sC]
            refine wpAnyH_ready (rs := [5]) (by kernel_rfl) (by simp) (AllReadyH.cons (gt rfl) (fun K hK => ?_) AllReadyH.nil)
            go_simp
            refine (l6Locate_any k2 a2 c2 ts x y _ (SB.below N) z2 ok2 cx cy).mono ?_
            rintro e w16w1 ⟨rfl, hb⟩
            rw [HL.out]
            replace N := N.trans (hb.mono N.size)
            clear hb
            refine hK.out _ _ N (fun hHeld => ?_)
            clear hK K
            try simp only [Act.put, sA, sB, sC]
            refine takeQ (i := 6) (gt rfl) (by kernel_rfl) (fun _ _ _ h => h) (by rfl) (by intro wq _; go_simp <;> with_reducible rfl) (by assumption) ?_
            try simp only [Act.put, sA, sB, sC]
            refine wpAnyH_done (by kernel_rfl) ?_ _
            skip
            have N2 := B.trans (N.mono B.size)
            clear N k0 k1' g1' g2'
            by_cases hz : lc = 0
            · have bz : (lc == 0) = true := by simp [hz]
              have bn : (lc != 0) = false := by simp [hz]
              have R : Hid ((decide (k2 = 5) && hasL ts (ps.take (i + 1))) = false) := by show _ = _; rw [RN.out hz, Bool.and_false]
              clear hz RN RF HL HLC
              go_wp2
              go_roundw
              case rel => exact ⟨i + 1, by omega, by go_num, R, N2⟩
              case measure => simp [intOf]; omega
            · have bz : (lc == 0) = false := by simp [hz]
              have bn : (lc != 0) = true := by simp [hz]
              have R : Hid (meetS k1 rs k2 ts = true) := by
                show _ = _
                rw [HM.out, RF.out hz, decide_eq_true H5.out]
                simp
              clear hz RN RF HL HLC
              go_wp2
              go_ret
              exact ⟨by rw [R.out]; first | done | rfl, B0.trans (N2.mono B0.size)⟩
          · have b5 : (k2 == 5) = false := by simp [h5]
            have R : Hid ((decide (k2 = 5) && hasL ts ps) = false) := by show _ = _; rw [decide_eq_false h5]; rfl
            clear T h5
            go_wp2_with fail
            have R1 := R
            clear R
            replace V1 := V1.below B
            replace S1 := S1.below B
            replace Q4 := Q4.below B
            replace B0 := B0.trans (B.mono B0.size)
            clear B k0 k1' V2 S2 Q3 hlt
            rename World => W5
            go_loopw [12] (fun s wr => ∃ i : Nat, i ≤ qs.length ∧ s = .int .i64 i ∧ Hid ((decide (k1 = 5) && hasL rs (qs.take i)) = false) ∧ Below W5.heap.size W5 wr) (fun s _ => qs.length - (intOf s).toNat)
            case atStart => exact ⟨0, Nat.zero_le _, rfl, (by show _ = _; simp [hasL]), Below.refl _ _⟩
            case round =>
              obtain ⟨i, hi, rfl, T, B⟩ := hrel
              rename World => wr
              obtain ⟨k0, k1', _, _⟩ := V1.below B
              by_cases hlt : i < qs.length
              · have hlt2 : (i : Int) < (qs.length : Int) := by omega
                by_cases h5 : k1 = 5
                · have b5 : (k1 == 5) = true := by simp [h5]
                  have HT : Hid (hasL rs (qs.take i) = false) := by have := T.out; rwa [decide_eq_true h5, Bool.true_and] at this
                  obtain ⟨cx, cy⟩ := okL_at O4 hlt
                  obtain ⟨b0, off, rfl, hc⟩ := (Q4.below B).cells (by intro e; simp [e] at hlt)
                  obtain ⟨g1', g2'⟩ : wr.cell? ⟨b0, off + i * 2, none⟩ = some (.int .i64 (ptA qs i).1) ∧ wr.cell? ⟨b0, off + i * 2 + 1, none⟩ = some (.int .i64 (ptA qs i).2) := hc i hlt
                  have HL : Hid (lcS rs (ptA qs i) (rs.length - 1) = locI rs (ptA qs i)) := HS1.out h5 _
                  have H5 : Hid (k1 = 5) := h5
                  clear h5
                  have RF : Hid (locI rs (ptA qs i) ≠ 0 → hasL rs qs = true) := fun q => hasL_found hlt q
                  have RN : Hid (locI rs (ptA qs i) = 0 → hasL rs (qs.take (i + 1)) = false) := fun q => hasL_step hlt HT.out q
                  clear hc T HT
                  generalize ptA qs i = p0 at *
                  obtain ⟨x, y⟩ := p0
                  dsimp only at cx cy g1' g2'
                  obtain ⟨lc, HLC⟩ : ∃ z, Hid (locI rs (x, y) = z) := ⟨_, rfl⟩
                  rw [HLC.out] at HL RF RN
                  have SB := S1.below B
                  go_upto_region 21 with fail
                  refine wp_region_held_drew (S := Below wr.heap.size wr) (by kernel_rfl) ((Below.refl _ _).drew) (fun hHeld => ?_)
                  have N : Below wr.heap.size wr wr.drew := hHeld
                  revert hHeld N
                  generalize wr.drew = w21w0
                  intro hHeld N
                  refine takeQ (i := 0) (gt rfl) (by kernel_rfl) (fun _ _ _ h => h) (by rfl) (by intro wq hSw; have q0 := bat hSw k0; have q1 := bat hSw k1'; have q2 := bat hSw g1'; have q3 := bat hSw g2'; go_simp <;> with_reducible rfl) (by assumption) ?_
                  try simp only [Act.put, sA, sB, sC]
                  refine takeQ (i := 1) (gt rfl) (by kernel_rfl) (fun _ _ _ h => h) (by rfl) (by intro wq _; go_simp <;> with_reducible rfl) (by assumption) ?_
                  try simp only [Act.put, sA, sB, sC]
                  refine takeQ (i := 2) (gt rfl) (by kernel_rfl) (fun _ _ _ h => h) (by rfl) (by intro wq _; go_simp <;> with_reducible rfl) (by assumption) ?_
                  try simp only [Act.put, sA, sB, sC]
                  refine takeQ (i := 3) (gt rfl) (by kernel_rfl) (fun _ _ _ h => h) (by rfl) (by intro wq _; go_simp <;> with_reducible rfl) (by assumption) ?_
                  try simp only [Act.put, sA, sB, sC]
                  refine takeQ (i := 4) (gt rfl) (by kernel_rfl) (fun _ _ _ h => h) (by rfl) (by intro wq hSw; have q0 := bat hSw k0; have q1 := bat hSw k1'; have q2 := bat hSw g1'; have q3 := bat hSw g2'; go_simp <;> with_reducible rfl) (by assumption) ?_
                  try simp only [Act.put, sA, sB, sC]
                  refine wpAnyH_ready (rs := [5]) (by kernel_rfl) (by simp) (AllReadyH.cons (gt rfl) (fun K hK => ?_) AllReadyH.nil)
                  go_simp
                  refine (l6Locate_any k1 a1 c1 rs x y _ (SB.below N) z1 ok1 cx cy).mono ?_
                  rintro e w21w1 ⟨rfl, hb⟩
                  rw [HL.out]
                  replace N := N.trans (hb.mono N.size)
                  clear hb
                  refine hK.out _ _ N (fun hHeld => ?_)
                  clear hK K
                  try simp only [Act.put, sA, sB, sC]
                  refine takeQ (i := 6) (gt rfl) (by kernel_rfl) (fun _ _ _ h => h) (by rfl) (by intro wq _; go_simp <;> with_reducible rfl) (by assumption) ?_
                  try simp only [Act.put, sA, sB, sC]
                  refine wpAnyH_done (by kernel_rfl) ?_ _
                  skip
                  have N2 := B.trans (N.mono B.size)
                  clear N k0 k1' g1' g2'
                  by_cases hz : lc = 0
                  · have bz : (lc == 0) = true := by simp [hz]
                    have bn : (lc != 0) = false := by simp [hz]
                    have R : Hid ((decide (k1 = 5) && hasL rs (qs.take (i + 1))) = false) := by show _ = _; rw [RN.out hz, Bool.and_false]
                    clear hz RN RF HL HLC
                    go_wp2
                    go_roundw
                    case rel => exact ⟨i + 1, by omega, by go_num, R, N2⟩
                    case measure => simp [intOf]; omega
                  · have bz : (lc == 0) = false := by simp [hz]
                    have bn : (lc != 0) = true := by simp [hz]
                    have R : Hid (meetS k1 rs k2 ts = true) := by
                      show _ = _
                      rw [HM.out, RF.out hz, decide_eq_true H5.out]
                      simp
                    clear hz RN RF HL HLC
                    go_wp2
                    go_ret
                    exact ⟨by rw [R.out]; first | done | rfl, B0.trans (N2.mono B0.size)⟩
                · have b5 : (k1 == 5) = false := by simp [h5]
                  have R : Hid ((decide (k1 = 5) && hasL rs qs) = false) := by show _ = _; rw [decide_eq_false h5]; rfl
                  clear T h5
                  go_wp2_with fail
                  replace B0 := B0.trans (B.mono B0.size)
                  go_wp2
                  go_ret
                  exact ⟨by rw [HM.out, T2.out, R1.out, R.out]; first | done | rfl, B0⟩
              · obtain rfl : i = qs.length := by omega
                have R : Hid ((decide (k1 = 5) && hasL rs qs) = false) := by have := T.out; rwa [List.take_length] at this
                clear T
                go_wp2_with fail
                replace B0 := B0.trans (B.mono B0.size)
                go_wp2
                go_ret
                exact ⟨by rw [HM.out, T2.out, R1.out, R.out]; first | done | rfl, B0⟩
        · obtain rfl : i = ps.length := by omega
          have R : Hid ((decide (k2 = 5) && hasL ts ps) = false) := by have := T.out; rwa [List.take_length] at this
          clear T
          go_wp2_with fail
          have R1 := R
          clear R
          replace V1 := V1.below B
          replace S1 := S1.below B
          replace Q4 := Q4.below B
          replace B0 := B0.trans (B.mono B0.size)
          clear B k0 k1' V2 S2 Q3 hlt
          rename World => W5
          go_loopw [12] (fun s wr => ∃ i : Nat, i ≤ qs.length ∧ s = .int .i64 i ∧ Hid ((decide (k1 = 5) && hasL rs (qs.take i)) = false) ∧ Below W5.heap.size W5 wr) (fun s _ => qs.length - (intOf s).toNat)
          case atStart => exact ⟨0, Nat.zero_le _, rfl, (by show _ = _; simp [hasL]), Below.refl _ _⟩
          case round =>
            obtain ⟨i, hi, rfl, T, B⟩ := hrel
            rename World => wr
            obtain ⟨k0, k1', _, _⟩ := V1.below B
            by_cases hlt : i < qs.length
            · have hlt2 : (i : Int) < (qs.length : Int) := by omega
              by_cases h5 : k1 = 5
              · have b5 : (k1 == 5) = true := by simp [h5]
                have HT : Hid (hasL rs (qs.take i) = false) := by have := T.out; rwa [decide_eq_true h5, Bool.true_and] at this
                obtain ⟨cx, cy⟩ := okL_at O4 hlt
                obtain ⟨b0, off, rfl, hc⟩ := (Q4.below B).cells (by intro e; simp [e] at hlt)
                obtain ⟨g1', g2'⟩ : wr.cell? ⟨b0, off + i * 2, none⟩ = some (.int .i64 (ptA qs i).1) ∧ wr.cell? ⟨b0, off + i * 2 + 1, none⟩ = some (.int .i64 (ptA qs i).2) := hc i hlt
                have HL : Hid (lcS rs (ptA qs i) (rs.length - 1) = locI rs (ptA qs i)) := HS1.out h5 _
                have H5 : Hid (k1 = 5) := h5
                clear h5
                have RF : Hid (locI rs (ptA qs i) ≠ 0 → hasL rs qs = true) := fun q => hasL_found hlt q
                have RN : Hid (locI rs (ptA qs i) = 0 → hasL rs (qs.take (i + 1)) = false) := fun q => hasL_step hlt HT.out q
                clear hc T HT
                generalize ptA qs i = p0 at *
                obtain ⟨x, y⟩ := p0
                dsimp only at cx cy g1' g2'
                obtain ⟨lc, HLC⟩ : ∃ z, Hid (locI rs (x, y) = z) := ⟨_, rfl⟩
                rw [HLC.out] at HL RF RN
                have SB := S1.below B
                go_upto_region 21 with fail
                refine wp_region_held_drew (S := Below wr.heap.size wr) (by kernel_rfl) ((Below.refl _ _).drew) (fun hHeld => ?_)
                have N : Below wr.heap.size wr wr.drew := hHeld
                revert hHeld N
                generalize wr.drew = w21w0
                intro hHeld N
                refine takeQ (i := 0) (gt rfl) (by kernel_rfl) (fun _ _ _ h => h) (by rfl) (by intro wq hSw; have q0 := bat hSw k0; have q1 := bat hSw k1'; have q2 := bat hSw g1'; have q3 := bat hSw g2'; go_simp <;> with_reducible rfl) (by assumption) ?_
                try simp only [Act.put, sA, sB, sC]
                refine takeQ (i := 1) (gt rfl) (by kernel_rfl) (fun _ _ _ h => h) (by rfl) (by intro wq _; go_simp <;> with_reducible rfl) (by assumption) ?_
                try simp only [Act.put, sA, sB, sC]
                refine takeQ (i := 2) (gt rfl) (by kernel_rfl) (fun _ _ _ h => h) (by rfl) (by intro wq _; go_simp <;> with_reducible rfl) (by assumption) ?_
                try simp only [Act.put, sA, sB, sC]
                refine takeQ (i := 3) (gt rfl) (by kernel_rfl) (fun _ _ _ h => h) (by rfl) (by intro wq _; go_simp <;> with_reducible rfl) (by assumption) ?_
                try simp only [Act.put, sA, sB, sC]
                refine takeQ (i := 4) (gt rfl) (by kernel_rfl) (fun _ _ _ h => h) (by rfl) (by intro wq hSw; have q0 := bat hSw k0; have q1 := bat hSw k1'; have q2 := bat hSw g1'; have q3 := bat hSw g2'; go_simp <;> with_reducible rfl) (by assumption) ?_
                try simp only [Act.put, sA, sB, sC]
                refine wpAnyH_ready (rs := [5]) (by kernel_rfl) (by simp) (AllReadyH.cons (gt rfl) (fun K hK => ?_) AllReadyH.nil)
                go_simp
                refine (l6Locate_any k1 a1 c1 rs x y _ (SB.below N) z1 ok1 cx cy).mono ?_
                rintro e w21w1 ⟨rfl, hb⟩
                rw [HL.out]
                replace N := N.trans (hb.mono N.size)
                clear hb
                refine hK.out _ _ N (fun hHeld => ?_)
                clear hK K
                try simp only [Act.put, sA, sB, sC]
                refine takeQ (i := 6) (gt rfl) (by kernel_rfl) (fun _ _ _ h => h) (by rfl) (by intro wq _; go_simp <;> with_reducible rfl) (by assumption) ?_
                try simp only [Act.put, sA, sB, sC]
                refine wpAnyH_done (by kernel_rfl) ?_ _
                skip
                have N2 := B.trans (N.mono B.size)
                clear N k0 k1' g1' g2'
                by_cases hz : lc = 0
                · have bz : (lc == 0) = true := by simp [hz]
                  have bn : (lc != 0) = false := by simp [hz]
                  have R : Hid ((decide (k1 = 5) && hasL rs (qs.take (i + 1))) = false) := by show _ = _; rw [RN.out hz, Bool.and_false]
                  clear hz RN RF HL HLC
                  go_wp2
                  go_roundw
                  case rel => exact ⟨i + 1, by omega, by go_num, R, N2⟩
                  case measure => simp [intOf]; omega
                · have bz : (lc == 0) = false := by simp [hz]
                  have bn : (lc != 0) = true := by simp [hz]
                  have R : Hid (meetS k1 rs k2 ts = true) := by
                    show _ = _
                    rw [HM.out, RF.out hz, decide_eq_true H5.out]
                    simp
                  clear hz RN RF HL HLC
                  go_wp2
                  go_ret
                  exact ⟨by rw [R.out]; first | done | rfl, B0.trans (N2.mono B0.size)⟩
              · have b5 : (k1 == 5) = false := by simp [h5]
                have R : Hid ((decide (k1 = 5) && hasL rs qs) = false) := by show _ = _; rw [decide_eq_false h5]; rfl
                clear T h5
                go_wp2_with fail
                replace B0 := B0.trans (B.mono B0.size)
                go_wp2
                go_ret
                exact ⟨by rw [HM.out, T2.out, R1.out, R.out]; first | done | rfl, B0⟩
            · obtain rfl : i = qs.length := by omega
              have R : Hid ((decide (k1 = 5) && hasL rs qs) = false) := by have := T.out; rwa [List.take_length] at this
              clear T
              go_wp2_with fail
              replace B0 := B0.trans (B.mono B0.size)
              go_wp2
              go_ret
              exact ⟨by rw [HM.out, T2.out, R1.out, R.out]; first | done | rfl, B0⟩
/-- What ShapesMeet answers. -/
def smV (k1 : Int) (rs : List (List (Int × Int))) (k2 : Int) (ts : List (List (Int × Int))) : Bool := (goodB k1 rs && goodB k2 ts) && meetS k1 rs k2 ts
set_option maxRecDepth 20000 in
set_option maxHeartbeats 2000000 in
theorem implShapesMeet (k1 k2 : Int) (a1 a2 : Option Addr) (c1 c2 : Nat) (rs ts : List (List (Int × Int))) (w : World) (h1 : SeesS w a1 c1 rs) (h2 : SeesS w a2 c2 ts) :
    Calls Try.prog 18 #[.agg #[.int .i64 k1, .slice a1 rs.length c1], .agg #[.int .i64 k2, .slice a2 ts.length c2]] w fun e w' => e = .returned (.bool (smV k1 rs k2 ts)) ∧ Below w.heap.size w w' := by
  have B0 := below2 w (.cells #[.int .i64 k1, .slice a1 rs.length c1] 33) (.cells #[.int .i64 k2, .slice a2 ts.length c2] 33)
  have V1 := (Box2.new w (lo := w.heap.size) (Nat.le_refl _) (.int .i64 k1) (.slice a1 rs.length c1) 33).below (below1 _ (.cells #[.int .i64 k2, .slice a2 ts.length c2] 33))
  have V2 := Box2.new (w.alloc (.cells #[.int .i64 k1, .slice a1 rs.length c1] 33)) (lo := w.heap.size) (by simp) (.int .i64 k2) (.slice a2 ts.length c2) 33
  rw [World.size_alloc] at V2
  have S1 := h1.below B0
  have S2 := h2.below B0
  clear h1 h2
  have HV : Hid (smV k1 rs k2 ts = ((goodB k1 rs && goodB k2 ts) && meetS k1 rs k2 ts)) := (rfl : smV k1 rs k2 ts = _)
  obtain ⟨k0, k1', _, _⟩ := id V1
  go_enter Try.func18, Try.ntmps18
  go_wp2_with fail
  generalize (w.alloc (.cells #[.int .i64 k1, .slice a1 rs.length c1] 33)).alloc (.cells #[.int .i64 k2, .slice a2 ts.length c2] 33) = W0 at *
  refine (good_any k1 a1 c1 rs _ S1).mono ?_
  rintro e w1 ⟨rfl, hb⟩
  replace V1 := V1.below hb
  replace V2 := V2.below hb
  replace S1 := S1.below hb
  replace S2 := S2.below hb
  replace B0 := B0.trans (hb.mono B0.size)
  clear hb k0 k1'
  cases g1 : goodB k1 rs
  · rw [g1, Bool.false_and, Bool.false_and] at HV
    clear g1
    go_wp2
    go_ret
    exact ⟨by rw [HV.out]; first | done | rfl, B0⟩
  · rw [g1, Bool.true_and] at HV
    obtain ⟨k2', k3, _, _⟩ := id V2
    have G1 : Hid (goodB k1 rs = true) := g1
    clear g1
    go_wp2_with fail
    refine (good_any k2 a2 c2 ts _ S2).mono ?_
    rintro e w2 ⟨rfl, hb⟩
    replace V1 := V1.below hb
    replace V2 := V2.below hb
    replace S1 := S1.below hb
    replace S2 := S2.below hb
    replace B0 := B0.trans (hb.mono B0.size)
    clear hb k2' k3
    cases g2 : goodB k2 ts
    · rw [g2, Bool.false_and] at HV
      clear g2
      go_wp2
      go_ret
      exact ⟨by rw [HV.out]; first | done | rfl, B0⟩
    · rw [g2, Bool.true_and] at HV
      have M := fun (W : World) (S1 : SeesS W a1 c1 rs) (S2 : SeesS W a2 c2 ts) => meeting_any k1 k2 a1 a2 c1 c2 rs ts W S1 S2 G1.out g2
      rw [meet_same G1.out g2, ← HV.out] at M
      clear g2
      obtain ⟨k0, k1', _, _⟩ := id V1
      obtain ⟨k2', k3, _, _⟩ := id V2
      obtain ⟨z, HZ⟩ : ∃ z, Hid (smV k1 rs k2 ts = z) := ⟨_, rfl⟩
      rw [HZ.out] at M
      go_wp2_with fail
      refine (M _ S1 S2).mono ?_
      rintro e w3 ⟨rfl, hb⟩
      replace B0 := B0.trans (hb.mono B0.size)
      clear hb k0 k1' k2' k3
      go_wp2
      go_ret
      exact ⟨by rw [HZ.out]; first | done | rfl, B0⟩
end Go.Proofs.Ythafhfdhahbdoaa
