/- Whether a shape has the form of its kind: of the program (formFault). -/
import Derived.Test.YtinlomcaagdbiaaGreatSameA
import Derived.Test.YtinlomcaagdbiaaGreatRing
namespace Go.Proofs.YtinlomcaagdbiaaGreat
open Go.RowKit

structure Box3 (lo : Nat) (w : World) (p : Nat) (x0 x1 x2 : Value) : Prop where
 c0 : w.cell? ⟨p, 0, none⟩ = some x0
 c1 : w.cell? ⟨p, 1, none⟩ = some x1
 c2 : w.cell? ⟨p, 2, none⟩ = some x2
 fr : ∀ o, w.frozen? ⟨p, o, none⟩ = false
 lo : lo ≤ p
theorem Box3.new (w : World) {lo : Nat} (h : lo ≤ w.heap.size) (x0 x1 x2 : Value) (t : TypeId) : Box3 lo (w.alloc (.cells #[x0, x1, x2] t)) w.heap.size x0 x1 x2 :=
 ⟨cell_new w #[x0, x1, x2] t 0 rfl, cell_new w #[x0, x1, x2] t 1 rfl, cell_new w #[x0, x1, x2] t 2 rfl, fun o => frozen_new _ _ _ o, h⟩
theorem Box3.lt {lo p : Nat} {w : World} {x0 x1 x2 : Value} (h : Box3 lo w p x0 x1 x2) : p < w.heap.size := World.block_lt_of_cell? _ _ h.c0
theorem Box3.below {lo p : Nat} {w w' : World} {x0 x1 x2 : Value} (h : Box3 lo w p x0 x1 x2) (hb : Below w.heap.size w w') : Box3 lo w' p x0 x1 x2 :=
 ⟨bat hb h.c0, bat hb h.c1, bat hb h.c2, fun o => (hb.frozen (p := ⟨p, o, none⟩) h.lt).trans (h.fr o), h.lo⟩
theorem Box3.put {lo p : Nat} {w : World} {x0 x1 x2 : Value} (h : Box3 lo w p x0 x1 x2) (u0 u1 u2 : Value) : Box3 lo (((w.setCell ⟨p, 0, none⟩ u0).setCell ⟨p, 1, none⟩ u1).setCell ⟨p, 2, none⟩ u2) p u0 u1 u2 :=
 ⟨(cell_other (.inr (by decide)) _).trans ((cell_other (.inr (by decide)) _).trans (cell_same h.c0 _)),
  (cell_other (.inr (by decide)) _).trans (cell_same ((cell_other (.inr (by decide)) _).trans h.c1) _),
  cell_same ((cell_other (.inr (by decide)) _).trans ((cell_other (.inr (by decide)) _).trans h.c2)) _,
  fun o => ((World.frozen?_setCell ..).trans ((World.frozen?_setCell ..).trans (World.frozen?_setCell ..))).trans (h.fr o), h.lo⟩
theorem Box3.reads {lo p : Nat} {w : World} {x0 x1 x2 : Value} (h : Box3 lo w p x0 x1 x2) (u0 u1 u2 : Value) : (w.setCell ⟨p, 0, none⟩ u0).cell? ⟨p, 0, none⟩ = some u0 ∧ ((w.setCell ⟨p, 0, none⟩ u0).setCell ⟨p, 1, none⟩ u1).cell? ⟨p, 1, none⟩ = some u1 ∧ (((w.setCell ⟨p, 0, none⟩ u0).setCell ⟨p, 1, none⟩ u1).setCell ⟨p, 2, none⟩ u2).cell? ⟨p, 2, none⟩ = some u2 :=
 ⟨cell_same h.c0 _, cell_same ((cell_other (.inr (by decide)) _).trans h.c1) _, (h.put u0 u1 u2).c2⟩
theorem Box3.chain {b : Nat} {W w : World} {p : Nat} {x0 x1 x2 : Value} (N : Below b W w) (h : Box3 b w p x0 x1 x2) (u0 u1 u2 : Value) : Below b W (((w.setCell ⟨p, 0, none⟩ u0).setCell ⟨p, 1, none⟩ u1).setCell ⟨p, 2, none⟩ u2) :=
 ((N.setCell (p := ⟨p, 0, none⟩) h.lo u0).setCell (p := ⟨p, 1, none⟩) h.lo u1).setCell (p := ⟨p, 2, none⟩) h.lo u2

theorem points_any (v : Value) (w : World) : Calls Tryz.prog 187 #[v] w fun e w' => e = .returned v ∧ w' = w := by
 go_enter Tryz.func187, Tryz.ntmps187
 go_wp2
 go_ret
 exact ⟨rfl, rfl⟩

theorem formB_kind {k : Int} (h : 1 ≤ k ∧ k ≤ 5) (rs : List (List (Int × Int))) : formB k rs = !((decide (rs.length = 0) || decide (limR k < rs.length)) || rowsBad k rs rs.length) := by
 have e : (decide (mostN k < 0) || (!inB rs.length 1 12 || ((!sevN k && decide (1 < rs.length)) || rowsBad k rs rs.length))) = ((decide (rs.length = 0) || decide (limR k < rs.length)) || rowsBad k rs rs.length) := by
  generalize rowsBad k rs rs.length = b
  generalize rs.length = n
  cases b
  ·simp only [Bool.or_false]
   rcases kinds h with rfl | rfl | rfl | rfl | rfl
   ·show (decide ((1 : Int) < 0) || (!(decide ((1 : Int) ≤ n) && decide ((n : Int) ≤ 12)) || (!false && decide (1 < n)))) = (decide (n = 0) || decide ((1 : Int) < n))
    rcases Nat.lt_or_ge n 1 with c | c
    ·simp [show n = 0 by omega]
    ·rw [decide_eq_true (p := (1 : Int) ≤ n) (by omega), decide_eq_false (p := n = 0) (by omega)]
     rcases Nat.lt_or_ge 12 n with d | d
     ·rw [decide_eq_false (p := (n : Int) ≤ 12) (by omega)]
      simp
      omega
     ·rw [decide_eq_true (p := (n : Int) ≤ 12) (by omega)]
      simp
      try omega
   ·show (decide ((60 : Int) < 0) || (!(decide ((1 : Int) ≤ n) && decide ((n : Int) ≤ 12)) || (!false && decide (1 < n)))) = (decide (n = 0) || decide ((1 : Int) < n))
    rcases Nat.lt_or_ge n 1 with c | c
    ·simp [show n = 0 by omega]
    ·rw [decide_eq_true (p := (1 : Int) ≤ n) (by omega), decide_eq_false (p := n = 0) (by omega)]
     rcases Nat.lt_or_ge 12 n with d | d
     ·rw [decide_eq_false (p := (n : Int) ≤ 12) (by omega)]
      simp
      omega
     ·rw [decide_eq_true (p := (n : Int) ≤ 12) (by omega)]
      simp
      try omega
   ·show (decide ((60 : Int) < 0) || (!(decide ((1 : Int) ≤ n) && decide ((n : Int) ≤ 12)) || (!false && decide (1 < n)))) = (decide (n = 0) || decide ((1 : Int) < n))
    rcases Nat.lt_or_ge n 1 with c | c
    ·simp [show n = 0 by omega]
    ·rw [decide_eq_true (p := (1 : Int) ≤ n) (by omega), decide_eq_false (p := n = 0) (by omega)]
     rcases Nat.lt_or_ge 12 n with d | d
     ·rw [decide_eq_false (p := (n : Int) ≤ 12) (by omega)]
      simp
      omega
     ·rw [decide_eq_true (p := (n : Int) ≤ 12) (by omega)]
      simp
      try omega
   ·show (decide ((60 : Int) < 0) || (!(decide ((1 : Int) ≤ n) && decide ((n : Int) ≤ 12)) || (!true && decide (1 < n)))) = (decide (n = 0) || decide ((12 : Int) < n))
    rcases Nat.lt_or_ge n 1 with c | c
    ·simp [show n = 0 by omega]
    ·rw [decide_eq_true (p := (1 : Int) ≤ n) (by omega), decide_eq_false (p := n = 0) (by omega)]
     rcases Nat.lt_or_ge 12 n with d | d
     ·rw [decide_eq_false (p := (n : Int) ≤ 12) (by omega)]
      simp
      omega
     ·rw [decide_eq_true (p := (n : Int) ≤ 12) (by omega)]
      simp
      try omega
   ·show (decide ((60 : Int) < 0) || (!(decide ((1 : Int) ≤ n) && decide ((n : Int) ≤ 12)) || (!true && decide (1 < n)))) = (decide (n = 0) || decide ((12 : Int) < n))
    rcases Nat.lt_or_ge n 1 with c | c
    ·simp [show n = 0 by omega]
    ·rw [decide_eq_true (p := (1 : Int) ≤ n) (by omega), decide_eq_false (p := n = 0) (by omega)]
     rcases Nat.lt_or_ge 12 n with d | d
     ·rw [decide_eq_false (p := (n : Int) ≤ 12) (by omega)]
      simp
      omega
     ·rw [decide_eq_true (p := (n : Int) ≤ 12) (by omega)]
      simp
      try omega
  ·simp
 unfold formB
 rw [e]
theorem ptBad_parts (k : Int) (ps : List (Int × Int)) (i : Nat) : ptBad k ps i = (!ptOk (ptA ps i).1 (ptA ps i).2 || sameI k ps i) := rfl

set_option maxRecDepth 20000 in
set_option maxHeartbeats 4000000 in
theorem formFault1 (a : Option Addr) (c : Nat) (rs : List (List (Int × Int))) (w : World) (h : SeesS w a c rs) :
  Calls Tryz.prog 75 #[.iface 150 (.agg #[.slice a rs.length c])] w fun e w' => ∃ z x y : Int, e = .returned (.agg #[.int .i64 z, .int .i64 x, .int .i64 y]) ∧ Hid (decide (z = 0) = formB 1 rs) ∧ Below w.heap.size w w' := by
 have hm := h.max
 have hf := h.fits
 unfold maxLen at hm
 have B0 := below1 w (.cells #[.int .i64 0, .int .i64 0, .int .i64 0] 104)
 have V0 := Box3.new w (lo := w.heap.size) (Nat.le_refl _) (.int .i64 0) (.int .i64 0) (.int .i64 0) 104
 have HB : Hid (formB 1 rs = !((decide (rs.length = 0) || decide (1 < (rs.length : Int))) || rowsBad 1 rs rs.length)) := formB_kind (by omega) rs
 go_enter Tryz.func75, Tryz.ntmps75
 go_wp2_with fail
 generalize w.alloc (.cells #[.int .i64 0, .int .i64 0, .int .i64 0] 104) = W0 at *
 refine (points_any _ _).mono ?_
 rintro e w0 ⟨rfl, rfl⟩
 go_wp2_with fail
 refine (limitsOf_any 1 (by omega) _ _).mono ?_
 rintro e w1 ⟨rfl, hb⟩
 rw [show limR 1 = 1 from rfl, show leastN 1 = 1 from rfl, show mostN 1 = 1 from rfl]
 replace V0 := V0.below hb
 replace B0 := B0.trans (hb.mono B0.size)
 clear hb
 have bn := below1 w1 (.cells #[.int .i64 1, .int .i64 1, .int .i64 1] 156)
 have V1 := Box3.new w1 (lo := w.heap.size) B0.size (.int .i64 1) (.int .i64 1) (.int .i64 1) 156
 replace V0 := V0.below bn
 replace B0 := B0.trans (bn.mono B0.size)
 clear bn
 go_upto_region 2 with fail
 generalize w1.alloc (.cells #[.int .i64 1, .int .i64 1, .int .i64 1] 156) = W at *
 generalize w1.heap.size = q1 at *
 by_cases hz : rs.length = 0
 ·obtain rfl : rs = [] := List.eq_nil_of_length_eq_zero hz
  have F : Hid (formB 1 [] = false) := by
   show _ = _
   rw [HB.out]
   rfl
  have RB := V0
  have RN := B0
  clear HB V0 B0
  have RC := Box3.chain RN RB (.int .i64 (1)) (.int .i64 (0)) (.int .i64 (0))
  obtain ⟨r0, r1, r2⟩ := RB.reads (.int .i64 (1)) (.int .i64 (0)) (.int .i64 (0))
  obtain ⟨o0, o1, o2, of, _⟩ := id RB
  go_wp2
  refine bodyPost_ret (v := .agg #[.int .i64 (1), .int .i64 (0), .int .i64 (0)]) (by simp [results, Tryz.results75, go_sem, r0, r1, r2]) rfl ?_
  first
  | exact ⟨_, _, _, rfl, (by show _ = _; rw [F.out]; rfl), RC⟩
  | exact ⟨_, ⟨_, _, rfl⟩, (by show _ = _; rw [F.out]; rfl), RC⟩
 have hz1 : ((rs.length : Int) == 0) = false := by rw [beq_eq_false_iff_ne]; omega
 have hne : rs ≠ [] := by intro e; simp [e] at hz
 by_cases hL : 1 < (rs.length : Int)
 ·have F : Hid (formB 1 rs = false) := by
   show _ = _
   rw [HB.out, decide_eq_true hL, Bool.or_true, Bool.true_or]
   rfl
  obtain ⟨k0, k1, k2, _, _⟩ := id V1
  have RB := V0
  have RN := B0
  clear HB V0 B0
  have RC := Box3.chain RN RB (.int .i64 (1)) (.int .i64 (0)) (.int .i64 (0))
  obtain ⟨r0, r1, r2⟩ := RB.reads (.int .i64 (1)) (.int .i64 (0)) (.int .i64 (0))
  obtain ⟨o0, o1, o2, of, _⟩ := id RB
  go_wp2
  refine bodyPost_ret (v := .agg #[.int .i64 (1), .int .i64 (0), .int .i64 (0)]) (by simp [results, Tryz.results75, go_sem, r0, r1, r2]) rfl ?_
  first
  | exact ⟨_, _, _, rfl, (by show _ = _; rw [F.out]; rfl), RC⟩
  | exact ⟨_, ⟨_, _, rfl⟩, (by show _ = _; rw [F.out]; rfl), RC⟩
 replace HB : Hid (formB 1 rs = !rowsBad 1 rs rs.length) := by
  show _ = _
  rw [HB.out, decide_eq_false hL, decide_eq_false hz]
  rfl
 have SW := (h.below B0)
 obtain ⟨k0, k1, k2, _, _⟩ := id V1
 go_wp2
 clear k0 k1 k2
 go_loopw [26] (fun s26 wr => ∃ j : Nat, j ≤ rs.length ∧ s26 = .int .i64 j ∧ Hid (rowsBad 1 rs j = false) ∧ Below W.heap.size W wr) (fun s26 _ => rs.length - (intOf s26).toNat)
 case atStart => exact ⟨0, Nat.zero_le _, rfl, rfl, Below.refl _ _⟩
 case round =>
  obtain ⟨j, hj, rfl, T, N⟩ := hrel
  rename World => wr
  by_cases hlt : j < rs.length
  ·obtain ⟨b, off, rfl, hc⟩ := SW.cells hne
   obtain ⟨a3, c3, g3, O⟩ := hc j hlt
   have HT : Hid (rowF 1 (rowA rs j) = true → formB 1 rs = false) := fun q => by rw [HB.out, rows_found hlt q]; rfl
   have HF : Hid (rowF 1 (rowA rs j) = false → rowsBad 1 rs (j + 1) = false) := fun q => rowsBad_step T.out q
   clear T hc
   generalize rowA rs j = ts at *
   have HX : Hid (rowF 1 ts = (!inB ts.length 1 1 || rowBad 1 ts ts.length)) := (rfl : rowF 1 ts = _)
   have Om := O.max
   have Of := O.fits
   unfold maxLen at Om
   have m3 := bat N g3
   obtain ⟨k0, k1, k2, _, _⟩ := V1.below N
   by_cases hq : 1 ≤ (ts.length : Int) ∧ (ts.length : Int) ≤ 1
   ·have hq1 : ¬ ((ts.length : Int) < 1) := by omega
    have hq2 : ¬ (1 < (ts.length : Int)) := by omega
    replace HX : Hid (rowF 1 ts = rowBad 1 ts ts.length) := by
     show _ = _
     rw [HX.out, inB_true.2 hq]
     rfl
    have hs6 : ts.length ≤ 60 := by omega
    go_wp2
    clear m3 k0 k1 k2
    go_loopw [47] (fun s47 wi => ∃ i : Nat, i ≤ ts.length ∧ s47 = .int .i64 i ∧ Hid (rowBad 1 ts i = false) ∧ Below W.heap.size W wi) (fun s47 _ => ts.length - (intOf s47).toNat)
    case atStart => exact ⟨0, Nat.zero_le _, rfl, rfl, N⟩
    case round =>
     clear N
     obtain ⟨i, hi, rfl, M, N⟩ := hrel
     rename World => wi
     by_cases hli : i < ts.length
     ·obtain ⟨b3, o3, rfl, tc⟩ := O.cells (by intro e; simp [e] at hli)
      obtain ⟨t0, t1⟩ := tc i hli
      have HT2 : Hid (ptBad 1 ts i = true → formB 1 rs = false) := fun q => HT.out (rowF_found hli q)
      have HF2 : Hid (ptBad 1 ts i = false → rowBad 1 ts (i + 1) = false) := fun q => rowBad_step M.out q
      have HP : Hid (ptBad 1 ts i = (!ptOk (ptA ts i).1 (ptA ts i).2 || sameI 1 ts i)) := ptBad_parts 1 ts i
      clear M tc
      rw [show (ts[i]?.getD (0, 0)) = ptA ts i from rfl] at t0 t1
      generalize (ptA ts i).1 = x at *
      generalize (ptA ts i).2 = y at *
      replace t0 := bat N t0
      replace t1 := bat N t1
      have bn := below1 wi (.cells #[.int .i64 x, .int .i64 y] 25)
      replace N := N.trans (bn.mono N.size)
      clear bn
      go_wp2_with fail
      generalize wi.alloc (.cells #[.int .i64 x, .int .i64 y] 25) = W3 at *
      refine (ptWrong_any x y _).mono ?_
      rintro e w5 ⟨rfl, hb⟩
      replace N := N.trans (hb.mono N.size)
      clear hb t0 t1
      cases hp : ptOk x y
      ·have F : Hid (formB 1 rs = false) := HT2.out (by rw [HP.out, hp]; rfl)
       have RB := V0.below N
       have RN := B0.trans (N.mono B0.size)
       clear HP HT2 HF2 HF HX HB HT
       rw [Bool.not_false]
       have RC := Box3.chain RN RB (.int .i64 (1)) (.int .i64 (j)) (.int .i64 (i))
       obtain ⟨r0, r1, r2⟩ := RB.reads (.int .i64 (1)) (.int .i64 (j)) (.int .i64 (i))
       obtain ⟨o0, o1, o2, of, _⟩ := id RB
       go_wp2
       refine bodyPost_ret (v := .agg #[.int .i64 (1), .int .i64 (j), .int .i64 (i)]) (by simp [results, Tryz.results75, go_sem, r0, r1, r2]) rfl ?_
       first
       | exact ⟨_, _, _, rfl, (by show _ = _; rw [F.out]; rfl), RC⟩
       | exact ⟨_, ⟨_, _, rfl⟩, (by show _ = _; rw [F.out]; rfl), RC⟩
      ·rw [Bool.not_true]
       go_wp2_with fail
       refine (sameAhead1 _ _ _ ts i _).mono ?_
       rintro e w6 ⟨rfl, hb⟩
       replace N := N.trans (hb.mono N.size)
       clear hb
       cases hsm : sameI 1 ts i
       ·have T' := HF2.out (by rw [HP.out, hp, hsm]; rfl)
        clear HP HT2 HF2
        go_wp2
        go_roundw
        case rel => exact ⟨i + 1, by omega, by go_num, T', N⟩
        case measure => simp [intOf]; omega
       ·have F : Hid (formB 1 rs = false) := HT2.out (by rw [HP.out, hp, hsm]; rfl)
        have RB := V0.below N
        have RN := B0.trans (N.mono B0.size)
        clear HP HT2 HF2 HF HX HB HT
        have RC := Box3.chain RN RB (.int .i64 (1)) (.int .i64 (j)) (.int .i64 (i))
        obtain ⟨r0, r1, r2⟩ := RB.reads (.int .i64 (1)) (.int .i64 (j)) (.int .i64 (i))
        obtain ⟨o0, o1, o2, of, _⟩ := id RB
        go_wp2
        refine bodyPost_ret (v := .agg #[.int .i64 (1), .int .i64 (j), .int .i64 (i)]) (by simp [results, Tryz.results75, go_sem, r0, r1, r2]) rfl ?_
        first
        | exact ⟨_, _, _, rfl, (by show _ = _; rw [F.out]; rfl), RC⟩
        | exact ⟨_, ⟨_, _, rfl⟩, (by show _ = _; rw [F.out]; rfl), RC⟩
     ·obtain rfl : i = ts.length := by omega
      have T' := HF.out (HX.out.trans M.out)
      clear HT HF HX
      go_wp2
      go_roundw
      case rel => exact ⟨j + 1, by omega, by go_num, T', N⟩
      case measure => simp [intOf]; omega
   ·have F : Hid (formB 1 rs = false) := HT.out (by
     rw [HX.out]
     cases q : inB ts.length 1 1
     ·rfl
     ·exact absurd (inB_true.1 q) hq)
    have RB := V0.below N
    have RN := B0.trans (N.mono B0.size)
    clear HX HB HT HF
    by_cases hq1 : (ts.length : Int) < 1
    ·skip
     have RC := Box3.chain RN RB (.int .i64 (1)) (.int .i64 (j)) (.int .i64 (0))
     obtain ⟨r0, r1, r2⟩ := RB.reads (.int .i64 (1)) (.int .i64 (j)) (.int .i64 (0))
     obtain ⟨o0, o1, o2, of, _⟩ := id RB
     go_wp2
     refine bodyPost_ret (v := .agg #[.int .i64 (1), .int .i64 (j), .int .i64 (0)]) (by simp [results, Tryz.results75, go_sem, r0, r1, r2]) rfl ?_
     first
     | exact ⟨_, _, _, rfl, (by show _ = _; rw [F.out]; rfl), RC⟩
     | exact ⟨_, ⟨_, _, rfl⟩, (by show _ = _; rw [F.out]; rfl), RC⟩
    ·have hq2 : 1 < (ts.length : Int) := by omega
     have RC := Box3.chain RN RB (.int .i64 (1)) (.int .i64 (j)) (.int .i64 (0))
     obtain ⟨r0, r1, r2⟩ := RB.reads (.int .i64 (1)) (.int .i64 (j)) (.int .i64 (0))
     obtain ⟨o0, o1, o2, of, _⟩ := id RB
     go_wp2
     refine bodyPost_ret (v := .agg #[.int .i64 (1), .int .i64 (j), .int .i64 (0)]) (by simp [results, Tryz.results75, go_sem, r0, r1, r2]) rfl ?_
     first
     | exact ⟨_, _, _, rfl, (by show _ = _; rw [F.out]; rfl), RC⟩
     | exact ⟨_, ⟨_, _, rfl⟩, (by show _ = _; rw [F.out]; rfl), RC⟩
  ·obtain rfl : j = rs.length := by omega
   have F : Hid (formB 1 rs = true) := by
    show _ = _
    rw [HB.out, T.out]
    rfl
   have RB := V0.below N
   have RN := B0.trans (N.mono B0.size)
   clear HB T
   have RC := Box3.chain RN RB (.int .i64 (0)) (.int .i64 (0)) (.int .i64 (0))
   obtain ⟨r0, r1, r2⟩ := RB.reads (.int .i64 (0)) (.int .i64 (0)) (.int .i64 (0))
   obtain ⟨o0, o1, o2, of, _⟩ := id RB
   go_wp2
   refine bodyPost_ret (v := .agg #[.int .i64 (0), .int .i64 (0), .int .i64 (0)]) (by simp [results, Tryz.results75, go_sem, r0, r1, r2]) rfl ?_
   first
   | exact ⟨_, _, _, rfl, (by show _ = _; rw [F.out]; rfl), RC⟩
   | exact ⟨_, ⟨_, _, rfl⟩, (by show _ = _; rw [F.out]; rfl), RC⟩

set_option maxRecDepth 20000 in
set_option maxHeartbeats 4000000 in
theorem formFault2 (a : Option Addr) (c : Nat) (rs : List (List (Int × Int))) (w : World) (h : SeesS w a c rs) :
  Calls Tryz.prog 75 #[.iface 151 (.agg #[.slice a rs.length c])] w fun e w' => ∃ z x y : Int, e = .returned (.agg #[.int .i64 z, .int .i64 x, .int .i64 y]) ∧ Hid (decide (z = 0) = formB 2 rs) ∧ Below w.heap.size w w' := by
 have hm := h.max
 have hf := h.fits
 unfold maxLen at hm
 have B0 := below1 w (.cells #[.int .i64 0, .int .i64 0, .int .i64 0] 104)
 have V0 := Box3.new w (lo := w.heap.size) (Nat.le_refl _) (.int .i64 0) (.int .i64 0) (.int .i64 0) 104
 have HB : Hid (formB 2 rs = !((decide (rs.length = 0) || decide (1 < (rs.length : Int))) || rowsBad 2 rs rs.length)) := formB_kind (by omega) rs
 go_enter Tryz.func75, Tryz.ntmps75
 go_wp2_with fail
 generalize w.alloc (.cells #[.int .i64 0, .int .i64 0, .int .i64 0] 104) = W0 at *
 refine (points_any _ _).mono ?_
 rintro e w0 ⟨rfl, rfl⟩
 go_wp2_with fail
 refine (limitsOf_any 2 (by omega) _ _).mono ?_
 rintro e w1 ⟨rfl, hb⟩
 rw [show limR 2 = 1 from rfl, show leastN 2 = 1 from rfl, show mostN 2 = 60 from rfl]
 replace V0 := V0.below hb
 replace B0 := B0.trans (hb.mono B0.size)
 clear hb
 have bn := below1 w1 (.cells #[.int .i64 1, .int .i64 1, .int .i64 60] 156)
 have V1 := Box3.new w1 (lo := w.heap.size) B0.size (.int .i64 1) (.int .i64 1) (.int .i64 60) 156
 replace V0 := V0.below bn
 replace B0 := B0.trans (bn.mono B0.size)
 clear bn
 go_upto_region 2 with fail
 generalize w1.alloc (.cells #[.int .i64 1, .int .i64 1, .int .i64 60] 156) = W at *
 generalize w1.heap.size = q1 at *
 by_cases hz : rs.length = 0
 ·obtain rfl : rs = [] := List.eq_nil_of_length_eq_zero hz
  have F : Hid (formB 2 [] = false) := by
   show _ = _
   rw [HB.out]
   rfl
  have RB := V0
  have RN := B0
  clear HB V0 B0
  have RC := Box3.chain RN RB (.int .i64 (1)) (.int .i64 (0)) (.int .i64 (0))
  obtain ⟨r0, r1, r2⟩ := RB.reads (.int .i64 (1)) (.int .i64 (0)) (.int .i64 (0))
  obtain ⟨o0, o1, o2, of, _⟩ := id RB
  go_wp2
  refine bodyPost_ret (v := .agg #[.int .i64 (1), .int .i64 (0), .int .i64 (0)]) (by simp [results, Tryz.results75, go_sem, r0, r1, r2]) rfl ?_
  first
  | exact ⟨_, _, _, rfl, (by show _ = _; rw [F.out]; rfl), RC⟩
  | exact ⟨_, ⟨_, _, rfl⟩, (by show _ = _; rw [F.out]; rfl), RC⟩
 have hz1 : ((rs.length : Int) == 0) = false := by rw [beq_eq_false_iff_ne]; omega
 have hne : rs ≠ [] := by intro e; simp [e] at hz
 by_cases hL : 1 < (rs.length : Int)
 ·have F : Hid (formB 2 rs = false) := by
   show _ = _
   rw [HB.out, decide_eq_true hL, Bool.or_true, Bool.true_or]
   rfl
  obtain ⟨k0, k1, k2, _, _⟩ := id V1
  have RB := V0
  have RN := B0
  clear HB V0 B0
  have RC := Box3.chain RN RB (.int .i64 (1)) (.int .i64 (0)) (.int .i64 (0))
  obtain ⟨r0, r1, r2⟩ := RB.reads (.int .i64 (1)) (.int .i64 (0)) (.int .i64 (0))
  obtain ⟨o0, o1, o2, of, _⟩ := id RB
  go_wp2
  refine bodyPost_ret (v := .agg #[.int .i64 (1), .int .i64 (0), .int .i64 (0)]) (by simp [results, Tryz.results75, go_sem, r0, r1, r2]) rfl ?_
  first
  | exact ⟨_, _, _, rfl, (by show _ = _; rw [F.out]; rfl), RC⟩
  | exact ⟨_, ⟨_, _, rfl⟩, (by show _ = _; rw [F.out]; rfl), RC⟩
 replace HB : Hid (formB 2 rs = !rowsBad 2 rs rs.length) := by
  show _ = _
  rw [HB.out, decide_eq_false hL, decide_eq_false hz]
  rfl
 have SW := (h.below B0)
 obtain ⟨k0, k1, k2, _, _⟩ := id V1
 go_wp2
 clear k0 k1 k2
 go_loopw [26] (fun s26 wr => ∃ j : Nat, j ≤ rs.length ∧ s26 = .int .i64 j ∧ Hid (rowsBad 2 rs j = false) ∧ Below W.heap.size W wr) (fun s26 _ => rs.length - (intOf s26).toNat)
 case atStart => exact ⟨0, Nat.zero_le _, rfl, rfl, Below.refl _ _⟩
 case round =>
  obtain ⟨j, hj, rfl, T, N⟩ := hrel
  rename World => wr
  by_cases hlt : j < rs.length
  ·obtain ⟨b, off, rfl, hc⟩ := SW.cells hne
   obtain ⟨a3, c3, g3, O⟩ := hc j hlt
   have HT : Hid (rowF 2 (rowA rs j) = true → formB 2 rs = false) := fun q => by rw [HB.out, rows_found hlt q]; rfl
   have HF : Hid (rowF 2 (rowA rs j) = false → rowsBad 2 rs (j + 1) = false) := fun q => rowsBad_step T.out q
   clear T hc
   generalize rowA rs j = ts at *
   have HX : Hid (rowF 2 ts = (!inB ts.length 1 60 || rowBad 2 ts ts.length)) := (rfl : rowF 2 ts = _)
   have Om := O.max
   have Of := O.fits
   unfold maxLen at Om
   have m3 := bat N g3
   obtain ⟨k0, k1, k2, _, _⟩ := V1.below N
   by_cases hq : 1 ≤ (ts.length : Int) ∧ (ts.length : Int) ≤ 60
   ·have hq1 : ¬ ((ts.length : Int) < 1) := by omega
    have hq2 : ¬ (60 < (ts.length : Int)) := by omega
    replace HX : Hid (rowF 2 ts = rowBad 2 ts ts.length) := by
     show _ = _
     rw [HX.out, inB_true.2 hq]
     rfl
    have hs6 : ts.length ≤ 60 := by omega
    go_wp2
    clear m3 k0 k1 k2
    go_loopw [47] (fun s47 wi => ∃ i : Nat, i ≤ ts.length ∧ s47 = .int .i64 i ∧ Hid (rowBad 2 ts i = false) ∧ Below W.heap.size W wi) (fun s47 _ => ts.length - (intOf s47).toNat)
    case atStart => exact ⟨0, Nat.zero_le _, rfl, rfl, N⟩
    case round =>
     clear N
     obtain ⟨i, hi, rfl, M, N⟩ := hrel
     rename World => wi
     by_cases hli : i < ts.length
     ·obtain ⟨b3, o3, rfl, tc⟩ := O.cells (by intro e; simp [e] at hli)
      obtain ⟨t0, t1⟩ := tc i hli
      have HT2 : Hid (ptBad 2 ts i = true → formB 2 rs = false) := fun q => HT.out (rowF_found hli q)
      have HF2 : Hid (ptBad 2 ts i = false → rowBad 2 ts (i + 1) = false) := fun q => rowBad_step M.out q
      have HP : Hid (ptBad 2 ts i = (!ptOk (ptA ts i).1 (ptA ts i).2 || sameI 2 ts i)) := ptBad_parts 2 ts i
      clear M tc
      rw [show (ts[i]?.getD (0, 0)) = ptA ts i from rfl] at t0 t1
      generalize (ptA ts i).1 = x at *
      generalize (ptA ts i).2 = y at *
      replace t0 := bat N t0
      replace t1 := bat N t1
      have bn := below1 wi (.cells #[.int .i64 x, .int .i64 y] 25)
      replace N := N.trans (bn.mono N.size)
      clear bn
      go_wp2_with fail
      generalize wi.alloc (.cells #[.int .i64 x, .int .i64 y] 25) = W3 at *
      refine (ptWrong_any x y _).mono ?_
      rintro e w5 ⟨rfl, hb⟩
      replace N := N.trans (hb.mono N.size)
      clear hb t0 t1
      cases hp : ptOk x y
      ·have F : Hid (formB 2 rs = false) := HT2.out (by rw [HP.out, hp]; rfl)
       have RB := V0.below N
       have RN := B0.trans (N.mono B0.size)
       clear HP HT2 HF2 HF HX HB HT
       rw [Bool.not_false]
       have RC := Box3.chain RN RB (.int .i64 (1)) (.int .i64 (j)) (.int .i64 (i))
       obtain ⟨r0, r1, r2⟩ := RB.reads (.int .i64 (1)) (.int .i64 (j)) (.int .i64 (i))
       obtain ⟨o0, o1, o2, of, _⟩ := id RB
       go_wp2
       refine bodyPost_ret (v := .agg #[.int .i64 (1), .int .i64 (j), .int .i64 (i)]) (by simp [results, Tryz.results75, go_sem, r0, r1, r2]) rfl ?_
       first
       | exact ⟨_, _, _, rfl, (by show _ = _; rw [F.out]; rfl), RC⟩
       | exact ⟨_, ⟨_, _, rfl⟩, (by show _ = _; rw [F.out]; rfl), RC⟩
      ·rw [Bool.not_true]
       go_wp2_with fail
       refine (sameAhead2 _ _ _ ts i _).mono ?_
       rintro e w6 ⟨rfl, hb⟩
       replace N := N.trans (hb.mono N.size)
       clear hb
       cases hsm : sameI 2 ts i
       ·have T' := HF2.out (by rw [HP.out, hp, hsm]; rfl)
        clear HP HT2 HF2
        go_wp2
        go_roundw
        case rel => exact ⟨i + 1, by omega, by go_num, T', N⟩
        case measure => simp [intOf]; omega
       ·have F : Hid (formB 2 rs = false) := HT2.out (by rw [HP.out, hp, hsm]; rfl)
        have RB := V0.below N
        have RN := B0.trans (N.mono B0.size)
        clear HP HT2 HF2 HF HX HB HT
        have RC := Box3.chain RN RB (.int .i64 (1)) (.int .i64 (j)) (.int .i64 (i))
        obtain ⟨r0, r1, r2⟩ := RB.reads (.int .i64 (1)) (.int .i64 (j)) (.int .i64 (i))
        obtain ⟨o0, o1, o2, of, _⟩ := id RB
        go_wp2
        refine bodyPost_ret (v := .agg #[.int .i64 (1), .int .i64 (j), .int .i64 (i)]) (by simp [results, Tryz.results75, go_sem, r0, r1, r2]) rfl ?_
        first
        | exact ⟨_, _, _, rfl, (by show _ = _; rw [F.out]; rfl), RC⟩
        | exact ⟨_, ⟨_, _, rfl⟩, (by show _ = _; rw [F.out]; rfl), RC⟩
     ·obtain rfl : i = ts.length := by omega
      have T' := HF.out (HX.out.trans M.out)
      clear HT HF HX
      go_wp2
      go_roundw
      case rel => exact ⟨j + 1, by omega, by go_num, T', N⟩
      case measure => simp [intOf]; omega
   ·have F : Hid (formB 2 rs = false) := HT.out (by
     rw [HX.out]
     cases q : inB ts.length 1 60
     ·rfl
     ·exact absurd (inB_true.1 q) hq)
    have RB := V0.below N
    have RN := B0.trans (N.mono B0.size)
    clear HX HB HT HF
    by_cases hq1 : (ts.length : Int) < 1
    ·skip
     have RC := Box3.chain RN RB (.int .i64 (1)) (.int .i64 (j)) (.int .i64 (0))
     obtain ⟨r0, r1, r2⟩ := RB.reads (.int .i64 (1)) (.int .i64 (j)) (.int .i64 (0))
     obtain ⟨o0, o1, o2, of, _⟩ := id RB
     go_wp2
     refine bodyPost_ret (v := .agg #[.int .i64 (1), .int .i64 (j), .int .i64 (0)]) (by simp [results, Tryz.results75, go_sem, r0, r1, r2]) rfl ?_
     first
     | exact ⟨_, _, _, rfl, (by show _ = _; rw [F.out]; rfl), RC⟩
     | exact ⟨_, ⟨_, _, rfl⟩, (by show _ = _; rw [F.out]; rfl), RC⟩
    ·have hq2 : 60 < (ts.length : Int) := by omega
     have RC := Box3.chain RN RB (.int .i64 (1)) (.int .i64 (j)) (.int .i64 (0))
     obtain ⟨r0, r1, r2⟩ := RB.reads (.int .i64 (1)) (.int .i64 (j)) (.int .i64 (0))
     obtain ⟨o0, o1, o2, of, _⟩ := id RB
     go_wp2
     refine bodyPost_ret (v := .agg #[.int .i64 (1), .int .i64 (j), .int .i64 (0)]) (by simp [results, Tryz.results75, go_sem, r0, r1, r2]) rfl ?_
     first
     | exact ⟨_, _, _, rfl, (by show _ = _; rw [F.out]; rfl), RC⟩
     | exact ⟨_, ⟨_, _, rfl⟩, (by show _ = _; rw [F.out]; rfl), RC⟩
  ·obtain rfl : j = rs.length := by omega
   have F : Hid (formB 2 rs = true) := by
    show _ = _
    rw [HB.out, T.out]
    rfl
   have RB := V0.below N
   have RN := B0.trans (N.mono B0.size)
   clear HB T
   have RC := Box3.chain RN RB (.int .i64 (0)) (.int .i64 (0)) (.int .i64 (0))
   obtain ⟨r0, r1, r2⟩ := RB.reads (.int .i64 (0)) (.int .i64 (0)) (.int .i64 (0))
   obtain ⟨o0, o1, o2, of, _⟩ := id RB
   go_wp2
   refine bodyPost_ret (v := .agg #[.int .i64 (0), .int .i64 (0), .int .i64 (0)]) (by simp [results, Tryz.results75, go_sem, r0, r1, r2]) rfl ?_
   first
   | exact ⟨_, _, _, rfl, (by show _ = _; rw [F.out]; rfl), RC⟩
   | exact ⟨_, ⟨_, _, rfl⟩, (by show _ = _; rw [F.out]; rfl), RC⟩

set_option maxRecDepth 20000 in
set_option maxHeartbeats 4000000 in
theorem formFault3 (a : Option Addr) (c : Nat) (rs : List (List (Int × Int))) (w : World) (h : SeesS w a c rs) :
  Calls Tryz.prog 75 #[.iface 152 (.agg #[.slice a rs.length c])] w fun e w' => ∃ z x y : Int, e = .returned (.agg #[.int .i64 z, .int .i64 x, .int .i64 y]) ∧ Hid (decide (z = 0) = formB 3 rs) ∧ Below w.heap.size w w' := by
 have hm := h.max
 have hf := h.fits
 unfold maxLen at hm
 have B0 := below1 w (.cells #[.int .i64 0, .int .i64 0, .int .i64 0] 104)
 have V0 := Box3.new w (lo := w.heap.size) (Nat.le_refl _) (.int .i64 0) (.int .i64 0) (.int .i64 0) 104
 have HB : Hid (formB 3 rs = !((decide (rs.length = 0) || decide (1 < (rs.length : Int))) || rowsBad 3 rs rs.length)) := formB_kind (by omega) rs
 go_enter Tryz.func75, Tryz.ntmps75
 go_wp2_with fail
 generalize w.alloc (.cells #[.int .i64 0, .int .i64 0, .int .i64 0] 104) = W0 at *
 refine (points_any _ _).mono ?_
 rintro e w0 ⟨rfl, rfl⟩
 go_wp2_with fail
 refine (limitsOf_any 3 (by omega) _ _).mono ?_
 rintro e w1 ⟨rfl, hb⟩
 rw [show limR 3 = 1 from rfl, show leastN 3 = 2 from rfl, show mostN 3 = 60 from rfl]
 replace V0 := V0.below hb
 replace B0 := B0.trans (hb.mono B0.size)
 clear hb
 have bn := below1 w1 (.cells #[.int .i64 1, .int .i64 2, .int .i64 60] 156)
 have V1 := Box3.new w1 (lo := w.heap.size) B0.size (.int .i64 1) (.int .i64 2) (.int .i64 60) 156
 replace V0 := V0.below bn
 replace B0 := B0.trans (bn.mono B0.size)
 clear bn
 go_upto_region 2 with fail
 generalize w1.alloc (.cells #[.int .i64 1, .int .i64 2, .int .i64 60] 156) = W at *
 generalize w1.heap.size = q1 at *
 by_cases hz : rs.length = 0
 ·obtain rfl : rs = [] := List.eq_nil_of_length_eq_zero hz
  have F : Hid (formB 3 [] = false) := by
   show _ = _
   rw [HB.out]
   rfl
  have RB := V0
  have RN := B0
  clear HB V0 B0
  have RC := Box3.chain RN RB (.int .i64 (1)) (.int .i64 (0)) (.int .i64 (0))
  obtain ⟨r0, r1, r2⟩ := RB.reads (.int .i64 (1)) (.int .i64 (0)) (.int .i64 (0))
  obtain ⟨o0, o1, o2, of, _⟩ := id RB
  go_wp2
  refine bodyPost_ret (v := .agg #[.int .i64 (1), .int .i64 (0), .int .i64 (0)]) (by simp [results, Tryz.results75, go_sem, r0, r1, r2]) rfl ?_
  first
  | exact ⟨_, _, _, rfl, (by show _ = _; rw [F.out]; rfl), RC⟩
  | exact ⟨_, ⟨_, _, rfl⟩, (by show _ = _; rw [F.out]; rfl), RC⟩
 have hz1 : ((rs.length : Int) == 0) = false := by rw [beq_eq_false_iff_ne]; omega
 have hne : rs ≠ [] := by intro e; simp [e] at hz
 by_cases hL : 1 < (rs.length : Int)
 ·have F : Hid (formB 3 rs = false) := by
   show _ = _
   rw [HB.out, decide_eq_true hL, Bool.or_true, Bool.true_or]
   rfl
  obtain ⟨k0, k1, k2, _, _⟩ := id V1
  have RB := V0
  have RN := B0
  clear HB V0 B0
  have RC := Box3.chain RN RB (.int .i64 (1)) (.int .i64 (0)) (.int .i64 (0))
  obtain ⟨r0, r1, r2⟩ := RB.reads (.int .i64 (1)) (.int .i64 (0)) (.int .i64 (0))
  obtain ⟨o0, o1, o2, of, _⟩ := id RB
  go_wp2
  refine bodyPost_ret (v := .agg #[.int .i64 (1), .int .i64 (0), .int .i64 (0)]) (by simp [results, Tryz.results75, go_sem, r0, r1, r2]) rfl ?_
  first
  | exact ⟨_, _, _, rfl, (by show _ = _; rw [F.out]; rfl), RC⟩
  | exact ⟨_, ⟨_, _, rfl⟩, (by show _ = _; rw [F.out]; rfl), RC⟩
 replace HB : Hid (formB 3 rs = !rowsBad 3 rs rs.length) := by
  show _ = _
  rw [HB.out, decide_eq_false hL, decide_eq_false hz]
  rfl
 have SW := (h.below B0)
 obtain ⟨k0, k1, k2, _, _⟩ := id V1
 go_wp2
 clear k0 k1 k2
 go_loopw [26] (fun s26 wr => ∃ j : Nat, j ≤ rs.length ∧ s26 = .int .i64 j ∧ Hid (rowsBad 3 rs j = false) ∧ Below W.heap.size W wr) (fun s26 _ => rs.length - (intOf s26).toNat)
 case atStart => exact ⟨0, Nat.zero_le _, rfl, rfl, Below.refl _ _⟩
 case round =>
  obtain ⟨j, hj, rfl, T, N⟩ := hrel
  rename World => wr
  by_cases hlt : j < rs.length
  ·obtain ⟨b, off, rfl, hc⟩ := SW.cells hne
   obtain ⟨a3, c3, g3, O⟩ := hc j hlt
   have HT : Hid (rowF 3 (rowA rs j) = true → formB 3 rs = false) := fun q => by rw [HB.out, rows_found hlt q]; rfl
   have HF : Hid (rowF 3 (rowA rs j) = false → rowsBad 3 rs (j + 1) = false) := fun q => rowsBad_step T.out q
   clear T hc
   generalize rowA rs j = ts at *
   have HX : Hid (rowF 3 ts = (!inB ts.length 2 60 || rowBad 3 ts ts.length)) := (rfl : rowF 3 ts = _)
   have Om := O.max
   have Of := O.fits
   unfold maxLen at Om
   have m3 := bat N g3
   obtain ⟨k0, k1, k2, _, _⟩ := V1.below N
   by_cases hq : 2 ≤ (ts.length : Int) ∧ (ts.length : Int) ≤ 60
   ·have hq1 : ¬ ((ts.length : Int) < 2) := by omega
    have hq2 : ¬ (60 < (ts.length : Int)) := by omega
    replace HX : Hid (rowF 3 ts = rowBad 3 ts ts.length) := by
     show _ = _
     rw [HX.out, inB_true.2 hq]
     rfl
    have hs6 : ts.length ≤ 60 := by omega
    go_wp2
    clear m3 k0 k1 k2
    go_loopw [47] (fun s47 wi => ∃ i : Nat, i ≤ ts.length ∧ s47 = .int .i64 i ∧ Hid (rowBad 3 ts i = false) ∧ Below W.heap.size W wi) (fun s47 _ => ts.length - (intOf s47).toNat)
    case atStart => exact ⟨0, Nat.zero_le _, rfl, rfl, N⟩
    case round =>
     clear N
     obtain ⟨i, hi, rfl, M, N⟩ := hrel
     rename World => wi
     by_cases hli : i < ts.length
     ·obtain ⟨b3, o3, rfl, tc⟩ := O.cells (by intro e; simp [e] at hli)
      obtain ⟨t0, t1⟩ := tc i hli
      have HT2 : Hid (ptBad 3 ts i = true → formB 3 rs = false) := fun q => HT.out (rowF_found hli q)
      have HF2 : Hid (ptBad 3 ts i = false → rowBad 3 ts (i + 1) = false) := fun q => rowBad_step M.out q
      have HP : Hid (ptBad 3 ts i = (!ptOk (ptA ts i).1 (ptA ts i).2 || sameI 3 ts i)) := ptBad_parts 3 ts i
      clear M tc
      rw [show (ts[i]?.getD (0, 0)) = ptA ts i from rfl] at t0 t1
      generalize (ptA ts i).1 = x at *
      generalize (ptA ts i).2 = y at *
      replace t0 := bat N t0
      replace t1 := bat N t1
      have bn := below1 wi (.cells #[.int .i64 x, .int .i64 y] 25)
      replace N := N.trans (bn.mono N.size)
      clear bn
      go_wp2_with fail
      generalize wi.alloc (.cells #[.int .i64 x, .int .i64 y] 25) = W3 at *
      refine (ptWrong_any x y _).mono ?_
      rintro e w5 ⟨rfl, hb⟩
      replace N := N.trans (hb.mono N.size)
      clear hb t0 t1
      cases hp : ptOk x y
      ·have F : Hid (formB 3 rs = false) := HT2.out (by rw [HP.out, hp]; rfl)
       have RB := V0.below N
       have RN := B0.trans (N.mono B0.size)
       clear HP HT2 HF2 HF HX HB HT
       rw [Bool.not_false]
       have RC := Box3.chain RN RB (.int .i64 (1)) (.int .i64 (j)) (.int .i64 (i))
       obtain ⟨r0, r1, r2⟩ := RB.reads (.int .i64 (1)) (.int .i64 (j)) (.int .i64 (i))
       obtain ⟨o0, o1, o2, of, _⟩ := id RB
       go_wp2
       refine bodyPost_ret (v := .agg #[.int .i64 (1), .int .i64 (j), .int .i64 (i)]) (by simp [results, Tryz.results75, go_sem, r0, r1, r2]) rfl ?_
       first
       | exact ⟨_, _, _, rfl, (by show _ = _; rw [F.out]; rfl), RC⟩
       | exact ⟨_, ⟨_, _, rfl⟩, (by show _ = _; rw [F.out]; rfl), RC⟩
      ·rw [Bool.not_true]
       go_wp2_with fail
       refine (sameAhead3 _ _ _ ts i _ (O.below N) hli).mono ?_
       rintro e w6 ⟨rfl, hb⟩
       replace N := N.trans (hb.mono N.size)
       clear hb
       cases hsm : sameI 3 ts i
       ·have T' := HF2.out (by rw [HP.out, hp, hsm]; rfl)
        clear HP HT2 HF2
        go_wp2
        go_roundw
        case rel => exact ⟨i + 1, by omega, by go_num, T', N⟩
        case measure => simp [intOf]; omega
       ·have F : Hid (formB 3 rs = false) := HT2.out (by rw [HP.out, hp, hsm]; rfl)
        have RB := V0.below N
        have RN := B0.trans (N.mono B0.size)
        clear HP HT2 HF2 HF HX HB HT
        have RC := Box3.chain RN RB (.int .i64 (1)) (.int .i64 (j)) (.int .i64 (i))
        obtain ⟨r0, r1, r2⟩ := RB.reads (.int .i64 (1)) (.int .i64 (j)) (.int .i64 (i))
        obtain ⟨o0, o1, o2, of, _⟩ := id RB
        go_wp2
        refine bodyPost_ret (v := .agg #[.int .i64 (1), .int .i64 (j), .int .i64 (i)]) (by simp [results, Tryz.results75, go_sem, r0, r1, r2]) rfl ?_
        first
        | exact ⟨_, _, _, rfl, (by show _ = _; rw [F.out]; rfl), RC⟩
        | exact ⟨_, ⟨_, _, rfl⟩, (by show _ = _; rw [F.out]; rfl), RC⟩
     ·obtain rfl : i = ts.length := by omega
      have T' := HF.out (HX.out.trans M.out)
      clear HT HF HX
      go_wp2
      go_roundw
      case rel => exact ⟨j + 1, by omega, by go_num, T', N⟩
      case measure => simp [intOf]; omega
   ·have F : Hid (formB 3 rs = false) := HT.out (by
     rw [HX.out]
     cases q : inB ts.length 2 60
     ·rfl
     ·exact absurd (inB_true.1 q) hq)
    have RB := V0.below N
    have RN := B0.trans (N.mono B0.size)
    clear HX HB HT HF
    by_cases hq1 : (ts.length : Int) < 2
    ·skip
     have RC := Box3.chain RN RB (.int .i64 (1)) (.int .i64 (j)) (.int .i64 (0))
     obtain ⟨r0, r1, r2⟩ := RB.reads (.int .i64 (1)) (.int .i64 (j)) (.int .i64 (0))
     obtain ⟨o0, o1, o2, of, _⟩ := id RB
     go_wp2
     refine bodyPost_ret (v := .agg #[.int .i64 (1), .int .i64 (j), .int .i64 (0)]) (by simp [results, Tryz.results75, go_sem, r0, r1, r2]) rfl ?_
     first
     | exact ⟨_, _, _, rfl, (by show _ = _; rw [F.out]; rfl), RC⟩
     | exact ⟨_, ⟨_, _, rfl⟩, (by show _ = _; rw [F.out]; rfl), RC⟩
    ·have hq2 : 60 < (ts.length : Int) := by omega
     have RC := Box3.chain RN RB (.int .i64 (1)) (.int .i64 (j)) (.int .i64 (0))
     obtain ⟨r0, r1, r2⟩ := RB.reads (.int .i64 (1)) (.int .i64 (j)) (.int .i64 (0))
     obtain ⟨o0, o1, o2, of, _⟩ := id RB
     go_wp2
     refine bodyPost_ret (v := .agg #[.int .i64 (1), .int .i64 (j), .int .i64 (0)]) (by simp [results, Tryz.results75, go_sem, r0, r1, r2]) rfl ?_
     first
     | exact ⟨_, _, _, rfl, (by show _ = _; rw [F.out]; rfl), RC⟩
     | exact ⟨_, ⟨_, _, rfl⟩, (by show _ = _; rw [F.out]; rfl), RC⟩
  ·obtain rfl : j = rs.length := by omega
   have F : Hid (formB 3 rs = true) := by
    show _ = _
    rw [HB.out, T.out]
    rfl
   have RB := V0.below N
   have RN := B0.trans (N.mono B0.size)
   clear HB T
   have RC := Box3.chain RN RB (.int .i64 (0)) (.int .i64 (0)) (.int .i64 (0))
   obtain ⟨r0, r1, r2⟩ := RB.reads (.int .i64 (0)) (.int .i64 (0)) (.int .i64 (0))
   obtain ⟨o0, o1, o2, of, _⟩ := id RB
   go_wp2
   refine bodyPost_ret (v := .agg #[.int .i64 (0), .int .i64 (0), .int .i64 (0)]) (by simp [results, Tryz.results75, go_sem, r0, r1, r2]) rfl ?_
   first
   | exact ⟨_, _, _, rfl, (by show _ = _; rw [F.out]; rfl), RC⟩
   | exact ⟨_, ⟨_, _, rfl⟩, (by show _ = _; rw [F.out]; rfl), RC⟩

set_option maxRecDepth 20000 in
set_option maxHeartbeats 4000000 in
theorem formFault4 (a : Option Addr) (c : Nat) (rs : List (List (Int × Int))) (w : World) (h : SeesS w a c rs) :
  Calls Tryz.prog 75 #[.iface 153 (.agg #[.slice a rs.length c])] w fun e w' => ∃ z x y : Int, e = .returned (.agg #[.int .i64 z, .int .i64 x, .int .i64 y]) ∧ Hid (decide (z = 0) = formB 4 rs) ∧ Below w.heap.size w w' := by
 have hm := h.max
 have hf := h.fits
 unfold maxLen at hm
 have B0 := below1 w (.cells #[.int .i64 0, .int .i64 0, .int .i64 0] 104)
 have V0 := Box3.new w (lo := w.heap.size) (Nat.le_refl _) (.int .i64 0) (.int .i64 0) (.int .i64 0) 104
 have HB : Hid (formB 4 rs = !((decide (rs.length = 0) || decide (12 < (rs.length : Int))) || rowsBad 4 rs rs.length)) := formB_kind (by omega) rs
 go_enter Tryz.func75, Tryz.ntmps75
 go_wp2_with fail
 generalize w.alloc (.cells #[.int .i64 0, .int .i64 0, .int .i64 0] 104) = W0 at *
 refine (points_any _ _).mono ?_
 rintro e w0 ⟨rfl, rfl⟩
 go_wp2_with fail
 refine (limitsOf_any 4 (by omega) _ _).mono ?_
 rintro e w1 ⟨rfl, hb⟩
 rw [show limR 4 = 12 from rfl, show leastN 4 = 2 from rfl, show mostN 4 = 60 from rfl]
 replace V0 := V0.below hb
 replace B0 := B0.trans (hb.mono B0.size)
 clear hb
 have bn := below1 w1 (.cells #[.int .i64 12, .int .i64 2, .int .i64 60] 156)
 have V1 := Box3.new w1 (lo := w.heap.size) B0.size (.int .i64 12) (.int .i64 2) (.int .i64 60) 156
 replace V0 := V0.below bn
 replace B0 := B0.trans (bn.mono B0.size)
 clear bn
 go_upto_region 2 with fail
 generalize w1.alloc (.cells #[.int .i64 12, .int .i64 2, .int .i64 60] 156) = W at *
 generalize w1.heap.size = q1 at *
 by_cases hz : rs.length = 0
 ·obtain rfl : rs = [] := List.eq_nil_of_length_eq_zero hz
  have F : Hid (formB 4 [] = false) := by
   show _ = _
   rw [HB.out]
   rfl
  have RB := V0
  have RN := B0
  clear HB V0 B0
  have RC := Box3.chain RN RB (.int .i64 (1)) (.int .i64 (0)) (.int .i64 (0))
  obtain ⟨r0, r1, r2⟩ := RB.reads (.int .i64 (1)) (.int .i64 (0)) (.int .i64 (0))
  obtain ⟨o0, o1, o2, of, _⟩ := id RB
  go_wp2
  refine bodyPost_ret (v := .agg #[.int .i64 (1), .int .i64 (0), .int .i64 (0)]) (by simp [results, Tryz.results75, go_sem, r0, r1, r2]) rfl ?_
  first
  | exact ⟨_, _, _, rfl, (by show _ = _; rw [F.out]; rfl), RC⟩
  | exact ⟨_, ⟨_, _, rfl⟩, (by show _ = _; rw [F.out]; rfl), RC⟩
 have hz1 : ((rs.length : Int) == 0) = false := by rw [beq_eq_false_iff_ne]; omega
 have hne : rs ≠ [] := by intro e; simp [e] at hz
 by_cases hL : 12 < (rs.length : Int)
 ·have F : Hid (formB 4 rs = false) := by
   show _ = _
   rw [HB.out, decide_eq_true hL, Bool.or_true, Bool.true_or]
   rfl
  obtain ⟨k0, k1, k2, _, _⟩ := id V1
  have RB := V0
  have RN := B0
  clear HB V0 B0
  have RC := Box3.chain RN RB (.int .i64 (1)) (.int .i64 (0)) (.int .i64 (0))
  obtain ⟨r0, r1, r2⟩ := RB.reads (.int .i64 (1)) (.int .i64 (0)) (.int .i64 (0))
  obtain ⟨o0, o1, o2, of, _⟩ := id RB
  go_wp2
  refine bodyPost_ret (v := .agg #[.int .i64 (1), .int .i64 (0), .int .i64 (0)]) (by simp [results, Tryz.results75, go_sem, r0, r1, r2]) rfl ?_
  first
  | exact ⟨_, _, _, rfl, (by show _ = _; rw [F.out]; rfl), RC⟩
  | exact ⟨_, ⟨_, _, rfl⟩, (by show _ = _; rw [F.out]; rfl), RC⟩
 replace HB : Hid (formB 4 rs = !rowsBad 4 rs rs.length) := by
  show _ = _
  rw [HB.out, decide_eq_false hL, decide_eq_false hz]
  rfl
 have SW := (h.below B0)
 obtain ⟨k0, k1, k2, _, _⟩ := id V1
 go_wp2
 clear k0 k1 k2
 go_loopw [26] (fun s26 wr => ∃ j : Nat, j ≤ rs.length ∧ s26 = .int .i64 j ∧ Hid (rowsBad 4 rs j = false) ∧ Below W.heap.size W wr) (fun s26 _ => rs.length - (intOf s26).toNat)
 case atStart => exact ⟨0, Nat.zero_le _, rfl, rfl, Below.refl _ _⟩
 case round =>
  obtain ⟨j, hj, rfl, T, N⟩ := hrel
  rename World => wr
  by_cases hlt : j < rs.length
  ·obtain ⟨b, off, rfl, hc⟩ := SW.cells hne
   obtain ⟨a3, c3, g3, O⟩ := hc j hlt
   have HT : Hid (rowF 4 (rowA rs j) = true → formB 4 rs = false) := fun q => by rw [HB.out, rows_found hlt q]; rfl
   have HF : Hid (rowF 4 (rowA rs j) = false → rowsBad 4 rs (j + 1) = false) := fun q => rowsBad_step T.out q
   clear T hc
   generalize rowA rs j = ts at *
   have HX : Hid (rowF 4 ts = (!inB ts.length 2 60 || rowBad 4 ts ts.length)) := (rfl : rowF 4 ts = _)
   have Om := O.max
   have Of := O.fits
   unfold maxLen at Om
   have m3 := bat N g3
   obtain ⟨k0, k1, k2, _, _⟩ := V1.below N
   by_cases hq : 2 ≤ (ts.length : Int) ∧ (ts.length : Int) ≤ 60
   ·have hq1 : ¬ ((ts.length : Int) < 2) := by omega
    have hq2 : ¬ (60 < (ts.length : Int)) := by omega
    replace HX : Hid (rowF 4 ts = rowBad 4 ts ts.length) := by
     show _ = _
     rw [HX.out, inB_true.2 hq]
     rfl
    have hs6 : ts.length ≤ 60 := by omega
    go_wp2
    clear m3 k0 k1 k2
    go_loopw [47] (fun s47 wi => ∃ i : Nat, i ≤ ts.length ∧ s47 = .int .i64 i ∧ Hid (rowBad 4 ts i = false) ∧ Below W.heap.size W wi) (fun s47 _ => ts.length - (intOf s47).toNat)
    case atStart => exact ⟨0, Nat.zero_le _, rfl, rfl, N⟩
    case round =>
     clear N
     obtain ⟨i, hi, rfl, M, N⟩ := hrel
     rename World => wi
     by_cases hli : i < ts.length
     ·obtain ⟨b3, o3, rfl, tc⟩ := O.cells (by intro e; simp [e] at hli)
      obtain ⟨t0, t1⟩ := tc i hli
      have HT2 : Hid (ptBad 4 ts i = true → formB 4 rs = false) := fun q => HT.out (rowF_found hli q)
      have HF2 : Hid (ptBad 4 ts i = false → rowBad 4 ts (i + 1) = false) := fun q => rowBad_step M.out q
      have HP : Hid (ptBad 4 ts i = (!ptOk (ptA ts i).1 (ptA ts i).2 || sameI 4 ts i)) := ptBad_parts 4 ts i
      clear M tc
      rw [show (ts[i]?.getD (0, 0)) = ptA ts i from rfl] at t0 t1
      generalize (ptA ts i).1 = x at *
      generalize (ptA ts i).2 = y at *
      replace t0 := bat N t0
      replace t1 := bat N t1
      have bn := below1 wi (.cells #[.int .i64 x, .int .i64 y] 25)
      replace N := N.trans (bn.mono N.size)
      clear bn
      go_wp2_with fail
      generalize wi.alloc (.cells #[.int .i64 x, .int .i64 y] 25) = W3 at *
      refine (ptWrong_any x y _).mono ?_
      rintro e w5 ⟨rfl, hb⟩
      replace N := N.trans (hb.mono N.size)
      clear hb t0 t1
      cases hp : ptOk x y
      ·have F : Hid (formB 4 rs = false) := HT2.out (by rw [HP.out, hp]; rfl)
       have RB := V0.below N
       have RN := B0.trans (N.mono B0.size)
       clear HP HT2 HF2 HF HX HB HT
       rw [Bool.not_false]
       have RC := Box3.chain RN RB (.int .i64 (1)) (.int .i64 (j)) (.int .i64 (i))
       obtain ⟨r0, r1, r2⟩ := RB.reads (.int .i64 (1)) (.int .i64 (j)) (.int .i64 (i))
       obtain ⟨o0, o1, o2, of, _⟩ := id RB
       go_wp2
       refine bodyPost_ret (v := .agg #[.int .i64 (1), .int .i64 (j), .int .i64 (i)]) (by simp [results, Tryz.results75, go_sem, r0, r1, r2]) rfl ?_
       first
       | exact ⟨_, _, _, rfl, (by show _ = _; rw [F.out]; rfl), RC⟩
       | exact ⟨_, ⟨_, _, rfl⟩, (by show _ = _; rw [F.out]; rfl), RC⟩
      ·rw [Bool.not_true]
       go_wp2_with fail
       refine (sameAhead4 _ _ _ ts i _ (O.below N) hli).mono ?_
       rintro e w6 ⟨rfl, hb⟩
       replace N := N.trans (hb.mono N.size)
       clear hb
       cases hsm : sameI 4 ts i
       ·have T' := HF2.out (by rw [HP.out, hp, hsm]; rfl)
        clear HP HT2 HF2
        go_wp2
        go_roundw
        case rel => exact ⟨i + 1, by omega, by go_num, T', N⟩
        case measure => simp [intOf]; omega
       ·have F : Hid (formB 4 rs = false) := HT2.out (by rw [HP.out, hp, hsm]; rfl)
        have RB := V0.below N
        have RN := B0.trans (N.mono B0.size)
        clear HP HT2 HF2 HF HX HB HT
        have RC := Box3.chain RN RB (.int .i64 (1)) (.int .i64 (j)) (.int .i64 (i))
        obtain ⟨r0, r1, r2⟩ := RB.reads (.int .i64 (1)) (.int .i64 (j)) (.int .i64 (i))
        obtain ⟨o0, o1, o2, of, _⟩ := id RB
        go_wp2
        refine bodyPost_ret (v := .agg #[.int .i64 (1), .int .i64 (j), .int .i64 (i)]) (by simp [results, Tryz.results75, go_sem, r0, r1, r2]) rfl ?_
        first
        | exact ⟨_, _, _, rfl, (by show _ = _; rw [F.out]; rfl), RC⟩
        | exact ⟨_, ⟨_, _, rfl⟩, (by show _ = _; rw [F.out]; rfl), RC⟩
     ·obtain rfl : i = ts.length := by omega
      have T' := HF.out (HX.out.trans M.out)
      clear HT HF HX
      go_wp2
      go_roundw
      case rel => exact ⟨j + 1, by omega, by go_num, T', N⟩
      case measure => simp [intOf]; omega
   ·have F : Hid (formB 4 rs = false) := HT.out (by
     rw [HX.out]
     cases q : inB ts.length 2 60
     ·rfl
     ·exact absurd (inB_true.1 q) hq)
    have RB := V0.below N
    have RN := B0.trans (N.mono B0.size)
    clear HX HB HT HF
    by_cases hq1 : (ts.length : Int) < 2
    ·skip
     have RC := Box3.chain RN RB (.int .i64 (1)) (.int .i64 (j)) (.int .i64 (0))
     obtain ⟨r0, r1, r2⟩ := RB.reads (.int .i64 (1)) (.int .i64 (j)) (.int .i64 (0))
     obtain ⟨o0, o1, o2, of, _⟩ := id RB
     go_wp2
     refine bodyPost_ret (v := .agg #[.int .i64 (1), .int .i64 (j), .int .i64 (0)]) (by simp [results, Tryz.results75, go_sem, r0, r1, r2]) rfl ?_
     first
     | exact ⟨_, _, _, rfl, (by show _ = _; rw [F.out]; rfl), RC⟩
     | exact ⟨_, ⟨_, _, rfl⟩, (by show _ = _; rw [F.out]; rfl), RC⟩
    ·have hq2 : 60 < (ts.length : Int) := by omega
     have RC := Box3.chain RN RB (.int .i64 (1)) (.int .i64 (j)) (.int .i64 (0))
     obtain ⟨r0, r1, r2⟩ := RB.reads (.int .i64 (1)) (.int .i64 (j)) (.int .i64 (0))
     obtain ⟨o0, o1, o2, of, _⟩ := id RB
     go_wp2
     refine bodyPost_ret (v := .agg #[.int .i64 (1), .int .i64 (j), .int .i64 (0)]) (by simp [results, Tryz.results75, go_sem, r0, r1, r2]) rfl ?_
     first
     | exact ⟨_, _, _, rfl, (by show _ = _; rw [F.out]; rfl), RC⟩
     | exact ⟨_, ⟨_, _, rfl⟩, (by show _ = _; rw [F.out]; rfl), RC⟩
  ·obtain rfl : j = rs.length := by omega
   have F : Hid (formB 4 rs = true) := by
    show _ = _
    rw [HB.out, T.out]
    rfl
   have RB := V0.below N
   have RN := B0.trans (N.mono B0.size)
   clear HB T
   have RC := Box3.chain RN RB (.int .i64 (0)) (.int .i64 (0)) (.int .i64 (0))
   obtain ⟨r0, r1, r2⟩ := RB.reads (.int .i64 (0)) (.int .i64 (0)) (.int .i64 (0))
   obtain ⟨o0, o1, o2, of, _⟩ := id RB
   go_wp2
   refine bodyPost_ret (v := .agg #[.int .i64 (0), .int .i64 (0), .int .i64 (0)]) (by simp [results, Tryz.results75, go_sem, r0, r1, r2]) rfl ?_
   first
   | exact ⟨_, _, _, rfl, (by show _ = _; rw [F.out]; rfl), RC⟩
   | exact ⟨_, ⟨_, _, rfl⟩, (by show _ = _; rw [F.out]; rfl), RC⟩

set_option maxRecDepth 20000 in
set_option maxHeartbeats 4000000 in
theorem formFault5 (a : Option Addr) (c : Nat) (rs : List (List (Int × Int))) (w : World) (h : SeesS w a c rs) :
  Calls Tryz.prog 75 #[.iface 130 (.agg #[.slice a rs.length c])] w fun e w' => ∃ z x y : Int, e = .returned (.agg #[.int .i64 z, .int .i64 x, .int .i64 y]) ∧ Hid (decide (z = 0) = formB 5 rs) ∧ Below w.heap.size w w' := by
 have hm := h.max
 have hf := h.fits
 unfold maxLen at hm
 have B0 := below1 w (.cells #[.int .i64 0, .int .i64 0, .int .i64 0] 104)
 have V0 := Box3.new w (lo := w.heap.size) (Nat.le_refl _) (.int .i64 0) (.int .i64 0) (.int .i64 0) 104
 have HB : Hid (formB 5 rs = !((decide (rs.length = 0) || decide (12 < (rs.length : Int))) || rowsBad 5 rs rs.length)) := formB_kind (by omega) rs
 go_enter Tryz.func75, Tryz.ntmps75
 go_wp2_with fail
 generalize w.alloc (.cells #[.int .i64 0, .int .i64 0, .int .i64 0] 104) = W0 at *
 refine (points_any _ _).mono ?_
 rintro e w0 ⟨rfl, rfl⟩
 go_wp2_with fail
 refine (limitsOf_any 5 (by omega) _ _).mono ?_
 rintro e w1 ⟨rfl, hb⟩
 rw [show limR 5 = 12 from rfl, show leastN 5 = 3 from rfl, show mostN 5 = 60 from rfl]
 replace V0 := V0.below hb
 replace B0 := B0.trans (hb.mono B0.size)
 clear hb
 have bn := below1 w1 (.cells #[.int .i64 12, .int .i64 3, .int .i64 60] 156)
 have V1 := Box3.new w1 (lo := w.heap.size) B0.size (.int .i64 12) (.int .i64 3) (.int .i64 60) 156
 replace V0 := V0.below bn
 replace B0 := B0.trans (bn.mono B0.size)
 clear bn
 go_upto_region 2 with fail
 generalize w1.alloc (.cells #[.int .i64 12, .int .i64 3, .int .i64 60] 156) = W at *
 generalize w1.heap.size = q1 at *
 by_cases hz : rs.length = 0
 ·obtain rfl : rs = [] := List.eq_nil_of_length_eq_zero hz
  have F : Hid (formB 5 [] = false) := by
   show _ = _
   rw [HB.out]
   rfl
  have RB := V0
  have RN := B0
  clear HB V0 B0
  have RC := Box3.chain RN RB (.int .i64 (1)) (.int .i64 (0)) (.int .i64 (0))
  obtain ⟨r0, r1, r2⟩ := RB.reads (.int .i64 (1)) (.int .i64 (0)) (.int .i64 (0))
  obtain ⟨o0, o1, o2, of, _⟩ := id RB
  go_wp2
  refine bodyPost_ret (v := .agg #[.int .i64 (1), .int .i64 (0), .int .i64 (0)]) (by simp [results, Tryz.results75, go_sem, r0, r1, r2]) rfl ?_
  first
  | exact ⟨_, _, _, rfl, (by show _ = _; rw [F.out]; rfl), RC⟩
  | exact ⟨_, ⟨_, _, rfl⟩, (by show _ = _; rw [F.out]; rfl), RC⟩
 have hz1 : ((rs.length : Int) == 0) = false := by rw [beq_eq_false_iff_ne]; omega
 have hne : rs ≠ [] := by intro e; simp [e] at hz
 by_cases hL : 12 < (rs.length : Int)
 ·have F : Hid (formB 5 rs = false) := by
   show _ = _
   rw [HB.out, decide_eq_true hL, Bool.or_true, Bool.true_or]
   rfl
  obtain ⟨k0, k1, k2, _, _⟩ := id V1
  have RB := V0
  have RN := B0
  clear HB V0 B0
  have RC := Box3.chain RN RB (.int .i64 (1)) (.int .i64 (0)) (.int .i64 (0))
  obtain ⟨r0, r1, r2⟩ := RB.reads (.int .i64 (1)) (.int .i64 (0)) (.int .i64 (0))
  obtain ⟨o0, o1, o2, of, _⟩ := id RB
  go_wp2
  refine bodyPost_ret (v := .agg #[.int .i64 (1), .int .i64 (0), .int .i64 (0)]) (by simp [results, Tryz.results75, go_sem, r0, r1, r2]) rfl ?_
  first
  | exact ⟨_, _, _, rfl, (by show _ = _; rw [F.out]; rfl), RC⟩
  | exact ⟨_, ⟨_, _, rfl⟩, (by show _ = _; rw [F.out]; rfl), RC⟩
 replace HB : Hid (formB 5 rs = !rowsBad 5 rs rs.length) := by
  show _ = _
  rw [HB.out, decide_eq_false hL, decide_eq_false hz]
  rfl
 have SW := (h.below B0)
 obtain ⟨k0, k1, k2, _, _⟩ := id V1
 go_wp2
 clear k0 k1 k2
 go_loopw [26] (fun s26 wr => ∃ j : Nat, j ≤ rs.length ∧ s26 = .int .i64 j ∧ Hid (rowsBad 5 rs j = false) ∧ Below W.heap.size W wr) (fun s26 _ => rs.length - (intOf s26).toNat)
 case atStart => exact ⟨0, Nat.zero_le _, rfl, rfl, Below.refl _ _⟩
 case round =>
  obtain ⟨j, hj, rfl, T, N⟩ := hrel
  rename World => wr
  by_cases hlt : j < rs.length
  ·obtain ⟨b, off, rfl, hc⟩ := SW.cells hne
   obtain ⟨a3, c3, g3, O⟩ := hc j hlt
   have HT : Hid (rowF 5 (rowA rs j) = true → formB 5 rs = false) := fun q => by rw [HB.out, rows_found hlt q]; rfl
   have HF : Hid (rowF 5 (rowA rs j) = false → rowsBad 5 rs (j + 1) = false) := fun q => rowsBad_step T.out q
   clear T hc
   generalize rowA rs j = ts at *
   have HX : Hid (rowF 5 ts = (!inB ts.length 3 60 || rowBad 5 ts ts.length)) := (rfl : rowF 5 ts = _)
   have Om := O.max
   have Of := O.fits
   unfold maxLen at Om
   have m3 := bat N g3
   obtain ⟨k0, k1, k2, _, _⟩ := V1.below N
   by_cases hq : 3 ≤ (ts.length : Int) ∧ (ts.length : Int) ≤ 60
   ·have hq1 : ¬ ((ts.length : Int) < 3) := by omega
    have hq2 : ¬ (60 < (ts.length : Int)) := by omega
    replace HX : Hid (rowF 5 ts = rowBad 5 ts ts.length) := by
     show _ = _
     rw [HX.out, inB_true.2 hq]
     rfl
    have hs6 : ts.length ≤ 60 := by omega
    go_wp2
    clear m3 k0 k1 k2
    go_loopw [47] (fun s47 wi => ∃ i : Nat, i ≤ ts.length ∧ s47 = .int .i64 i ∧ Hid (rowBad 5 ts i = false) ∧ Below W.heap.size W wi) (fun s47 _ => ts.length - (intOf s47).toNat)
    case atStart => exact ⟨0, Nat.zero_le _, rfl, rfl, N⟩
    case round =>
     clear N
     obtain ⟨i, hi, rfl, M, N⟩ := hrel
     rename World => wi
     by_cases hli : i < ts.length
     ·obtain ⟨b3, o3, rfl, tc⟩ := O.cells (by intro e; simp [e] at hli)
      obtain ⟨t0, t1⟩ := tc i hli
      have HT2 : Hid (ptBad 5 ts i = true → formB 5 rs = false) := fun q => HT.out (rowF_found hli q)
      have HF2 : Hid (ptBad 5 ts i = false → rowBad 5 ts (i + 1) = false) := fun q => rowBad_step M.out q
      have HP : Hid (ptBad 5 ts i = (!ptOk (ptA ts i).1 (ptA ts i).2 || sameI 5 ts i)) := ptBad_parts 5 ts i
      clear M tc
      rw [show (ts[i]?.getD (0, 0)) = ptA ts i from rfl] at t0 t1
      generalize (ptA ts i).1 = x at *
      generalize (ptA ts i).2 = y at *
      replace t0 := bat N t0
      replace t1 := bat N t1
      have bn := below1 wi (.cells #[.int .i64 x, .int .i64 y] 25)
      replace N := N.trans (bn.mono N.size)
      clear bn
      go_wp2_with fail
      generalize wi.alloc (.cells #[.int .i64 x, .int .i64 y] 25) = W3 at *
      refine (ptWrong_any x y _).mono ?_
      rintro e w5 ⟨rfl, hb⟩
      replace N := N.trans (hb.mono N.size)
      clear hb t0 t1
      cases hp : ptOk x y
      ·have F : Hid (formB 5 rs = false) := HT2.out (by rw [HP.out, hp]; rfl)
       have RB := V0.below N
       have RN := B0.trans (N.mono B0.size)
       clear HP HT2 HF2 HF HX HB HT
       rw [Bool.not_false]
       have RC := Box3.chain RN RB (.int .i64 (1)) (.int .i64 (j)) (.int .i64 (i))
       obtain ⟨r0, r1, r2⟩ := RB.reads (.int .i64 (1)) (.int .i64 (j)) (.int .i64 (i))
       obtain ⟨o0, o1, o2, of, _⟩ := id RB
       go_wp2
       refine bodyPost_ret (v := .agg #[.int .i64 (1), .int .i64 (j), .int .i64 (i)]) (by simp [results, Tryz.results75, go_sem, r0, r1, r2]) rfl ?_
       first
       | exact ⟨_, _, _, rfl, (by show _ = _; rw [F.out]; rfl), RC⟩
       | exact ⟨_, ⟨_, _, rfl⟩, (by show _ = _; rw [F.out]; rfl), RC⟩
      ·rw [Bool.not_true]
       go_wp2_with fail
       refine (sameAhead5 _ _ _ ts i _ (O.below N) hli hs6).mono ?_
       rintro e w6 ⟨rfl, hb⟩
       replace N := N.trans (hb.mono N.size)
       clear hb
       cases hsm : sameI 5 ts i
       ·have T' := HF2.out (by rw [HP.out, hp, hsm]; rfl)
        clear HP HT2 HF2
        go_wp2
        go_roundw
        case rel => exact ⟨i + 1, by omega, by go_num, T', N⟩
        case measure => simp [intOf]; omega
       ·have F : Hid (formB 5 rs = false) := HT2.out (by rw [HP.out, hp, hsm]; rfl)
        have RB := V0.below N
        have RN := B0.trans (N.mono B0.size)
        clear HP HT2 HF2 HF HX HB HT
        have RC := Box3.chain RN RB (.int .i64 (1)) (.int .i64 (j)) (.int .i64 (i))
        obtain ⟨r0, r1, r2⟩ := RB.reads (.int .i64 (1)) (.int .i64 (j)) (.int .i64 (i))
        obtain ⟨o0, o1, o2, of, _⟩ := id RB
        go_wp2
        refine bodyPost_ret (v := .agg #[.int .i64 (1), .int .i64 (j), .int .i64 (i)]) (by simp [results, Tryz.results75, go_sem, r0, r1, r2]) rfl ?_
        first
        | exact ⟨_, _, _, rfl, (by show _ = _; rw [F.out]; rfl), RC⟩
        | exact ⟨_, ⟨_, _, rfl⟩, (by show _ = _; rw [F.out]; rfl), RC⟩
     ·obtain rfl : i = ts.length := by omega
      have T' := HF.out (HX.out.trans M.out)
      clear HT HF HX
      go_wp2
      go_roundw
      case rel => exact ⟨j + 1, by omega, by go_num, T', N⟩
      case measure => simp [intOf]; omega
   ·have F : Hid (formB 5 rs = false) := HT.out (by
     rw [HX.out]
     cases q : inB ts.length 3 60
     ·rfl
     ·exact absurd (inB_true.1 q) hq)
    have RB := V0.below N
    have RN := B0.trans (N.mono B0.size)
    clear HX HB HT HF
    by_cases hq1 : (ts.length : Int) < 3
    ·skip
     have RC := Box3.chain RN RB (.int .i64 (1)) (.int .i64 (j)) (.int .i64 (0))
     obtain ⟨r0, r1, r2⟩ := RB.reads (.int .i64 (1)) (.int .i64 (j)) (.int .i64 (0))
     obtain ⟨o0, o1, o2, of, _⟩ := id RB
     go_wp2
     refine bodyPost_ret (v := .agg #[.int .i64 (1), .int .i64 (j), .int .i64 (0)]) (by simp [results, Tryz.results75, go_sem, r0, r1, r2]) rfl ?_
     first
     | exact ⟨_, _, _, rfl, (by show _ = _; rw [F.out]; rfl), RC⟩
     | exact ⟨_, ⟨_, _, rfl⟩, (by show _ = _; rw [F.out]; rfl), RC⟩
    ·have hq2 : 60 < (ts.length : Int) := by omega
     have RC := Box3.chain RN RB (.int .i64 (1)) (.int .i64 (j)) (.int .i64 (0))
     obtain ⟨r0, r1, r2⟩ := RB.reads (.int .i64 (1)) (.int .i64 (j)) (.int .i64 (0))
     obtain ⟨o0, o1, o2, of, _⟩ := id RB
     go_wp2
     refine bodyPost_ret (v := .agg #[.int .i64 (1), .int .i64 (j), .int .i64 (0)]) (by simp [results, Tryz.results75, go_sem, r0, r1, r2]) rfl ?_
     first
     | exact ⟨_, _, _, rfl, (by show _ = _; rw [F.out]; rfl), RC⟩
     | exact ⟨_, ⟨_, _, rfl⟩, (by show _ = _; rw [F.out]; rfl), RC⟩
  ·obtain rfl : j = rs.length := by omega
   have F : Hid (formB 5 rs = true) := by
    show _ = _
    rw [HB.out, T.out]
    rfl
   have RB := V0.below N
   have RN := B0.trans (N.mono B0.size)
   clear HB T
   have RC := Box3.chain RN RB (.int .i64 (0)) (.int .i64 (0)) (.int .i64 (0))
   obtain ⟨r0, r1, r2⟩ := RB.reads (.int .i64 (0)) (.int .i64 (0)) (.int .i64 (0))
   obtain ⟨o0, o1, o2, of, _⟩ := id RB
   go_wp2
   refine bodyPost_ret (v := .agg #[.int .i64 (0), .int .i64 (0), .int .i64 (0)]) (by simp [results, Tryz.results75, go_sem, r0, r1, r2]) rfl ?_
   first
   | exact ⟨_, _, _, rfl, (by show _ = _; rw [F.out]; rfl), RC⟩
   | exact ⟨_, ⟨_, _, rfl⟩, (by show _ = _; rw [F.out]; rfl), RC⟩

end Go.Proofs.YtinlomcaagdbiaaGreat
