/- Whether a shape has the form of its kind, of the specification (l5Form). -/
import Derived.Test.YtinlomcaagdbiaaGreatFormD
import Derived.Test.YtinlomcaagdbiaaGreatSeg
import Derived.Deep.DeepCutAuto
namespace Go.Proofs.YtinlomcaagdbiaaGreat
open Go.RowKit

set_option maxRecDepth 20000 in
set_option maxHeartbeats 20000000 in
theorem l5Form_any (n : Int) (a : Option Addr) (c : Nat) (rs : List (List (Int × Int))) (w : World) (h : SeesS w a c rs) :
  Calls Tryz.prog 67 #[.agg #[.int .i64 n, .slice a rs.length c]] w fun e w' => ∃ z x y : Int, e = .returned (.tuple #[.int .i64 z, .int .i64 x, .int .i64 y]) ∧ Hid (decide (z = 0) = formB n rs) ∧ Below w.heap.size w w' := by
 have hm := h.max
 have hf := h.fits
 unfold maxLen at hm
 have B0 := below1 w (.cells #[.int .i64 n, .slice a rs.length c] 50)
 have V0 := Box2.new w (lo := w.heap.size) (Nat.le_refl _) (.int .i64 n) (.slice a rs.length c) 50
 have SW := h.below B0
 obtain ⟨k0, k1, _, _⟩ := id V0
 clear V0 h
 obtain ⟨le, hle⟩ : ∃ z, Hid (leastN n = z) := ⟨_, rfl⟩
 obtain ⟨mo, hmo⟩ : ∃ z, Hid (mostN n = z) := ⟨_, rfl⟩
 obtain ⟨sv, hsv⟩ : ∃ z, Hid (sevN n = z) := ⟨_, rfl⟩
 have HB : Hid (formB n rs = !(decide (mo < 0) || (!inB rs.length 1 12 || ((!sv && decide (1 < rs.length)) || rowsBad n rs rs.length)))) := by
  show _ = _
  unfold formB
  rw [hmo.out, hsv.out]
 have HR : Hid (∀ ps, rowF n ps = (!inB ps.length le mo || rowBad n ps ps.length)) := by
  show ∀ ps, _ = _
  intro ps
  unfold rowF
  rw [hle.out, hmo.out]
 go_enter Tryz.func67, Tryz.ntmps67
 go_wp2_with fail
 generalize w.alloc (.cells #[.int .i64 n, .slice a rs.length c] 50) = W at *
 refine (l5Least_any n _).mono ?_
 rintro e w1 ⟨rfl, rfl⟩
 rw [hle.out, hmo.out, hsv.out]
 clear hle hmo hsv
 have N : Below w1.heap.size w1 w1 := Below.refl _ _
 by_cases hm0 : mo < 0
 ·have F : Hid (formB n rs = false) := by
   show _ = _
   rw [HB.out, decide_eq_true hm0]
   rfl
  clear HB HR
  go_wp2
  exact bodyPost_ret (v := .tuple #[.int .i64 _, .int .i64 _, .int .i64 _]) (by simp [results, Tryz.results67, go_sem]; exact ⟨rfl, rfl, rfl⟩) rfl ⟨_, _, _, rfl, (by show _ = _; rw [F.out]; rfl), B0.trans (N.mono B0.size)⟩
 replace HB : Hid (formB n rs = !(!inB rs.length 1 12 || ((!sv && decide (1 < rs.length)) || rowsBad n rs rs.length))) := by
  show _ = _
  rw [HB.out, decide_eq_false hm0]
  rfl
 go_wp2_with fail
 refine (l1In_any _ _ _ _).mono ?_
 rintro e W ⟨rfl, rfl⟩
 cases hq : inB rs.length 1 12
 ·have F : Hid (formB n rs = false) := by
   show _ = _
   rw [HB.out, hq]
   rfl
  clear HB HR
  go_wp2
  exact bodyPost_ret (v := .tuple #[.int .i64 _, .int .i64 _, .int .i64 _]) (by simp [results, Tryz.results67, go_sem]; exact ⟨rfl, rfl, rfl⟩) rfl ⟨_, _, _, rfl, (by show _ = _; rw [F.out]; rfl), B0.trans (N.mono B0.size)⟩
 replace HB : Hid (formB n rs = !((!sv && decide (1 < rs.length)) || rowsBad n rs rs.length)) := by
  show _ = _
  rw [HB.out, hq]
  rfl
 clear hq
 by_cases hD : sv = false ∧ 1 < rs.length
 ·obtain ⟨rfl, h1⟩ := hD
  have F : Hid (formB n rs = false) := by
   show _ = _
   rw [HB.out, decide_eq_true h1]
   rfl
  clear HB HR
  go_wp2
  exact bodyPost_ret (v := .tuple #[.int .i64 _, .int .i64 _, .int .i64 _]) (by simp [results, Tryz.results67, go_sem]; exact ⟨rfl, rfl, rfl⟩) rfl ⟨_, _, _, rfl, (by show _ = _; rw [F.out]; rfl), B0.trans (N.mono B0.size)⟩
 have D : sv = true ∨ (sv = false ∧ rs.length ≤ 1) := by
  cases sv
  ·exact Or.inr ⟨rfl, by simpa using hD⟩
  ·exact Or.inl rfl
 replace HB : Hid (formB n rs = !rowsBad n rs rs.length) := by
  show _ = _
  rw [HB.out]
  rcases D with rfl | ⟨rfl, h1⟩
  ·rfl
  ·rw [decide_eq_false (by omega)]
   rfl
 clear hD
 rcases D with rfl | ⟨rfl, h1⟩
 all_goals
  go_wp2
  go_loopw [8, 9, 10, 11] (fun s8 _ _ _ wr => ∃ j : Nat, j ≤ rs.length ∧ s8 = .int .i64 j ∧ Hid (rowsBad n rs j = false) ∧ Below W.heap.size W wr) (fun s8 _ _ _ _ => rs.length - (intOf s8).toNat)
  case atStart => exact ⟨0, Nat.zero_le _, rfl, rfl, N⟩
  case round =>
   clear N
   obtain ⟨j, hj, rfl, T, N⟩ := hrel
   rename World => wr
   have m1 := bat N k1
   by_cases hlt : j < rs.length
   ·obtain ⟨b, off, rfl, hc⟩ := SW.cells (by intro e; simp [e] at hlt)
    obtain ⟨a3, c3, g3, O⟩ := hc j hlt
    have HT : Hid (rowF n (rowA rs j) = true → formB n rs = false) := fun q => by rw [HB.out, rows_found hlt q]; rfl
    have HF : Hid (rowF n (rowA rs j) = false → rowsBad n rs (j + 1) = false) := fun q => rowsBad_step T.out q
    clear T hc
    generalize rowA rs j = ts at *
    have HX := HR.out ts
    have Om := O.max
    have Of := O.fits
    unfold maxLen at Om
    have m3 := bat N g3
    go_wp2_with fail
    refine (l1In_any _ _ _ _).mono ?_
    rintro e wx ⟨rfl, rfl⟩
    cases hq2 : inB ts.length le mo
    ·have F : Hid (formB n rs = false) := HT.out (by rw [HX, hq2]; rfl)
     clear HB HR HX HT HF
     go_wp2
     exact bodyPost_ret (v := .tuple #[.int .i64 _, .int .i64 _, .int .i64 _]) (by simp [results, Tryz.results67, go_sem]; exact ⟨rfl, rfl, rfl⟩) rfl ⟨_, _, _, rfl, (by show _ = _; rw [F.out]; rfl), B0.trans (N.mono B0.size)⟩
    rw [hq2] at HX
    replace HX : Hid (rowF n ts = rowBad n ts ts.length) := HX
    clear hq2
    go_wp2
    go_loopw [10, 11] (fun s10 _ wi => ∃ i : Nat, i ≤ ts.length ∧ s10 = .int .i64 i ∧ Hid (rowBad n ts i = false) ∧ Below W.heap.size W wi) (fun s10 _ _ => ts.length - (intOf s10).toNat)
    case atStart => exact ⟨0, Nat.zero_le _, rfl, rfl, N⟩
    case round =>
     clear N m1 m3
     obtain ⟨i, hi, rfl, M, N⟩ := hrel
     rename World => wi
     by_cases hli : i < ts.length
     ·obtain ⟨b3, o3, rfl, tc⟩ := O.cells (by intro e; simp [e] at hli)
      obtain ⟨t0, t1⟩ := tc i hli
      have HT2 : Hid (ptBad n ts i = true → formB n rs = false) := fun q => HT.out (rowF_found hli q)
      have HF2 : Hid (ptBad n ts i = false → rowBad n ts (i + 1) = false) := fun q => rowBad_step M.out q
      clear M HT
      obtain ⟨x, hx⟩ : ∃ z, Hid ((ptA ts i).1 = z) := ⟨_, rfl⟩
      obtain ⟨y, hy⟩ : ∃ z, Hid ((ptA ts i).2 = z) := ⟨_, rfl⟩
      rw [show (ts[i]?.getD (0, 0)).1 = x from hx.out] at t0
      rw [show (ts[i]?.getD (0, 0)).2 = y from hy.out] at t1
      by_cases hi0 : i = 0
      ·subst hi0
       simp only [Nat.zero_mul, Nat.add_zero] at t0 t1
       rw [show ((0 : Nat) : Int) = 0 from rfl]
       by_cases hk5 : n = 5
       ·obtain ⟨u, hu⟩ : ∃ z, Hid ((ptA ts (ts.length - 1)).1 = z) := ⟨_, rfl⟩
        obtain ⟨v, hv⟩ : ∃ z, Hid ((ptA ts (ts.length - 1)).2 = z) := ⟨_, rfl⟩
        obtain ⟨u0, u1⟩ := tc (ts.length - 1) (by omega)
        rw [show (ts[ts.length - 1]?.getD (0, 0)).1 = u from hu.out] at u0
        rw [show (ts[ts.length - 1]?.getD (0, 0)).2 = v from hv.out] at u1
        have HS : Hid (sameAt n ts 0 = (decide (x = u) && decide (y = v))) := by
         show _ = _
         simp only [sameAt]
         rw [hx.out, hy.out, hu.out, hv.out, decide_eq_true hk5]
         rfl
        have HQ : Hid (ptBad n ts 0 = (!ptOk x y || (sameAt n ts 0 && decide (3 ≤ n)))) := by
         show _ = _
         unfold ptBad
         rw [hx.out, hy.out]
        clear hx hy hu hv tc
        obtain ⟨l, hl⟩ : ∃ l, Hid (ts.length = l + 1) := ⟨ts.length - 1, (by omega : ts.length = ts.length - 1 + 1)⟩
        subst hk5
        rw [show ts.length - 1 = l by rw [hl.out]; rfl] at u0 u1
        have hwl : IntKind.i64.wrap (l : Int) = l := by have := hl.out; rw [IntKind.wrap_i64]; omega
        rw [hl.out]
        have hll : (l : Int) < (l : Int) + 1 := by omega
        by_cases e1 : x = u
        ·subst e1
         by_cases e2 : y = v
         ·subst e2
          have HP : Hid (ptBad 5 ts 0 = (!ptOk x y || (true && decide (3 ≤ (5 : Int))))) := by show _ = _; rw [HQ.out, HS.out]; simp
          clear HS HQ
          go_wp2_with fail
          replace N := N.drew
          refine wp_region_held_drew (S := Below W.heap.size W) (by kernel_rfl) N (fun hHeld => ?_)
          clear hHeld
          refine takeA (i := 0) (h := ?_)
          refine takeA (i := 1) (h := ?_)
          refine takeA (i := 2) (h := ?_)
          refine takeN (i := 3) (by simp only [List.getElem?_toArray, List.getElem?_cons_succ, List.getElem?_cons_zero]; exact rfl) (by kernel_rfl) (by kernel_rfl) (by kernel_rfl) (by exact fun _ _ _ h => h) (by rfl) (by assumption) ?_
          try simp only [Act.put, pA, pB, pC]
          refine takeN (i := 4) (by simp only [List.getElem?_toArray, List.getElem?_cons_succ, List.getElem?_cons_zero]; exact rfl) (by kernel_rfl) (by kernel_rfl) (by kernel_rfl) (by exact fun _ _ _ h => h) (by rfl) (by assumption) ?_
          try simp only [Act.put, pA, pB, pC]
          refine takeN (i := 5) (by simp only [List.getElem?_toArray, List.getElem?_cons_succ, List.getElem?_cons_zero]; exact rfl) (by kernel_rfl) (by kernel_rfl) (by kernel_rfl) (by exact fun _ _ _ h => h) (by rfl) (by assumption) ?_
          try simp only [Act.put, pA, pB, pC]
          refine takeN (i := 6) (by simp only [List.getElem?_toArray, List.getElem?_cons_succ, List.getElem?_cons_zero]; exact rfl) (by kernel_rfl) (by kernel_rfl) (by kernel_rfl) (by exact fun _ _ _ h => h) (by rfl) (by assumption) ?_
          try simp only [Act.put, pA, pB, pC]
          refine takeN (i := 7) (by simp only [List.getElem?_toArray, List.getElem?_cons_succ, List.getElem?_cons_zero]; exact rfl) (by kernel_rfl) (by kernel_rfl) (by kernel_rfl) (by exact fun _ _ _ h => h) (by rfl) (by assumption) ?_
          try simp only [Act.put, pA, pB, pC]
          refine takeN (i := 8) (by simp only [List.getElem?_toArray, List.getElem?_cons_succ, List.getElem?_cons_zero]; exact rfl) (by kernel_rfl) (by kernel_rfl) (by kernel_rfl) (by exact fun _ _ _ h => h) (by rfl) (by assumption) ?_
          try simp only [Act.put, pA, pB, pC]
          refine takeN (i := 9) (by simp only [List.getElem?_toArray, List.getElem?_cons_succ, List.getElem?_cons_zero]; exact rfl) (by kernel_rfl) (by kernel_rfl) (by kernel_rfl) (by exact fun _ _ _ h => h) (by rfl) (by assumption) ?_
          try simp only [Act.put, pA, pB, pC]
          refine takeN (i := 10) (by simp only [List.getElem?_toArray, List.getElem?_cons_succ, List.getElem?_cons_zero]; exact rfl) (by kernel_rfl) (by kernel_rfl) (by kernel_rfl) (by exact fun _ _ _ h => h) (by rfl) (by assumption) ?_
          try simp only [Act.put, pA, pB, pC]
          refine takeN (i := 11) (by simp only [List.getElem?_toArray, List.getElem?_cons_succ, List.getElem?_cons_zero]; exact rfl) (by kernel_rfl) (by kernel_rfl) (by kernel_rfl) (by exact fun _ _ _ h => h) (by rfl) (by assumption) ?_
          try simp only [Act.put, pA, pB, pC]
          refine takeN (i := 12) (by simp only [List.getElem?_toArray, List.getElem?_cons_succ, List.getElem?_cons_zero]; exact rfl) (by kernel_rfl) (by kernel_rfl) (by kernel_rfl) (by exact fun _ _ _ h => h) (by rfl) (by assumption) ?_
          try simp only [Act.put, pA, pB, pC]
          refine takeA (i := 13) (h := ?_)
          refine takeA (i := 14) (h := ?_)
          refine takeA (i := 15) (h := ?_)
          refine takeA (i := 16) (h := ?_)
          refine takeA (i := 17) (h := ?_)
          refine takeA (i := 18) (h := ?_)
          refine takeA (i := 19) (hy := by intro wq hSw; have z0 := bat hSw k0; have z1 := bat hSw t0; have z2 := bat hSw t1; have z3 := bat hSw u0; have z4 := bat hSw u1; go_simp <;> with_reducible rfl) (h := ?_)
          refine takeA (i := 20) (h := ?_)
          refine takeA (i := 21) (h := ?_)
          refine takeA (i := 22) (h := ?_)
          refine takeA (i := 23) (h := ?_)
          refine takeA (i := 24) (h := ?_)
          refine takeA (i := 25) (hy := by intro wq hSw; have z0 := bat hSw k0; have z1 := bat hSw t0; have z2 := bat hSw t1; have z3 := bat hSw u0; have z4 := bat hSw u1; go_simp <;> with_reducible rfl) (h := ?_)
          refine takeA (i := 26) (h := ?_)
          refine takeA (i := 27) (h := ?_)
          refine takeA (i := 28) (h := ?_)
          refine takeA (i := 29) (h := ?_)
          refine takeA (i := 30) (h := ?_)
          refine takeA (i := 31) (hy := by intro wq hSw; have z0 := bat hSw k0; have z1 := bat hSw t0; have z2 := bat hSw t1; have z3 := bat hSw u0; have z4 := bat hSw u1; go_simp <;> with_reducible rfl) (h := ?_)
          refine takeA (i := 32) (h := ?_)
          refine takeA (i := 33) (h := ?_)
          refine takeA (i := 34) (h := ?_)
          refine takeA (i := 35) (h := ?_)
          refine wpAnyH_done (by kernel_rfl) ?_ _
          have r0 := bat N t0
          have r1 := bat N t1
          have m0 := bat N k0
          go_wp2_with fail
          refine (specPtOk x y _).mono ?_
          rintro e w5 ⟨rfl, hb⟩
          replace m0 := bat hb m0
          replace N := N.trans (hb.mono N.size)
          clear hb r0 r1
          cases hp : ptOk x y
          ·have F : Hid (formB _ rs = false) := HT2.out (by rw [HP.out, hp]; simp)
           clear HP HT2 HF2 HF HX HB HR
           go_wp2
           exact bodyPost_ret (v := .tuple #[.int .i64 _, .int .i64 _, .int .i64 _]) (by simp [results, Tryz.results67, go_sem]; exact ⟨rfl, rfl, rfl⟩) rfl ⟨_, _, _, rfl, (by show _ = _; rw [F.out]; rfl), B0.trans (N.mono B0.size)⟩
          ·have F : Hid (formB _ rs = false) := HT2.out (by rw [HP.out, hp]; simp)
           clear HP HT2 HF2 HF HX HB HR
           go_wp2
           exact bodyPost_ret (v := .tuple #[.int .i64 _, .int .i64 _, .int .i64 _]) (by simp [results, Tryz.results67, go_sem]; exact ⟨rfl, rfl, rfl⟩) rfl ⟨_, _, _, rfl, (by show _ = _; rw [F.out]; rfl), B0.trans (N.mono B0.size)⟩
         ·have b2 : (y == v) = false := by simp [e2]
          have HP : Hid (ptBad 5 ts 0 = (!ptOk x y || (false && decide (3 ≤ (5 : Int))))) := by show _ = _; rw [HQ.out, HS.out]; simp [e2]
          clear HS HQ
          go_wp2_with fail
          replace N := N.drew
          refine wp_region_held_drew (S := Below W.heap.size W) (by kernel_rfl) N (fun hHeld => ?_)
          clear hHeld
          refine takeA (i := 0) (h := ?_)
          refine takeA (i := 1) (h := ?_)
          refine takeA (i := 2) (h := ?_)
          refine takeN (i := 3) (by simp only [List.getElem?_toArray, List.getElem?_cons_succ, List.getElem?_cons_zero]; exact rfl) (by kernel_rfl) (by kernel_rfl) (by kernel_rfl) (by exact fun _ _ _ h => h) (by rfl) (by assumption) ?_
          try simp only [Act.put, pA, pB, pC]
          refine takeN (i := 4) (by simp only [List.getElem?_toArray, List.getElem?_cons_succ, List.getElem?_cons_zero]; exact rfl) (by kernel_rfl) (by kernel_rfl) (by kernel_rfl) (by exact fun _ _ _ h => h) (by rfl) (by assumption) ?_
          try simp only [Act.put, pA, pB, pC]
          refine takeN (i := 5) (by simp only [List.getElem?_toArray, List.getElem?_cons_succ, List.getElem?_cons_zero]; exact rfl) (by kernel_rfl) (by kernel_rfl) (by kernel_rfl) (by exact fun _ _ _ h => h) (by rfl) (by assumption) ?_
          try simp only [Act.put, pA, pB, pC]
          refine takeN (i := 6) (by simp only [List.getElem?_toArray, List.getElem?_cons_succ, List.getElem?_cons_zero]; exact rfl) (by kernel_rfl) (by kernel_rfl) (by kernel_rfl) (by exact fun _ _ _ h => h) (by rfl) (by assumption) ?_
          try simp only [Act.put, pA, pB, pC]
          refine takeN (i := 7) (by simp only [List.getElem?_toArray, List.getElem?_cons_succ, List.getElem?_cons_zero]; exact rfl) (by kernel_rfl) (by kernel_rfl) (by kernel_rfl) (by exact fun _ _ _ h => h) (by rfl) (by assumption) ?_
          try simp only [Act.put, pA, pB, pC]
          refine takeN (i := 8) (by simp only [List.getElem?_toArray, List.getElem?_cons_succ, List.getElem?_cons_zero]; exact rfl) (by kernel_rfl) (by kernel_rfl) (by kernel_rfl) (by exact fun _ _ _ h => h) (by rfl) (by assumption) ?_
          try simp only [Act.put, pA, pB, pC]
          refine takeN (i := 9) (by simp only [List.getElem?_toArray, List.getElem?_cons_succ, List.getElem?_cons_zero]; exact rfl) (by kernel_rfl) (by kernel_rfl) (by kernel_rfl) (by exact fun _ _ _ h => h) (by rfl) (by assumption) ?_
          try simp only [Act.put, pA, pB, pC]
          refine takeN (i := 10) (by simp only [List.getElem?_toArray, List.getElem?_cons_succ, List.getElem?_cons_zero]; exact rfl) (by kernel_rfl) (by kernel_rfl) (by kernel_rfl) (by exact fun _ _ _ h => h) (by rfl) (by assumption) ?_
          try simp only [Act.put, pA, pB, pC]
          refine takeN (i := 11) (by simp only [List.getElem?_toArray, List.getElem?_cons_succ, List.getElem?_cons_zero]; exact rfl) (by kernel_rfl) (by kernel_rfl) (by kernel_rfl) (by exact fun _ _ _ h => h) (by rfl) (by assumption) ?_
          try simp only [Act.put, pA, pB, pC]
          refine takeN (i := 12) (by simp only [List.getElem?_toArray, List.getElem?_cons_succ, List.getElem?_cons_zero]; exact rfl) (by kernel_rfl) (by kernel_rfl) (by kernel_rfl) (by exact fun _ _ _ h => h) (by rfl) (by assumption) ?_
          try simp only [Act.put, pA, pB, pC]
          refine takeA (i := 13) (h := ?_)
          refine takeA (i := 14) (h := ?_)
          refine takeA (i := 15) (h := ?_)
          refine takeA (i := 16) (h := ?_)
          refine takeA (i := 17) (h := ?_)
          refine takeA (i := 18) (h := ?_)
          refine takeA (i := 19) (hy := by intro wq hSw; have z0 := bat hSw k0; have z1 := bat hSw t0; have z2 := bat hSw t1; have z3 := bat hSw u0; have z4 := bat hSw u1; go_simp <;> with_reducible rfl) (h := ?_)
          refine takeA (i := 20) (h := ?_)
          refine takeA (i := 21) (h := ?_)
          refine takeA (i := 22) (h := ?_)
          refine takeA (i := 23) (h := ?_)
          refine takeA (i := 24) (h := ?_)
          refine takeA (i := 25) (hy := by intro wq hSw; have z0 := bat hSw k0; have z1 := bat hSw t0; have z2 := bat hSw t1; have z3 := bat hSw u0; have z4 := bat hSw u1; go_simp <;> with_reducible rfl) (h := ?_)
          refine takeA (i := 26) (h := ?_)
          refine takeA (i := 27) (h := ?_)
          refine takeA (i := 28) (h := ?_)
          refine takeA (i := 29) (h := ?_)
          refine takeA (i := 30) (h := ?_)
          refine takeA (i := 31) (hy := by intro wq hSw; have z0 := bat hSw k0; have z1 := bat hSw t0; have z2 := bat hSw t1; have z3 := bat hSw u0; have z4 := bat hSw u1; go_simp <;> with_reducible rfl) (h := ?_)
          refine takeA (i := 32) (h := ?_)
          refine takeA (i := 33) (h := ?_)
          refine takeA (i := 34) (h := ?_)
          refine takeA (i := 35) (h := ?_)
          refine wpAnyH_done (by kernel_rfl) ?_ _
          have r0 := bat N t0
          have r1 := bat N t1
          have m0 := bat N k0
          go_wp2_with fail
          refine (specPtOk x y _).mono ?_
          rintro e w5 ⟨rfl, hb⟩
          replace m0 := bat hb m0
          replace N := N.trans (hb.mono N.size)
          clear hb r0 r1
          cases hp : ptOk x y
          ·have F : Hid (formB _ rs = false) := HT2.out (by rw [HP.out, hp]; simp)
           clear HP HT2 HF2 HF HX HB HR
           go_wp2
           exact bodyPost_ret (v := .tuple #[.int .i64 _, .int .i64 _, .int .i64 _]) (by simp [results, Tryz.results67, go_sem]; exact ⟨rfl, rfl, rfl⟩) rfl ⟨_, _, _, rfl, (by show _ = _; rw [F.out]; rfl), B0.trans (N.mono B0.size)⟩
          ·have T' := HF2.out (by rw [HP.out, hp]; rfl)
           clear HP HT2 HF2
           go_wp2
           rw [← hl.out, show (l : Int) + 1 = (ts.length : Int) by have := hl.out; omega]
           go_roundw
           case rel => exact ⟨0 + 1, by omega, by go_num, T', N⟩
           case measure => simp [intOf]; omega
        ·have b1' : (x == u) = false := by simp [e1]
         have HP : Hid (ptBad 5 ts 0 = (!ptOk x y || (false && decide (3 ≤ (5 : Int))))) := by show _ = _; rw [HQ.out, HS.out]; simp [e1]
         clear HS HQ
         go_wp2_with fail
         replace N := N.drew
         refine wp_region_held_drew (S := Below W.heap.size W) (by kernel_rfl) N (fun hHeld => ?_)
         clear hHeld
         refine takeA (i := 0) (h := ?_)
         refine takeA (i := 1) (h := ?_)
         refine takeA (i := 2) (h := ?_)
         refine takeN (i := 3) (by simp only [List.getElem?_toArray, List.getElem?_cons_succ, List.getElem?_cons_zero]; exact rfl) (by kernel_rfl) (by kernel_rfl) (by kernel_rfl) (by exact fun _ _ _ h => h) (by rfl) (by assumption) ?_
         try simp only [Act.put, pA, pB, pC]
         refine takeN (i := 4) (by simp only [List.getElem?_toArray, List.getElem?_cons_succ, List.getElem?_cons_zero]; exact rfl) (by kernel_rfl) (by kernel_rfl) (by kernel_rfl) (by exact fun _ _ _ h => h) (by rfl) (by assumption) ?_
         try simp only [Act.put, pA, pB, pC]
         refine takeN (i := 5) (by simp only [List.getElem?_toArray, List.getElem?_cons_succ, List.getElem?_cons_zero]; exact rfl) (by kernel_rfl) (by kernel_rfl) (by kernel_rfl) (by exact fun _ _ _ h => h) (by rfl) (by assumption) ?_
         try simp only [Act.put, pA, pB, pC]
         refine takeN (i := 6) (by simp only [List.getElem?_toArray, List.getElem?_cons_succ, List.getElem?_cons_zero]; exact rfl) (by kernel_rfl) (by kernel_rfl) (by kernel_rfl) (by exact fun _ _ _ h => h) (by rfl) (by assumption) ?_
         try simp only [Act.put, pA, pB, pC]
         refine takeN (i := 7) (by simp only [List.getElem?_toArray, List.getElem?_cons_succ, List.getElem?_cons_zero]; exact rfl) (by kernel_rfl) (by kernel_rfl) (by kernel_rfl) (by exact fun _ _ _ h => h) (by rfl) (by assumption) ?_
         try simp only [Act.put, pA, pB, pC]
         refine takeN (i := 8) (by simp only [List.getElem?_toArray, List.getElem?_cons_succ, List.getElem?_cons_zero]; exact rfl) (by kernel_rfl) (by kernel_rfl) (by kernel_rfl) (by exact fun _ _ _ h => h) (by rfl) (by assumption) ?_
         try simp only [Act.put, pA, pB, pC]
         refine takeN (i := 9) (by simp only [List.getElem?_toArray, List.getElem?_cons_succ, List.getElem?_cons_zero]; exact rfl) (by kernel_rfl) (by kernel_rfl) (by kernel_rfl) (by exact fun _ _ _ h => h) (by rfl) (by assumption) ?_
         try simp only [Act.put, pA, pB, pC]
         refine takeN (i := 10) (by simp only [List.getElem?_toArray, List.getElem?_cons_succ, List.getElem?_cons_zero]; exact rfl) (by kernel_rfl) (by kernel_rfl) (by kernel_rfl) (by exact fun _ _ _ h => h) (by rfl) (by assumption) ?_
         try simp only [Act.put, pA, pB, pC]
         refine takeN (i := 11) (by simp only [List.getElem?_toArray, List.getElem?_cons_succ, List.getElem?_cons_zero]; exact rfl) (by kernel_rfl) (by kernel_rfl) (by kernel_rfl) (by exact fun _ _ _ h => h) (by rfl) (by assumption) ?_
         try simp only [Act.put, pA, pB, pC]
         refine takeN (i := 12) (by simp only [List.getElem?_toArray, List.getElem?_cons_succ, List.getElem?_cons_zero]; exact rfl) (by kernel_rfl) (by kernel_rfl) (by kernel_rfl) (by exact fun _ _ _ h => h) (by rfl) (by assumption) ?_
         try simp only [Act.put, pA, pB, pC]
         refine takeA (i := 13) (h := ?_)
         refine takeA (i := 14) (h := ?_)
         refine takeA (i := 15) (h := ?_)
         refine takeA (i := 16) (h := ?_)
         refine takeA (i := 17) (h := ?_)
         refine takeA (i := 18) (h := ?_)
         refine takeA (i := 19) (hy := by intro wq hSw; have z0 := bat hSw k0; have z1 := bat hSw t0; have z2 := bat hSw t1; have z3 := bat hSw u0; have z4 := bat hSw u1; go_simp <;> with_reducible rfl) (h := ?_)
         refine takeA (i := 20) (h := ?_)
         refine takeA (i := 21) (h := ?_)
         refine takeA (i := 22) (h := ?_)
         refine takeA (i := 23) (h := ?_)
         refine takeA (i := 24) (h := ?_)
         refine takeA (i := 25) (hy := by intro wq hSw; have z0 := bat hSw k0; have z1 := bat hSw t0; have z2 := bat hSw t1; have z3 := bat hSw u0; have z4 := bat hSw u1; go_simp <;> with_reducible rfl) (h := ?_)
         refine takeA (i := 26) (h := ?_)
         refine takeA (i := 27) (h := ?_)
         refine takeA (i := 28) (h := ?_)
         refine takeA (i := 29) (h := ?_)
         refine takeA (i := 30) (h := ?_)
         refine takeA (i := 31) (hy := by intro wq hSw; have z0 := bat hSw k0; have z1 := bat hSw t0; have z2 := bat hSw t1; have z3 := bat hSw u0; have z4 := bat hSw u1; go_simp <;> with_reducible rfl) (h := ?_)
         refine takeA (i := 32) (h := ?_)
         refine takeA (i := 33) (h := ?_)
         refine takeA (i := 34) (h := ?_)
         refine takeA (i := 35) (h := ?_)
         refine wpAnyH_done (by kernel_rfl) ?_ _
         have r0 := bat N t0
         have r1 := bat N t1
         have m0 := bat N k0
         go_wp2_with fail
         refine (specPtOk x y _).mono ?_
         rintro e w5 ⟨rfl, hb⟩
         replace m0 := bat hb m0
         replace N := N.trans (hb.mono N.size)
         clear hb r0 r1
         cases hp : ptOk x y
         ·have F : Hid (formB _ rs = false) := HT2.out (by rw [HP.out, hp]; simp)
          clear HP HT2 HF2 HF HX HB HR
          go_wp2
          exact bodyPost_ret (v := .tuple #[.int .i64 _, .int .i64 _, .int .i64 _]) (by simp [results, Tryz.results67, go_sem]; exact ⟨rfl, rfl, rfl⟩) rfl ⟨_, _, _, rfl, (by show _ = _; rw [F.out]; rfl), B0.trans (N.mono B0.size)⟩
         ·have T' := HF2.out (by rw [HP.out, hp]; rfl)
          clear HP HT2 HF2
          go_wp2
          rw [← hl.out, show (l : Int) + 1 = (ts.length : Int) by have := hl.out; omega]
          go_roundw
          case rel => exact ⟨0 + 1, by omega, by go_num, T', N⟩
          case measure => simp [intOf]; omega
       ·have b5 : (n == 5) = false := by simp [hk5]
        have HP : Hid (ptBad n ts 0 = (!ptOk x y || (false && decide (3 ≤ n)))) := by
         show _ = _
         unfold ptBad
         rw [hx.out, hy.out]
         simp only [sameAt]
         rw [decide_eq_false hk5]
         simp
        clear hx hy tc hk5
        go_wp2_with fail
        replace N := N.drew
        refine wp_region_held_drew (S := Below W.heap.size W) (by kernel_rfl) N (fun hHeld => ?_)
        clear hHeld
        refine takeA (i := 0) (h := ?_)
        refine takeA (i := 1) (h := ?_)
        refine takeA (i := 2) (h := ?_)
        refine takeN (i := 3) (by simp only [List.getElem?_toArray, List.getElem?_cons_succ, List.getElem?_cons_zero]; exact rfl) (by kernel_rfl) (by kernel_rfl) (by kernel_rfl) (by exact fun _ _ _ h => h) (by rfl) (by assumption) ?_
        try simp only [Act.put, pA, pB, pC]
        refine takeN (i := 4) (by simp only [List.getElem?_toArray, List.getElem?_cons_succ, List.getElem?_cons_zero]; exact rfl) (by kernel_rfl) (by kernel_rfl) (by kernel_rfl) (by exact fun _ _ _ h => h) (by rfl) (by assumption) ?_
        try simp only [Act.put, pA, pB, pC]
        refine takeN (i := 5) (by simp only [List.getElem?_toArray, List.getElem?_cons_succ, List.getElem?_cons_zero]; exact rfl) (by kernel_rfl) (by kernel_rfl) (by kernel_rfl) (by exact fun _ _ _ h => h) (by rfl) (by assumption) ?_
        try simp only [Act.put, pA, pB, pC]
        refine takeN (i := 6) (by simp only [List.getElem?_toArray, List.getElem?_cons_succ, List.getElem?_cons_zero]; exact rfl) (by kernel_rfl) (by kernel_rfl) (by kernel_rfl) (by exact fun _ _ _ h => h) (by rfl) (by assumption) ?_
        try simp only [Act.put, pA, pB, pC]
        refine takeN (i := 7) (by simp only [List.getElem?_toArray, List.getElem?_cons_succ, List.getElem?_cons_zero]; exact rfl) (by kernel_rfl) (by kernel_rfl) (by kernel_rfl) (by exact fun _ _ _ h => h) (by rfl) (by assumption) ?_
        try simp only [Act.put, pA, pB, pC]
        refine takeN (i := 8) (by simp only [List.getElem?_toArray, List.getElem?_cons_succ, List.getElem?_cons_zero]; exact rfl) (by kernel_rfl) (by kernel_rfl) (by kernel_rfl) (by exact fun _ _ _ h => h) (by rfl) (by assumption) ?_
        try simp only [Act.put, pA, pB, pC]
        refine takeN (i := 9) (by simp only [List.getElem?_toArray, List.getElem?_cons_succ, List.getElem?_cons_zero]; exact rfl) (by kernel_rfl) (by kernel_rfl) (by kernel_rfl) (by exact fun _ _ _ h => h) (by rfl) (by assumption) ?_
        try simp only [Act.put, pA, pB, pC]
        refine takeN (i := 10) (by simp only [List.getElem?_toArray, List.getElem?_cons_succ, List.getElem?_cons_zero]; exact rfl) (by kernel_rfl) (by kernel_rfl) (by kernel_rfl) (by exact fun _ _ _ h => h) (by rfl) (by assumption) ?_
        try simp only [Act.put, pA, pB, pC]
        refine takeN (i := 11) (by simp only [List.getElem?_toArray, List.getElem?_cons_succ, List.getElem?_cons_zero]; exact rfl) (by kernel_rfl) (by kernel_rfl) (by kernel_rfl) (by exact fun _ _ _ h => h) (by rfl) (by assumption) ?_
        try simp only [Act.put, pA, pB, pC]
        refine takeN (i := 12) (by simp only [List.getElem?_toArray, List.getElem?_cons_succ, List.getElem?_cons_zero]; exact rfl) (by kernel_rfl) (by kernel_rfl) (by kernel_rfl) (by exact fun _ _ _ h => h) (by rfl) (by assumption) ?_
        try simp only [Act.put, pA, pB, pC]
        refine takeA (i := 13) (h := ?_)
        refine takeA (i := 14) (h := ?_)
        refine takeA (i := 15) (h := ?_)
        refine takeA (i := 16) (h := ?_)
        refine takeA (i := 17) (h := ?_)
        refine takeA (i := 18) (h := ?_)
        refine takeA (i := 19) (hy := by intro wq hSw; have z0 := bat hSw k0; go_simp <;> with_reducible rfl) (h := ?_)
        refine takeA (i := 20) (h := ?_)
        refine takeA (i := 21) (h := ?_)
        refine takeA (i := 22) (h := ?_)
        refine takeN (i := 23) (by simp only [List.getElem?_toArray, List.getElem?_cons_succ, List.getElem?_cons_zero]; exact rfl) (by kernel_rfl) (by kernel_rfl) (by kernel_rfl) (by exact fun _ _ _ h => h) (by rfl) (by assumption) ?_
        try simp only [Act.put, pA, pB, pC]
        refine takeN (i := 24) (by simp only [List.getElem?_toArray, List.getElem?_cons_succ, List.getElem?_cons_zero]; exact rfl) (by kernel_rfl) (by kernel_rfl) (by kernel_rfl) (by exact fun _ _ _ h => h) (by rfl) (by assumption) ?_
        try simp only [Act.put, pA, pB, pC]
        refine takeN (i := 25) (by simp only [List.getElem?_toArray, List.getElem?_cons_succ, List.getElem?_cons_zero]; exact rfl) (by kernel_rfl) (by kernel_rfl) (by kernel_rfl) (by exact fun _ _ _ h => h) (by rfl) (by assumption) ?_
        try simp only [Act.put, pA, pB, pC]
        refine takeN (i := 26) (by simp only [List.getElem?_toArray, List.getElem?_cons_succ, List.getElem?_cons_zero]; exact rfl) (by kernel_rfl) (by kernel_rfl) (by kernel_rfl) (by exact fun _ _ _ h => h) (by rfl) (by assumption) ?_
        try simp only [Act.put, pA, pB, pC]
        refine takeN (i := 27) (by simp only [List.getElem?_toArray, List.getElem?_cons_succ, List.getElem?_cons_zero]; exact rfl) (by kernel_rfl) (by kernel_rfl) (by kernel_rfl) (by exact fun _ _ _ h => h) (by rfl) (by assumption) ?_
        try simp only [Act.put, pA, pB, pC]
        refine takeN (i := 28) (by simp only [List.getElem?_toArray, List.getElem?_cons_succ, List.getElem?_cons_zero]; exact rfl) (by kernel_rfl) (by kernel_rfl) (by kernel_rfl) (by exact fun _ _ _ h => h) (by rfl) (by assumption) ?_
        try simp only [Act.put, pA, pB, pC]
        refine takeN (i := 29) (by simp only [List.getElem?_toArray, List.getElem?_cons_succ, List.getElem?_cons_zero]; exact rfl) (by kernel_rfl) (by kernel_rfl) (by kernel_rfl) (by exact fun _ _ _ h => h) (by rfl) (by assumption) ?_
        try simp only [Act.put, pA, pB, pC]
        refine takeN (i := 30) (by simp only [List.getElem?_toArray, List.getElem?_cons_succ, List.getElem?_cons_zero]; exact rfl) (by kernel_rfl) (by kernel_rfl) (by kernel_rfl) (by exact fun _ _ _ h => h) (by rfl) (by assumption) ?_
        try simp only [Act.put, pA, pB, pC]
        refine takeN (i := 31) (by simp only [List.getElem?_toArray, List.getElem?_cons_succ, List.getElem?_cons_zero]; exact rfl) (by kernel_rfl) (by kernel_rfl) (by kernel_rfl) (by exact fun _ _ _ h => h) (by rfl) (by assumption) ?_
        try simp only [Act.put, pA, pB, pC]
        refine takeN (i := 32) (by simp only [List.getElem?_toArray, List.getElem?_cons_succ, List.getElem?_cons_zero]; exact rfl) (by kernel_rfl) (by kernel_rfl) (by kernel_rfl) (by exact fun _ _ _ h => h) (by rfl) (by assumption) ?_
        try simp only [Act.put, pA, pB, pC]
        refine takeA (i := 33) (h := ?_)
        refine takeA (i := 34) (h := ?_)
        refine takeA (i := 35) (h := ?_)
        refine wpAnyH_done (by kernel_rfl) ?_ _
        have r0 := bat N t0
        have r1 := bat N t1
        have m0 := bat N k0
        go_wp2_with fail
        refine (specPtOk x y _).mono ?_
        rintro e w5 ⟨rfl, hb⟩
        replace m0 := bat hb m0
        replace N := N.trans (hb.mono N.size)
        clear hb r0 r1
        cases hp : ptOk x y
        ·have F : Hid (formB _ rs = false) := HT2.out (by rw [HP.out, hp]; simp)
         clear HP HT2 HF2 HF HX HB HR
         go_wp2
         exact bodyPost_ret (v := .tuple #[.int .i64 _, .int .i64 _, .int .i64 _]) (by simp [results, Tryz.results67, go_sem]; exact ⟨rfl, rfl, rfl⟩) rfl ⟨_, _, _, rfl, (by show _ = _; rw [F.out]; rfl), B0.trans (N.mono B0.size)⟩
        ·have T' := HF2.out (by rw [HP.out, hp]; rfl)
         clear HP HT2 HF2
         go_wp2
         go_roundw
         case rel => exact ⟨0 + 1, by omega, by go_num, T', N⟩
         case measure => simp [intOf]; omega
      ·obtain ⟨m, rfl⟩ : ∃ m, i = m + 1 := ⟨i - 1, by omega⟩
       obtain ⟨u, hu⟩ : ∃ z, Hid ((ptA ts m).1 = z) := ⟨_, rfl⟩
       obtain ⟨v, hv⟩ : ∃ z, Hid ((ptA ts m).2 = z) := ⟨_, rfl⟩
       obtain ⟨u0, u1⟩ := tc m (by omega)
       rw [show (ts[m]?.getD (0, 0)).1 = u from hu.out] at u0
       rw [show (ts[m]?.getD (0, 0)).2 = v from hv.out] at u1
       have hmt : m < ts.length := by omega
       have hm1 : (0 : Int) ≤ (m : Int) + 1 := by omega
       have hmz : ¬((m : Int) + 1 = 0) := by omega
       have hwm : IntKind.i64.wrap (m : Int) = m := by rw [IntKind.wrap_i64]; omega
       have HS : Hid (sameAt n ts (m + 1) = (decide (x = u) && decide (y = v))) := by
        show _ = _
        simp only [sameAt]
        rw [hx.out, hy.out, hu.out, hv.out]
       have HQ : Hid (ptBad n ts (m + 1) = (!ptOk x y || (sameAt n ts (m + 1) && decide (3 ≤ n)))) := by
        show _ = _
        unfold ptBad
        rw [hx.out, hy.out]
       clear hx hy hu hv tc hi0
       by_cases e1 : x = u
       ·subst e1
        by_cases e2 : y = v
        ·subst e2
         have HP : Hid (ptBad n ts (m + 1) = (!ptOk x y || (true && decide (3 ≤ n)))) := by show _ = _; rw [HQ.out, HS.out]; simp
         clear HS HQ
         go_wp2_with fail
         replace N := N.drew
         refine wp_region_held_drew (S := Below W.heap.size W) (by kernel_rfl) N (fun hHeld => ?_)
         clear hHeld
         refine takeA (i := 0) (h := ?_)
         refine takeA (i := 1) (h := ?_)
         refine takeA (i := 2) (h := ?_)
         refine takeA (i := 3) (h := ?_)
         refine takeA (i := 4) (h := ?_)
         refine takeA (i := 5) (h := ?_)
         refine takeA (i := 6) (hy := by intro wq hSw; have z0 := bat hSw t0; have z1 := bat hSw t1; have z2 := bat hSw u0; have z3 := bat hSw u1; go_simp <;> with_reducible rfl) (h := ?_)
         refine takeA (i := 7) (h := ?_)
         refine takeA (i := 8) (h := ?_)
         refine takeA (i := 9) (h := ?_)
         refine takeA (i := 10) (h := ?_)
         refine takeA (i := 11) (hy := by intro wq hSw; have z0 := bat hSw t0; have z1 := bat hSw t1; have z2 := bat hSw u0; have z3 := bat hSw u1; go_simp <;> with_reducible rfl) (h := ?_)
         refine takeA (i := 12) (h := ?_)
         refine takeA (i := 13) (h := ?_)
         refine takeA (i := 14) (h := ?_)
         refine takeN (i := 15) (by simp only [List.getElem?_toArray, List.getElem?_cons_succ, List.getElem?_cons_zero]; exact rfl) (by kernel_rfl) (by kernel_rfl) (by kernel_rfl) (by exact fun _ _ _ h => h) (by rfl) (by assumption) ?_
         try simp only [Act.put, pA, pB, pC]
         refine takeN (i := 16) (by simp only [List.getElem?_toArray, List.getElem?_cons_succ, List.getElem?_cons_zero]; exact rfl) (by kernel_rfl) (by kernel_rfl) (by kernel_rfl) (by exact fun _ _ _ h => h) (by rfl) (by assumption) ?_
         try simp only [Act.put, pA, pB, pC]
         refine takeN (i := 17) (by simp only [List.getElem?_toArray, List.getElem?_cons_succ, List.getElem?_cons_zero]; exact rfl) (by kernel_rfl) (by kernel_rfl) (by kernel_rfl) (by exact fun _ _ _ h => h) (by rfl) (by assumption) ?_
         try simp only [Act.put, pA, pB, pC]
         refine takeN (i := 18) (by simp only [List.getElem?_toArray, List.getElem?_cons_succ, List.getElem?_cons_zero]; exact rfl) (by kernel_rfl) (by kernel_rfl) (by kernel_rfl) (by exact fun _ _ _ h => h) (by rfl) (by assumption) ?_
         try simp only [Act.put, pA, pB, pC]
         refine takeN (i := 19) (by simp only [List.getElem?_toArray, List.getElem?_cons_succ, List.getElem?_cons_zero]; exact rfl) (by kernel_rfl) (by kernel_rfl) (by kernel_rfl) (by exact fun _ _ _ h => h) (by rfl) (by assumption) ?_
         try simp only [Act.put, pA, pB, pC]
         refine takeN (i := 20) (by simp only [List.getElem?_toArray, List.getElem?_cons_succ, List.getElem?_cons_zero]; exact rfl) (by kernel_rfl) (by kernel_rfl) (by kernel_rfl) (by exact fun _ _ _ h => h) (by rfl) (by assumption) ?_
         try simp only [Act.put, pA, pB, pC]
         refine takeN (i := 21) (by simp only [List.getElem?_toArray, List.getElem?_cons_succ, List.getElem?_cons_zero]; exact rfl) (by kernel_rfl) (by kernel_rfl) (by kernel_rfl) (by exact fun _ _ _ h => h) (by rfl) (by assumption) ?_
         try simp only [Act.put, pA, pB, pC]
         refine takeN (i := 22) (by simp only [List.getElem?_toArray, List.getElem?_cons_succ, List.getElem?_cons_zero]; exact rfl) (by kernel_rfl) (by kernel_rfl) (by kernel_rfl) (by exact fun _ _ _ h => h) (by rfl) (by assumption) ?_
         try simp only [Act.put, pA, pB, pC]
         refine takeN (i := 23) (by simp only [List.getElem?_toArray, List.getElem?_cons_succ, List.getElem?_cons_zero]; exact rfl) (by kernel_rfl) (by kernel_rfl) (by kernel_rfl) (by exact fun _ _ _ h => h) (by rfl) (by assumption) ?_
         try simp only [Act.put, pA, pB, pC]
         refine takeN (i := 24) (by simp only [List.getElem?_toArray, List.getElem?_cons_succ, List.getElem?_cons_zero]; exact rfl) (by kernel_rfl) (by kernel_rfl) (by kernel_rfl) (by exact fun _ _ _ h => h) (by rfl) (by assumption) ?_
         try simp only [Act.put, pA, pB, pC]
         refine takeN (i := 25) (by simp only [List.getElem?_toArray, List.getElem?_cons_succ, List.getElem?_cons_zero]; exact rfl) (by kernel_rfl) (by kernel_rfl) (by kernel_rfl) (by exact fun _ _ _ h => h) (by rfl) (by assumption) ?_
         try simp only [Act.put, pA, pB, pC]
         refine takeN (i := 26) (by simp only [List.getElem?_toArray, List.getElem?_cons_succ, List.getElem?_cons_zero]; exact rfl) (by kernel_rfl) (by kernel_rfl) (by kernel_rfl) (by exact fun _ _ _ h => h) (by rfl) (by assumption) ?_
         try simp only [Act.put, pA, pB, pC]
         refine takeN (i := 27) (by simp only [List.getElem?_toArray, List.getElem?_cons_succ, List.getElem?_cons_zero]; exact rfl) (by kernel_rfl) (by kernel_rfl) (by kernel_rfl) (by exact fun _ _ _ h => h) (by rfl) (by assumption) ?_
         try simp only [Act.put, pA, pB, pC]
         refine takeN (i := 28) (by simp only [List.getElem?_toArray, List.getElem?_cons_succ, List.getElem?_cons_zero]; exact rfl) (by kernel_rfl) (by kernel_rfl) (by kernel_rfl) (by exact fun _ _ _ h => h) (by rfl) (by assumption) ?_
         try simp only [Act.put, pA, pB, pC]
         refine takeN (i := 29) (by simp only [List.getElem?_toArray, List.getElem?_cons_succ, List.getElem?_cons_zero]; exact rfl) (by kernel_rfl) (by kernel_rfl) (by kernel_rfl) (by exact fun _ _ _ h => h) (by rfl) (by assumption) ?_
         try simp only [Act.put, pA, pB, pC]
         refine takeN (i := 30) (by simp only [List.getElem?_toArray, List.getElem?_cons_succ, List.getElem?_cons_zero]; exact rfl) (by kernel_rfl) (by kernel_rfl) (by kernel_rfl) (by exact fun _ _ _ h => h) (by rfl) (by assumption) ?_
         try simp only [Act.put, pA, pB, pC]
         refine takeN (i := 31) (by simp only [List.getElem?_toArray, List.getElem?_cons_succ, List.getElem?_cons_zero]; exact rfl) (by kernel_rfl) (by kernel_rfl) (by kernel_rfl) (by exact fun _ _ _ h => h) (by rfl) (by assumption) ?_
         try simp only [Act.put, pA, pB, pC]
         refine takeN (i := 32) (by simp only [List.getElem?_toArray, List.getElem?_cons_succ, List.getElem?_cons_zero]; exact rfl) (by kernel_rfl) (by kernel_rfl) (by kernel_rfl) (by exact fun _ _ _ h => h) (by rfl) (by assumption) ?_
         try simp only [Act.put, pA, pB, pC]
         refine takeN (i := 33) (by simp only [List.getElem?_toArray, List.getElem?_cons_succ, List.getElem?_cons_zero]; exact rfl) (by kernel_rfl) (by kernel_rfl) (by kernel_rfl) (by exact fun _ _ _ h => h) (by rfl) (by assumption) ?_
         try simp only [Act.put, pA, pB, pC]
         refine takeA (i := 34) (h := ?_)
         refine takeA (i := 35) (h := ?_)
         refine wpAnyH_done (by kernel_rfl) ?_ _
         have r0 := bat N t0
         have r1 := bat N t1
         have m0 := bat N k0
         go_wp2_with fail
         refine (specPtOk x y _).mono ?_
         rintro e w5 ⟨rfl, hb⟩
         replace m0 := bat hb m0
         replace N := N.trans (hb.mono N.size)
         clear hb r0 r1
         cases hp : ptOk x y
         ·have F : Hid (formB _ rs = false) := HT2.out (by rw [HP.out, hp]; simp)
          clear HP HT2 HF2 HF HX HB HR
          go_wp2
          exact bodyPost_ret (v := .tuple #[.int .i64 _, .int .i64 _, .int .i64 _]) (by simp [results, Tryz.results67, go_sem]; exact ⟨rfl, rfl, rfl⟩) rfl ⟨_, _, _, rfl, (by show _ = _; rw [F.out]; rfl), B0.trans (N.mono B0.size)⟩
         ·by_cases h3 : 3 ≤ n
          ·have F : Hid (formB _ rs = false) := HT2.out (by rw [HP.out, hp, decide_eq_true h3]; simp)
           clear HP HT2 HF2 HF HX HB HR
           go_wp2
           exact bodyPost_ret (v := .tuple #[.int .i64 _, .int .i64 _, .int .i64 _]) (by simp [results, Tryz.results67, go_sem]; exact ⟨rfl, rfl, rfl⟩) rfl ⟨_, _, _, rfl, (by show _ = _; rw [F.out]; rfl), B0.trans (N.mono B0.size)⟩
          ·have T' := HF2.out (by rw [HP.out, hp, decide_eq_false h3]; rfl)
           clear HP HT2 HF2
           go_wp2
           go_roundw
           case rel => exact ⟨m + 1 + 1, by omega, by go_num, T', N⟩
           case measure => simp [intOf]; omega
        ·have b2 : (y == v) = false := by simp [e2]
         have HP : Hid (ptBad n ts (m + 1) = (!ptOk x y || (false && decide (3 ≤ n)))) := by show _ = _; rw [HQ.out, HS.out]; simp [e2]
         clear HS HQ
         go_wp2_with fail
         replace N := N.drew
         refine wp_region_held_drew (S := Below W.heap.size W) (by kernel_rfl) N (fun hHeld => ?_)
         clear hHeld
         refine takeA (i := 0) (h := ?_)
         refine takeA (i := 1) (h := ?_)
         refine takeA (i := 2) (h := ?_)
         refine takeA (i := 3) (h := ?_)
         refine takeA (i := 4) (h := ?_)
         refine takeA (i := 5) (h := ?_)
         refine takeA (i := 6) (hy := by intro wq hSw; have z0 := bat hSw t0; have z1 := bat hSw t1; have z2 := bat hSw u0; have z3 := bat hSw u1; go_simp <;> with_reducible rfl) (h := ?_)
         refine takeA (i := 7) (h := ?_)
         refine takeA (i := 8) (h := ?_)
         refine takeA (i := 9) (h := ?_)
         refine takeA (i := 10) (h := ?_)
         refine takeA (i := 11) (hy := by intro wq hSw; have z0 := bat hSw t0; have z1 := bat hSw t1; have z2 := bat hSw u0; have z3 := bat hSw u1; go_simp <;> with_reducible rfl) (h := ?_)
         refine takeA (i := 12) (h := ?_)
         refine takeA (i := 13) (h := ?_)
         refine takeA (i := 14) (h := ?_)
         refine takeA (i := 15) (h := ?_)
         refine takeA (i := 16) (h := ?_)
         refine takeA (i := 17) (h := ?_)
         refine takeN (i := 18) (by simp only [List.getElem?_toArray, List.getElem?_cons_succ, List.getElem?_cons_zero]; exact rfl) (by kernel_rfl) (by kernel_rfl) (by kernel_rfl) (by exact fun _ _ _ h => h) (by rfl) (by assumption) ?_
         try simp only [Act.put, pA, pB, pC]
         refine takeN (i := 19) (by simp only [List.getElem?_toArray, List.getElem?_cons_succ, List.getElem?_cons_zero]; exact rfl) (by kernel_rfl) (by kernel_rfl) (by kernel_rfl) (by exact fun _ _ _ h => h) (by rfl) (by assumption) ?_
         try simp only [Act.put, pA, pB, pC]
         refine takeN (i := 20) (by simp only [List.getElem?_toArray, List.getElem?_cons_succ, List.getElem?_cons_zero]; exact rfl) (by kernel_rfl) (by kernel_rfl) (by kernel_rfl) (by exact fun _ _ _ h => h) (by rfl) (by assumption) ?_
         try simp only [Act.put, pA, pB, pC]
         refine takeA (i := 21) (h := ?_)
         refine takeA (i := 22) (h := ?_)
         refine takeN (i := 23) (by simp only [List.getElem?_toArray, List.getElem?_cons_succ, List.getElem?_cons_zero]; exact rfl) (by kernel_rfl) (by kernel_rfl) (by kernel_rfl) (by exact fun _ _ _ h => h) (by rfl) (by assumption) ?_
         try simp only [Act.put, pA, pB, pC]
         refine takeN (i := 24) (by simp only [List.getElem?_toArray, List.getElem?_cons_succ, List.getElem?_cons_zero]; exact rfl) (by kernel_rfl) (by kernel_rfl) (by kernel_rfl) (by exact fun _ _ _ h => h) (by rfl) (by assumption) ?_
         try simp only [Act.put, pA, pB, pC]
         refine takeN (i := 25) (by simp only [List.getElem?_toArray, List.getElem?_cons_succ, List.getElem?_cons_zero]; exact rfl) (by kernel_rfl) (by kernel_rfl) (by kernel_rfl) (by exact fun _ _ _ h => h) (by rfl) (by assumption) ?_
         try simp only [Act.put, pA, pB, pC]
         refine takeN (i := 26) (by simp only [List.getElem?_toArray, List.getElem?_cons_succ, List.getElem?_cons_zero]; exact rfl) (by kernel_rfl) (by kernel_rfl) (by kernel_rfl) (by exact fun _ _ _ h => h) (by rfl) (by assumption) ?_
         try simp only [Act.put, pA, pB, pC]
         refine takeN (i := 27) (by simp only [List.getElem?_toArray, List.getElem?_cons_succ, List.getElem?_cons_zero]; exact rfl) (by kernel_rfl) (by kernel_rfl) (by kernel_rfl) (by exact fun _ _ _ h => h) (by rfl) (by assumption) ?_
         try simp only [Act.put, pA, pB, pC]
         refine takeN (i := 28) (by simp only [List.getElem?_toArray, List.getElem?_cons_succ, List.getElem?_cons_zero]; exact rfl) (by kernel_rfl) (by kernel_rfl) (by kernel_rfl) (by exact fun _ _ _ h => h) (by rfl) (by assumption) ?_
         try simp only [Act.put, pA, pB, pC]
         refine takeN (i := 29) (by simp only [List.getElem?_toArray, List.getElem?_cons_succ, List.getElem?_cons_zero]; exact rfl) (by kernel_rfl) (by kernel_rfl) (by kernel_rfl) (by exact fun _ _ _ h => h) (by rfl) (by assumption) ?_
         try simp only [Act.put, pA, pB, pC]
         refine takeN (i := 30) (by simp only [List.getElem?_toArray, List.getElem?_cons_succ, List.getElem?_cons_zero]; exact rfl) (by kernel_rfl) (by kernel_rfl) (by kernel_rfl) (by exact fun _ _ _ h => h) (by rfl) (by assumption) ?_
         try simp only [Act.put, pA, pB, pC]
         refine takeN (i := 31) (by simp only [List.getElem?_toArray, List.getElem?_cons_succ, List.getElem?_cons_zero]; exact rfl) (by kernel_rfl) (by kernel_rfl) (by kernel_rfl) (by exact fun _ _ _ h => h) (by rfl) (by assumption) ?_
         try simp only [Act.put, pA, pB, pC]
         refine takeN (i := 32) (by simp only [List.getElem?_toArray, List.getElem?_cons_succ, List.getElem?_cons_zero]; exact rfl) (by kernel_rfl) (by kernel_rfl) (by kernel_rfl) (by exact fun _ _ _ h => h) (by rfl) (by assumption) ?_
         try simp only [Act.put, pA, pB, pC]
         refine takeA (i := 33) (h := ?_)
         refine takeA (i := 34) (h := ?_)
         refine takeA (i := 35) (h := ?_)
         refine wpAnyH_done (by kernel_rfl) ?_ _
         have r0 := bat N t0
         have r1 := bat N t1
         have m0 := bat N k0
         go_wp2_with fail
         refine (specPtOk x y _).mono ?_
         rintro e w5 ⟨rfl, hb⟩
         replace m0 := bat hb m0
         replace N := N.trans (hb.mono N.size)
         clear hb r0 r1
         cases hp : ptOk x y
         ·have F : Hid (formB _ rs = false) := HT2.out (by rw [HP.out, hp]; simp)
          clear HP HT2 HF2 HF HX HB HR
          go_wp2
          exact bodyPost_ret (v := .tuple #[.int .i64 _, .int .i64 _, .int .i64 _]) (by simp [results, Tryz.results67, go_sem]; exact ⟨rfl, rfl, rfl⟩) rfl ⟨_, _, _, rfl, (by show _ = _; rw [F.out]; rfl), B0.trans (N.mono B0.size)⟩
         ·have T' := HF2.out (by rw [HP.out, hp]; rfl)
          clear HP HT2 HF2
          go_wp2
          go_roundw
          case rel => exact ⟨m + 1 + 1, by omega, by go_num, T', N⟩
          case measure => simp [intOf]; omega
       ·have b1' : (x == u) = false := by simp [e1]
        have HP : Hid (ptBad n ts (m + 1) = (!ptOk x y || (false && decide (3 ≤ n)))) := by show _ = _; rw [HQ.out, HS.out]; simp [e1]
        clear HS HQ
        go_wp2_with fail
        replace N := N.drew
        refine wp_region_held_drew (S := Below W.heap.size W) (by kernel_rfl) N (fun hHeld => ?_)
        clear hHeld
        refine takeA (i := 0) (h := ?_)
        refine takeA (i := 1) (h := ?_)
        refine takeA (i := 2) (h := ?_)
        refine takeA (i := 3) (h := ?_)
        refine takeA (i := 4) (h := ?_)
        refine takeA (i := 5) (h := ?_)
        refine takeA (i := 6) (hy := by intro wq hSw; have z0 := bat hSw t0; have z1 := bat hSw t1; have z2 := bat hSw u0; have z3 := bat hSw u1; go_simp <;> with_reducible rfl) (h := ?_)
        refine takeA (i := 7) (h := ?_)
        refine takeA (i := 8) (h := ?_)
        refine takeA (i := 9) (h := ?_)
        refine takeA (i := 10) (h := ?_)
        refine takeA (i := 11) (hy := by intro wq hSw; have z0 := bat hSw t0; have z1 := bat hSw t1; have z2 := bat hSw u0; have z3 := bat hSw u1; go_simp <;> with_reducible rfl) (h := ?_)
        refine takeA (i := 12) (h := ?_)
        refine takeA (i := 13) (h := ?_)
        refine takeA (i := 14) (h := ?_)
        refine takeA (i := 15) (h := ?_)
        refine takeA (i := 16) (h := ?_)
        refine takeA (i := 17) (h := ?_)
        refine takeN (i := 18) (by simp only [List.getElem?_toArray, List.getElem?_cons_succ, List.getElem?_cons_zero]; exact rfl) (by kernel_rfl) (by kernel_rfl) (by kernel_rfl) (by exact fun _ _ _ h => h) (by rfl) (by assumption) ?_
        try simp only [Act.put, pA, pB, pC]
        refine takeN (i := 19) (by simp only [List.getElem?_toArray, List.getElem?_cons_succ, List.getElem?_cons_zero]; exact rfl) (by kernel_rfl) (by kernel_rfl) (by kernel_rfl) (by exact fun _ _ _ h => h) (by rfl) (by assumption) ?_
        try simp only [Act.put, pA, pB, pC]
        refine takeN (i := 20) (by simp only [List.getElem?_toArray, List.getElem?_cons_succ, List.getElem?_cons_zero]; exact rfl) (by kernel_rfl) (by kernel_rfl) (by kernel_rfl) (by exact fun _ _ _ h => h) (by rfl) (by assumption) ?_
        try simp only [Act.put, pA, pB, pC]
        refine takeA (i := 21) (h := ?_)
        refine takeA (i := 22) (h := ?_)
        refine takeN (i := 23) (by simp only [List.getElem?_toArray, List.getElem?_cons_succ, List.getElem?_cons_zero]; exact rfl) (by kernel_rfl) (by kernel_rfl) (by kernel_rfl) (by exact fun _ _ _ h => h) (by rfl) (by assumption) ?_
        try simp only [Act.put, pA, pB, pC]
        refine takeN (i := 24) (by simp only [List.getElem?_toArray, List.getElem?_cons_succ, List.getElem?_cons_zero]; exact rfl) (by kernel_rfl) (by kernel_rfl) (by kernel_rfl) (by exact fun _ _ _ h => h) (by rfl) (by assumption) ?_
        try simp only [Act.put, pA, pB, pC]
        refine takeN (i := 25) (by simp only [List.getElem?_toArray, List.getElem?_cons_succ, List.getElem?_cons_zero]; exact rfl) (by kernel_rfl) (by kernel_rfl) (by kernel_rfl) (by exact fun _ _ _ h => h) (by rfl) (by assumption) ?_
        try simp only [Act.put, pA, pB, pC]
        refine takeN (i := 26) (by simp only [List.getElem?_toArray, List.getElem?_cons_succ, List.getElem?_cons_zero]; exact rfl) (by kernel_rfl) (by kernel_rfl) (by kernel_rfl) (by exact fun _ _ _ h => h) (by rfl) (by assumption) ?_
        try simp only [Act.put, pA, pB, pC]
        refine takeN (i := 27) (by simp only [List.getElem?_toArray, List.getElem?_cons_succ, List.getElem?_cons_zero]; exact rfl) (by kernel_rfl) (by kernel_rfl) (by kernel_rfl) (by exact fun _ _ _ h => h) (by rfl) (by assumption) ?_
        try simp only [Act.put, pA, pB, pC]
        refine takeN (i := 28) (by simp only [List.getElem?_toArray, List.getElem?_cons_succ, List.getElem?_cons_zero]; exact rfl) (by kernel_rfl) (by kernel_rfl) (by kernel_rfl) (by exact fun _ _ _ h => h) (by rfl) (by assumption) ?_
        try simp only [Act.put, pA, pB, pC]
        refine takeN (i := 29) (by simp only [List.getElem?_toArray, List.getElem?_cons_succ, List.getElem?_cons_zero]; exact rfl) (by kernel_rfl) (by kernel_rfl) (by kernel_rfl) (by exact fun _ _ _ h => h) (by rfl) (by assumption) ?_
        try simp only [Act.put, pA, pB, pC]
        refine takeN (i := 30) (by simp only [List.getElem?_toArray, List.getElem?_cons_succ, List.getElem?_cons_zero]; exact rfl) (by kernel_rfl) (by kernel_rfl) (by kernel_rfl) (by exact fun _ _ _ h => h) (by rfl) (by assumption) ?_
        try simp only [Act.put, pA, pB, pC]
        refine takeN (i := 31) (by simp only [List.getElem?_toArray, List.getElem?_cons_succ, List.getElem?_cons_zero]; exact rfl) (by kernel_rfl) (by kernel_rfl) (by kernel_rfl) (by exact fun _ _ _ h => h) (by rfl) (by assumption) ?_
        try simp only [Act.put, pA, pB, pC]
        refine takeN (i := 32) (by simp only [List.getElem?_toArray, List.getElem?_cons_succ, List.getElem?_cons_zero]; exact rfl) (by kernel_rfl) (by kernel_rfl) (by kernel_rfl) (by exact fun _ _ _ h => h) (by rfl) (by assumption) ?_
        try simp only [Act.put, pA, pB, pC]
        refine takeA (i := 33) (h := ?_)
        refine takeA (i := 34) (h := ?_)
        refine takeA (i := 35) (h := ?_)
        refine wpAnyH_done (by kernel_rfl) ?_ _
        have r0 := bat N t0
        have r1 := bat N t1
        have m0 := bat N k0
        go_wp2_with fail
        refine (specPtOk x y _).mono ?_
        rintro e w5 ⟨rfl, hb⟩
        replace m0 := bat hb m0
        replace N := N.trans (hb.mono N.size)
        clear hb r0 r1
        cases hp : ptOk x y
        ·have F : Hid (formB _ rs = false) := HT2.out (by rw [HP.out, hp]; simp)
         clear HP HT2 HF2 HF HX HB HR
         go_wp2
         exact bodyPost_ret (v := .tuple #[.int .i64 _, .int .i64 _, .int .i64 _]) (by simp [results, Tryz.results67, go_sem]; exact ⟨rfl, rfl, rfl⟩) rfl ⟨_, _, _, rfl, (by show _ = _; rw [F.out]; rfl), B0.trans (N.mono B0.size)⟩
        ·have T' := HF2.out (by rw [HP.out, hp]; rfl)
         clear HP HT2 HF2
         go_wp2
         go_roundw
         case rel => exact ⟨m + 1 + 1, by omega, by go_num, T', N⟩
         case measure => simp [intOf]; omega
     ·obtain rfl : i = ts.length := by omega
      have T' := HF.out (HX.out.trans M.out)
      clear HT HF HX
      go_wp2
      go_roundw
      case rel => exact ⟨j + 1, by omega, by go_num, T', N⟩
      case measure => simp [intOf]; omega
   ·obtain rfl : j = rs.length := by omega
    have F : Hid (formB n rs = true) := by
     show _ = _
     rw [HB.out, T.out]
     rfl
    clear HB HR T
    go_wp2
    exact bodyPost_ret (v := .tuple #[.int .i64 _, .int .i64 _, .int .i64 _]) (by simp [results, Tryz.results67, go_sem]; exact ⟨rfl, rfl, rfl⟩) rfl ⟨_, _, _, rfl, (by show _ = _; rw [F.out]; rfl), B0.trans (N.mono B0.size)⟩
end Go.Proofs.YtinlomcaagdbiaaGreat
