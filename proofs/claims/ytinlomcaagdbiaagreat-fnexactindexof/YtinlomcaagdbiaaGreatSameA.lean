/- Whether a point is the same as the one ahead, where that may not be: of the program (sameAhead). -/
import Derived.Test.YtinlomcaagdbiaaGreatCrsI
import Derived.Test.YtinlomcaagdbiaaGreatFormD
import Derived.Test.YtinlomcaagdbiaaGreatSeg
import Derived.Deep.DeepCutAuto
namespace Go.Proofs.YtinlomcaagdbiaaGreat
open Go.RowKit

def sameI (k : Int) (ps : List (Int × Int)) (i : Nat) : Bool := sameAt k ps i && decide (3 ≤ k)
theorem prev_first {n : Nat} (h : 0 < n) : (0 + n - 1) % n = n - 1 := by rw [Nat.zero_add, Nat.mod_eq_of_lt (by omega)]
theorem prev_next {n m : Nat} (h : m + 1 < n) : (m + 1 + n - 1) % n = m := by rw [show m + 1 + n - 1 = m + n by omega, Nat.add_mod_right, Nat.mod_eq_of_lt (by omega)]
theorem sameI_point {k : Int} (h : k = 1 ∨ k = 2) (ps : List (Int × Int)) (i : Nat) : sameI k ps i = false := by
 unfold sameI
 rw [decide_eq_false (by omega), Bool.and_false]
theorem sameI_line0 {k : Int} (h : k = 3 ∨ k = 4) (ps : List (Int × Int)) : sameI k ps 0 = false := by
 unfold sameI
 simp only [sameAt]
 rw [decide_eq_false (by omega)]
 rfl
theorem sameI_line {k : Int} (h : k = 3 ∨ k = 4) (ps : List (Int × Int)) (m : Nat) : sameI k ps (m + 1) = (decide ((ptA ps (m + 1)).1 = (ptA ps m).1) && decide ((ptA ps (m + 1)).2 = (ptA ps m).2)) := by
 unfold sameI
 simp only [sameAt]
 rw [decide_eq_true (p := 3 ≤ k) (by omega), Bool.and_true]
theorem sameI_area (ps : List (Int × Int)) {i : Nat} (h : i < ps.length) : sameI 5 ps i = (decide ((ptA ps i).1 = (ptA ps ((i + ps.length - 1) % ps.length)).1) && decide ((ptA ps i).2 = (ptA ps ((i + ps.length - 1) % ps.length)).2)) := by
 unfold sameI
 rw [decide_eq_true (p := (3 : Int) ≤ 5) (by omega), Bool.and_true]
 cases i with
 | zero =>
  simp only [sameAt]
  rw [prev_first h]
  simp
 | succ m =>
  simp only [sameAt]
  rw [prev_next h]

theorem sameAhead1 (v : Value) (a : Option Addr) (c : Nat) (ps : List (Int × Int)) (i : Nat) (w : World) :
  Calls Tryz.prog 98 #[.iface 150 (.agg #[v]), .slice a ps.length c, .int .i64 i] w fun e w' => e = .returned (.bool (sameI 1 ps i)) ∧ Below w.heap.size w w' := by
 rw [sameI_point (by omega)]
 have q3 := as13 v
 have q4 := as14 v
 have q5 := as15 v
 go_enter Tryz.func98, Tryz.ntmps98
 go_wp2
 go_ret
 exact ⟨rfl, Below.refl _ _⟩
theorem sameAhead2 (v : Value) (a : Option Addr) (c : Nat) (ps : List (Int × Int)) (i : Nat) (w : World) :
  Calls Tryz.prog 98 #[.iface 151 (.agg #[v]), .slice a ps.length c, .int .i64 i] w fun e w' => e = .returned (.bool (sameI 2 ps i)) ∧ Below w.heap.size w w' := by
 rw [sameI_point (by omega)]
 have q3 := as23 v
 have q4 := as24 v
 have q5 := as25 v
 go_enter Tryz.func98, Tryz.ntmps98
 go_wp2
 go_ret
 exact ⟨rfl, Below.refl _ _⟩
set_option maxRecDepth 20000 in
set_option maxHeartbeats 4000000 in
theorem sameAhead3 (v : Value) (a : Option Addr) (c : Nat) (ps : List (Int × Int)) (i : Nat) (w : World) (h : SeesP w a c ps) (hi : i < ps.length) :
  Calls Tryz.prog 98 #[.iface 152 (.agg #[v]), .slice a ps.length c, .int .i64 i] w fun e w' => e = .returned (.bool (sameI 3 ps i)) ∧ Below w.heap.size w w' := by
 have q3 := as33 v
 have q4 := as34 v
 have hm := h.max
 have hf := h.fits
 unfold maxLen at hm
 cases i with
 | zero =>
  rw [sameI_line0 (by omega)]
  rw [show ((0 : Nat) : Int) = 0 from rfl]
  go_enter Tryz.func98, Tryz.ntmps98
  go_wp2_with fail
  have N := (Below.refl w.heap.size w).drew
  refine wp_region_held_drew (S := Below w.heap.size w) (by kernel_rfl) N (fun hHeld => ?_)
  clear hHeld
  refine takeA (i := 0) (h := ?_)
  refine takeA (i := 1) (h := ?_)
  refine takeA (i := 2) (h := ?_)
  refine takeN (i := 3) (by simp only [List.getElem?_toArray, List.getElem?_cons_succ, List.getElem?_cons_zero]; exact rfl) (by kernel_rfl) (by kernel_rfl) (by kernel_rfl) (by exact fun _ _ _ h => h) (by rfl) (by assumption) ?_
  try simp only [Act.put, pA, pB, pC]
  refine takeN (i := 4) (by simp only [List.getElem?_toArray, List.getElem?_cons_succ, List.getElem?_cons_zero]; exact rfl) (by kernel_rfl) (by kernel_rfl) (by kernel_rfl) (by exact fun _ _ _ h => h) (by rfl) (by assumption) ?_
  try simp only [Act.put, pA, pB, pC]
  refine takeN (i := 5) (by simp only [List.getElem?_toArray, List.getElem?_cons_succ, List.getElem?_cons_zero]; exact rfl) (by kernel_rfl) (by kernel_rfl) (by kernel_rfl) (by exact fun _ _ _ h => h) (by rfl) (by assumption) ?_
  try simp only [Act.put, pA, pB, pC]
  refine takeN (i := 6) (by simp only [List.getElem?_toArray, List.getElem?_cons_succ, List.getElem?_cons_zero]; exact rfl) (by kernel_rfl) (by kernel_rfl) (by kernel_rfl) (by exact fun _ _ _ h => h) (by rfl) (by assumption) ?_
  try simp only [Act.put, pA, pB, pC]
  refine takeN (i := 7) (by simp only [List.getElem?_toArray, List.getElem?_cons_succ, List.getElem?_cons_zero]; exact rfl) (by kernel_rfl) (by kernel_rfl) (by kernel_rfl) (by exact fun _ _ _ h => h) (by rfl) (by assumption) ?_
  try simp only [Act.put, pA, pB, pC]
  refine takeN (i := 8) (by simp only [List.getElem?_toArray, List.getElem?_cons_succ, List.getElem?_cons_zero]; exact rfl) (by kernel_rfl) (by kernel_rfl) (by kernel_rfl) (by exact fun _ _ _ h => h) (by rfl) (by assumption) ?_
  try simp only [Act.put, pA, pB, pC]
  refine takeN (i := 9) (by simp only [List.getElem?_toArray, List.getElem?_cons_succ, List.getElem?_cons_zero]; exact rfl) (by kernel_rfl) (by kernel_rfl) (by kernel_rfl) (by exact fun _ _ _ h => h) (by rfl) (by assumption) ?_
  try simp only [Act.put, pA, pB, pC]
  refine takeN (i := 10) (by simp only [List.getElem?_toArray, List.getElem?_cons_succ, List.getElem?_cons_zero]; exact rfl) (by kernel_rfl) (by kernel_rfl) (by kernel_rfl) (by exact fun _ _ _ h => h) (by rfl) (by assumption) ?_
  try simp only [Act.put, pA, pB, pC]
  refine takeN (i := 11) (by simp only [List.getElem?_toArray, List.getElem?_cons_succ, List.getElem?_cons_zero]; exact rfl) (by kernel_rfl) (by kernel_rfl) (by kernel_rfl) (by exact fun _ _ _ h => h) (by rfl) (by assumption) ?_
  try simp only [Act.put, pA, pB, pC]
  refine takeN (i := 12) (by simp only [List.getElem?_toArray, List.getElem?_cons_succ, List.getElem?_cons_zero]; exact rfl) (by kernel_rfl) (by kernel_rfl) (by kernel_rfl) (by exact fun _ _ _ h => h) (by rfl) (by assumption) ?_
  try simp only [Act.put, pA, pB, pC]
  refine takeA (i := 13) (h := ?_)
  refine takeA (i := 14) (h := ?_)
  refine wpAnyH_done (by kernel_rfl) ?_ _
  go_wp2
  go_ret
  exact ⟨rfl, by assumption⟩
 | succ m =>
  rw [sameI_line (by omega)]
  obtain ⟨b, off, rfl, hc⟩ := h.cells (by intro e; simp [e] at hi)
  obtain ⟨t0, t1⟩ := hc (m + 1) hi
  obtain ⟨u0, u1⟩ := hc m (by omega)
  rw [show (ps[m + 1]?.getD (0, 0)) = ptA ps (m + 1) from rfl] at t0 t1
  rw [show (ps[m]?.getD (0, 0)) = ptA ps m from rfl] at u0 u1
  have hmt : m < ps.length := by omega
  have hm1 : (0 : Int) ≤ (m : Int) + 1 := by omega
  have hm3 : (m : Int) + 1 < (ps.length : Int) := by omega
  have hm2 : (0 : Int) < (m : Int) + 1 := by omega
  have hwm : IntKind.i64.wrap (m : Int) = m := by rw [IntKind.wrap_i64]; omega
  clear hc
  generalize (ptA ps (m + 1)).1 = x at *
  generalize (ptA ps (m + 1)).2 = y at *
  generalize (ptA ps m).1 = x' at *
  generalize (ptA ps m).2 = y' at *
  by_cases e1 : x = x'
  ·subst e1
   by_cases e2 : y = y'
   ·subst e2
    rw [show ((decide (x = x) && decide (y = y)) = true) from by simp]
    go_enter Tryz.func98, Tryz.ntmps98
    go_wp2_with fail
    have N := (Below.refl w.heap.size w).drew
    refine wp_region_held_drew (S := Below w.heap.size w) (by kernel_rfl) N (fun hHeld => ?_)
    clear hHeld
    refine takeA (i := 0) (h := ?_)
    refine takeA (i := 1) (h := ?_)
    refine takeA (i := 2) (h := ?_)
    refine takeA (i := 3) (h := ?_)
    refine takeA (i := 4) (h := ?_)
    refine takeA (i := 5) (h := ?_)
    refine takeA (i := 6) (hy := by intro wq hSw; have z0 := bat hSw t0; have z1 := bat hSw t1; have z2 := bat hSw u0; have z3 := bat hSw u1; go_simp <;> with_reducible rfl) (h := ?_)
    refine takeA (i := 7) (h := ?_)
    refine takeA (i := 8) (h := ?_)
    refine takeA (i := 9) (h := ?_)
    refine takeA (i := 10) (h := ?_)
    refine takeA (i := 11) (hy := by intro wq hSw; have z0 := bat hSw t0; have z1 := bat hSw t1; have z2 := bat hSw u0; have z3 := bat hSw u1; go_simp <;> with_reducible rfl) (h := ?_)
    refine takeA (i := 12) (h := ?_)
    refine takeA (i := 13) (h := ?_)
    refine takeA (i := 14) (h := ?_)
    refine wpAnyH_done (by kernel_rfl) ?_ _
    go_wp2
    go_ret
    exact ⟨rfl, by assumption⟩
   ·have b2 : (y == y') = false := by simp [e2]
    rw [show ((decide (x = x) && decide (y = y')) = false) from by simp [e2]]
    go_enter Tryz.func98, Tryz.ntmps98
    go_wp2_with fail
    have N := (Below.refl w.heap.size w).drew
    refine wp_region_held_drew (S := Below w.heap.size w) (by kernel_rfl) N (fun hHeld => ?_)
    clear hHeld
    refine takeA (i := 0) (h := ?_)
    refine takeA (i := 1) (h := ?_)
    refine takeA (i := 2) (h := ?_)
    refine takeA (i := 3) (h := ?_)
    refine takeA (i := 4) (h := ?_)
    refine takeA (i := 5) (h := ?_)
    refine takeA (i := 6) (hy := by intro wq hSw; have z0 := bat hSw t0; have z1 := bat hSw t1; have z2 := bat hSw u0; have z3 := bat hSw u1; go_simp <;> with_reducible rfl) (h := ?_)
    refine takeA (i := 7) (h := ?_)
    refine takeA (i := 8) (h := ?_)
    refine takeA (i := 9) (h := ?_)
    refine takeA (i := 10) (h := ?_)
    refine takeA (i := 11) (hy := by intro wq hSw; have z0 := bat hSw t0; have z1 := bat hSw t1; have z2 := bat hSw u0; have z3 := bat hSw u1; go_simp <;> with_reducible rfl) (h := ?_)
    refine takeA (i := 12) (h := ?_)
    refine takeA (i := 13) (h := ?_)
    refine takeA (i := 14) (h := ?_)
    refine wpAnyH_done (by kernel_rfl) ?_ _
    go_wp2
    go_ret
    exact ⟨rfl, by assumption⟩
  ·have b1 : (x == x') = false := by simp [e1]
   rw [show ((decide (x = x') && decide (y = y')) = false) from by simp [e1]]
   go_enter Tryz.func98, Tryz.ntmps98
   go_wp2_with fail
   have N := (Below.refl w.heap.size w).drew
   refine wp_region_held_drew (S := Below w.heap.size w) (by kernel_rfl) N (fun hHeld => ?_)
   clear hHeld
   refine takeA (i := 0) (h := ?_)
   refine takeA (i := 1) (h := ?_)
   refine takeA (i := 2) (h := ?_)
   refine takeA (i := 3) (h := ?_)
   refine takeA (i := 4) (h := ?_)
   refine takeA (i := 5) (h := ?_)
   refine takeA (i := 6) (hy := by intro wq hSw; have z0 := bat hSw t0; have z1 := bat hSw t1; have z2 := bat hSw u0; have z3 := bat hSw u1; go_simp <;> with_reducible rfl) (h := ?_)
   refine takeA (i := 7) (h := ?_)
   refine takeA (i := 8) (h := ?_)
   refine takeA (i := 9) (h := ?_)
   refine takeA (i := 10) (h := ?_)
   refine takeA (i := 11) (hy := by intro wq hSw; have z0 := bat hSw t0; have z1 := bat hSw t1; have z2 := bat hSw u0; have z3 := bat hSw u1; go_simp <;> with_reducible rfl) (h := ?_)
   refine takeA (i := 12) (h := ?_)
   refine takeA (i := 13) (h := ?_)
   refine takeA (i := 14) (h := ?_)
   refine wpAnyH_done (by kernel_rfl) ?_ _
   go_wp2
   go_ret
   exact ⟨rfl, by assumption⟩
set_option maxRecDepth 20000 in
set_option maxHeartbeats 4000000 in
theorem sameAhead4 (v : Value) (a : Option Addr) (c : Nat) (ps : List (Int × Int)) (i : Nat) (w : World) (h : SeesP w a c ps) (hi : i < ps.length) :
  Calls Tryz.prog 98 #[.iface 153 (.agg #[v]), .slice a ps.length c, .int .i64 i] w fun e w' => e = .returned (.bool (sameI 4 ps i)) ∧ Below w.heap.size w w' := by
 have q3 := as43 v
 have q4 := as44 v
 have hm := h.max
 have hf := h.fits
 unfold maxLen at hm
 cases i with
 | zero =>
  rw [sameI_line0 (by omega)]
  rw [show ((0 : Nat) : Int) = 0 from rfl]
  go_enter Tryz.func98, Tryz.ntmps98
  go_wp2_with fail
  have N := (Below.refl w.heap.size w).drew
  refine wp_region_held_drew (S := Below w.heap.size w) (by kernel_rfl) N (fun hHeld => ?_)
  clear hHeld
  refine takeA (i := 0) (h := ?_)
  refine takeA (i := 1) (h := ?_)
  refine takeA (i := 2) (h := ?_)
  refine takeN (i := 3) (by simp only [List.getElem?_toArray, List.getElem?_cons_succ, List.getElem?_cons_zero]; exact rfl) (by kernel_rfl) (by kernel_rfl) (by kernel_rfl) (by exact fun _ _ _ h => h) (by rfl) (by assumption) ?_
  try simp only [Act.put, pA, pB, pC]
  refine takeN (i := 4) (by simp only [List.getElem?_toArray, List.getElem?_cons_succ, List.getElem?_cons_zero]; exact rfl) (by kernel_rfl) (by kernel_rfl) (by kernel_rfl) (by exact fun _ _ _ h => h) (by rfl) (by assumption) ?_
  try simp only [Act.put, pA, pB, pC]
  refine takeN (i := 5) (by simp only [List.getElem?_toArray, List.getElem?_cons_succ, List.getElem?_cons_zero]; exact rfl) (by kernel_rfl) (by kernel_rfl) (by kernel_rfl) (by exact fun _ _ _ h => h) (by rfl) (by assumption) ?_
  try simp only [Act.put, pA, pB, pC]
  refine takeN (i := 6) (by simp only [List.getElem?_toArray, List.getElem?_cons_succ, List.getElem?_cons_zero]; exact rfl) (by kernel_rfl) (by kernel_rfl) (by kernel_rfl) (by exact fun _ _ _ h => h) (by rfl) (by assumption) ?_
  try simp only [Act.put, pA, pB, pC]
  refine takeN (i := 7) (by simp only [List.getElem?_toArray, List.getElem?_cons_succ, List.getElem?_cons_zero]; exact rfl) (by kernel_rfl) (by kernel_rfl) (by kernel_rfl) (by exact fun _ _ _ h => h) (by rfl) (by assumption) ?_
  try simp only [Act.put, pA, pB, pC]
  refine takeN (i := 8) (by simp only [List.getElem?_toArray, List.getElem?_cons_succ, List.getElem?_cons_zero]; exact rfl) (by kernel_rfl) (by kernel_rfl) (by kernel_rfl) (by exact fun _ _ _ h => h) (by rfl) (by assumption) ?_
  try simp only [Act.put, pA, pB, pC]
  refine takeN (i := 9) (by simp only [List.getElem?_toArray, List.getElem?_cons_succ, List.getElem?_cons_zero]; exact rfl) (by kernel_rfl) (by kernel_rfl) (by kernel_rfl) (by exact fun _ _ _ h => h) (by rfl) (by assumption) ?_
  try simp only [Act.put, pA, pB, pC]
  refine takeN (i := 10) (by simp only [List.getElem?_toArray, List.getElem?_cons_succ, List.getElem?_cons_zero]; exact rfl) (by kernel_rfl) (by kernel_rfl) (by kernel_rfl) (by exact fun _ _ _ h => h) (by rfl) (by assumption) ?_
  try simp only [Act.put, pA, pB, pC]
  refine takeN (i := 11) (by simp only [List.getElem?_toArray, List.getElem?_cons_succ, List.getElem?_cons_zero]; exact rfl) (by kernel_rfl) (by kernel_rfl) (by kernel_rfl) (by exact fun _ _ _ h => h) (by rfl) (by assumption) ?_
  try simp only [Act.put, pA, pB, pC]
  refine takeN (i := 12) (by simp only [List.getElem?_toArray, List.getElem?_cons_succ, List.getElem?_cons_zero]; exact rfl) (by kernel_rfl) (by kernel_rfl) (by kernel_rfl) (by exact fun _ _ _ h => h) (by rfl) (by assumption) ?_
  try simp only [Act.put, pA, pB, pC]
  refine takeA (i := 13) (h := ?_)
  refine takeA (i := 14) (h := ?_)
  refine wpAnyH_done (by kernel_rfl) ?_ _
  go_wp2
  go_ret
  exact ⟨rfl, by assumption⟩
 | succ m =>
  rw [sameI_line (by omega)]
  obtain ⟨b, off, rfl, hc⟩ := h.cells (by intro e; simp [e] at hi)
  obtain ⟨t0, t1⟩ := hc (m + 1) hi
  obtain ⟨u0, u1⟩ := hc m (by omega)
  rw [show (ps[m + 1]?.getD (0, 0)) = ptA ps (m + 1) from rfl] at t0 t1
  rw [show (ps[m]?.getD (0, 0)) = ptA ps m from rfl] at u0 u1
  have hmt : m < ps.length := by omega
  have hm1 : (0 : Int) ≤ (m : Int) + 1 := by omega
  have hm3 : (m : Int) + 1 < (ps.length : Int) := by omega
  have hm2 : (0 : Int) < (m : Int) + 1 := by omega
  have hwm : IntKind.i64.wrap (m : Int) = m := by rw [IntKind.wrap_i64]; omega
  clear hc
  generalize (ptA ps (m + 1)).1 = x at *
  generalize (ptA ps (m + 1)).2 = y at *
  generalize (ptA ps m).1 = x' at *
  generalize (ptA ps m).2 = y' at *
  by_cases e1 : x = x'
  ·subst e1
   by_cases e2 : y = y'
   ·subst e2
    rw [show ((decide (x = x) && decide (y = y)) = true) from by simp]
    go_enter Tryz.func98, Tryz.ntmps98
    go_wp2_with fail
    have N := (Below.refl w.heap.size w).drew
    refine wp_region_held_drew (S := Below w.heap.size w) (by kernel_rfl) N (fun hHeld => ?_)
    clear hHeld
    refine takeA (i := 0) (h := ?_)
    refine takeA (i := 1) (h := ?_)
    refine takeA (i := 2) (h := ?_)
    refine takeA (i := 3) (h := ?_)
    refine takeA (i := 4) (h := ?_)
    refine takeA (i := 5) (h := ?_)
    refine takeA (i := 6) (hy := by intro wq hSw; have z0 := bat hSw t0; have z1 := bat hSw t1; have z2 := bat hSw u0; have z3 := bat hSw u1; go_simp <;> with_reducible rfl) (h := ?_)
    refine takeA (i := 7) (h := ?_)
    refine takeA (i := 8) (h := ?_)
    refine takeA (i := 9) (h := ?_)
    refine takeA (i := 10) (h := ?_)
    refine takeA (i := 11) (hy := by intro wq hSw; have z0 := bat hSw t0; have z1 := bat hSw t1; have z2 := bat hSw u0; have z3 := bat hSw u1; go_simp <;> with_reducible rfl) (h := ?_)
    refine takeA (i := 12) (h := ?_)
    refine takeA (i := 13) (h := ?_)
    refine takeA (i := 14) (h := ?_)
    refine wpAnyH_done (by kernel_rfl) ?_ _
    go_wp2
    go_ret
    exact ⟨rfl, by assumption⟩
   ·have b2 : (y == y') = false := by simp [e2]
    rw [show ((decide (x = x) && decide (y = y')) = false) from by simp [e2]]
    go_enter Tryz.func98, Tryz.ntmps98
    go_wp2_with fail
    have N := (Below.refl w.heap.size w).drew
    refine wp_region_held_drew (S := Below w.heap.size w) (by kernel_rfl) N (fun hHeld => ?_)
    clear hHeld
    refine takeA (i := 0) (h := ?_)
    refine takeA (i := 1) (h := ?_)
    refine takeA (i := 2) (h := ?_)
    refine takeA (i := 3) (h := ?_)
    refine takeA (i := 4) (h := ?_)
    refine takeA (i := 5) (h := ?_)
    refine takeA (i := 6) (hy := by intro wq hSw; have z0 := bat hSw t0; have z1 := bat hSw t1; have z2 := bat hSw u0; have z3 := bat hSw u1; go_simp <;> with_reducible rfl) (h := ?_)
    refine takeA (i := 7) (h := ?_)
    refine takeA (i := 8) (h := ?_)
    refine takeA (i := 9) (h := ?_)
    refine takeA (i := 10) (h := ?_)
    refine takeA (i := 11) (hy := by intro wq hSw; have z0 := bat hSw t0; have z1 := bat hSw t1; have z2 := bat hSw u0; have z3 := bat hSw u1; go_simp <;> with_reducible rfl) (h := ?_)
    refine takeA (i := 12) (h := ?_)
    refine takeA (i := 13) (h := ?_)
    refine takeA (i := 14) (h := ?_)
    refine wpAnyH_done (by kernel_rfl) ?_ _
    go_wp2
    go_ret
    exact ⟨rfl, by assumption⟩
  ·have b1 : (x == x') = false := by simp [e1]
   rw [show ((decide (x = x') && decide (y = y')) = false) from by simp [e1]]
   go_enter Tryz.func98, Tryz.ntmps98
   go_wp2_with fail
   have N := (Below.refl w.heap.size w).drew
   refine wp_region_held_drew (S := Below w.heap.size w) (by kernel_rfl) N (fun hHeld => ?_)
   clear hHeld
   refine takeA (i := 0) (h := ?_)
   refine takeA (i := 1) (h := ?_)
   refine takeA (i := 2) (h := ?_)
   refine takeA (i := 3) (h := ?_)
   refine takeA (i := 4) (h := ?_)
   refine takeA (i := 5) (h := ?_)
   refine takeA (i := 6) (hy := by intro wq hSw; have z0 := bat hSw t0; have z1 := bat hSw t1; have z2 := bat hSw u0; have z3 := bat hSw u1; go_simp <;> with_reducible rfl) (h := ?_)
   refine takeA (i := 7) (h := ?_)
   refine takeA (i := 8) (h := ?_)
   refine takeA (i := 9) (h := ?_)
   refine takeA (i := 10) (h := ?_)
   refine takeA (i := 11) (hy := by intro wq hSw; have z0 := bat hSw t0; have z1 := bat hSw t1; have z2 := bat hSw u0; have z3 := bat hSw u1; go_simp <;> with_reducible rfl) (h := ?_)
   refine takeA (i := 12) (h := ?_)
   refine takeA (i := 13) (h := ?_)
   refine takeA (i := 14) (h := ?_)
   refine wpAnyH_done (by kernel_rfl) ?_ _
   go_wp2
   go_ret
   exact ⟨rfl, by assumption⟩
set_option maxRecDepth 20000 in
set_option maxHeartbeats 4000000 in
theorem sameAhead5 (v : Value) (a : Option Addr) (c : Nat) (ps : List (Int × Int)) (i : Nat) (w : World) (h : SeesP w a c ps) (hi : i < ps.length) (hs : ps.length ≤ 60) :
  Calls Tryz.prog 98 #[.iface 130 (.agg #[v]), .slice a ps.length c, .int .i64 i] w fun e w' => e = .returned (.bool (sameI 5 ps i)) ∧ Below w.heap.size w w' := by
 have q3 := as53 v
 have q4 := as54 v
 have q5 := as55 v
 have hm := h.max
 have hf := h.fits
 unfold maxLen at hm
 rw [sameI_area ps hi]
 obtain ⟨b, off, rfl, hc⟩ := h.cells (by intro e; simp [e] at hi)
 have hp : (i + ps.length - 1) % ps.length < ps.length := Nat.mod_lt _ (by omega)
 have hpi : ((i : Int) + (ps.length : Int) - 1) % (ps.length : Int) = (((i + ps.length - 1) % ps.length : Nat) : Int) := by
  rw [Int.natCast_emod]
  congr 1
  omega
 have hpt : ((i : Int) + (ps.length : Int) - 1).tmod (ps.length : Int) = (((i + ps.length - 1) % ps.length : Nat) : Int) := by
  rw [Int.tmod_eq_emod_of_nonneg (by omega)]
  exact hpi
 have hne : ps ≠ [] := by intro e; simp [e] at hi
 obtain ⟨t0, t1⟩ := hc i hi
 obtain ⟨u0, u1⟩ := hc ((i + ps.length - 1) % ps.length) hp
 rw [show (ps[i]?.getD (0, 0)) = ptA ps i from rfl] at t0 t1
 rw [show (ps[(i + ps.length - 1) % ps.length]?.getD (0, 0)) = ptA ps ((i + ps.length - 1) % ps.length) from rfl] at u0 u1
 generalize (i + ps.length - 1) % ps.length = p at *
 clear hc
 generalize (ptA ps i).1 = x at *
 generalize (ptA ps i).2 = y at *
 generalize (ptA ps p).1 = x' at *
 generalize (ptA ps p).2 = y' at *
 have hn0 : (0 : Int) < ps.length := by omega
 have hw1 : IntKind.i64.wrap ((i : Int) + (ps.length : Int)) = (i : Int) + (ps.length : Int) := by rw [IntKind.wrap_i64]; omega
 have hw2 : IntKind.i64.wrap ((i : Int) + (ps.length : Int) - 1) = (i : Int) + (ps.length : Int) - 1 := by rw [IntKind.wrap_i64]; omega
 by_cases e1 : x = x'
 ·subst e1
  by_cases e2 : y = y'
  ·subst e2
   rw [show ((decide (x = x) && decide (y = y)) = true) from by simp]
   go_enter Tryz.func98, Tryz.ntmps98
   go_wp2_with fail
   have N := (Below.refl w.heap.size w).drew
   refine wp_region_held_drew (S := Below w.heap.size w) (by kernel_rfl) N (fun hHeld => ?_)
   clear hHeld
   refine takeA (i := 0) (h := ?_)
   refine takeA (i := 1) (h := ?_)
   refine takeA (i := 2) (h := ?_)
   refine takeA (i := 3) (hy := by intro wq hSw; have z0 := bat hSw t0; have z1 := bat hSw t1; have z2 := bat hSw u0; have z3 := bat hSw u1; go_simp <;> with_reducible rfl) (h := ?_)
   refine takeA (i := 4) (h := ?_)
   refine takeA (i := 5) (h := ?_)
   refine takeA (i := 6) (h := ?_)
   refine takeA (i := 7) (h := ?_)
   refine takeA (i := 8) (h := ?_)
   refine takeA (i := 9) (h := ?_)
   refine takeA (i := 10) (h := ?_)
   refine takeA (i := 11) (h := ?_)
   refine takeA (i := 12) (h := ?_)
   refine takeA (i := 13) (h := ?_)
   refine takeA (i := 14) (hy := by intro wq hSw; have z0 := bat hSw t0; have z1 := bat hSw t1; have z2 := bat hSw u0; have z3 := bat hSw u1; go_simp <;> with_reducible rfl) (h := ?_)
   refine takeA (i := 15) (h := ?_)
   refine takeA (i := 16) (h := ?_)
   refine wpAnyH_done (by kernel_rfl) ?_ _
   go_wp2
   go_ret
   exact ⟨rfl, by assumption⟩
  ·have b2 : (y == y') = false := by simp [e2]
   rw [show ((decide (x = x) && decide (y = y')) = false) from by simp [e2]]
   go_enter Tryz.func98, Tryz.ntmps98
   go_wp2_with fail
   have N := (Below.refl w.heap.size w).drew
   refine wp_region_held_drew (S := Below w.heap.size w) (by kernel_rfl) N (fun hHeld => ?_)
   clear hHeld
   refine takeA (i := 0) (h := ?_)
   refine takeA (i := 1) (h := ?_)
   refine takeA (i := 2) (h := ?_)
   refine takeA (i := 3) (hy := by intro wq hSw; have z0 := bat hSw t0; have z1 := bat hSw t1; have z2 := bat hSw u0; have z3 := bat hSw u1; go_simp <;> with_reducible rfl) (h := ?_)
   refine takeA (i := 4) (h := ?_)
   refine takeA (i := 5) (h := ?_)
   refine takeA (i := 6) (h := ?_)
   refine takeA (i := 7) (h := ?_)
   refine takeA (i := 8) (h := ?_)
   refine takeA (i := 9) (h := ?_)
   refine takeA (i := 10) (h := ?_)
   refine takeA (i := 11) (h := ?_)
   refine takeA (i := 12) (h := ?_)
   refine takeA (i := 13) (h := ?_)
   refine takeA (i := 14) (hy := by intro wq hSw; have z0 := bat hSw t0; have z1 := bat hSw t1; have z2 := bat hSw u0; have z3 := bat hSw u1; go_simp <;> with_reducible rfl) (h := ?_)
   refine takeA (i := 15) (h := ?_)
   refine takeA (i := 16) (h := ?_)
   refine wpAnyH_done (by kernel_rfl) ?_ _
   go_wp2
   go_ret
   exact ⟨rfl, by assumption⟩
 ·have b1 : (x == x') = false := by simp [e1]
  rw [show ((decide (x = x') && decide (y = y')) = false) from by simp [e1]]
  go_enter Tryz.func98, Tryz.ntmps98
  go_wp2_with fail
  have N := (Below.refl w.heap.size w).drew
  refine wp_region_held_drew (S := Below w.heap.size w) (by kernel_rfl) N (fun hHeld => ?_)
  clear hHeld
  refine takeA (i := 0) (h := ?_)
  refine takeA (i := 1) (h := ?_)
  refine takeA (i := 2) (h := ?_)
  refine takeA (i := 3) (hy := by intro wq hSw; have z0 := bat hSw t0; have z1 := bat hSw t1; have z2 := bat hSw u0; have z3 := bat hSw u1; go_simp <;> with_reducible rfl) (h := ?_)
  refine takeA (i := 4) (h := ?_)
  refine takeA (i := 5) (h := ?_)
  refine takeA (i := 6) (h := ?_)
  refine takeA (i := 7) (h := ?_)
  refine takeA (i := 8) (h := ?_)
  refine takeA (i := 9) (h := ?_)
  refine takeA (i := 10) (h := ?_)
  refine takeA (i := 11) (h := ?_)
  refine takeA (i := 12) (h := ?_)
  refine takeA (i := 13) (h := ?_)
  refine takeA (i := 14) (hy := by intro wq hSw; have z0 := bat hSw t0; have z1 := bat hSw t1; have z2 := bat hSw u0; have z3 := bat hSw u1; go_simp <;> with_reducible rfl) (h := ?_)
  refine takeA (i := 15) (h := ?_)
  refine takeA (i := 16) (h := ?_)
  refine wpAnyH_done (by kernel_rfl) ?_ _
  go_wp2
  go_ret
  exact ⟨rfl, by assumption⟩
end Go.Proofs.YtinlomcaagdbiaaGreat
