/- The bytes of a shape, of the specification: l8Type, l8Pt, l8Row, l8Put, PutShape. -/
import Derived.Test.YtlkhbbllkkdhaaaGreatDoorPutR
import Derived.Test.YtlkhbbllkkdhaaaGreatDoorGoodS
import Derived.Test.YtlkhbbllkkdhaaaGreatDoorSeg
namespace Go.Proofs.YtlkhbbllkkdhaaaGreatDoor
open Go.RowKit

def ptB (x y : Int) : List Int := leB 8 (IntKind.u64.wrap (flt x)) ++ leB 8 (IntKind.u64.wrap (flt y))
def ptsB (ps : List (Int × Int)) : List Int := ps.flatMap fun p => ptB p.1 p.2
/-- A row of points, and how many. -/
def lnB (ps : List (Int × Int)) : List Int := leB 4 ps.length ++ ptsB ps
/-- A ring: its first point once more. -/
def rgB (ps : List (Int × Int)) : List Int := lnB (ps ++ ps.take 1)
def tyN (k : Int) : Int := if k = 1 then 1 else if k = 2 then 4 else if k = 3 then 2 else if k = 4 then 5 else 3
def hdB (k : Int) : List Int := [1] ++ leB 4 (tyN k)
def ptP (p : Int × Int) : List Int := hdB 1 ++ ptB p.1 p.2
def lnP (ps : List (Int × Int)) : List Int := hdB 3 ++ lnB ps
def shBy (k : Int) (rs : List (List (Int × Int))) : List Int :=
  hdB k ++ (if k = 1 then ptB (ptA (rowA rs 0) 0).1 (ptA (rowA rs 0) 0).2 else if k = 2 then leB 4 (rowA rs 0).length ++ (rowA rs 0).flatMap ptP else if k = 3 then lnB (rowA rs 0)
    else leB 4 rs.length ++ (if k = 4 then rs.flatMap lnP else rs.flatMap rgB))
def putB (k : Int) (rs : List (List (Int × Int))) : List Int := if goodB k rs then shBy k rs else []

theorem ptB_len (x y : Int) : (ptB x y).length = 16 := by simp [ptB, leB_len]
theorem hdB_len (k : Int) : (hdB k).length = 5 := by simp [hdB, leB_len]
theorem ptsB_len (ps : List (Int × Int)) : (ptsB ps).length = 16 * ps.length := by
  induction ps with
  | nil => rfl
  | cons p r ih => simp only [ptsB, List.flatMap_cons, List.length_append, ptB_len, List.length_cons] at *; omega
theorem lnB_len (ps : List (Int × Int)) : (lnB ps).length = 4 + 16 * ps.length := by simp [lnB, leB_len, ptsB_len]
theorem ptsB_step {ps : List (Int × Int)} {j : Nat} (h : j < ps.length) : ptsB (ps.take (j + 1)) = ptsB (ps.take j) ++ ptB (ptA ps j).1 (ptA ps j).2 := by
  rw [List.take_add_one, List.getElem?_eq_getElem h]
  unfold ptsB ptA
  rw [List.flatMap_append, List.getElem?_eq_getElem h]
  simp
theorem flat_step {α : Type} (f : α → List Int) {ps : List α} {j : Nat} (h : j < ps.length) : (ps.take (j + 1)).flatMap f = (ps.take j).flatMap f ++ f ps[j] := by
  rw [List.take_add_one, List.getElem?_eq_getElem h, List.flatMap_append]
  simp

set_option maxRecDepth 20000 in
set_option maxHeartbeats 1000000 in
theorem l8Type_any (k : Int) (hk : 1 ≤ k ∧ k ≤ 5) (w : World) :
    Calls Tryz.prog 25 #[.int .i64 k] w fun e w' => e = .returned (.int .i64 (tyN k)) ∧ Below w.heap.size w w' := by
  have B0 := below1 w (.cells #[.int .i64 0, .int .i64 1, .int .i64 4, .int .i64 2, .int .i64 5, .int .i64 3] 3)
  have K : k = 1 ∨ k = 2 ∨ k = 3 ∨ k = 4 ∨ k = 5 := by omega
  rcases K with rfl | rfl | rfl | rfl | rfl <;>
  · go_enter Tryz.func25, Tryz.ntmps25
    go_wp2
    go_ret
    exact ⟨rfl, B0⟩

set_option maxRecDepth 20000 in
set_option maxHeartbeats 2000000 in
theorem l8Pt_any (x y : Int) (w : World) :
    Calls Tryz.prog 26 #[.agg #[.int .i64 x, .int .i64 y]] w fun e w' => ∃ v', e = .returned v' ∧ RowB w.heap.size w' v' (ptB x y) ∧ Below w.heap.size w w' := by
  obtain ⟨i8, hi8, hy0, hy1, hy2⟩ := info_parts infoB
  have B0 := below1 w (.cells #[.int .i64 x, .int .i64 y] 59)
  have V := Box2.new w (lo := w.heap.size) (Nat.le_refl _) (.int .i64 x) (.int .i64 y) 59
  have LX : (leB 8 (IntKind.u64.wrap (flt x))).length = 8 := leB_len _ _
  have LY : (leB 8 (IntKind.u64.wrap (flt y))).length = 8 := leB_len _ _
  go_enter Tryz.func26, Tryz.ntmps26
  go_upto_region 1 with fail
  generalize w.alloc (.cells #[.int .i64 x, .int .i64 y] 59) = W0 at *
  have hW := B0.size
  obtain ⟨t0, t1, _, _⟩ := id V
  have N := ((Below.refl W0.heap.size W0).drew : Below W0.heap.size W0 _)
  refine wp_region_held_drew (S := Below W0.heap.size W0) (by kernel_rfl) N (fun hHeld => ?_)
  clear hHeld
  revert N
  generalize W0.drew = ww0
  intro N
  refine takeW (i := 0) (by simp only [List.getElem?_toArray, List.getElem?_cons_zero]; exact rfl) (by kernel_rfl) (by kernel_rfl) (by kernel_rfl) (by exact fun _ _ _ h => h) (by rfl) (by intro wq hSw; go_simp <;> with_reducible rfl) (by assumption) ?_
  try simp only [Act.put, List.setIfInBounds_toArray, List.set_cons_zero, List.set_cons_succ]
  refine takeW (i := 1) (by simp only [List.getElem?_toArray, List.getElem?_cons_succ, List.getElem?_cons_zero]; exact rfl) (by kernel_rfl) (by kernel_rfl) (by kernel_rfl) (by exact fun _ _ _ h => h) (by rfl) (by intro wq hSw; have z0 := bat hSw t0; have z1 := bat hSw t1; go_simp <;> with_reducible rfl) (by assumption) ?_
  try simp only [Act.put, List.setIfInBounds_toArray, List.set_cons_zero, List.set_cons_succ]
  refine takeW (i := 4) (by simp only [List.getElem?_toArray, List.getElem?_cons_succ, List.getElem?_cons_zero]; exact rfl) (by kernel_rfl) (by kernel_rfl) (by kernel_rfl) (by exact fun _ _ _ h => h) (by rfl) (by intro wq hSw; go_simp <;> with_reducible rfl) (by assumption) ?_
  try simp only [Act.put, List.setIfInBounds_toArray, List.set_cons_zero, List.set_cons_succ]
  refine takeW (i := 5) (by simp only [List.getElem?_toArray, List.getElem?_cons_succ, List.getElem?_cons_zero]; exact rfl) (by kernel_rfl) (by kernel_rfl) (by kernel_rfl) (by exact fun _ _ _ h => h) (by rfl) (by intro wq hSw; have z0 := bat hSw t0; have z1 := bat hSw t1; go_simp <;> with_reducible rfl) (by assumption) ?_
  try simp only [Act.put, List.setIfInBounds_toArray, List.set_cons_zero, List.set_cons_succ]
  refine wpAnyH_ready (rs := [2]) (by kernel_rfl) (by simp) (AllReadyH.cons (by simp only [List.getElem?_toArray, List.getElem?_cons_succ, List.getElem?_cons_zero]; exact rfl) (fun K hK => ?_) AllReadyH.nil)
  go_simp
  go_at_call 40
  refine (specFloat x _).mono ?_
  rintro e q1 ⟨rfl, rfl⟩
  refine hK.out _ _ N (fun hHeld => ?_)
  clear hK K hHeld
  try simp only [Act.put, List.setIfInBounds_toArray, List.set_cons_zero, List.set_cons_succ]
  refine wpAnyH_ready (rs := [3]) (by kernel_rfl) (by simp) (AllReadyH.cons (by simp only [List.getElem?_toArray, List.getElem?_cons_succ, List.getElem?_cons_zero]; exact rfl) (fun K hK => ?_) AllReadyH.nil)
  go_simp
  go_at_call 15
  refine (l8Bytes_any (flt x) 8 _ (by omega)).mono ?_
  rintro e q2 ⟨v2, rfl, R2, b2⟩
  have N2 := N.trans (b2.mono N.size)
  refine hK.out _ _ N2 (fun hHeld => ?_)
  clear hK K hHeld b2
  try simp only [Act.put, List.setIfInBounds_toArray, List.set_cons_zero, List.set_cons_succ]
  refine wpAnyH_ready (rs := [6]) (by kernel_rfl) (by simp) (AllReadyH.cons (by simp only [List.getElem?_toArray, List.getElem?_cons_succ, List.getElem?_cons_zero]; exact rfl) (fun K hK => ?_) AllReadyH.nil)
  go_simp
  go_at_call 40
  refine (specFloat y _).mono ?_
  rintro e q3 ⟨rfl, rfl⟩
  refine hK.out _ _ N2 (fun hHeld => ?_)
  clear hK K hHeld
  try simp only [Act.put, List.setIfInBounds_toArray, List.set_cons_zero, List.set_cons_succ]
  refine wpAnyH_ready (rs := [7]) (by kernel_rfl) (by simp) (AllReadyH.cons (by simp only [List.getElem?_toArray, List.getElem?_cons_succ, List.getElem?_cons_zero]; exact rfl) (fun K hK => ?_) AllReadyH.nil)
  go_simp
  go_at_call 15
  refine (l8Bytes_any (flt y) 8 _ (by omega)).mono ?_
  rintro e q4 ⟨v4, rfl, R4, b4⟩
  have N4 := N2.trans (b4.mono N2.size)
  replace R2 := R2.below b4
  refine hK.out _ _ N4 (fun hHeld => ?_)
  clear hK K hHeld b4
  have zN := N.size
  have zN4 := N4.size
  try simp only [Act.put, List.setIfInBounds_toArray, List.set_cons_zero, List.set_cons_succ]
  refine wpAnyH_ready (rs := [8]) (by kernel_rfl) (by simp) (AllReadyH.cons (by simp only [List.getElem?_toArray, List.getElem?_cons_succ, List.getElem?_cons_zero]; exact rfl) (fun K hK => ?_) AllReadyH.nil)
  obtain ⟨b4, c4, rfl, _, _⟩ := R4.shape (by intro e; rw [e] at LY; cases LY)
  have R2' : RowB w.heap.size q4 v2 _ := row_base R2 (by omega)
  refine wp_append_own _ (.tmp 6) (.tmp 10) 24 rfl w.heap.size 5 i8 (.int .u8 0) 1 1 Tryz.underlying24 hi8 hy0 hy1 hy2 rfl (by decide) v2 (leB 8 (IntKind.u64.wrap (flt x))).length ((leB 8 (IntKind.u64.wrap (flt x))).map (Value.int .u8)) rfl R2' ⟨b4, 0, none⟩ (leB 8 (IntKind.u64.wrap (flt y))).length _ ((leB 8 (IntKind.u64.wrap (flt y))).map (Value.int .u8)) rfl (by simp) R4.news (ones8 _) (by unfold maxLen; omega) (by omega) (by omega) ?_
  intro v7 w7 R7 G7 _
  have N7 : Below W0.heap.size W0 w7 := N4.grown G7 (by omega) (fun k hk => by have := (World.ownsRow.lt R2 k hk).1; omega)
  replace R7 : RowB w.heap.size w7 v7 (leB 8 (IntKind.u64.wrap (flt x)) ++ leB 8 (IntKind.u64.wrap (flt y))) := RowB.app R7
  refine hK.out _ _ N7 (fun hHeld => ?_)
  clear hK K hHeld G7
  try simp only [Act.put, List.setIfInBounds_toArray, List.set_cons_zero, List.set_cons_succ]
  refine takeW (i := 9) (by simp only [List.getElem?_toArray, List.getElem?_cons_succ, List.getElem?_cons_zero]; exact rfl) (by kernel_rfl) (by kernel_rfl) (by kernel_rfl) (by exact fun _ _ _ h => h) (by rfl) (by intro wq hSw; go_simp <;> with_reducible rfl) (by assumption) ?_
  try simp only [Act.put, List.setIfInBounds_toArray, List.set_cons_zero, List.set_cons_succ]
  refine wpAnyH_done (by kernel_rfl) ?_ _
  go_wp2
  go_ret
  exact ⟨_, rfl, R7, B0.trans (N7.mono hW)⟩
end Go.Proofs.YtlkhbbllkkdhaaaGreatDoor
