/- Whether two shapes meet: of the program (meeting, ShapesMeet). -/
import Derived.Test.YthafhfdhahbdoaaMtgI
import Derived.Test.YthafhfdhahbdoaaGoodI
import Derived.Test.YthafhfdhahbdoaaPtM
namespace Go.Proofs.Ythafhfdhahbdoaa
open Go.RowKit

/-- By which function it is told. -/
def mtgF (n m : Int) : Nat :=
  if n ≤ 2 then (if m ≤ 2 then 55 else if m ≤ 4 then 56 else 57)
  else if n ≤ 4 then (if m ≤ 4 then 56 else 57)
  else (if m ≤ 4 then 58 else 59)
def mtgR (n : Int) : Value := .agg #[.nilFunc, .func (Fn.func (mtgF n 1)) #[] #[], .func (Fn.func (mtgF n 2)) #[] #[], .func (Fn.func (mtgF n 3)) #[] #[], .func (Fn.func (mtgF n 4)) #[] #[], .func (Fn.func (mtgF n 5)) #[] #[]]
theorem idx1 {n : Int} (h : 1 ≤ n ∧ n ≤ 5) (W : World) : (Instr.index 75 (.agg #[Value.nilFunc, Value.nilFunc, Value.nilFunc, Value.nilFunc, Value.nilFunc, Value.nilFunc, Value.nilFunc, Value.func (Fn.func 55) #[] #[], Value.func (Fn.func 55) #[] #[], Value.func (Fn.func 56) #[] #[], Value.func (Fn.func 56) #[] #[], Value.func (Fn.func 57) #[] #[], Value.nilFunc, Value.func (Fn.func 55) #[] #[], Value.func (Fn.func 55) #[] #[], Value.func (Fn.func 56) #[] #[], Value.func (Fn.func 56) #[] #[], Value.func (Fn.func 57) #[] #[], Value.nilFunc, Value.func (Fn.func 56) #[] #[], Value.func (Fn.func 56) #[] #[], Value.func (Fn.func 56) #[] #[], Value.func (Fn.func 56) #[] #[], Value.func (Fn.func 57) #[] #[], Value.nilFunc, Value.func (Fn.func 56) #[] #[], Value.func (Fn.func 56) #[] #[], Value.func (Fn.func 56) #[] #[], Value.func (Fn.func 56) #[] #[], Value.func (Fn.func 57) #[] #[], Value.nilFunc, Value.func (Fn.func 58) #[] #[], Value.func (Fn.func 58) #[] #[], Value.func (Fn.func 58) #[] #[], Value.func (Fn.func 58) #[] #[], Value.func (Fn.func 59) #[] #[]]) (.int .i64 n)).run Try.prog W = .ok (mtgR n) W := by
  rcases kinds h with rfl | rfl | rfl | rfl | rfl <;> kernel_rfl
theorem idx2 {n m : Int} (h : 1 ≤ m ∧ m ≤ 5) (W : World) : (Instr.index 74 (mtgR n) (.int .i64 m)).run Try.prog W = .ok (.func (Fn.func (mtgF n m)) #[] #[]) W := by
  rcases kinds h with rfl | rfl | rfl | rfl | rfl <;> kernel_rfl
theorem sgR_pos {k : Int} {ps : List (Int × Int)} (h : leastN k ≤ ps.length) (hk : 1 ≤ k ∧ k ≤ 5) : 0 < (sgR k ps).length := by
  have hl : (k ≤ 2 → 1 ≤ ps.length) ∧ (¬ k ≤ 2 → 2 ≤ ps.length) := by
    unfold leastN at h
    rcases kinds hk with rfl | rfl | rfl | rfl | rfl <;> simp at h <;> constructor <;> intro _ <;> omega
  unfold sgR
  split <;> rename_i h2
  · have := hl.1 h2
    rw [List.length_map]; omega
  · have := hl.2 h2
    split
    · rw [edL_len]; omega
    · rw [List.length_take, edL_len]; omega
theorem good_some {k : Int} {rs : List (List (Int × Int))} (h : goodB k rs = true) : 0 < rs.length := by
  obtain ⟨hk, _, _⟩ := goodS_rows h
  have hf : formB k rs = true := by
    unfold goodB goodTo at h
    rw [Bool.and_eq_true] at h
    exact h.1
  rw [formB_kind hk] at hf
  cases q : decide (rs.length = 0)
  · have := of_decide_eq_false q
    omega
  · rw [q] at hf
    simp at hf
theorem segL_bounds {k : Int} {rs : List (List (Int × Int))} (h : goodB k rs = true) : 0 < (segL k rs).length ∧ (segL k rs).length ≤ 1000 := by
  obtain ⟨hk, hle, hrow⟩ := goodS_rows h
  have h0 := good_some h
  constructor
  · have e := segL_step (k := k) (rs := rs) (j := 0) h0
    have := sgR_pos (hrow 0 h0).1 hk
    have l : (segL k (rs.take 1)).length ≤ (segL k rs).length := by
      unfold segL
      conv => rhs; rw [← List.take_append_drop 1 rs]
      rw [List.map_append, List.flatten_append, List.length_append]
      omega
    rw [e, List.length_append] at l
    omega
  · have := segL_le (k := k) (rs := rs) (fun i hi => (hrow i hi).2.2) rs.length (Nat.le_refl _)
    rw [List.take_length] at this
    omega
theorem good_okL {k : Int} {rs : List (List (Int × Int))} (h : goodB k rs = true) : ∀ i, i < rs.length → okL (rowA rs i) = true := by
  have hf : formB k rs = true := by
    unfold goodB goodTo at h
    rw [Bool.and_eq_true] at h
    exact h.1
  exact fun i hi => (form_row hf hi).2
theorem okL_stL {k : Int} {rs : List (List (Int × Int))} (h : goodB k rs = true) : okL (stL k rs) = true := by
  obtain ⟨hk, hle, hrow⟩ := goodS_rows h
  have h0 := good_some h
  have ok := good_okL h
  unfold stL
  split
  · exact ok 0 h0
  · unfold okL
    rw [List.all_map, List.all_eq_true]
    intro r hr
    obtain ⟨j, hj, rfl⟩ := List.mem_iff_getElem.mp hr
    have er : rowA rs j = rs[j] := by unfold rowA; rw [List.getElem?_eq_getElem hj]; rfl
    have hp := (hrow j hj).2.1
    have := List.all_eq_true.mp (ok j hj) _ (ptA_mem hp)
    rw [er] at this
    exact this
theorem hasQ_rows (rs : List (List (Int × Int))) (l : List (Int × Int)) : hasQ (segL 5 rs) l = hasL rs l := by
  unfold hasQ hasL
  simp only [locQ_rows]
/-- The function that the table names tells what the program's way is. -/
theorem mtg_calls {k1 k2 : Int} {rs ts : List (List (Int × Int))} (g1 : goodB k1 rs = true) (g2 : goodB k2 ts = true) (W : World) (v1 v2 v3 v4 : Value) (h : Ext W v1 v2 (segL k1 rs) (stL k1 rs)) (k : Ext W v3 v4 (segL k2 ts) (stL k2 ts)) :
    Calls Try.prog (mtgF k1 k2) #[.agg #[v1, v2, v3, v4]] W fun e w' => e = .returned (.bool (meetI k1 rs k2 ts)) ∧ Below W.heap.size W w' := by
  have o1 := okQ_seg g1
  have o2 := okQ_seg g2
  have p1 := okL_stL g1
  have p2 := okL_stL g2
  obtain ⟨b1, c1⟩ := segL_bounds g1
  obtain ⟨b2, c2⟩ := segL_bounds g2
  obtain ⟨K1, _, _⟩ := goodS_rows g1
  obtain ⟨K2, _, _⟩ := goodS_rows g2
  by_cases e1 : k1 = 5
  · subst e1
    by_cases e2 : k2 = 5
    · subst e2
      have M := areasMeet_any v1 v2 v3 v4 _ _ _ _ W h k o1 o2 p1 p2 b2 c2
      rw [hasQ_rows, hasQ_rows] at M
      exact M
    · have M := oneHasOther_any v1 v2 v3 v4 _ _ _ _ W h k o1 o2 p2 b2 c2
      rw [hasQ_rows] at M
      have e : mtgF 5 k2 = 58 := by
        unfold mtgF
        rw [if_neg (by omega), if_neg (by omega), if_pos (by omega)]
      have f : meetI 5 rs k2 ts = (anyQ (segL 5 rs) (segL k2 ts) || hasL rs (stL k2 ts)) := by
        unfold meetI
        rw [if_pos rfl, if_neg e2]
      rw [e, f]
      exact M
  · by_cases e2 : k2 = 5
    · subst e2
      have M := otherHasOne_any v1 v2 v3 v4 _ _ _ _ W h k o1 o2 p1 b1 c1
      rw [hasQ_rows] at M
      have e : mtgF k1 5 = 57 := by
        unfold mtgF
        split
        · rw [if_neg (by omega), if_neg (by omega)]
        · rw [if_pos (by omega), if_neg (by omega)]
      have f : meetI k1 rs 5 ts = (anyQ (segL 5 ts) (segL k1 rs) || hasL ts (stL k1 rs)) := by
        unfold meetI
        rw [if_neg e1, if_pos rfl]
      rw [e, f]
      exact M
    · by_cases l : k1 ≤ 2 ∧ k2 ≤ 2
      · have M := shareStart_any v1 v2 v3 v4 _ _ _ _ W h k
        have e : mtgF k1 k2 = 55 := by
          unfold mtgF
          rw [if_pos l.1, if_pos l.2]
        have f : meetI k1 rs k2 ts = (stL k1 rs).any (fun p => (stL k2 ts).any (fun q => decide (p = q))) := by
          unfold meetI
          rw [if_neg e1, if_neg e2, if_pos l]
        rw [e, f]
        exact M
      · have M := edgesMeet_any v1 v2 v3 v4 _ _ _ _ W h k o1 o2 b2 c2
        have e : mtgF k1 k2 = 56 := by
          unfold mtgF
          split
          · rw [if_neg (by omega), if_pos (by omega)]
          · rw [if_pos (by omega), if_pos (by omega)]
        have f : meetI k1 rs k2 ts = anyQ (segL k1 rs) (segL k2 ts) := by
          unfold meetI
          rw [if_neg e1, if_neg e2, if_neg l]
        rw [e, f]
        exact M

set_option maxRecDepth 20000 in
set_option maxHeartbeats 2000000 in
theorem meeting_any (k1 k2 : Int) (a1 a2 : Option Addr) (c1 c2 : Nat) (rs ts : List (List (Int × Int))) (w : World) (h1 : SeesS w a1 c1 rs) (h2 : SeesS w a2 c2 ts) (g1 : goodB k1 rs = true) (g2 : goodB k2 ts = true) :
    Calls Try.prog 31 #[.agg #[.int .i64 k1, .slice a1 rs.length c1], .agg #[.int .i64 k2, .slice a2 ts.length c2]] w fun e w' => e = .returned (.bool (meetI k1 rs k2 ts)) ∧ Below w.heap.size w w' := by
  have B0 := below2 w (.cells #[.int .i64 k1, .slice a1 rs.length c1] 33) (.cells #[.int .i64 k2, .slice a2 ts.length c2] 33)
  have V1 := (Box2.new w (lo := w.heap.size) (Nat.le_refl _) (.int .i64 k1) (.slice a1 rs.length c1) 33).below (below1 _ (.cells #[.int .i64 k2, .slice a2 ts.length c2] 33))
  have V2 := Box2.new (w.alloc (.cells #[.int .i64 k1, .slice a1 rs.length c1] 33)) (lo := w.heap.size) (by simp) (.int .i64 k2) (.slice a2 ts.length c2) 33
  rw [World.size_alloc] at V2
  have S1 := h1.below B0
  have S2 := h2.below B0
  clear h1 h2
  obtain ⟨k0, k1', _, _⟩ := id V1
  obtain ⟨k2', k3, _, _⟩ := id V2
  have X1 := @idx1 k1 (goodS_rows g1).1
  have X2 := @idx2 k1 k2 (goodS_rows g2).1
  have M := @mtg_calls k1 k2 rs ts g1 g2
  generalize meetI k1 rs k2 ts = z at *
  have HF : Hid (mtgF k1 k2 = 55 ∨ mtgF k1 k2 = 56 ∨ mtgF k1 k2 = 57 ∨ mtgF k1 k2 = 58 ∨ mtgF k1 k2 = 59) := by
    show _ ∨ _
    unfold mtgF
    repeat' split
    all_goals simp
  generalize mtgF k1 k2 = f at *
  generalize mtgR k1 = r at *
  have MT := meetings_any
  generalize Value.agg #[Value.nilFunc, Value.nilFunc, Value.nilFunc, Value.nilFunc, Value.nilFunc, Value.nilFunc, Value.nilFunc, Value.func (Fn.func 55) #[] #[], Value.func (Fn.func 55) #[] #[], Value.func (Fn.func 56) #[] #[], Value.func (Fn.func 56) #[] #[], Value.func (Fn.func 57) #[] #[], Value.nilFunc, Value.func (Fn.func 55) #[] #[], Value.func (Fn.func 55) #[] #[], Value.func (Fn.func 56) #[] #[], Value.func (Fn.func 56) #[] #[], Value.func (Fn.func 57) #[] #[], Value.nilFunc, Value.func (Fn.func 56) #[] #[], Value.func (Fn.func 56) #[] #[], Value.func (Fn.func 56) #[] #[], Value.func (Fn.func 56) #[] #[], Value.func (Fn.func 57) #[] #[], Value.nilFunc, Value.func (Fn.func 56) #[] #[], Value.func (Fn.func 56) #[] #[], Value.func (Fn.func 56) #[] #[], Value.func (Fn.func 56) #[] #[], Value.func (Fn.func 57) #[] #[], Value.nilFunc, Value.func (Fn.func 58) #[] #[], Value.func (Fn.func 58) #[] #[], Value.func (Fn.func 58) #[] #[], Value.func (Fn.func 58) #[] #[], Value.func (Fn.func 59) #[] #[]] = tb at X1 MT
  go_enter Try.func31, Try.ntmps31
  go_upto_region 1 with fail
  generalize (w.alloc (.cells #[.int .i64 k1, .slice a1 rs.length c1] 33)).alloc (.cells #[.int .i64 k2, .slice a2 ts.length c2] 33) = W0 at *
  refine wp_region_held_drew (S := Below W0.heap.size W0) (by kernel_rfl) ((Below.refl _ _).drew) (fun hHeld => ?_)
  have N : Below W0.heap.size W0 W0.drew := hHeld
  revert hHeld N
  generalize W0.drew = ww0
  intro hHeld N
  refine takeQ (i := 1) (gt rfl) (by kernel_rfl) (fun _ _ _ h => h) (by rfl) (by intro wq _; go_simp <;> with_reducible rfl) (by assumption) ?_
  try simp only [Act.put, sA, sB, sC]
  refine takeQ (i := 2) (gt rfl) (by kernel_rfl) (fun _ _ _ h => h) (by rfl) (by intro wq hSw; have q0 := bat hSw k0; have q1 := bat hSw k1'; have q2 := bat hSw k2'; have q3 := bat hSw k3; go_simp <;> with_reducible rfl) (by assumption) ?_
  try simp only [Act.put, sA, sB, sC]
  refine takeQ (i := 4) (gt rfl) (by kernel_rfl) (fun _ _ _ h => h) (by rfl) (by intro wq _; go_simp <;> with_reducible rfl) (by assumption) ?_
  try simp only [Act.put, sA, sB, sC]
  refine takeQ (i := 5) (gt rfl) (by kernel_rfl) (fun _ _ _ h => h) (by rfl) (by intro wq hSw; have q0 := bat hSw k0; have q1 := bat hSw k1'; have q2 := bat hSw k2'; have q3 := bat hSw k3; go_simp <;> with_reducible rfl) (by assumption) ?_
  try simp only [Act.put, sA, sB, sC]
  refine wpAnyH_ready (rs := [0]) (by kernel_rfl) (by simp) (AllReadyH.cons (gt rfl) (fun K hK => ?_) AllReadyH.nil)
  go_simp
  refine (MT _).mono ?_
  rintro e1 ww1 ⟨rfl, hb⟩
  replace N := N.trans (hb.mono N.size)
  clear hb
  refine hK.out _ _ N (fun hHeld => ?_)
  clear hK K
  try simp only [Act.put, sA, sB, sC]
  refine takeQ (i := 3) (gt rfl) (by kernel_rfl) (fun _ _ _ h => h) (by rfl) (by intro wq _; go_simp <;> with_reducible rfl) (by assumption) ?_
  try simp only [Act.put, sA, sB, sC]
  refine takeQ (i := 6) (gt rfl) (by kernel_rfl) (fun _ _ _ h => h) (by rfl) (by intro wq _; go_simp <;> with_reducible rfl) (by assumption) ?_
  try simp only [Act.put, sA, sB, sC]
  refine takeQ (i := 7) (gt rfl) (by kernel_rfl) (fun _ _ _ h => h) (by rfl) (by intro wq _; go_simp <;> with_reducible rfl) (by assumption) ?_
  try simp only [Act.put, sA, sB, sC]
  refine wpAnyH_done (by kernel_rfl) ?_ _
  skip
  clear hHeld X1 X2 MT k0 k1' k2' k3
  replace V1 := V1.below N
  replace V2 := V2.below N
  replace S1 := S1.below N
  replace S2 := S2.below N
  replace B0 := B0.trans (N.mono B0.size)
  clear N
  obtain ⟨k0, k1', _, _⟩ := id V1
  obtain ⟨k2', k3, _, _⟩ := id V2
  go_upto_region 2 with fail
  clear V1 V2
  refine wp_region_held_drew (S := Below ww1.heap.size ww1) (by kernel_rfl) ((Below.refl _ _).drew) (fun hHeld => ?_)
  have N : Below ww1.heap.size ww1 ww1.drew := hHeld
  revert hHeld N
  generalize ww1.drew = ww9
  intro hHeld N
  refine takeQ (i := 0) (gt rfl) (by kernel_rfl) (fun _ _ _ h => h) (by rfl) (by intro wq _; go_simp <;> with_reducible rfl) (by assumption) ?_
  try simp only [Act.put, sA, sB, sC]
  refine takeQ (i := 1) (gt rfl) (by kernel_rfl) (fun _ _ _ h => h) (by rfl) (by intro wq hSw; have q0 := bat hSw k0; have q1 := bat hSw k1'; have q2 := bat hSw k2'; have q3 := bat hSw k3; go_simp <;> with_reducible rfl) (by assumption) ?_
  try simp only [Act.put, sA, sB, sC]
  refine takeQ (i := 3) (gt rfl) (by kernel_rfl) (fun _ _ _ h => h) (by rfl) (by intro wq hSw; have q0 := bat hSw k0; have q1 := bat hSw k1'; have q2 := bat hSw k2'; have q3 := bat hSw k3; go_simp <;> with_reducible rfl) (by assumption) ?_
  try simp only [Act.put, sA, sB, sC]
  refine wpAnyH_ready (rs := [2]) (by kernel_rfl) (by simp) (AllReadyH.cons (gt rfl) (fun K hK => ?_) AllReadyH.nil)
  go_simp
  refine (extentOf_any k1 a1 c1 rs _ (S1.below N) g1).mono ?_
  rintro e1 ww2 ⟨b1, d1, b2, d2, rfl, SQ1, SP1, hb⟩
  have E1 : Ext ww2 (.slice b1 (segL k1 rs).length d1) (.slice b2 (stL k1 rs).length d2) (segL k1 rs) (stL k1 rs) := ⟨⟨_, _, rfl, SQ1⟩, ⟨_, _, rfl, SP1⟩⟩
  clear SQ1 SP1
  replace N := N.trans (hb.mono N.size)
  clear hb
  refine hK.out _ _ N (fun hHeld => ?_)
  clear hK K
  try simp only [Act.put, sA, sB, sC]
  refine wpAnyH_ready (rs := [4]) (by kernel_rfl) (by simp) (AllReadyH.cons (gt rfl) (fun K hK => ?_) AllReadyH.nil)
  go_simp
  refine (extentOf_any k2 a2 c2 ts _ (S2.below N) g2).mono ?_
  rintro e1 ww3 ⟨b3, d3, b4, d4, rfl, SQ2, SP2, hb⟩
  have E2 : Ext ww3 (.slice b3 (segL k2 ts).length d3) (.slice b4 (stL k2 ts).length d4) (segL k2 ts) (stL k2 ts) := ⟨⟨_, _, rfl, SQ2⟩, ⟨_, _, rfl, SP2⟩⟩
  clear SQ2 SP2
  replace E1 := E1.below hb
  replace N := N.trans (hb.mono N.size)
  clear hb
  refine hK.out _ _ N (fun hHeld => ?_)
  clear hK K
  try simp only [Act.put, sA, sB, sC]
  refine takeQ (i := 5) (gt rfl) (by kernel_rfl) (fun _ _ _ h => h) (by rfl) (by intro wq _; go_simp <;> with_reducible rfl) (by assumption) ?_
  try simp only [Act.put, sA, sB, sC]
  refine wpAnyH_ready (rs := [6]) (by kernel_rfl) (by simp) (AllReadyH.cons (gt rfl) (fun K hK => ?_) AllReadyH.nil)
  rcases HF.out with rfl | rfl | rfl | rfl | rfl
  all_goals
    go_simp
    refine (M _ _ _ _ _ E1 E2).mono ?_
    rintro e1 ww4 ⟨rfl, hb⟩
    replace E1 := E1.below hb
    replace E2 := E2.below hb
    replace N := N.trans (hb.mono N.size)
    clear hb
    refine hK.out _ _ N (fun hHeld => ?_)
    clear hK K
    try simp only [Act.put, sA, sB, sC]
    refine takeQ (i := 7) (gt rfl) (by kernel_rfl) (fun _ _ _ h => h) (by rfl) (by intro wq _; go_simp <;> with_reducible rfl) (by assumption) ?_
    try simp only [Act.put, sA, sB, sC]
    refine wpAnyH_done (by kernel_rfl) ?_ _
    go_wp2
    go_ret
    exact ⟨rfl, B0.trans (N.mono B0.size)⟩
end Go.Proofs.Ythafhfdhahbdoaa
