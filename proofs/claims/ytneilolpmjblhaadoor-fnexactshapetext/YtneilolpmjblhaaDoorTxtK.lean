/- The text of a shape, of the program: ShapeText. -/
import Derived.Test.YtneilolpmjblhaaDoorTxtJ
namespace Go.Proofs.YtneilolpmjblhaaDoor
open Go.RowKit

/-- The words by kinds stand in their table. -/
def TabW (w : World) : Prop := ∀ k : Nat, 1 ≤ k → k ≤ 5 → w.cell? ⟨0, k, none⟩ = some (.string (wdT k))

set_option maxRecDepth 20000 in
set_option maxHeartbeats 4000000 in
theorem implText1 (a : Option Addr) (c : Nat) (rs : List (List (Int × Int))) (w : World) (h : SeesS w a c rs) (g : goodB 1 rs = true) (HT0 : ∀ w', Below w.heap.size w w' → PowT w') (HW0 : ∀ w', Below w.heap.size w w' → TabW w') :
    Calls Tryd.prog 7 #[.agg #[.int .i64 1, .slice a rs.length c]] w fun e w' => e = .returned (.string (shT 1 rs)) ∧ Below w.heap.size w w' := by
  have hm := h.max
  have hf := h.fits
  unfold maxLen at hm
  obtain ⟨hk5, h1, h2⟩ := goodS_rows g
  have h0 := good_some g
  have ok := good_ok g
  have hl : ∀ i, i < rs.length → 0 < (rowA rs i).length ∧ (rowA rs i).length ≤ 60 := fun i hi => (h2 i hi).2
  have B0 := below1 w (.cells #[.int .i64 1, .slice a rs.length c] 29)
  have V0 := Box2.new w (lo := w.heap.size) (Nat.le_refl _) (.int .i64 1) (.slice a rs.length c) 29
  have S0 := h.below B0
  have HS : Hid (shT 1 rs = wdT 1 ++ rwT (rowA rs 0)) := rfl
  have RZ : (rwT (rowA rs 0)).size ≤ 40000 := by
    have := rwT_size (ok 0 h0) (hl 0 h0).2
    omega
  have WZ := wdT_size 1
  rw [HS.out]
  obtain ⟨tr, HTR⟩ : ∃ t, Hid (rwT (rowA rs 0) = t) := ⟨_, rfl⟩
  rw [HTR.out] at RZ ⊢
  obtain ⟨tw, HTW⟩ : ∃ t, Hid (wdT 1 = t) := ⟨_, rfl⟩
  rw [HTW.out] at WZ ⊢
  have HT : Hid (∀ w', Below w.heap.size w w' → PowT w') := HT0
  have HW : Hid (∀ w', Below w.heap.size w w' → w'.cell? ⟨0, 1, none⟩ = some (.string tw)) := fun w' q => by rw [← HTW.out]; exact HW0 w' q 1 (by decide) (by decide)
  have OK : Hid (∀ i, i < rs.length → okL (rowA rs i) = true) := ok
  have HL : Hid (∀ i, i < rs.length → 0 < (rowA rs i).length ∧ (rowA rs i).length ≤ 60) := hl
  clear h HS ok hl h2 HT0 HW0
  go_enter Tryd.func7, Tryd.ntmps7
  go_upto_region 1 with fail
  generalize w.alloc (.cells #[.int .i64 1, .slice a rs.length c] 29) = W0 at *
  obtain ⟨t0, t1, _, _⟩ := id V0
  go_wp2_with fail
  refine (good_any 1 a c rs _ S0).mono ?_
  rintro e w2 ⟨rfl, b2⟩
  rw [g]
  have B2 := B0.trans (b2.mono B0.size)
  have S2 := S0.below b2
  obtain ⟨z0, z1, _, _⟩ := V0.below b2
  clear t0 t1 V0 S0 B0 b2
  go_wp2_with fail
  refine (hasRows_any 1 _).mono ?_
  rintro e w3 ⟨rfl, rfl⟩
  rw [show (decide ((1 : Int) = 4) || decide ((1 : Int) = 5)) = false by decide]
  obtain ⟨b, off, rfl, hc⟩ := S2.cells (by intro e; rw [e] at h0; simp at h0)
  have hW := B2.size
  have tk := HW.out _ B2
  obtain ⟨a', c', g0, PP⟩ := hc 0 h0
  simp only [Nat.add_zero] at g0
  have PM := PP.max
  have PF := PP.fits
  unfold maxLen at PM
  obtain ⟨l0, l1⟩ := HL.out 0 h0
  clear hc
  go_upto_region 5 with fail
  rename World => w9
  have N := ((Below.refl w9.heap.size w9).drew : Below w9.heap.size w9 _)
  refine wp_region_held_drew (S := Below w9.heap.size w9) (by kernel_rfl) N (fun hHeld => ?_)
  clear hHeld
  revert N
  generalize w9.drew = ww0
  intro N
  refine takeW (i := 0) (by simp only [List.getElem?_toArray, List.getElem?_cons_zero]; exact rfl) (by kernel_rfl) (by kernel_rfl) (by kernel_rfl) (by exact fun _ _ _ h => h) (by rfl) (by intro wq hSw; go_simp <;> with_reducible rfl) (by assumption) ?_
  try simp only [Act.put, List.setIfInBounds_toArray, List.set_cons_zero, List.set_cons_succ]
  refine takeW (i := 1) (by simp only [List.getElem?_toArray, List.getElem?_cons_succ, List.getElem?_cons_zero]; exact rfl) (by kernel_rfl) (by kernel_rfl) (by kernel_rfl) (by exact fun _ _ _ h => h) (by rfl) (by intro wq hSw; have q0 := bat hSw z0; have q1 := bat hSw z1; have q2 := bat hSw g0; have q3 := bat hSw tk; go_simp <;> with_reducible rfl) (by assumption) ?_
  try simp only [Act.put, List.setIfInBounds_toArray, List.set_cons_zero, List.set_cons_succ]
  refine takeW (i := 2) (by simp only [List.getElem?_toArray, List.getElem?_cons_succ, List.getElem?_cons_zero]; exact rfl) (by kernel_rfl) (by kernel_rfl) (by kernel_rfl) (by exact fun _ _ _ h => h) (by rfl) (by intro wq hSw; go_simp <;> with_reducible rfl) (by assumption) ?_
  try simp only [Act.put, List.setIfInBounds_toArray, List.set_cons_zero, List.set_cons_succ]
  refine takeW (i := 3) (by simp only [List.getElem?_toArray, List.getElem?_cons_succ, List.getElem?_cons_zero]; exact rfl) (by kernel_rfl) (by kernel_rfl) (by kernel_rfl) (by exact fun _ _ _ h => h) (by rfl) (by intro wq hSw; have q0 := bat hSw z0; have q1 := bat hSw z1; have q2 := bat hSw g0; have q3 := bat hSw tk; go_simp <;> with_reducible rfl) (by assumption) ?_
  try simp only [Act.put, List.setIfInBounds_toArray, List.set_cons_zero, List.set_cons_succ]
  refine takeW (i := 4) (by simp only [List.getElem?_toArray, List.getElem?_cons_succ, List.getElem?_cons_zero]; exact rfl) (by kernel_rfl) (by kernel_rfl) (by kernel_rfl) (by exact fun _ _ _ h => h) (by rfl) (by intro wq hSw; go_simp <;> with_reducible rfl) (by assumption) ?_
  try simp only [Act.put, List.setIfInBounds_toArray, List.set_cons_zero, List.set_cons_succ]
  refine takeW (i := 5) (by simp only [List.getElem?_toArray, List.getElem?_cons_succ, List.getElem?_cons_zero]; exact rfl) (by kernel_rfl) (by kernel_rfl) (by kernel_rfl) (by exact fun _ _ _ h => h) (by rfl) (by intro wq hSw; have q0 := bat hSw z0; have q1 := bat hSw z1; have q2 := bat hSw g0; have q3 := bat hSw tk; go_simp <;> with_reducible rfl) (by assumption) ?_
  try simp only [Act.put, List.setIfInBounds_toArray, List.set_cons_zero, List.set_cons_succ]
  refine takeW (i := 6) (by simp only [List.getElem?_toArray, List.getElem?_cons_succ, List.getElem?_cons_zero]; exact rfl) (by kernel_rfl) (by kernel_rfl) (by kernel_rfl) (by exact fun _ _ _ h => h) (by rfl) (by intro wq hSw; go_simp <;> with_reducible rfl) (by assumption) ?_
  try simp only [Act.put, List.setIfInBounds_toArray, List.set_cons_zero, List.set_cons_succ]
  refine takeW (i := 7) (by simp only [List.getElem?_toArray, List.getElem?_cons_succ, List.getElem?_cons_zero]; exact rfl) (by kernel_rfl) (by kernel_rfl) (by kernel_rfl) (by exact fun _ _ _ h => h) (by rfl) (by intro wq hSw; have q0 := bat hSw z0; have q1 := bat hSw z1; have q2 := bat hSw g0; have q3 := bat hSw tk; go_simp <;> with_reducible rfl) (by assumption) ?_
  try simp only [Act.put, List.setIfInBounds_toArray, List.set_cons_zero, List.set_cons_succ]
  refine wpAnyH_ready (rs := [8]) (by kernel_rfl) (by simp) (AllReadyH.cons (by simp only [List.getElem?_toArray, List.getElem?_cons_succ, List.getElem?_cons_zero]; exact rfl) (fun K hK => ?_) AllReadyH.nil)
  go_simp
  go_at_call 16
  refine (rowText_any a' c' (rowA rs 0) _ (PP.below N) l0 l1 (OK.out 0 h0) (fun w' q => HT.out w' (B2.trans ((N.trans (q.mono N.size)).mono hW)))).mono ?_
  rintro e q1 ⟨rfl, b1⟩
  rw [HTR.out]
  have N1 := N.trans (b1.mono N.size)
  refine hK.out _ _ N1 (fun hHeld => ?_)
  clear hK K hHeld b1
  try simp only [Act.put, List.setIfInBounds_toArray, List.set_cons_zero, List.set_cons_succ]
  refine takeW (i := 9) (by simp only [List.getElem?_toArray, List.getElem?_cons_succ, List.getElem?_cons_zero]; exact rfl) (by kernel_rfl) (by kernel_rfl) (by kernel_rfl) (by exact fun _ _ _ h => h) (by rfl) (by intro wq hSw; go_simp <;> (first | with_reducible rfl | rw [if_neg (by omega)])) (by assumption) ?_
  try simp only [Act.put, List.setIfInBounds_toArray, List.set_cons_zero, List.set_cons_succ]
  refine takeW (i := 10) (by simp only [List.getElem?_toArray, List.getElem?_cons_succ, List.getElem?_cons_zero]; exact rfl) (by kernel_rfl) (by kernel_rfl) (by kernel_rfl) (by exact fun _ _ _ h => h) (by rfl) (by intro wq hSw; go_simp <;> with_reducible rfl) (by assumption) ?_
  try simp only [Act.put, List.setIfInBounds_toArray, List.set_cons_zero, List.set_cons_succ]
  refine wpAnyH_done (by kernel_rfl) ?_ _
  go_wp2
  go_ret
  exact ⟨rfl, B2.trans (N1.mono hW)⟩

set_option maxRecDepth 20000 in
set_option maxHeartbeats 4000000 in
theorem implText2 (a : Option Addr) (c : Nat) (rs : List (List (Int × Int))) (w : World) (h : SeesS w a c rs) (g : goodB 2 rs = true) (HT0 : ∀ w', Below w.heap.size w w' → PowT w') (HW0 : ∀ w', Below w.heap.size w w' → TabW w') :
    Calls Tryd.prog 7 #[.agg #[.int .i64 2, .slice a rs.length c]] w fun e w' => e = .returned (.string (shT 2 rs)) ∧ Below w.heap.size w w' := by
  have hm := h.max
  have hf := h.fits
  unfold maxLen at hm
  obtain ⟨hk5, h1, h2⟩ := goodS_rows g
  have h0 := good_some g
  have ok := good_ok g
  have hl : ∀ i, i < rs.length → 0 < (rowA rs i).length ∧ (rowA rs i).length ≤ 60 := fun i hi => (h2 i hi).2
  have B0 := below1 w (.cells #[.int .i64 2, .slice a rs.length c] 29)
  have V0 := Box2.new w (lo := w.heap.size) (Nat.le_refl _) (.int .i64 2) (.slice a rs.length c) 29
  have S0 := h.below B0
  have HS : Hid (shT 2 rs = wdT 2 ++ rwT (rowA rs 0)) := rfl
  have RZ : (rwT (rowA rs 0)).size ≤ 40000 := by
    have := rwT_size (ok 0 h0) (hl 0 h0).2
    omega
  have WZ := wdT_size 2
  rw [HS.out]
  obtain ⟨tr, HTR⟩ : ∃ t, Hid (rwT (rowA rs 0) = t) := ⟨_, rfl⟩
  rw [HTR.out] at RZ ⊢
  obtain ⟨tw, HTW⟩ : ∃ t, Hid (wdT 2 = t) := ⟨_, rfl⟩
  rw [HTW.out] at WZ ⊢
  have HT : Hid (∀ w', Below w.heap.size w w' → PowT w') := HT0
  have HW : Hid (∀ w', Below w.heap.size w w' → w'.cell? ⟨0, 2, none⟩ = some (.string tw)) := fun w' q => by rw [← HTW.out]; exact HW0 w' q 2 (by decide) (by decide)
  have OK : Hid (∀ i, i < rs.length → okL (rowA rs i) = true) := ok
  have HL : Hid (∀ i, i < rs.length → 0 < (rowA rs i).length ∧ (rowA rs i).length ≤ 60) := hl
  clear h HS ok hl h2 HT0 HW0
  go_enter Tryd.func7, Tryd.ntmps7
  go_upto_region 1 with fail
  generalize w.alloc (.cells #[.int .i64 2, .slice a rs.length c] 29) = W0 at *
  obtain ⟨t0, t1, _, _⟩ := id V0
  go_wp2_with fail
  refine (good_any 2 a c rs _ S0).mono ?_
  rintro e w2 ⟨rfl, b2⟩
  rw [g]
  have B2 := B0.trans (b2.mono B0.size)
  have S2 := S0.below b2
  obtain ⟨z0, z1, _, _⟩ := V0.below b2
  clear t0 t1 V0 S0 B0 b2
  go_wp2_with fail
  refine (hasRows_any 2 _).mono ?_
  rintro e w3 ⟨rfl, rfl⟩
  rw [show (decide ((2 : Int) = 4) || decide ((2 : Int) = 5)) = false by decide]
  obtain ⟨b, off, rfl, hc⟩ := S2.cells (by intro e; rw [e] at h0; simp at h0)
  have hW := B2.size
  have tk := HW.out _ B2
  obtain ⟨a', c', g0, PP⟩ := hc 0 h0
  simp only [Nat.add_zero] at g0
  have PM := PP.max
  have PF := PP.fits
  unfold maxLen at PM
  obtain ⟨l0, l1⟩ := HL.out 0 h0
  clear hc
  go_upto_region 5 with fail
  rename World => w9
  have N := ((Below.refl w9.heap.size w9).drew : Below w9.heap.size w9 _)
  refine wp_region_held_drew (S := Below w9.heap.size w9) (by kernel_rfl) N (fun hHeld => ?_)
  clear hHeld
  revert N
  generalize w9.drew = ww0
  intro N
  refine takeW (i := 0) (by simp only [List.getElem?_toArray, List.getElem?_cons_zero]; exact rfl) (by kernel_rfl) (by kernel_rfl) (by kernel_rfl) (by exact fun _ _ _ h => h) (by rfl) (by intro wq hSw; go_simp <;> with_reducible rfl) (by assumption) ?_
  try simp only [Act.put, List.setIfInBounds_toArray, List.set_cons_zero, List.set_cons_succ]
  refine takeW (i := 1) (by simp only [List.getElem?_toArray, List.getElem?_cons_succ, List.getElem?_cons_zero]; exact rfl) (by kernel_rfl) (by kernel_rfl) (by kernel_rfl) (by exact fun _ _ _ h => h) (by rfl) (by intro wq hSw; have q0 := bat hSw z0; have q1 := bat hSw z1; have q2 := bat hSw g0; have q3 := bat hSw tk; go_simp <;> with_reducible rfl) (by assumption) ?_
  try simp only [Act.put, List.setIfInBounds_toArray, List.set_cons_zero, List.set_cons_succ]
  refine takeW (i := 2) (by simp only [List.getElem?_toArray, List.getElem?_cons_succ, List.getElem?_cons_zero]; exact rfl) (by kernel_rfl) (by kernel_rfl) (by kernel_rfl) (by exact fun _ _ _ h => h) (by rfl) (by intro wq hSw; go_simp <;> with_reducible rfl) (by assumption) ?_
  try simp only [Act.put, List.setIfInBounds_toArray, List.set_cons_zero, List.set_cons_succ]
  refine takeW (i := 3) (by simp only [List.getElem?_toArray, List.getElem?_cons_succ, List.getElem?_cons_zero]; exact rfl) (by kernel_rfl) (by kernel_rfl) (by kernel_rfl) (by exact fun _ _ _ h => h) (by rfl) (by intro wq hSw; have q0 := bat hSw z0; have q1 := bat hSw z1; have q2 := bat hSw g0; have q3 := bat hSw tk; go_simp <;> with_reducible rfl) (by assumption) ?_
  try simp only [Act.put, List.setIfInBounds_toArray, List.set_cons_zero, List.set_cons_succ]
  refine takeW (i := 4) (by simp only [List.getElem?_toArray, List.getElem?_cons_succ, List.getElem?_cons_zero]; exact rfl) (by kernel_rfl) (by kernel_rfl) (by kernel_rfl) (by exact fun _ _ _ h => h) (by rfl) (by intro wq hSw; go_simp <;> with_reducible rfl) (by assumption) ?_
  try simp only [Act.put, List.setIfInBounds_toArray, List.set_cons_zero, List.set_cons_succ]
  refine takeW (i := 5) (by simp only [List.getElem?_toArray, List.getElem?_cons_succ, List.getElem?_cons_zero]; exact rfl) (by kernel_rfl) (by kernel_rfl) (by kernel_rfl) (by exact fun _ _ _ h => h) (by rfl) (by intro wq hSw; have q0 := bat hSw z0; have q1 := bat hSw z1; have q2 := bat hSw g0; have q3 := bat hSw tk; go_simp <;> with_reducible rfl) (by assumption) ?_
  try simp only [Act.put, List.setIfInBounds_toArray, List.set_cons_zero, List.set_cons_succ]
  refine takeW (i := 6) (by simp only [List.getElem?_toArray, List.getElem?_cons_succ, List.getElem?_cons_zero]; exact rfl) (by kernel_rfl) (by kernel_rfl) (by kernel_rfl) (by exact fun _ _ _ h => h) (by rfl) (by intro wq hSw; go_simp <;> with_reducible rfl) (by assumption) ?_
  try simp only [Act.put, List.setIfInBounds_toArray, List.set_cons_zero, List.set_cons_succ]
  refine takeW (i := 7) (by simp only [List.getElem?_toArray, List.getElem?_cons_succ, List.getElem?_cons_zero]; exact rfl) (by kernel_rfl) (by kernel_rfl) (by kernel_rfl) (by exact fun _ _ _ h => h) (by rfl) (by intro wq hSw; have q0 := bat hSw z0; have q1 := bat hSw z1; have q2 := bat hSw g0; have q3 := bat hSw tk; go_simp <;> with_reducible rfl) (by assumption) ?_
  try simp only [Act.put, List.setIfInBounds_toArray, List.set_cons_zero, List.set_cons_succ]
  refine wpAnyH_ready (rs := [8]) (by kernel_rfl) (by simp) (AllReadyH.cons (by simp only [List.getElem?_toArray, List.getElem?_cons_succ, List.getElem?_cons_zero]; exact rfl) (fun K hK => ?_) AllReadyH.nil)
  go_simp
  go_at_call 16
  refine (rowText_any a' c' (rowA rs 0) _ (PP.below N) l0 l1 (OK.out 0 h0) (fun w' q => HT.out w' (B2.trans ((N.trans (q.mono N.size)).mono hW)))).mono ?_
  rintro e q1 ⟨rfl, b1⟩
  rw [HTR.out]
  have N1 := N.trans (b1.mono N.size)
  refine hK.out _ _ N1 (fun hHeld => ?_)
  clear hK K hHeld b1
  try simp only [Act.put, List.setIfInBounds_toArray, List.set_cons_zero, List.set_cons_succ]
  refine takeW (i := 9) (by simp only [List.getElem?_toArray, List.getElem?_cons_succ, List.getElem?_cons_zero]; exact rfl) (by kernel_rfl) (by kernel_rfl) (by kernel_rfl) (by exact fun _ _ _ h => h) (by rfl) (by intro wq hSw; go_simp <;> (first | with_reducible rfl | rw [if_neg (by omega)])) (by assumption) ?_
  try simp only [Act.put, List.setIfInBounds_toArray, List.set_cons_zero, List.set_cons_succ]
  refine takeW (i := 10) (by simp only [List.getElem?_toArray, List.getElem?_cons_succ, List.getElem?_cons_zero]; exact rfl) (by kernel_rfl) (by kernel_rfl) (by kernel_rfl) (by exact fun _ _ _ h => h) (by rfl) (by intro wq hSw; go_simp <;> with_reducible rfl) (by assumption) ?_
  try simp only [Act.put, List.setIfInBounds_toArray, List.set_cons_zero, List.set_cons_succ]
  refine wpAnyH_done (by kernel_rfl) ?_ _
  go_wp2
  go_ret
  exact ⟨rfl, B2.trans (N1.mono hW)⟩

set_option maxRecDepth 20000 in
set_option maxHeartbeats 4000000 in
theorem implText3 (a : Option Addr) (c : Nat) (rs : List (List (Int × Int))) (w : World) (h : SeesS w a c rs) (g : goodB 3 rs = true) (HT0 : ∀ w', Below w.heap.size w w' → PowT w') (HW0 : ∀ w', Below w.heap.size w w' → TabW w') :
    Calls Tryd.prog 7 #[.agg #[.int .i64 3, .slice a rs.length c]] w fun e w' => e = .returned (.string (shT 3 rs)) ∧ Below w.heap.size w w' := by
  have hm := h.max
  have hf := h.fits
  unfold maxLen at hm
  obtain ⟨hk5, h1, h2⟩ := goodS_rows g
  have h0 := good_some g
  have ok := good_ok g
  have hl : ∀ i, i < rs.length → 0 < (rowA rs i).length ∧ (rowA rs i).length ≤ 60 := fun i hi => (h2 i hi).2
  have B0 := below1 w (.cells #[.int .i64 3, .slice a rs.length c] 29)
  have V0 := Box2.new w (lo := w.heap.size) (Nat.le_refl _) (.int .i64 3) (.slice a rs.length c) 29
  have S0 := h.below B0
  have HS : Hid (shT 3 rs = wdT 3 ++ rwT (rowA rs 0)) := rfl
  have RZ : (rwT (rowA rs 0)).size ≤ 40000 := by
    have := rwT_size (ok 0 h0) (hl 0 h0).2
    omega
  have WZ := wdT_size 3
  rw [HS.out]
  obtain ⟨tr, HTR⟩ : ∃ t, Hid (rwT (rowA rs 0) = t) := ⟨_, rfl⟩
  rw [HTR.out] at RZ ⊢
  obtain ⟨tw, HTW⟩ : ∃ t, Hid (wdT 3 = t) := ⟨_, rfl⟩
  rw [HTW.out] at WZ ⊢
  have HT : Hid (∀ w', Below w.heap.size w w' → PowT w') := HT0
  have HW : Hid (∀ w', Below w.heap.size w w' → w'.cell? ⟨0, 3, none⟩ = some (.string tw)) := fun w' q => by rw [← HTW.out]; exact HW0 w' q 3 (by decide) (by decide)
  have OK : Hid (∀ i, i < rs.length → okL (rowA rs i) = true) := ok
  have HL : Hid (∀ i, i < rs.length → 0 < (rowA rs i).length ∧ (rowA rs i).length ≤ 60) := hl
  clear h HS ok hl h2 HT0 HW0
  go_enter Tryd.func7, Tryd.ntmps7
  go_upto_region 1 with fail
  generalize w.alloc (.cells #[.int .i64 3, .slice a rs.length c] 29) = W0 at *
  obtain ⟨t0, t1, _, _⟩ := id V0
  go_wp2_with fail
  refine (good_any 3 a c rs _ S0).mono ?_
  rintro e w2 ⟨rfl, b2⟩
  rw [g]
  have B2 := B0.trans (b2.mono B0.size)
  have S2 := S0.below b2
  obtain ⟨z0, z1, _, _⟩ := V0.below b2
  clear t0 t1 V0 S0 B0 b2
  go_wp2_with fail
  refine (hasRows_any 3 _).mono ?_
  rintro e w3 ⟨rfl, rfl⟩
  rw [show (decide ((3 : Int) = 4) || decide ((3 : Int) = 5)) = false by decide]
  obtain ⟨b, off, rfl, hc⟩ := S2.cells (by intro e; rw [e] at h0; simp at h0)
  have hW := B2.size
  have tk := HW.out _ B2
  obtain ⟨a', c', g0, PP⟩ := hc 0 h0
  simp only [Nat.add_zero] at g0
  have PM := PP.max
  have PF := PP.fits
  unfold maxLen at PM
  obtain ⟨l0, l1⟩ := HL.out 0 h0
  clear hc
  go_upto_region 5 with fail
  rename World => w9
  have N := ((Below.refl w9.heap.size w9).drew : Below w9.heap.size w9 _)
  refine wp_region_held_drew (S := Below w9.heap.size w9) (by kernel_rfl) N (fun hHeld => ?_)
  clear hHeld
  revert N
  generalize w9.drew = ww0
  intro N
  refine takeW (i := 0) (by simp only [List.getElem?_toArray, List.getElem?_cons_zero]; exact rfl) (by kernel_rfl) (by kernel_rfl) (by kernel_rfl) (by exact fun _ _ _ h => h) (by rfl) (by intro wq hSw; go_simp <;> with_reducible rfl) (by assumption) ?_
  try simp only [Act.put, List.setIfInBounds_toArray, List.set_cons_zero, List.set_cons_succ]
  refine takeW (i := 1) (by simp only [List.getElem?_toArray, List.getElem?_cons_succ, List.getElem?_cons_zero]; exact rfl) (by kernel_rfl) (by kernel_rfl) (by kernel_rfl) (by exact fun _ _ _ h => h) (by rfl) (by intro wq hSw; have q0 := bat hSw z0; have q1 := bat hSw z1; have q2 := bat hSw g0; have q3 := bat hSw tk; go_simp <;> with_reducible rfl) (by assumption) ?_
  try simp only [Act.put, List.setIfInBounds_toArray, List.set_cons_zero, List.set_cons_succ]
  refine takeW (i := 2) (by simp only [List.getElem?_toArray, List.getElem?_cons_succ, List.getElem?_cons_zero]; exact rfl) (by kernel_rfl) (by kernel_rfl) (by kernel_rfl) (by exact fun _ _ _ h => h) (by rfl) (by intro wq hSw; go_simp <;> with_reducible rfl) (by assumption) ?_
  try simp only [Act.put, List.setIfInBounds_toArray, List.set_cons_zero, List.set_cons_succ]
  refine takeW (i := 3) (by simp only [List.getElem?_toArray, List.getElem?_cons_succ, List.getElem?_cons_zero]; exact rfl) (by kernel_rfl) (by kernel_rfl) (by kernel_rfl) (by exact fun _ _ _ h => h) (by rfl) (by intro wq hSw; have q0 := bat hSw z0; have q1 := bat hSw z1; have q2 := bat hSw g0; have q3 := bat hSw tk; go_simp <;> with_reducible rfl) (by assumption) ?_
  try simp only [Act.put, List.setIfInBounds_toArray, List.set_cons_zero, List.set_cons_succ]
  refine takeW (i := 4) (by simp only [List.getElem?_toArray, List.getElem?_cons_succ, List.getElem?_cons_zero]; exact rfl) (by kernel_rfl) (by kernel_rfl) (by kernel_rfl) (by exact fun _ _ _ h => h) (by rfl) (by intro wq hSw; go_simp <;> with_reducible rfl) (by assumption) ?_
  try simp only [Act.put, List.setIfInBounds_toArray, List.set_cons_zero, List.set_cons_succ]
  refine takeW (i := 5) (by simp only [List.getElem?_toArray, List.getElem?_cons_succ, List.getElem?_cons_zero]; exact rfl) (by kernel_rfl) (by kernel_rfl) (by kernel_rfl) (by exact fun _ _ _ h => h) (by rfl) (by intro wq hSw; have q0 := bat hSw z0; have q1 := bat hSw z1; have q2 := bat hSw g0; have q3 := bat hSw tk; go_simp <;> with_reducible rfl) (by assumption) ?_
  try simp only [Act.put, List.setIfInBounds_toArray, List.set_cons_zero, List.set_cons_succ]
  refine takeW (i := 6) (by simp only [List.getElem?_toArray, List.getElem?_cons_succ, List.getElem?_cons_zero]; exact rfl) (by kernel_rfl) (by kernel_rfl) (by kernel_rfl) (by exact fun _ _ _ h => h) (by rfl) (by intro wq hSw; go_simp <;> with_reducible rfl) (by assumption) ?_
  try simp only [Act.put, List.setIfInBounds_toArray, List.set_cons_zero, List.set_cons_succ]
  refine takeW (i := 7) (by simp only [List.getElem?_toArray, List.getElem?_cons_succ, List.getElem?_cons_zero]; exact rfl) (by kernel_rfl) (by kernel_rfl) (by kernel_rfl) (by exact fun _ _ _ h => h) (by rfl) (by intro wq hSw; have q0 := bat hSw z0; have q1 := bat hSw z1; have q2 := bat hSw g0; have q3 := bat hSw tk; go_simp <;> with_reducible rfl) (by assumption) ?_
  try simp only [Act.put, List.setIfInBounds_toArray, List.set_cons_zero, List.set_cons_succ]
  refine wpAnyH_ready (rs := [8]) (by kernel_rfl) (by simp) (AllReadyH.cons (by simp only [List.getElem?_toArray, List.getElem?_cons_succ, List.getElem?_cons_zero]; exact rfl) (fun K hK => ?_) AllReadyH.nil)
  go_simp
  go_at_call 16
  refine (rowText_any a' c' (rowA rs 0) _ (PP.below N) l0 l1 (OK.out 0 h0) (fun w' q => HT.out w' (B2.trans ((N.trans (q.mono N.size)).mono hW)))).mono ?_
  rintro e q1 ⟨rfl, b1⟩
  rw [HTR.out]
  have N1 := N.trans (b1.mono N.size)
  refine hK.out _ _ N1 (fun hHeld => ?_)
  clear hK K hHeld b1
  try simp only [Act.put, List.setIfInBounds_toArray, List.set_cons_zero, List.set_cons_succ]
  refine takeW (i := 9) (by simp only [List.getElem?_toArray, List.getElem?_cons_succ, List.getElem?_cons_zero]; exact rfl) (by kernel_rfl) (by kernel_rfl) (by kernel_rfl) (by exact fun _ _ _ h => h) (by rfl) (by intro wq hSw; go_simp <;> (first | with_reducible rfl | rw [if_neg (by omega)])) (by assumption) ?_
  try simp only [Act.put, List.setIfInBounds_toArray, List.set_cons_zero, List.set_cons_succ]
  refine takeW (i := 10) (by simp only [List.getElem?_toArray, List.getElem?_cons_succ, List.getElem?_cons_zero]; exact rfl) (by kernel_rfl) (by kernel_rfl) (by kernel_rfl) (by exact fun _ _ _ h => h) (by rfl) (by intro wq hSw; go_simp <;> with_reducible rfl) (by assumption) ?_
  try simp only [Act.put, List.setIfInBounds_toArray, List.set_cons_zero, List.set_cons_succ]
  refine wpAnyH_done (by kernel_rfl) ?_ _
  go_wp2
  go_ret
  exact ⟨rfl, B2.trans (N1.mono hW)⟩

set_option maxRecDepth 20000 in
set_option maxHeartbeats 4000000 in
theorem implText4 (a : Option Addr) (c : Nat) (rs : List (List (Int × Int))) (w : World) (h : SeesS w a c rs) (g : goodB 4 rs = true) (HT0 : ∀ w', Below w.heap.size w w' → PowT w') (HW0 : ∀ w', Below w.heap.size w w' → TabW w') :
    Calls Tryd.prog 7 #[.agg #[.int .i64 4, .slice a rs.length c]] w fun e w' => e = .returned (.string (shT 4 rs)) ∧ Below w.heap.size w w' := by
  have hm := h.max
  have hf := h.fits
  unfold maxLen at hm
  obtain ⟨hk5, h1, h2⟩ := goodS_rows g
  have h0 := good_some g
  have ok := good_ok g
  have hl : ∀ i, i < rs.length → 0 < (rowA rs i).length ∧ (rowA rs i).length ≤ 60 := fun i hi => (h2 i hi).2
  have B0 := below1 w (.cells #[.int .i64 4, .slice a rs.length c] 29)
  have V0 := Box2.new w (lo := w.heap.size) (Nat.le_refl _) (.int .i64 4) (.slice a rs.length c) 29
  have S0 := h.below B0
  have HS : Hid (shT 4 rs = wdT 4 ++ lsT (rs.map rwT)) := rfl
  have RZ : (lsT (rs.map rwT)).size ≤ 40000 := by
    have := lsT_size (ts := rs.map rwT) (S := 2702) (fun t ht => by
      obtain ⟨p, hp, rfl⟩ := List.mem_map.1 ht
      obtain ⟨i, hi, rfl⟩ := List.getElem_of_mem hp
      rw [show rs[i] = rowA rs i by unfold rowA; rw [List.getElem?_eq_getElem hi]; rfl]
      exact rwT_size (ok i hi) (hl i hi).2)
    rw [List.length_map] at this
    omega
  have WZ := wdT_size 4
  rw [HS.out]
  obtain ⟨tr, HTR⟩ : ∃ t, Hid (lsT (rs.map rwT) = t) := ⟨_, rfl⟩
  rw [HTR.out] at RZ ⊢
  obtain ⟨tw, HTW⟩ : ∃ t, Hid (wdT 4 = t) := ⟨_, rfl⟩
  rw [HTW.out] at WZ ⊢
  have HT : Hid (∀ w', Below w.heap.size w w' → PowT w') := HT0
  have HW : Hid (∀ w', Below w.heap.size w w' → w'.cell? ⟨0, 4, none⟩ = some (.string tw)) := fun w' q => by rw [← HTW.out]; exact HW0 w' q 4 (by decide) (by decide)
  have OK : Hid (∀ i, i < rs.length → okL (rowA rs i) = true) := ok
  have HL : Hid (∀ i, i < rs.length → 0 < (rowA rs i).length ∧ (rowA rs i).length ≤ 60) := hl
  clear h HS ok hl h2 HT0 HW0
  go_enter Tryd.func7, Tryd.ntmps7
  go_upto_region 1 with fail
  generalize w.alloc (.cells #[.int .i64 4, .slice a rs.length c] 29) = W0 at *
  obtain ⟨t0, t1, _, _⟩ := id V0
  go_wp2_with fail
  refine (good_any 4 a c rs _ S0).mono ?_
  rintro e w2 ⟨rfl, b2⟩
  rw [g]
  have B2 := B0.trans (b2.mono B0.size)
  have S2 := S0.below b2
  obtain ⟨z0, z1, _, _⟩ := V0.below b2
  clear t0 t1 V0 S0 B0 b2
  go_wp2_with fail
  refine (hasRows_any 4 _).mono ?_
  rintro e w3 ⟨rfl, rfl⟩
  rw [show (decide ((4 : Int) = 4) || decide ((4 : Int) = 5)) = true by decide]
  obtain ⟨b, off, rfl, hc⟩ := S2.cells (by intro e; rw [e] at h0; simp at h0)
  have hW := B2.size
  have tk := HW.out _ B2
  clear hc
  go_upto_region 4 with fail
  rename World => w9
  have N := ((Below.refl w9.heap.size w9).drew : Below w9.heap.size w9 _)
  refine wp_region_held_drew (S := Below w9.heap.size w9) (by kernel_rfl) N (fun hHeld => ?_)
  clear hHeld
  revert N
  generalize w9.drew = ww0
  intro N
  refine takeW (i := 0) (by simp only [List.getElem?_toArray, List.getElem?_cons_zero]; exact rfl) (by kernel_rfl) (by kernel_rfl) (by kernel_rfl) (by exact fun _ _ _ h => h) (by rfl) (by intro wq hSw; go_simp <;> with_reducible rfl) (by assumption) ?_
  try simp only [Act.put, List.setIfInBounds_toArray, List.set_cons_zero, List.set_cons_succ]
  refine takeW (i := 1) (by simp only [List.getElem?_toArray, List.getElem?_cons_succ, List.getElem?_cons_zero]; exact rfl) (by kernel_rfl) (by kernel_rfl) (by kernel_rfl) (by exact fun _ _ _ h => h) (by rfl) (by intro wq hSw; have q0 := bat hSw z0; have q1 := bat hSw z1; have q3 := bat hSw tk; go_simp <;> with_reducible rfl) (by assumption) ?_
  try simp only [Act.put, List.setIfInBounds_toArray, List.set_cons_zero, List.set_cons_succ]
  refine takeW (i := 2) (by simp only [List.getElem?_toArray, List.getElem?_cons_succ, List.getElem?_cons_zero]; exact rfl) (by kernel_rfl) (by kernel_rfl) (by kernel_rfl) (by exact fun _ _ _ h => h) (by rfl) (by intro wq hSw; go_simp <;> with_reducible rfl) (by assumption) ?_
  try simp only [Act.put, List.setIfInBounds_toArray, List.set_cons_zero, List.set_cons_succ]
  refine takeW (i := 3) (by simp only [List.getElem?_toArray, List.getElem?_cons_succ, List.getElem?_cons_zero]; exact rfl) (by kernel_rfl) (by kernel_rfl) (by kernel_rfl) (by exact fun _ _ _ h => h) (by rfl) (by intro wq hSw; have q0 := bat hSw z0; have q1 := bat hSw z1; have q3 := bat hSw tk; go_simp <;> with_reducible rfl) (by assumption) ?_
  try simp only [Act.put, List.setIfInBounds_toArray, List.set_cons_zero, List.set_cons_succ]
  refine takeW (i := 4) (by simp only [List.getElem?_toArray, List.getElem?_cons_succ, List.getElem?_cons_zero]; exact rfl) (by kernel_rfl) (by kernel_rfl) (by kernel_rfl) (by exact fun _ _ _ h => h) (by rfl) (by intro wq hSw; go_simp <;> with_reducible rfl) (by assumption) ?_
  try simp only [Act.put, List.setIfInBounds_toArray, List.set_cons_zero, List.set_cons_succ]
  refine takeW (i := 5) (by simp only [List.getElem?_toArray, List.getElem?_cons_succ, List.getElem?_cons_zero]; exact rfl) (by kernel_rfl) (by kernel_rfl) (by kernel_rfl) (by exact fun _ _ _ h => h) (by rfl) (by intro wq hSw; have q0 := bat hSw z0; have q1 := bat hSw z1; have q3 := bat hSw tk; go_simp <;> with_reducible rfl) (by assumption) ?_
  try simp only [Act.put, List.setIfInBounds_toArray, List.set_cons_zero, List.set_cons_succ]
  refine wpAnyH_ready (rs := [6]) (by kernel_rfl) (by simp) (AllReadyH.cons (by simp only [List.getElem?_toArray, List.getElem?_cons_succ, List.getElem?_cons_zero]; exact rfl) (fun K hK => ?_) AllReadyH.nil)
  go_simp
  go_at_call 15
  refine (listText_row (some ⟨b, off, none⟩) c rs _ (S2.below N) h0 h1 HL.out OK.out (fun w' q => HT.out w' (B2.trans ((N.trans (q.mono N.size)).mono hW)))).mono ?_
  rintro e q1 ⟨rfl, b1⟩
  rw [HTR.out]
  have N1 := N.trans (b1.mono N.size)
  refine hK.out _ _ N1 (fun hHeld => ?_)
  clear hK K hHeld b1
  try simp only [Act.put, List.setIfInBounds_toArray, List.set_cons_zero, List.set_cons_succ]
  refine takeW (i := 7) (by simp only [List.getElem?_toArray, List.getElem?_cons_succ, List.getElem?_cons_zero]; exact rfl) (by kernel_rfl) (by kernel_rfl) (by kernel_rfl) (by exact fun _ _ _ h => h) (by rfl) (by intro wq hSw; go_simp <;> (first | with_reducible rfl | rw [if_neg (by omega)])) (by assumption) ?_
  try simp only [Act.put, List.setIfInBounds_toArray, List.set_cons_zero, List.set_cons_succ]
  refine takeW (i := 8) (by simp only [List.getElem?_toArray, List.getElem?_cons_succ, List.getElem?_cons_zero]; exact rfl) (by kernel_rfl) (by kernel_rfl) (by kernel_rfl) (by exact fun _ _ _ h => h) (by rfl) (by intro wq hSw; go_simp <;> with_reducible rfl) (by assumption) ?_
  try simp only [Act.put, List.setIfInBounds_toArray, List.set_cons_zero, List.set_cons_succ]
  refine wpAnyH_done (by kernel_rfl) ?_ _
  go_wp2
  go_ret
  exact ⟨rfl, B2.trans (N1.mono hW)⟩

set_option maxRecDepth 20000 in
set_option maxHeartbeats 4000000 in
theorem implText5 (a : Option Addr) (c : Nat) (rs : List (List (Int × Int))) (w : World) (h : SeesS w a c rs) (g : goodB 5 rs = true) (HT0 : ∀ w', Below w.heap.size w w' → PowT w') (HW0 : ∀ w', Below w.heap.size w w' → TabW w') :
    Calls Tryd.prog 7 #[.agg #[.int .i64 5, .slice a rs.length c]] w fun e w' => e = .returned (.string (shT 5 rs)) ∧ Below w.heap.size w w' := by
  have hm := h.max
  have hf := h.fits
  unfold maxLen at hm
  obtain ⟨hk5, h1, h2⟩ := goodS_rows g
  have h0 := good_some g
  have ok := good_ok g
  have hl : ∀ i, i < rs.length → 0 < (rowA rs i).length ∧ (rowA rs i).length ≤ 60 := fun i hi => (h2 i hi).2
  have B0 := below1 w (.cells #[.int .i64 5, .slice a rs.length c] 29)
  have V0 := Box2.new w (lo := w.heap.size) (Nat.le_refl _) (.int .i64 5) (.slice a rs.length c) 29
  have S0 := h.below B0
  have HS : Hid (shT 5 rs = wdT 5 ++ lsT (rs.map rwT)) := rfl
  have RZ : (lsT (rs.map rwT)).size ≤ 40000 := by
    have := lsT_size (ts := rs.map rwT) (S := 2702) (fun t ht => by
      obtain ⟨p, hp, rfl⟩ := List.mem_map.1 ht
      obtain ⟨i, hi, rfl⟩ := List.getElem_of_mem hp
      rw [show rs[i] = rowA rs i by unfold rowA; rw [List.getElem?_eq_getElem hi]; rfl]
      exact rwT_size (ok i hi) (hl i hi).2)
    rw [List.length_map] at this
    omega
  have WZ := wdT_size 5
  rw [HS.out]
  obtain ⟨tr, HTR⟩ : ∃ t, Hid (lsT (rs.map rwT) = t) := ⟨_, rfl⟩
  rw [HTR.out] at RZ ⊢
  obtain ⟨tw, HTW⟩ : ∃ t, Hid (wdT 5 = t) := ⟨_, rfl⟩
  rw [HTW.out] at WZ ⊢
  have HT : Hid (∀ w', Below w.heap.size w w' → PowT w') := HT0
  have HW : Hid (∀ w', Below w.heap.size w w' → w'.cell? ⟨0, 5, none⟩ = some (.string tw)) := fun w' q => by rw [← HTW.out]; exact HW0 w' q 5 (by decide) (by decide)
  have OK : Hid (∀ i, i < rs.length → okL (rowA rs i) = true) := ok
  have HL : Hid (∀ i, i < rs.length → 0 < (rowA rs i).length ∧ (rowA rs i).length ≤ 60) := hl
  clear h HS ok hl h2 HT0 HW0
  go_enter Tryd.func7, Tryd.ntmps7
  go_upto_region 1 with fail
  generalize w.alloc (.cells #[.int .i64 5, .slice a rs.length c] 29) = W0 at *
  obtain ⟨t0, t1, _, _⟩ := id V0
  go_wp2_with fail
  refine (good_any 5 a c rs _ S0).mono ?_
  rintro e w2 ⟨rfl, b2⟩
  rw [g]
  have B2 := B0.trans (b2.mono B0.size)
  have S2 := S0.below b2
  obtain ⟨z0, z1, _, _⟩ := V0.below b2
  clear t0 t1 V0 S0 B0 b2
  go_wp2_with fail
  refine (hasRows_any 5 _).mono ?_
  rintro e w3 ⟨rfl, rfl⟩
  rw [show (decide ((5 : Int) = 4) || decide ((5 : Int) = 5)) = true by decide]
  obtain ⟨b, off, rfl, hc⟩ := S2.cells (by intro e; rw [e] at h0; simp at h0)
  have hW := B2.size
  have tk := HW.out _ B2
  clear hc
  go_upto_region 4 with fail
  rename World => w9
  have N := ((Below.refl w9.heap.size w9).drew : Below w9.heap.size w9 _)
  refine wp_region_held_drew (S := Below w9.heap.size w9) (by kernel_rfl) N (fun hHeld => ?_)
  clear hHeld
  revert N
  generalize w9.drew = ww0
  intro N
  refine takeW (i := 0) (by simp only [List.getElem?_toArray, List.getElem?_cons_zero]; exact rfl) (by kernel_rfl) (by kernel_rfl) (by kernel_rfl) (by exact fun _ _ _ h => h) (by rfl) (by intro wq hSw; go_simp <;> with_reducible rfl) (by assumption) ?_
  try simp only [Act.put, List.setIfInBounds_toArray, List.set_cons_zero, List.set_cons_succ]
  refine takeW (i := 1) (by simp only [List.getElem?_toArray, List.getElem?_cons_succ, List.getElem?_cons_zero]; exact rfl) (by kernel_rfl) (by kernel_rfl) (by kernel_rfl) (by exact fun _ _ _ h => h) (by rfl) (by intro wq hSw; have q0 := bat hSw z0; have q1 := bat hSw z1; have q3 := bat hSw tk; go_simp <;> with_reducible rfl) (by assumption) ?_
  try simp only [Act.put, List.setIfInBounds_toArray, List.set_cons_zero, List.set_cons_succ]
  refine takeW (i := 2) (by simp only [List.getElem?_toArray, List.getElem?_cons_succ, List.getElem?_cons_zero]; exact rfl) (by kernel_rfl) (by kernel_rfl) (by kernel_rfl) (by exact fun _ _ _ h => h) (by rfl) (by intro wq hSw; go_simp <;> with_reducible rfl) (by assumption) ?_
  try simp only [Act.put, List.setIfInBounds_toArray, List.set_cons_zero, List.set_cons_succ]
  refine takeW (i := 3) (by simp only [List.getElem?_toArray, List.getElem?_cons_succ, List.getElem?_cons_zero]; exact rfl) (by kernel_rfl) (by kernel_rfl) (by kernel_rfl) (by exact fun _ _ _ h => h) (by rfl) (by intro wq hSw; have q0 := bat hSw z0; have q1 := bat hSw z1; have q3 := bat hSw tk; go_simp <;> with_reducible rfl) (by assumption) ?_
  try simp only [Act.put, List.setIfInBounds_toArray, List.set_cons_zero, List.set_cons_succ]
  refine takeW (i := 4) (by simp only [List.getElem?_toArray, List.getElem?_cons_succ, List.getElem?_cons_zero]; exact rfl) (by kernel_rfl) (by kernel_rfl) (by kernel_rfl) (by exact fun _ _ _ h => h) (by rfl) (by intro wq hSw; go_simp <;> with_reducible rfl) (by assumption) ?_
  try simp only [Act.put, List.setIfInBounds_toArray, List.set_cons_zero, List.set_cons_succ]
  refine takeW (i := 5) (by simp only [List.getElem?_toArray, List.getElem?_cons_succ, List.getElem?_cons_zero]; exact rfl) (by kernel_rfl) (by kernel_rfl) (by kernel_rfl) (by exact fun _ _ _ h => h) (by rfl) (by intro wq hSw; have q0 := bat hSw z0; have q1 := bat hSw z1; have q3 := bat hSw tk; go_simp <;> with_reducible rfl) (by assumption) ?_
  try simp only [Act.put, List.setIfInBounds_toArray, List.set_cons_zero, List.set_cons_succ]
  refine wpAnyH_ready (rs := [6]) (by kernel_rfl) (by simp) (AllReadyH.cons (by simp only [List.getElem?_toArray, List.getElem?_cons_succ, List.getElem?_cons_zero]; exact rfl) (fun K hK => ?_) AllReadyH.nil)
  go_simp
  go_at_call 15
  refine (listText_row (some ⟨b, off, none⟩) c rs _ (S2.below N) h0 h1 HL.out OK.out (fun w' q => HT.out w' (B2.trans ((N.trans (q.mono N.size)).mono hW)))).mono ?_
  rintro e q1 ⟨rfl, b1⟩
  rw [HTR.out]
  have N1 := N.trans (b1.mono N.size)
  refine hK.out _ _ N1 (fun hHeld => ?_)
  clear hK K hHeld b1
  try simp only [Act.put, List.setIfInBounds_toArray, List.set_cons_zero, List.set_cons_succ]
  refine takeW (i := 7) (by simp only [List.getElem?_toArray, List.getElem?_cons_succ, List.getElem?_cons_zero]; exact rfl) (by kernel_rfl) (by kernel_rfl) (by kernel_rfl) (by exact fun _ _ _ h => h) (by rfl) (by intro wq hSw; go_simp <;> (first | with_reducible rfl | rw [if_neg (by omega)])) (by assumption) ?_
  try simp only [Act.put, List.setIfInBounds_toArray, List.set_cons_zero, List.set_cons_succ]
  refine takeW (i := 8) (by simp only [List.getElem?_toArray, List.getElem?_cons_succ, List.getElem?_cons_zero]; exact rfl) (by kernel_rfl) (by kernel_rfl) (by kernel_rfl) (by exact fun _ _ _ h => h) (by rfl) (by intro wq hSw; go_simp <;> with_reducible rfl) (by assumption) ?_
  try simp only [Act.put, List.setIfInBounds_toArray, List.set_cons_zero, List.set_cons_succ]
  refine wpAnyH_done (by kernel_rfl) ?_ _
  go_wp2
  go_ret
  exact ⟨rfl, B2.trans (N1.mono hW)⟩

set_option maxRecDepth 20000 in
set_option maxHeartbeats 2000000 in
theorem implText (n : Int) (a : Option Addr) (c : Nat) (rs : List (List (Int × Int))) (w : World) (h : SeesS w a c rs) (HT0 : ∀ w', Below w.heap.size w w' → PowT w') (HW0 : ∀ w', Below w.heap.size w w' → TabW w') :
    Calls Tryd.prog 7 #[.agg #[.int .i64 n, .slice a rs.length c]] w fun e w' => e = .returned (.string (txT n rs)) ∧ Below w.heap.size w w' := by
  cases g : goodB n rs
  · have E : Hid (txT n rs = ⟨#[]⟩) := by show _ = _; unfold txT; rw [g]; rfl
    rw [E.out]
    have B0 := below1 w (.cells #[.int .i64 n, .slice a rs.length c] 29)
    have V0 := Box2.new w (lo := w.heap.size) (Nat.le_refl _) (.int .i64 n) (.slice a rs.length c) 29
    have S0 := h.below B0
    go_enter Tryd.func7, Tryd.ntmps7
    go_upto_region 1 with fail
    generalize w.alloc (.cells #[.int .i64 n, .slice a rs.length c] 29) = W0 at *
    obtain ⟨t0, t1, _, _⟩ := id V0
    go_wp2_with fail
    refine (good_any n a c rs _ S0).mono ?_
    rintro e w2 ⟨rfl, b2⟩
    rw [g]
    have B2 := B0.trans (b2.mono B0.size)
    go_wp2
    go_ret
    exact ⟨rfl, B2⟩
  · have E : txT n rs = shT n rs := by unfold txT; rw [g]; rfl
    rw [E]
    obtain ⟨hk, _, _⟩ := goodS_rows g
    rcases kinds hk with rfl | rfl | rfl | rfl | rfl
    · exact implText1 a c rs w h g HT0 HW0
    · exact implText2 a c rs w h g HT0 HW0
    · exact implText3 a c rs w h g HT0 HW0
    · exact implText4 a c rs w h g HT0 HW0
    · exact implText5 a c rs w h g HT0 HW0
end Go.Proofs.YtneilolpmjblhaaDoor
