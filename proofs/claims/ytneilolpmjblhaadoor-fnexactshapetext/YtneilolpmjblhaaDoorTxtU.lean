/- The text of a shape, of the specification: l7Text, ShapeText. -/
import Derived.Test.YtneilolpmjblhaaDoorTxtS
namespace Go.Proofs.YtneilolpmjblhaaDoor
open Go.RowKit

theorem wdT_size (k : Int) : (wdT k).size ≤ 7 := by
  unfold wdT
  split
  · decide
  · split
    · decide
    · split
      · decide
      · split <;> decide

set_option maxRecDepth 20000 in
set_option maxHeartbeats 4000000 in
theorem l7TextA (k : Int) (hk : 1 ≤ k ∧ k < 4) (a : Option Addr) (c : Nat) (rs : List (List (Int × Int))) (w : World) (h : SeesS w a c rs) (hn : 0 < rs.length ∧ rs.length ≤ 12) (hl : 0 < (rowA rs 0).length ∧ (rowA rs 0).length ≤ 60) (ok : okL (rowA rs 0) = true) :
    Calls Tryd.prog 11 #[.agg #[.int .i64 k, .slice a rs.length c]] w fun e w' => e = .returned (.string (shT k rs)) ∧ Below w.heap.size w w' := by
  have hm := h.max
  have hf := h.fits
  unfold maxLen at hm
  have B0 := below1 w (.cells #[.int .i64 k, .slice a rs.length c] 29)
  have V0 := Box2.new w (lo := w.heap.size) (Nat.le_refl _) (.int .i64 k) (.slice a rs.length c) 29
  have S0 := h.below B0
  have HS : Hid (shT k rs = wdT k ++ rwT (rowA rs 0)) := by show _ = _; unfold shT; rw [if_pos hk.2]
  have RZ := rwT_size ok hl.2
  have WZ := wdT_size k
  rw [HS.out]
  obtain ⟨tr, HTR⟩ : ∃ t, Hid (rwT (rowA rs 0) = t) := ⟨_, rfl⟩
  rw [HTR.out] at RZ ⊢
  obtain ⟨tw, HTW⟩ : ∃ t, Hid (wdT k = t) := ⟨_, rfl⟩
  rw [HTW.out] at WZ ⊢
  have OK : Hid (okL (rowA rs 0) = true) := ok
  have k4 := hk.2
  clear h HS ok
  go_enter Tryd.func11, Tryd.ntmps11
  go_upto_region 1 with fail
  generalize w.alloc (.cells #[.int .i64 k, .slice a rs.length c] 29) = W0 at *
  have hW := B0.size
  obtain ⟨b, off, rfl, hc⟩ := S0.cells (by intro e; rw [e] at hn; exact absurd hn.1 (by simp))
  obtain ⟨a', c', g0, PP⟩ := hc 0 hn.1
  simp only [Nat.add_zero] at g0
  obtain ⟨t0, t1, _, _⟩ := id V0
  have PM := PP.max
  have PF := PP.fits
  unfold maxLen at PM
  clear hc S0 V0
  go_upto_region 2 with fail
  have N := ((Below.refl W0.heap.size W0).drew : Below W0.heap.size W0 _)
  refine wp_region_held_drew (S := Below W0.heap.size W0) (by kernel_rfl) N (fun hHeld => ?_)
  clear hHeld
  revert N
  generalize W0.drew = ww0
  intro N
  refine takeW (i := 0) (by simp only [List.getElem?_toArray, List.getElem?_cons_zero]; exact rfl) (by kernel_rfl) (by kernel_rfl) (by kernel_rfl) (by exact fun _ _ _ h => h) (by rfl) (by intro wq hSw; go_simp <;> with_reducible rfl) (by assumption) ?_
  try simp only [Act.put, List.setIfInBounds_toArray, List.set_cons_zero, List.set_cons_succ]
  refine takeW (i := 1) (by simp only [List.getElem?_toArray, List.getElem?_cons_succ, List.getElem?_cons_zero]; exact rfl) (by kernel_rfl) (by kernel_rfl) (by kernel_rfl) (by exact fun _ _ _ h => h) (by rfl) (by intro wq hSw; have z0 := bat hSw t0; have z1 := bat hSw t1; have z2 := bat hSw g0; go_simp <;> with_reducible rfl) (by assumption) ?_
  try simp only [Act.put, List.setIfInBounds_toArray, List.set_cons_zero, List.set_cons_succ]
  refine takeW (i := 4) (by simp only [List.getElem?_toArray, List.getElem?_cons_succ, List.getElem?_cons_zero]; exact rfl) (by kernel_rfl) (by kernel_rfl) (by kernel_rfl) (by exact fun _ _ _ h => h) (by rfl) (by intro wq hSw; go_simp <;> with_reducible rfl) (by assumption) ?_
  try simp only [Act.put, List.setIfInBounds_toArray, List.set_cons_zero, List.set_cons_succ]
  refine takeW (i := 5) (by simp only [List.getElem?_toArray, List.getElem?_cons_succ, List.getElem?_cons_zero]; exact rfl) (by kernel_rfl) (by kernel_rfl) (by kernel_rfl) (by exact fun _ _ _ h => h) (by rfl) (by intro wq hSw; have z0 := bat hSw t0; have z1 := bat hSw t1; have z2 := bat hSw g0; go_simp <;> with_reducible rfl) (by assumption) ?_
  try simp only [Act.put, List.setIfInBounds_toArray, List.set_cons_zero, List.set_cons_succ]
  refine takeW (i := 6) (by simp only [List.getElem?_toArray, List.getElem?_cons_succ, List.getElem?_cons_zero]; exact rfl) (by kernel_rfl) (by kernel_rfl) (by kernel_rfl) (by exact fun _ _ _ h => h) (by rfl) (by intro wq hSw; go_simp <;> with_reducible rfl) (by assumption) ?_
  try simp only [Act.put, List.setIfInBounds_toArray, List.set_cons_zero, List.set_cons_succ]
  refine takeW (i := 7) (by simp only [List.getElem?_toArray, List.getElem?_cons_succ, List.getElem?_cons_zero]; exact rfl) (by kernel_rfl) (by kernel_rfl) (by kernel_rfl) (by exact fun _ _ _ h => h) (by rfl) (by intro wq hSw; have z0 := bat hSw t0; have z1 := bat hSw t1; have z2 := bat hSw g0; go_simp <;> with_reducible rfl) (by assumption) ?_
  try simp only [Act.put, List.setIfInBounds_toArray, List.set_cons_zero, List.set_cons_succ]
  refine wpAnyH_ready (rs := [2]) (by kernel_rfl) (by simp) (AllReadyH.cons (by simp only [List.getElem?_toArray, List.getElem?_cons_succ, List.getElem?_cons_zero]; exact rfl) (fun K hK => ?_) AllReadyH.nil)
  go_simp
  go_at_call 20
  refine (l7Word_any k (by omega) _).mono ?_
  rintro e q1 ⟨uw, rfl, HUW, UZ, b1⟩
  have N1 := N.trans (b1.mono N.size)
  rw [HTW.out] at HUW
  have HUH : Hid _ := HUW
  clear HUW
  have eu : (uw ++ ⟨#[32]⟩).size = uw.size + 1 := by rw [ByteArray.size_append]; rfl
  refine hK.out _ _ N1 (fun hHeld => ?_)
  clear hK K hHeld b1
  try simp only [Act.put, List.setIfInBounds_toArray, List.set_cons_zero, List.set_cons_succ]
  refine takeW (i := 3) (by simp only [List.getElem?_toArray, List.getElem?_cons_succ, List.getElem?_cons_zero]; exact rfl) (by kernel_rfl) (by kernel_rfl) (by kernel_rfl) (by exact fun _ _ _ h => h) (by rfl) (by intro wq hSw; go_simp <;> (first | with_reducible rfl | rw [if_neg (by omega)])) (by assumption) ?_
  try simp only [Act.put, List.setIfInBounds_toArray, List.set_cons_zero, List.set_cons_succ]
  refine wpAnyH_ready (rs := [8]) (by kernel_rfl) (by simp) (AllReadyH.cons (by simp only [List.getElem?_toArray, List.getElem?_cons_succ, List.getElem?_cons_zero]; exact rfl) (fun K hK => ?_) AllReadyH.nil)
  go_simp
  go_at_call 21
  refine (l7Row_any a' c' (rowA rs 0) _ (PP.below N1) OK.out hl.1 hl.2).mono ?_
  rintro e q2 ⟨rfl, b2⟩
  rw [HTR.out]
  have N2 := N1.trans (b2.mono N1.size)
  refine hK.out _ _ N2 (fun hHeld => ?_)
  clear hK K hHeld b2
  try simp only [Act.put, List.setIfInBounds_toArray, List.set_cons_zero, List.set_cons_succ]
  refine takeW (i := 9) (by simp only [List.getElem?_toArray, List.getElem?_cons_succ, List.getElem?_cons_zero]; exact rfl) (by kernel_rfl) (by kernel_rfl) (by kernel_rfl) (by exact fun _ _ _ h => h) (by rfl) (by intro wq hSw; go_simp <;> (first | with_reducible rfl | rw [if_neg (by omega)])) (by assumption) ?_
  try simp only [Act.put, List.setIfInBounds_toArray, List.set_cons_zero, List.set_cons_succ]
  refine takeW (i := 10) (by simp only [List.getElem?_toArray, List.getElem?_cons_succ, List.getElem?_cons_zero]; exact rfl) (by kernel_rfl) (by kernel_rfl) (by kernel_rfl) (by exact fun _ _ _ h => h) (by rfl) (by intro wq hSw; go_simp <;> with_reducible rfl) (by assumption) ?_
  try simp only [Act.put, List.setIfInBounds_toArray, List.set_cons_zero, List.set_cons_succ]
  refine wpAnyH_done (by kernel_rfl) ?_ _
  have E : Hid (uw ++ ⟨#[32]⟩ ++ tr = tw ++ tr) := by show _ = _; rw [HUH.out]
  go_wp2
  go_ret
  exact ⟨ret_str E.out, B0.trans (N2.mono hW)⟩

set_option maxRecDepth 20000 in
set_option maxHeartbeats 4000000 in
theorem l7TextB (k : Int) (hk : 4 ≤ k ∧ k ≤ 5) (a : Option Addr) (c : Nat) (rs : List (List (Int × Int))) (w : World) (h : SeesS w a c rs) (hn : 0 < rs.length ∧ rs.length ≤ 12) (hl : ∀ i, i < rs.length → 0 < (rowA rs i).length ∧ (rowA rs i).length ≤ 60) (ok : ∀ i, i < rs.length → okL (rowA rs i) = true) :
    Calls Tryd.prog 11 #[.agg #[.int .i64 k, .slice a rs.length c]] w fun e w' => e = .returned (.string (shT k rs)) ∧ Below w.heap.size w w' := by
  have hm := h.max
  have hf := h.fits
  unfold maxLen at hm
  have B0 := below1 w (.cells #[.int .i64 k, .slice a rs.length c] 29)
  have V0 := Box2.new w (lo := w.heap.size) (Nat.le_refl _) (.int .i64 k) (.slice a rs.length c) 29
  have S0 := h.below B0
  have HS : Hid (shT k rs = wdT k ++ lsT (rs.map rwT)) := by show _ = _; unfold shT; rw [if_neg (by omega)]
  have SZ : Hid (∀ j, (jn (rs.map rwT) j).size ≤ j * 2704) := jn_size (S := 2702) (fun t ht => by
    obtain ⟨p, hp, rfl⟩ := List.mem_map.1 ht
    obtain ⟨i, hi, rfl⟩ := List.getElem_of_mem hp
    rw [show rs[i] = rowA rs i by unfold rowA; rw [List.getElem?_eq_getElem hi]; rfl]
    exact rwT_size (ok i hi) (hl i hi).2)
  have TG : Hid (∀ j (hj : j < rs.length), (rs.map rwT)[j]?.getD ⟨#[]⟩ = rwT (rowA rs j)) := fun j hj => by
    unfold rowA
    rw [List.getElem?_map, List.getElem?_eq_getElem hj]; rfl
  have RZ : Hid (∀ j, j < rs.length → (rwT (rowA rs j)).size ≤ 2702) := fun j hj => rwT_size (ok j hj) (hl j hj).2
  have TL : Hid ((rs.map rwT).length = rs.length) := List.length_map ..
  have WZ := wdT_size k
  rw [HS.out]
  unfold lsT
  rw [TL.out]
  generalize HTS : rs.map rwT = ts at *
  obtain ⟨tw, HTW⟩ : ∃ t, Hid (wdT k = t) := ⟨_, rfl⟩
  rw [HTW.out] at WZ ⊢
  have OK : Hid (∀ i, i < rs.length → okL (rowA rs i) = true) := ok
  have HL : Hid (∀ i, i < rs.length → 0 < (rowA rs i).length ∧ (rowA rs i).length ≤ 60) := hl
  have k4 : ¬ k < 4 := by omega
  clear h HS ok hl HTS TL
  go_enter Tryd.func11, Tryd.ntmps11
  go_upto_region 1 with fail
  generalize w.alloc (.cells #[.int .i64 k, .slice a rs.length c] 29) = W0 at *
  have hW := B0.size
  obtain ⟨b, off, rfl, hc⟩ := S0.cells (by intro e; rw [e] at hn; exact absurd hn.1 (by simp))
  have HC : Hid (∀ i, i < rs.length → ∃ a' c', W0.cell? ⟨b, off + i, none⟩ = some (.slice a' (rowA rs i).length c') ∧ SeesP W0 a' c' (rowA rs i)) := hc
  obtain ⟨t0, t1, _, _⟩ := id V0
  clear hc S0 V0
  go_wp2_with fail
  refine (l7Word_any k (by omega) _).mono ?_
  rintro e q1 ⟨uw, rfl, HUW, UZ, N1⟩
  rw [HTW.out] at HUW
  have HUH : Hid (uw ++ ⟨#[32, 40]⟩ = tw ++ ⟨#[40]⟩ ++ jn ts 0) := by
    show _ = _
    rw [show jn ts 0 = ⟨#[]⟩ from rfl, ba_empty, ← HUW, ba_assoc]
    rfl
  clear HUW
  go_wp2
  go_loopw [3, 4] (fun s3 s4 wr => ∃ (j : Nat) (u : ByteArray), j ≤ rs.length ∧ s4 = .int .i64 j ∧ s3 = .string u ∧ Hid (u = tw ++ ⟨#[40]⟩ ++ jn ts j) ∧ Below W0.heap.size W0 wr) (fun _ s4 _ => rs.length - (intOf s4).toNat)
  case atStart => exact ⟨0, _, Nat.zero_le _, rfl, rfl, HUH, N1⟩
  case round =>
    clear N1
    obtain ⟨j, u, hj, rfl, rfl, hu, B⟩ := hrel
    rename World => wr
    have us : u.size ≤ 40000 := by
      rw [hu.out, ByteArray.size_append, ByteArray.size_append]
      have := SZ.out j
      have e : (⟨#[40]⟩ : ByteArray).size = 1 := rfl
      omega
    have q0 := bat B t1
    by_cases hlt : j < rs.length
    · obtain ⟨a', c', g0, PP⟩ := HC.out j hlt
      obtain ⟨l0, l1⟩ := HL.out j hlt
      have o := OK.out j hlt
      have rz := RZ.out j hlt
      have TJ := TG.out j hlt
      have P2 := PP.below B
      have g2 := bat B g0
      have PM := PP.max
      have PF := PP.fits
      unfold maxLen at PM
      obtain ⟨tr, HTR⟩ : ∃ t, Hid (rwT (rowA rs j) = t) := ⟨_, rfl⟩
      rw [HTR.out] at rz TJ
      have TJH : Hid _ := TJ
      clear TJ g0
      by_cases hj0 : j = 0
      · subst hj0
        simp only [Nat.add_zero] at g2
        have FIN : Hid (u ++ tr = tw ++ ⟨#[40]⟩ ++ jn ts (0 + 1)) := by
          show _ = _
          rw [hu.out, show jn ts 0 = ⟨#[]⟩ from rfl, ba_empty, show jn ts (0 + 1) = ts[0]?.getD ⟨#[]⟩ from rfl, TJH.out]
        have nn : u.size + tr.size ≤ 9223372036854775807 := by omega
        go_wp2_with fail
        refine (l7Row_any a' c' (rowA rs 0) _ P2 o l0 l1).mono ?_
        rintro e w3 ⟨rfl, b3⟩
        rw [HTR.out]
        have B3 := B.trans (b3.mono B.size)
        go_wp2
        go_roundw
        case rel => exact ⟨1, _, by omega, rfl, rfl, FIN, B3⟩
        case measure => simp [intOf]; omega
      · have hjp : 0 < j := by omega
        have ec : (u ++ ⟨#[44, 32]⟩).size = u.size + 2 := by rw [ByteArray.size_append]; rfl
        have FIN : Hid (u ++ ⟨#[44, 32]⟩ ++ tr = tw ++ ⟨#[40]⟩ ++ jn ts (j + 1)) := by
          show _ = _
          rw [jn_step ts hjp, TJH.out, hu.out]
          simp only [ba_assoc]
        have n0 : u.size + 2 ≤ 9223372036854775807 := by omega
        have nn : u.size + 2 + tr.size ≤ 9223372036854775807 := by omega
        go_wp2_with fail
        refine (l7Row_any a' c' (rowA rs j) _ P2 o l0 l1).mono ?_
        rintro e w3 ⟨rfl, b3⟩
        rw [HTR.out]
        have B3 := B.trans (b3.mono B.size)
        go_wp2
        go_roundw
        case rel => exact ⟨j + 1, _, by omega, by go_num, rfl, FIN, B3⟩
        case measure => simp [intOf]; omega
    · obtain rfl : j = rs.length := by omega
      have E : Hid (u ++ ⟨#[41]⟩ = tw ++ (⟨#[40]⟩ ++ jn ts rs.length ++ ⟨#[41]⟩)) := by show _ = _; rw [hu.out]; simp only [ba_assoc]
      have nn : u.size + 1 ≤ 9223372036854775807 := by omega
      go_wp2
      go_ret
      exact ⟨ret_str E.out, B0.trans (B.mono hW)⟩

theorem good_some {k : Int} {rs : List (List (Int × Int))} (h : goodB k rs = true) : 0 < rs.length := by
  have hf : formB k rs = true := by
    unfold goodB goodTo at h
    rw [Bool.and_eq_true] at h
    exact h.1
  cases rs with
  | nil =>
    unfold formB at hf
    simp [inB] at hf
  | cons p r => simp
theorem good_ok {k : Int} {rs : List (List (Int × Int))} (h : goodB k rs = true) : ∀ i, i < rs.length → okL (rowA rs i) = true := by
  have hf : formB k rs = true := by
    unfold goodB goodTo at h
    rw [Bool.and_eq_true] at h
    exact h.1
  exact fun i hi => (form_row hf hi).2
theorem l7Text_any (k : Int) (a : Option Addr) (c : Nat) (rs : List (List (Int × Int))) (w : World) (h : SeesS w a c rs) (g : goodB k rs = true) :
    Calls Tryd.prog 11 #[.agg #[.int .i64 k, .slice a rs.length c]] w fun e w' => e = .returned (.string (shT k rs)) ∧ Below w.heap.size w w' := by
  obtain ⟨hk, h1, h2⟩ := goodS_rows g
  have h0 := good_some g
  have ok := good_ok g
  by_cases h4 : k < 4
  · exact l7TextA k ⟨hk.1, h4⟩ a c rs w h ⟨h0, h1⟩ (h2 0 h0).2 (ok 0 h0)
  · exact l7TextB k ⟨by omega, hk.2⟩ a c rs w h ⟨h0, h1⟩ (fun i hi => (h2 i hi).2) ok

set_option maxRecDepth 20000 in
set_option maxHeartbeats 2000000 in
theorem specText (n : Int) (a : Option Addr) (c : Nat) (rs : List (List (Int × Int))) (w : World) (h : SeesS w a c rs) :
    Calls Tryd.prog 5 #[.agg #[.int .i64 n, .slice a rs.length c]] w fun e w' => e = .returned (.string (txT n rs)) ∧ Below w.heap.size w w' := by
  have B0 := below1 w (.cells #[.int .i64 n, .slice a rs.length c] 29)
  have V0 := Box2.new w (lo := w.heap.size) (Nat.le_refl _) (.int .i64 n) (.slice a rs.length c) 29
  have S0 := h.below B0
  obtain ⟨u, HU⟩ : ∃ u, Hid (txT n rs = u) := ⟨_, rfl⟩
  rw [HU.out]
  go_enter Tryd.func5, Tryd.ntmps5
  go_upto_region 1 with fail
  generalize w.alloc (.cells #[.int .i64 n, .slice a rs.length c] 29) = W0 at *
  obtain ⟨t0, t1, _, _⟩ := id V0
  go_wp2_with fail
  refine (l5Good_any n a c rs _ S0).mono ?_
  rintro e w2 ⟨rfl, b2⟩
  have B2 := B0.trans (b2.mono B0.size)
  cases g : goodB n rs
  · obtain rfl : ⟨#[]⟩ = u := by rw [← HU.out]; unfold txT; rw [g]; rfl
    go_wp2
    go_ret
    exact ⟨rfl, B2⟩
  · obtain rfl : shT n rs = u := by rw [← HU.out]; unfold txT; rw [g]; rfl
    obtain ⟨z0, z1, _, _⟩ := V0.below b2
    have S2 := S0.below b2
    go_wp2_with fail
    refine (l7Text_any n a c rs _ S2 g).mono ?_
    rintro e w3 ⟨rfl, b3⟩
    have B3 := B2.trans (b3.mono B2.size)
    go_wp2
    go_ret
    exact ⟨rfl, B3⟩
end Go.Proofs.YtneilolpmjblhaaDoor
