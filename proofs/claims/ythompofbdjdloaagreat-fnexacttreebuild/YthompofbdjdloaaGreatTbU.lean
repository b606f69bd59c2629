/- TreeBuild of the specification. -/
import Derived.Test.YthompofbdjdloaaGreatTbD
namespace Go.Proofs.YthompofbdjdloaaGreat
open Go.RowKit

set_option maxRecDepth 100000 in
set_option maxHeartbeats 4000000 in
theorem specTreeBuild (a1 a2 : Option Addr) (c1 c2 : Nat) (is : List Int) (bs : List Bx) (w : World) (h1 : SeesI w a1 c1 is) (h2 : SeesX w a2 c2 bs) :
    Calls Tryz.prog 7 #[.slice a1 is.length c1, .slice a2 bs.length c2] w fun e w' => ∃ u1 u2 u3, e = .returned (.tuple #[ndV (tbV is bs) u1 u2 u3, .bool (tbOk is bs)]) ∧ NdP (fun _ => True) w' (tbV is bs) u1 u2 u3 ∧ Below w.heap.size w w' := by
  have hm1 := h1.max
  have hm2 := h2.max
  have hf2 := h2.fits
  have hf1 := h1.fits
  unfold maxLen at hm1 hm2
  have hb1 := below1 w (.cells #[.int .i64 0, .int .i64 0, .int .i64 0, .int .i64 0, .slice none 0 0, .slice none 0 0, .slice none 0 0] 32)
  have V := Bx7.new w (.int .i64 0) (.int .i64 0) (.int .i64 0) (.int .i64 0) (.slice none 0 0) (.slice none 0 0) (.slice none 0 0) 32
  have H1 : Hid (SeesI (w.alloc (.cells #[.int .i64 0, .int .i64 0, .int .i64 0, .int .i64 0, .slice none 0 0, .slice none 0 0, .slice none 0 0] 32)) a1 c1 is) := h1.below hb1
  have H2 : Hid (SeesX (w.alloc (.cells #[.int .i64 0, .int .i64 0, .int .i64 0, .int .i64 0, .slice none 0 0, .slice none 0 0, .slice none 0 0] 32)) a2 c2 bs) := h2.below hb1
  have BAD0 : tbOk is bs = false → ∀ (w' : World), Below w.heap.size w w' → ∃ u1 u2 u3, Ending.returned (.tuple #[.agg #[.int .i64 0, .int .i64 0, .int .i64 0, .int .i64 0, .slice none 0 0, .slice none 0 0, .slice none 0 0], .bool false]) = .returned (.tuple #[ndV (tbV is bs) u1 u2 u3, .bool (tbOk is bs)]) ∧ NdP (fun _ => True) w' (tbV is bs) u1 u2 u3 ∧ Below w.heap.size w w' := fun hno w' hb => by
    have e : tbV is bs = .mk (0, 0, 0, 0) [] [] [] := by unfold tbV; rw [if_neg (by rw [hno]; exact Bool.false_ne_true)]
    rw [e, hno]
    exact ⟨.slice none 0 0, .slice none 0 0, .slice none 0 0, rfl, .mk (ks := []) (p := 0) (o := 0) (g1 := fun _ => undef) (g2 := fun _ => undef) (g3 := fun _ => undef) ⟨Nat.zero_le _, by simp [maxLen], fun e => absurd rfl e⟩ (fun _ _ _ _ => trivial) ⟨Nat.zero_le _, by simp [maxLen], fun e => absurd rfl e⟩ (fun _ _ _ _ => trivial) (Nat.le_refl _) (by simp [maxLen]) (fun _ _ _ _ => trivial) (fun e => absurd rfl e) (fun i hi => absurd hi (Nat.not_lt_zero _)) (fun i hi => absurd hi (Nat.not_lt_zero _)), hb⟩
  clear h1 h2
  by_cases hne : is.length = bs.length
  · have e1 : ((is.length : Int) != (bs.length : Int)) = false := by rw [hne]; simp
    by_cases h6 : is.length ≤ 600
    · have h6' : ¬ (600 : Int) < (is.length : Int) := by omega
      have hne' : Hid (is.length = bs.length) := hne
      clear hne
      go_enter Tryz.func7, Tryz.ntmps7
      go_wp2_with fail
      go_loopw [6] (fun s6 wr => ∃ j : Nat, j ≤ bs.length ∧ s6 = .int .i64 (j : Int) ∧ Hid (allOk bs j = true) ∧ Hid (Below w.heap.size w wr) ∧ Hid (Below (w.alloc (.cells #[.int .i64 0, .int .i64 0, .int .i64 0, .int .i64 0, .slice none 0 0, .slice none 0 0, .slice none 0 0] 32)).heap.size (w.alloc (.cells #[.int .i64 0, .int .i64 0, .int .i64 0, .int .i64 0, .slice none 0 0, .slice none 0 0, .slice none 0 0] 32)) wr)) (fun s6 _ => bs.length - (intOf s6).toNat)
      case atStart => exact ⟨0, Nat.zero_le _, rfl, rfl, hb1, Below.refl _ _⟩
      case round =>
        obtain ⟨j, hj, rfl, HA, HB, HBW⟩ := hrel
        rename World => wr
        replace V := V.below HBW.out
        replace H1 : Hid (SeesI wr a1 c1 is) := H1.out.below HBW.out
        replace H2 : Hid (SeesX wr a2 c2 bs) := H2.out.below HBW.out
        by_cases hlt : j < bs.length
        · have hlt' : (j : Int) < (bs.length : Int) := by omega
          have h2' := H2.out
          obtain ⟨g2, o2, ea2, hcX⟩ := h2'.cells (by intro e; rw [e] at hlt; simp at hlt)
          obtain ⟨x0, x1, x2, x3⟩ := hcX j hlt
          obtain ⟨⟨y1, y2, y3, y4⟩, uy⟩ : ∃ x, Hid (bxAt bs j = x) := ⟨_, rfl⟩
          rw [uy.out] at x0 x1 x2 x3
          dsimp only at x0 x1 x2 x3
          subst ea2
          clear h2' hcX hb1
          have HV : Hid (Bx7 wr w.heap.size (.int .i64 0) (.int .i64 0) (.int .i64 0) (.int .i64 0) (.slice none 0 0) (.slice none 0 0) (.slice none 0 0)) := V
          clear V
          go_wp2_with fail
          refine (specBoxOk _ _ _ _ _).mono ?_
          rintro e w2 ⟨rfl, hb⟩
          have HS : Hid (allOk bs (j + 1) = boxOk y1 y2 y3 y4) := by show _ = _; simp only [allOk, HA.out, Bool.true_and]; rw [uy.out]; rfl
          cases hok : boxOk y1 y2 y3 y4
          · have hno : tbOk is bs = false := by
              unfold tbOk
              have : allOk bs bs.length = false := by
                cases c : allOk bs bs.length
                · rfl
                · have h := (allOk_iff bs (j + 1)).2 (fun i hi => (allOk_iff bs bs.length).1 c i (by omega))
                  rw [HS.out, hok] at h
                  exact h.symm
              rw [this]; simp
            have BAD := BAD0 hno
            have V2 := HV.out.below hb
            have hb2 := HB.out.trans (hb.mono HB.out.size)
            clear BAD0 hno HBW HV hb
            have R3 := ((((((((((((((V2).set0 (.int .i64 0))).set1 (.int .i64 0))).set2 (.int .i64 0))).set3 (.int .i64 0))).set4 (.slice none 0 0))).set5 (.slice none 0 0))).set6 (.slice none 0 0))
            have HB3 : Hid _ := ((((((((((((((hb2).setCell (p := ⟨w.heap.size, 0, none⟩) (Nat.le_refl _) (.int .i64 0))).setCell (p := ⟨w.heap.size, 1, none⟩) (Nat.le_refl _) (.int .i64 0))).setCell (p := ⟨w.heap.size, 2, none⟩) (Nat.le_refl _) (.int .i64 0))).setCell (p := ⟨w.heap.size, 3, none⟩) (Nat.le_refl _) (.int .i64 0))).setCell (p := ⟨w.heap.size, 4, none⟩) (Nat.le_refl _) (.slice none 0 0))).setCell (p := ⟨w.heap.size, 5, none⟩) (Nat.le_refl _) (.slice none 0 0))).setCell (p := ⟨w.heap.size, 6, none⟩) (Nat.le_refl _) (.slice none 0 0))
            obtain ⟨q0, q1, q2, q3, q4, q5, q6, _⟩ := R3
            obtain ⟨r0, r1, r2, r3, r4, r5, r6, rf⟩ := id V2
            clear V2
            go_wp2
            exact bodyPost_ret (v := .tuple #[.agg #[.int .i64 0, .int .i64 0, .int .i64 0, .int .i64 0, .slice none 0 0, .slice none 0 0, .slice none 0 0], .bool false]) (by simp [results, Tryz.results7, go_sem, q0, q1, q2, q3, q4, q5, q6]) rfl (BAD _ HB3.out)
          · have HA2 : Hid (allOk bs (j + 1) = true) := HS.out.trans hok
            have B2 : Hid _ := HB.out.trans (hb.mono HB.out.size)
            have B3 : Hid _ := HBW.out.trans (hb.mono HBW.out.size)
            clear HV HB HBW HA HS hb
            go_wp2
            go_roundw
            case rel => exact ⟨j + 1, by omega, by go_num, HA2, B2, B3⟩
            case measure => simp [intOf]; omega
        · obtain rfl : j = bs.length := by omega
          have hyes : tbOk is bs = true := by unfold tbOk; rw [HA.out]; simp [hne'.out]; have := hne'.out; omega
          have HVT : Hid (tbV is bs = tbT is bs) := by show _ = _; unfold tbV; rw [if_pos hyes]
          have HYES : Hid (tbOk is bs = true) := hyes
          have CC := l15Build_any a1 a2 c1 c2 is bs wr H1.out H2.out (by have := hne'.out; omega) hne'.out
          have HV : Hid (Bx7 wr w.heap.size (.int .i64 0) (.int .i64 0) (.int .i64 0) (.int .i64 0) (.slice none 0 0) (.slice none 0 0) (.slice none 0 0)) := V
          have hlt' : ¬ (bs.length : Int) < (bs.length : Int) := by omega
          clear V BAD0 hyes HBW H1 H2 hb1
          go_wp2_with fail
          refine CC.mono ?_
          rintro e w4 ⟨u1, u2, u3, rfl, N4, hb⟩
          have V4 := HV.out.below hb
          have hwl := HV.out.lt
          have HVV0 : Hid (∀ u1 u2 u3, ndV (tbV is bs) u1 u2 u3 = ndV (tbT is bs) u1 u2 u3) := fun _ _ _ => by rw [HVT.out]
          obtain ⟨t, ut⟩ : ∃ t, Hid (tbT is bs = t) := ⟨_, rfl⟩
          rw [ut.out] at N4 ⊢
          obtain ⟨⟨x1, x2, x3, x4⟩, bs', is', ks'⟩ := t
          obtain ⟨b1, d1, b2, d2, b3, d3, rfl, rfl, rfl, _⟩ := (NdP.toIn _ N4).open
          dsimp only [Nd.bs, Nd.is, Nd.ks] at *
          unfold ndV
          dsimp only [Nd.b]
          obtain ⟨r0, r1, r2, r3, r4, r5, r6, rf⟩ := id V4
          have B5 := HB.out.trans (hb.mono HB.out.size)
          have R3 := ((((((((((((((V4).set0 (.int .i64 x1))).set1 (.int .i64 x2))).set2 (.int .i64 x3))).set3 (.int .i64 x4))).set4 (.slice b1 bs'.length d1))).set5 (.slice b2 is'.length d2))).set6 (.slice b3 ks'.length d3))
          have B3 : Hid _ := ((((((((((((((B5).setCell (p := ⟨w.heap.size, 0, none⟩) (Nat.le_refl _) (.int .i64 x1))).setCell (p := ⟨w.heap.size, 1, none⟩) (Nat.le_refl _) (.int .i64 x2))).setCell (p := ⟨w.heap.size, 2, none⟩) (Nat.le_refl _) (.int .i64 x3))).setCell (p := ⟨w.heap.size, 3, none⟩) (Nat.le_refl _) (.int .i64 x4))).setCell (p := ⟨w.heap.size, 4, none⟩) (Nat.le_refl _) (.slice b1 bs'.length d1))).setCell (p := ⟨w.heap.size, 5, none⟩) (Nat.le_refl _) (.slice b2 is'.length d2))).setCell (p := ⟨w.heap.size, 6, none⟩) (Nat.le_refl _) (.slice b3 ks'.length d3))
          have C3 : ChC (fun q => q = w.heap.size) w4 _ := fun b' k' z nb e => ((cell_other (o := 6) (.inl (fun e2 => nb e2.symm)) (.slice b3 ks'.length d3)).trans ((cell_other (o := 5) (.inl (fun e2 => nb e2.symm)) (.slice b2 is'.length d2)).trans ((cell_other (o := 4) (.inl (fun e2 => nb e2.symm)) (.slice b1 bs'.length d1)).trans ((cell_other (o := 3) (.inl (fun e2 => nb e2.symm)) (.int .i64 x4)).trans ((cell_other (o := 2) (.inl (fun e2 => nb e2.symm)) (.int .i64 x3)).trans ((cell_other (o := 1) (.inl (fun e2 => nb e2.symm)) (.int .i64 x2)).trans ((cell_other (o := 0) (.inl (fun e2 => nb e2.symm)) (.int .i64 x1)).trans e)))))))
          have N3 : Hid _ := NdP.mono (P' := fun _ => True) (fun _ _ => trivial) _ (NdP.chg C3 (fun q hq e => by omega) _ N4)
          obtain ⟨q0, q1, q2, q3, q4, q5, q6, _⟩ := R3
          clear C3 N4 B5 V4 CC hb
          go_wp2
          exact bodyPost_ret (v := .tuple #[.agg #[.int .i64 x1, .int .i64 x2, .int .i64 x3, .int .i64 x4, .slice b1 bs'.length d1, .slice b2 is'.length d2, .slice b3 ks'.length d3], .bool true]) (by simp [results, Tryz.results7, go_sem, q0, q1, q2, q3, q4, q5, q6]) rfl ⟨.slice b1 bs'.length d1, .slice b2 is'.length d2, .slice b3 ks'.length d3, by rw [HVT.out, HYES.out, ut.out]; rfl, by rw [HVT.out, ut.out]; exact N3.out, B3.out⟩
    · have h6' : (600 : Int) < (is.length : Int) := by omega
      have hno : tbOk is bs = false := by unfold tbOk; simp; intro _ h; omega
      have BAD := BAD0 hno
      clear BAD0 hno H1 H2 hne
      go_enter Tryz.func7, Tryz.ntmps7
      have HB0 : Hid _ := hb1
      obtain ⟨r0, r1, r2, r3, r4, r5, r6, rf⟩ := id V
      clear V hb1
      go_wp2
      first
      | exact bodyPost_ret (v := .tuple #[.agg #[.int .i64 0, .int .i64 0, .int .i64 0, .int .i64 0, .slice none 0 0, .slice none 0 0, .slice none 0 0], .bool false]) (by simp [results, Tryz.results7, go_sem, r0, r1, r2, r3, r4, r5, r6]) rfl (BAD _ HB0.out)
      | exact bodyPost_ret (v := .tuple #[.agg #[.int .i64 0, .int .i64 0, .int .i64 0, .int .i64 0, .slice none 0 0, .slice none 0 0, .slice none 0 0], .bool false]) (by simp [results, Tryz.results7, go_sem]) rfl (BAD _ HB0.out)
  · have e1 : ((is.length : Int) != (bs.length : Int)) = true := by simp; omega
    have hno : tbOk is bs = false := by unfold tbOk; simp; intro h; omega
    have BAD := BAD0 hno
    clear BAD0 hno H1 H2 hne
    go_enter Tryz.func7, Tryz.ntmps7
    have HB0 : Hid _ := hb1
    obtain ⟨r0, r1, r2, r3, r4, r5, r6, rf⟩ := id V
    clear V hb1
    go_wp2
    first
    | exact bodyPost_ret (v := .tuple #[.agg #[.int .i64 0, .int .i64 0, .int .i64 0, .int .i64 0, .slice none 0 0, .slice none 0 0, .slice none 0 0], .bool false]) (by simp [results, Tryz.results7, go_sem, r0, r1, r2, r3, r4, r5, r6]) rfl (BAD _ HB0.out)
    | exact bodyPost_ret (v := .tuple #[.agg #[.int .i64 0, .int .i64 0, .int .i64 0, .int .i64 0, .slice none 0 0, .slice none 0 0, .slice none 0 0], .bool false]) (by simp [results, Tryz.results7, go_sem]) rfl (BAD _ HB0.out)
end Go.Proofs.YthompofbdjdloaaGreat
