import Derived.Test.YtinlomcaagdbiaaGreatTbD
import Derived.Test.YtinlomcaagdbiaaGreatIxM
import Derived.Test.YtinlomcaagdbiaaGreatTrZ
import Derived.Test.YtinlomcaagdbiaaGreatMapS
import Derived.Deep.DeepCutAuto
/- TreeBuild of the specification. -/
namespace Go.Proofs.YtinlomcaagdbiaaGreat
open Go.RowKit

set_option maxRecDepth 100000 in
set_option maxHeartbeats 4000000 in
theorem specTreeBuildP (a1 a2 : Option Addr) (c1 c2 : Nat) (is : List Int) (bs : List Bx) (w : World) (h1 : SeesI w a1 c1 is) (h2 : SeesX w a2 c2 bs) :
  Calls Tryz.prog 16 #[.slice a1 is.length c1, .slice a2 bs.length c2] w fun e w' => ∃ u1 u2 u3, e = .returned (.tuple #[ndV (tbV is bs) u1 u2 u3, .bool (tbOk is bs)]) ∧ NdP (fun q => w.heap.size ≤ q) w' (tbV is bs) u1 u2 u3 ∧ Below w.heap.size w w' := by
 have hm1 := h1.max
 have hm2 := h2.max
 have hf2 := h2.fits
 have hf1 := h1.fits
 unfold maxLen at hm1 hm2
 have hb1 := below1 w (.cells #[.int .i64 0, .int .i64 0, .int .i64 0, .int .i64 0, .slice none 0 0, .slice none 0 0, .slice none 0 0] 32)
 have V := Bx7.new w (.int .i64 0) (.int .i64 0) (.int .i64 0) (.int .i64 0) (.slice none 0 0) (.slice none 0 0) (.slice none 0 0) 32
 have H1 : Hid (SeesI (w.alloc (.cells #[.int .i64 0, .int .i64 0, .int .i64 0, .int .i64 0, .slice none 0 0, .slice none 0 0, .slice none 0 0] 32)) a1 c1 is) := h1.below hb1
 have H2 : Hid (SeesX (w.alloc (.cells #[.int .i64 0, .int .i64 0, .int .i64 0, .int .i64 0, .slice none 0 0, .slice none 0 0, .slice none 0 0] 32)) a2 c2 bs) := h2.below hb1
 have BAD0 : tbOk is bs = false → ∀ (w' : World), Below w.heap.size w w' → ∃ u1 u2 u3, Ending.returned (.tuple #[.agg #[.int .i64 0, .int .i64 0, .int .i64 0, .int .i64 0, .slice none 0 0, .slice none 0 0, .slice none 0 0], .bool false]) = .returned (.tuple #[ndV (tbV is bs) u1 u2 u3, .bool (tbOk is bs)]) ∧ NdP (fun q => w.heap.size ≤ q) w' (tbV is bs) u1 u2 u3 ∧ Below w.heap.size w w' := fun hno w' hb => by
  have e : tbV is bs = .mk (0, 0, 0, 0) [] [] [] := by unfold tbV; rw [if_neg (by rw [hno]; exact Bool.false_ne_true)]
  rw [e, hno]
  exact ⟨.slice none 0 0, .slice none 0 0, .slice none 0 0, rfl, .mk (ks := []) (p := 0) (o := 0) (g1 := fun _ => undef) (g2 := fun _ => undef) (g3 := fun _ => undef) ⟨Nat.zero_le _, by simp [maxLen], fun e => absurd rfl e⟩ (fun _ _ h _ => by cases h) ⟨Nat.zero_le _, by simp [maxLen], fun e => absurd rfl e⟩ (fun _ _ h _ => by cases h) (Nat.le_refl _) (by simp [maxLen]) (fun _ _ h _ => by cases h) (fun e => absurd rfl e) (fun i hi => absurd hi (Nat.not_lt_zero _)) (fun i hi => absurd hi (Nat.not_lt_zero _)), hb⟩
 clear h1 h2
 by_cases hne : is.length = bs.length
 ·have e1 : ((is.length : Int) != (bs.length : Int)) = false := by rw [hne]; simp
  by_cases h6 : is.length ≤ 600
  ·have h6' : ¬ (600 : Int) < (is.length : Int) := by omega
   have hne' : Hid (is.length = bs.length) := hne
   clear hne
   go_enter Tryz.func16, Tryz.ntmps16
   go_wp2_with fail
   go_loopw [6] (fun s6 wr => ∃ j : Nat, j ≤ bs.length ∧ s6 = .int .i64 (j : Int) ∧ Hid (allOk bs j = true) ∧ Hid (Below w.heap.size w wr) ∧ Hid (Below (w.alloc (.cells #[.int .i64 0, .int .i64 0, .int .i64 0, .int .i64 0, .slice none 0 0, .slice none 0 0, .slice none 0 0] 32)).heap.size (w.alloc (.cells #[.int .i64 0, .int .i64 0, .int .i64 0, .int .i64 0, .slice none 0 0, .slice none 0 0, .slice none 0 0] 32)) wr)) (fun s6 _ => bs.length - (intOf s6).toNat)
   case atStart => exact ⟨0, Nat.zero_le _, rfl, rfl, hb1, Below.refl _ _⟩
   case round =>
    obtain ⟨j, hj, rfl, HA, HB, HBW⟩ := hrel
    rename World => wr
    replace V := V.below HBW.out
    replace H1 : Hid (SeesI wr a1 c1 is) := H1.out.below HBW.out
    replace H2 : Hid (SeesX wr a2 c2 bs) := H2.out.below HBW.out
    by_cases hlt : j < bs.length
    ·have hlt' : (j : Int) < (bs.length : Int) := by omega
     have h2' := H2.out
     obtain ⟨g2, o2, ea2, hcX⟩ := h2'.cells (by intro e; rw [e] at hlt; simp at hlt)
     obtain ⟨x0, x1, x2, x3⟩ := hcX j hlt
     obtain ⟨⟨y1, y2, y3, y4⟩, uy⟩ : ∃ x, Hid (bxAt bs j = x) := ⟨_, rfl⟩
     rw [uy.out] at x0 x1 x2 x3
     dsimp only at x0 x1 x2 x3
     subst ea2
     clear h2' hcX hb1
     have HV : Hid (Bx7 wr w.heap.size (.int .i64 0) (.int .i64 0) (.int .i64 0) (.int .i64 0) (.slice none 0 0) (.slice none 0 0) (.slice none 0 0)) := V
     clear V
     go_wp2_with fail
     refine (specBoxOk _ _ _ _ _).mono ?_
     rintro e w2 ⟨rfl, hb⟩
     have HS : Hid (allOk bs (j + 1) = boxOk y1 y2 y3 y4) := by show _ = _; simp only [allOk, HA.out, Bool.true_and]; rw [uy.out]; rfl
     cases hok : boxOk y1 y2 y3 y4
     ·have hno : tbOk is bs = false := by
       unfold tbOk
       have : allOk bs bs.length = false := by
        cases c : allOk bs bs.length
        ·rfl
        ·have h := (allOk_iff bs (j + 1)).2 (fun i hi => (allOk_iff bs bs.length).1 c i (by omega))
         rw [HS.out, hok] at h
         exact h.symm
       rw [this]; simp
      have BAD := BAD0 hno
      have V2 := HV.out.below hb
      have hb2 := HB.out.trans (hb.mono HB.out.size)
      clear BAD0 hno HBW HV hb
      have R3 := ((((((((((((((V2).set0 (.int .i64 0))).set1 (.int .i64 0))).set2 (.int .i64 0))).set3 (.int .i64 0))).set4 (.slice none 0 0))).set5 (.slice none 0 0))).set6 (.slice none 0 0))
      have HB3 : Hid _ := ((((((((((((((hb2).setCell (p := ⟨w.heap.size, 0, none⟩) (Nat.le_refl _) (.int .i64 0))).setCell (p := ⟨w.heap.size, 1, none⟩) (Nat.le_refl _) (.int .i64 0))).setCell (p := ⟨w.heap.size, 2, none⟩) (Nat.le_refl _) (.int .i64 0))).setCell (p := ⟨w.heap.size, 3, none⟩) (Nat.le_refl _) (.int .i64 0))).setCell (p := ⟨w.heap.size, 4, none⟩) (Nat.le_refl _) (.slice none 0 0))).setCell (p := ⟨w.heap.size, 5, none⟩) (Nat.le_refl _) (.slice none 0 0))).setCell (p := ⟨w.heap.size, 6, none⟩) (Nat.le_refl _) (.slice none 0 0))
      obtain ⟨q0, q1, q2, q3, q4, q5, q6, _⟩ := R3
      obtain ⟨r0, r1, r2, r3, r4, r5, r6, rf⟩ := id V2
      clear V2
      go_wp2
      exact bodyPost_ret (v := .tuple #[.agg #[.int .i64 0, .int .i64 0, .int .i64 0, .int .i64 0, .slice none 0 0, .slice none 0 0, .slice none 0 0], .bool false]) (by simp [results, Tryz.results16, go_sem, q0, q1, q2, q3, q4, q5, q6]) rfl (BAD _ HB3.out)
     ·have HA2 : Hid (allOk bs (j + 1) = true) := HS.out.trans hok
      have B2 : Hid _ := HB.out.trans (hb.mono HB.out.size)
      have B3 : Hid _ := HBW.out.trans (hb.mono HBW.out.size)
      clear HV HB HBW HA HS hb
      go_wp2
      go_roundw
      case rel => exact ⟨j + 1, by omega, by go_num, HA2, B2, B3⟩
      case measure => simp [intOf]; omega
    ·obtain rfl : j = bs.length := by omega
     have hyes : tbOk is bs = true := by unfold tbOk; rw [HA.out]; simp [hne'.out]; have := hne'.out; omega
     have HVT : Hid (tbV is bs = tbT is bs) := by show _ = _; unfold tbV; rw [if_pos hyes]
     have HYES : Hid (tbOk is bs = true) := hyes
     have CC := l15Build_any a1 a2 c1 c2 is bs wr H1.out H2.out (by have := hne'.out; omega) hne'.out
     have HV : Hid (Bx7 wr w.heap.size (.int .i64 0) (.int .i64 0) (.int .i64 0) (.int .i64 0) (.slice none 0 0) (.slice none 0 0) (.slice none 0 0)) := V
     have hlt' : ¬ (bs.length : Int) < (bs.length : Int) := by omega
     clear V BAD0 hyes HBW H1 H2 hb1
     go_wp2_with fail
     refine CC.mono ?_
     rintro e w4 ⟨u1, u2, u3, rfl, N4, hb⟩
     have V4 := HV.out.below hb
     have hwl := HV.out.lt
     have HVV0 : Hid (∀ u1 u2 u3, ndV (tbV is bs) u1 u2 u3 = ndV (tbT is bs) u1 u2 u3) := fun _ _ _ => by rw [HVT.out]
     obtain ⟨t, ut⟩ : ∃ t, Hid (tbT is bs = t) := ⟨_, rfl⟩
     rw [ut.out] at N4 ⊢
     obtain ⟨⟨x1, x2, x3, x4⟩, bs', is', ks'⟩ := t
     obtain ⟨b1, d1, b2, d2, b3, d3, rfl, rfl, rfl, _⟩ := (NdP.toIn _ N4).open
     dsimp only [Nd.bs, Nd.is, Nd.ks] at *
     unfold ndV
     dsimp only [Nd.b]
     obtain ⟨r0, r1, r2, r3, r4, r5, r6, rf⟩ := id V4
     have B5 := HB.out.trans (hb.mono HB.out.size)
     have R3 := ((((((((((((((V4).set0 (.int .i64 x1))).set1 (.int .i64 x2))).set2 (.int .i64 x3))).set3 (.int .i64 x4))).set4 (.slice b1 bs'.length d1))).set5 (.slice b2 is'.length d2))).set6 (.slice b3 ks'.length d3))
     have B3 : Hid _ := ((((((((((((((B5).setCell (p := ⟨w.heap.size, 0, none⟩) (Nat.le_refl _) (.int .i64 x1))).setCell (p := ⟨w.heap.size, 1, none⟩) (Nat.le_refl _) (.int .i64 x2))).setCell (p := ⟨w.heap.size, 2, none⟩) (Nat.le_refl _) (.int .i64 x3))).setCell (p := ⟨w.heap.size, 3, none⟩) (Nat.le_refl _) (.int .i64 x4))).setCell (p := ⟨w.heap.size, 4, none⟩) (Nat.le_refl _) (.slice b1 bs'.length d1))).setCell (p := ⟨w.heap.size, 5, none⟩) (Nat.le_refl _) (.slice b2 is'.length d2))).setCell (p := ⟨w.heap.size, 6, none⟩) (Nat.le_refl _) (.slice b3 ks'.length d3))
     have C3 : ChC (fun q => q = w.heap.size) w4 _ := fun b' k' z nb e => ((cell_other (o := 6) (.inl (fun e2 => nb e2.symm)) (.slice b3 ks'.length d3)).trans ((cell_other (o := 5) (.inl (fun e2 => nb e2.symm)) (.slice b2 is'.length d2)).trans ((cell_other (o := 4) (.inl (fun e2 => nb e2.symm)) (.slice b1 bs'.length d1)).trans ((cell_other (o := 3) (.inl (fun e2 => nb e2.symm)) (.int .i64 x4)).trans ((cell_other (o := 2) (.inl (fun e2 => nb e2.symm)) (.int .i64 x3)).trans ((cell_other (o := 1) (.inl (fun e2 => nb e2.symm)) (.int .i64 x2)).trans ((cell_other (o := 0) (.inl (fun e2 => nb e2.symm)) (.int .i64 x1)).trans e)))))))
     have N3 : Hid _ := NdP.mono (P' := fun q => w.heap.size ≤ q) (fun q hq => by omega) _ (NdP.chg C3 (fun q hq e => by omega) _ N4)
     obtain ⟨q0, q1, q2, q3, q4, q5, q6, _⟩ := R3
     clear C3 N4 B5 V4 CC hb
     go_wp2
     exact bodyPost_ret (v := .tuple #[.agg #[.int .i64 x1, .int .i64 x2, .int .i64 x3, .int .i64 x4, .slice b1 bs'.length d1, .slice b2 is'.length d2, .slice b3 ks'.length d3], .bool true]) (by simp [results, Tryz.results16, go_sem, q0, q1, q2, q3, q4, q5, q6]) rfl ⟨.slice b1 bs'.length d1, .slice b2 is'.length d2, .slice b3 ks'.length d3, by rw [HVT.out, HYES.out, ut.out]; rfl, by rw [HVT.out, ut.out]; exact N3.out, B3.out⟩
  ·have h6' : (600 : Int) < (is.length : Int) := by omega
   have hno : tbOk is bs = false := by unfold tbOk; simp; intro _ h; omega
   have BAD := BAD0 hno
   clear BAD0 hno H1 H2 hne
   go_enter Tryz.func16, Tryz.ntmps16
   have HB0 : Hid _ := hb1
   obtain ⟨r0, r1, r2, r3, r4, r5, r6, rf⟩ := id V
   clear V hb1
   go_wp2
   first
   | exact bodyPost_ret (v := .tuple #[.agg #[.int .i64 0, .int .i64 0, .int .i64 0, .int .i64 0, .slice none 0 0, .slice none 0 0, .slice none 0 0], .bool false]) (by simp [results, Tryz.results16, go_sem, r0, r1, r2, r3, r4, r5, r6]) rfl (BAD _ HB0.out)
   | exact bodyPost_ret (v := .tuple #[.agg #[.int .i64 0, .int .i64 0, .int .i64 0, .int .i64 0, .slice none 0 0, .slice none 0 0, .slice none 0 0], .bool false]) (by simp [results, Tryz.results16, go_sem]) rfl (BAD _ HB0.out)
 ·have e1 : ((is.length : Int) != (bs.length : Int)) = true := by simp; omega
  have hno : tbOk is bs = false := by unfold tbOk; simp; intro h; omega
  have BAD := BAD0 hno
  clear BAD0 hno H1 H2 hne
  go_enter Tryz.func16, Tryz.ntmps16
  have HB0 : Hid _ := hb1
  obtain ⟨r0, r1, r2, r3, r4, r5, r6, rf⟩ := id V
  clear V hb1
  go_wp2
  first
  | exact bodyPost_ret (v := .tuple #[.agg #[.int .i64 0, .int .i64 0, .int .i64 0, .int .i64 0, .slice none 0 0, .slice none 0 0, .slice none 0 0], .bool false]) (by simp [results, Tryz.results16, go_sem, r0, r1, r2, r3, r4, r5, r6]) rfl (BAD _ HB0.out)
  | exact bodyPost_ret (v := .tuple #[.agg #[.int .i64 0, .int .i64 0, .int .i64 0, .int .i64 0, .slice none 0 0, .slice none 0 0, .slice none 0 0], .bool false]) (by simp [results, Tryz.results16, go_sem]) rfl (BAD _ HB0.out)
end Go.Proofs.YtinlomcaagdbiaaGreat

/- The index of a map: of the specification. -/
namespace Go.Proofs.YtinlomcaagdbiaaGreat
open Go.RowKit

theorem rowX_apIs {base base' : Nat} {w w' : World} {v v' : Value} {bs : List Bx} {ds : List Int} (h : RowBx base w v bs) (h' : RowI base' w v' ds) (g : w.grownBy w' v'.ownBlock) : RowBx base w' v bs := ownsApK (show World.ownsRow _ _ _ _ _ _ _ from h) h' (by decide) g
theorem rowI_apXs {base base' : Nat} {w w' : World} {v v' : Value} {bs : List Bx} {ds : List Int} (h : RowI base w v ds) (h' : RowBx base' w v' bs) (g : w.grownBy w' v'.ownBlock) : RowI base w' v ds := ownsApK (show World.ownsRow _ _ _ _ _ _ _ from h) h' (by decide) g
theorem Bx7.grownIs {q : Nat} {w w' : World} {x0 x1 x2 x3 x4 x5 x6 : Value} {row : Option Nat} (h : Bx7 w q x0 x1 x2 x3 x4 x5 x6) (g : w.grownBy w' row) (ne : some q ≠ row) : Bx7 w' q x0 x1 x2 x3 x4 x5 x6 := by
 have e := g.block q h.lt ne
 have c := fun o => World.cell?_of_block (a := ⟨q, o, none⟩) e
 exact ⟨(c 0).trans h.c0, (c 1).trans h.c1, (c 2).trans h.c2, (c 3).trans h.c3, (c 4).trans h.c4, (c 5).trans h.c5, (c 6).trans h.c6, fun o => (World.frozen?_of_block (a := ⟨q, o, none⟩) e).trans (h.fr o)⟩

set_option maxRecDepth 100000 in
set_option maxHeartbeats 4000000 in
theorem specIndexOf (a : Option Addr) (c : Nat) (es : List En) (w : World) (h : SeesEn w a c es) :
  Calls Tryz.prog 5 #[.slice a es.length c] w fun e w' => ∃ u1 u2 u3, e = .returned (ndV (ixV es) u1 u2 u3) ∧ NdP (fun _ => True) w' (ixV es) u1 u2 u3 ∧ Below w.heap.size w w' := by
 have hm := h.max
 have hf := h.fits
 unfold maxLen at hm
 obtain ⟨iI, hiI, hI0, hI1, hI2⟩ := info_parts infoI
 obtain ⟨iX, hiX, hX0, hX1, hX2⟩ := info_parts infoX
 have hb1 := below1 w (.cells #[.int .i64 0, .int .i64 0, .int .i64 0, .int .i64 0, .slice none 0 0, .slice none 0 0, .slice none 0 0] 32)
 have V := Bx7.new w (.int .i64 0) (.int .i64 0) (.int .i64 0) (.int .i64 0) (.slice none 0 0) (.slice none 0 0) (.slice none 0 0) 32
 have H : Hid (SeesEn w a c es) := h
 clear h
 obtain ⟨t, HTT⟩ : ∃ t, Hid (ixV es = t) := ⟨_, rfl⟩
 rw [HTT.out]
 go_enter Tryz.func5, Tryz.ntmps5
 go_wp2_with fail
 generalize w.alloc (.cells #[.int .i64 0, .int .i64 0, .int .i64 0, .int .i64 0, .slice none 0 0, .slice none 0 0, .slice none 0 0] 32) = W1 at *
 refine (specMapOk a c es W1 (H.out.below hb1)).mono ?_
 rintro e w2 ⟨rfl, hb⟩
 replace V := V.below hb
 replace hb1 := hb1.trans (hb.mono hb1.size)
 clear hb
 cases hp : mpB es
 ·have e : ixV es = .mk (0, 0, 0, 0) [] [] [] := by unfold ixV; rw [if_neg (by rw [hp]; exact Bool.false_ne_true)]
  have HE : Hid (t = .mk (0, 0, 0, 0) [] [] []) := HTT.out.symm.trans e
  obtain ⟨r0, r1, r2, r3, r4, r5, r6, rf⟩ := id V
  have V3 := ((((((V.set0 (.int .i64 0)).set1 (.int .i64 0)).set2 (.int .i64 0)).set3 (.int .i64 0)).set4 (.slice none 0 0)).set5 (.slice none 0 0)).set6 (.slice none 0 0)
  have B3 : Hid _ := ((((((hb1.setCell (p := ⟨w.heap.size, 0, none⟩) (Nat.le_refl _) (.int .i64 0)).setCell (p := ⟨w.heap.size, 1, none⟩) (Nat.le_refl _) (.int .i64 0)).setCell (p := ⟨w.heap.size, 2, none⟩) (Nat.le_refl _) (.int .i64 0)).setCell (p := ⟨w.heap.size, 3, none⟩) (Nat.le_refl _) (.int .i64 0)).setCell (p := ⟨w.heap.size, 4, none⟩) (Nat.le_refl _) (.slice none 0 0)).setCell (p := ⟨w.heap.size, 5, none⟩) (Nat.le_refl _) (.slice none 0 0)).setCell (p := ⟨w.heap.size, 6, none⟩) (Nat.le_refl _) (.slice none 0 0)
  obtain ⟨q0, q1, q2, q3, q4, q5, q6, _⟩ := id V3
  have HQ : Hid (∀ W, NdP (fun _ => True) W (.mk (0, 0, 0, 0) [] [] []) (.slice none 0 0) (.slice none 0 0) (.slice none 0 0)) := fun W => .mk (ks := []) (p := 0) (o := 0) (g1 := fun _ => undef) (g2 := fun _ => undef) (g3 := fun _ => undef) ⟨Nat.zero_le _, by simp [maxLen], fun e => absurd rfl e⟩ (fun _ _ _ _ => trivial) ⟨Nat.zero_le _, by simp [maxLen], fun e => absurd rfl e⟩ (fun _ _ _ _ => trivial) (Nat.le_refl _) (by simp [maxLen]) (fun _ _ _ _ => trivial) (fun e => absurd rfl e) (fun i hi => absurd hi (Nat.not_lt_zero _)) (fun i hi => absurd hi (Nat.not_lt_zero _))
  clear e hp hb1 V V3
  go_wp2
  exact bodyPost_ret (v := .agg #[.int .i64 0, .int .i64 0, .int .i64 0, .int .i64 0, .slice none 0 0, .slice none 0 0, .slice none 0 0]) (by simp [results, Tryz.results5, go_sem, q0, q1, q2, q3, q4, q5, q6]) rfl ⟨.slice none 0 0, .slice none 0 0, .slice none 0 0, by rw [HE.out]; rfl, by rw [HE.out]; exact HQ.out _, B3.out⟩
 ·have HP : Hid (mpB es = true) := hp
  have h5 := mp_few hp
  have HT : Hid (tbOk (ixI es) (ixX es) = true ∧ tbV (ixI es) (ixX es) = t) := by rw [← HTT.out]; exact ix_tb hp
  clear hp
  have z2 := V.lt
  have b2 := below2 w2 (.cells #[] 3) (.cells #[] 27)
  have b1 := below1 (w2.alloc (.cells #[] 3)) (.cells #[] 27)
  have R1 : RowI (w.heap.size + 1) (w2.alloc (.cells #[] 3)) (.slice (some ⟨w2.heap.size, 0, none⟩) 0 0) (ixI (es.take 0)) := ⟨rfl, .inr ⟨w2.heap.size, 0, #[], rfl, z2, heap_alloc_new _ _, Nat.le_refl _, by simp [maxLen], rfl, rfl⟩⟩
  have R2 := RowBx.empty (w2.alloc (.cells #[] 3)) (base := w.heap.size + 1) (Nat.le_trans z2 (below1 w2 _).size)
  rw [World.size_alloc] at R2
  have r1 : Hid (RowI (w.heap.size + 1) _ (.slice (some ⟨w2.heap.size, 0, none⟩) 0 0) (ixI (es.take 0))) := owns_below R1 b1
  have r2 : Hid (RowBx (w.heap.size + 1) _ (.slice (some ⟨w2.heap.size + 1, 0, none⟩) 0 0) (ixX (es.take 0))) := R2
  have VV : Hid _ := V.below b2
  have BB : Hid _ := hb1.trans (b2.mono hb1.size)
  clear b1 b2 R1 R2 V hb1 z2
  go_wp2
  generalize (w2.alloc (.cells #[] 3)).alloc (.cells #[] 27) = W2 at *
  go_loopw [3, 4, 5] (fun s3 s4 s5 wr => ∃ (j : Nat), j ≤ es.length ∧ s5 = .int .i64 j ∧ Hid (RowI (w.heap.size + 1) wr s3 (ixI (es.take j))) ∧ Hid (RowBx (w.heap.size + 1) wr s4 (ixX (es.take j))) ∧ Hid (Bx7 wr w.heap.size (.int .i64 0) (.int .i64 0) (.int .i64 0) (.int .i64 0) (.slice none 0 0) (.slice none 0 0) (.slice none 0 0)) ∧ Hid (Below w.heap.size w wr)) (fun _ _ s5 _ => es.length - (intOf s5).toNat)
  case atStart => exact ⟨0, Nat.zero_le _, rfl, r1, r2, VV, BB⟩
  case round =>
   clear r1 r2 VV BB
   obtain ⟨j, hj, rfl, RR1, RR2, VV, BB⟩ := hrel
   rename World => wr
   by_cases hlt : j < es.length
   ·obtain ⟨b0, off, rfl, hc⟩ := H.out.cells (by intro e; simp [e] at hlt)
    obtain ⟨g0, g1, a', c', g2, sp⟩ := hc j hlt
    have HG := mp_good HP.out hlt
    have HT2 := ix_take hlt
    clear hc
    generalize enA es j = en at *
    obtain ⟨ix, n, ts⟩ := en
    dsimp only at g0 g1 g2 sp HG HT2
    have g0' := (BB.out.cell (World.block_lt_of_cell? _ _ g0)).trans g0
    have SP0 : Hid (SeesS w a' c' ts) := sp
    have HS := sb_good HG
    obtain ⟨A1, e1⟩ : ∃ x, bA ts.flatten = x := ⟨_, rfl⟩
    obtain ⟨A2, e2⟩ : ∃ x, bB ts.flatten = x := ⟨_, rfl⟩
    obtain ⟨A3, e3⟩ : ∃ x, bC ts.flatten = x := ⟨_, rfl⟩
    obtain ⟨A4, e4⟩ : ∃ x, bD ts.flatten = x := ⟨_, rfl⟩
    rw [e1, e2, e3, e4] at HS
    rw [show ixB ts = (A1, A2, A3, A4) by unfold ixB; rw [e1, e2, e3, e4]] at HT2
    replace HS : Hid _ := HS
    replace HT2 : Hid (_ ∧ _) := HT2
    have G1 : Hid _ := g1
    have G2 : Hid _ := g2
    clear sp e1 e2 e3 e4 HG g0 g1 g2
    obtain ⟨is, hI⟩ : ∃ x, Hid (ixI (es.take j) = x) := ⟨_, rfl⟩
    obtain ⟨bs, hX⟩ : ∃ x, Hid (ixX (es.take j) = x) := ⟨_, rfl⟩
    have li : is.length ≤ 500 := by rw [← hI.out, ixI_len, List.length_take]; omega
    have lx : bs.length ≤ 500 := by rw [← hX.out, ixX_len, List.length_take]; omega
    rw [hI.out] at RR1
    rw [hX.out] at RR2
    rw [hI.out, hX.out] at HT2
    have hlt' : (j : Int) < (es.length : Int) := by omega
    have hb := below1 wr (.cells #[.int .i64 ix] 3)
    have NW := one_newI wr 3 ix
    have R1 : RowI (w.heap.size + 1) _ _ _ := owns_below RR1.out hb
    have R2 : Hid (RowBx (w.heap.size + 1) _ _ _) := owns_below RR2.out hb
    have V1 : Hid _ := VV.out.below hb
    have B1 : Hid _ := BB.out.trans (hb.mono BB.out.size)
    have nz : w.heap.size + 1 ≤ (wr.alloc (.cells #[.int .i64 ix] 3)).heap.size := Nat.le_trans VV.out.lt hb.size
    clear hb RR1 RR2 VV BB
    go_upto_region 9 with (at_builtin; refine wpList_append_own _ rfl (.tmp 20) (.tmp 26) 29 rfl (w.heap.size + 1) 3 iI (.int .i64 0) 1 8 Tryz.underlying29 hiI hI0 hI1 hI2 rfl (by decide) u3 is.length (is.map (Value.int .i64)) rfl R1 ⟨wr.heap.size, 0, none⟩ 1 1 ([ix].map (Value.int .i64)) rfl rfl NW (onesI _) (by unfold maxLen; omega) (by omega) nz ?_; intro v7 w7 R8 G7 nil7; clear nil7)
    have r1lt := World.ownsRow.lt R1
    have R2' : Hid _ := rowX_apIs R2.out R1 G7
    have B' : Hid (Below w.heap.size w w7) := B1.out.grown G7 (by omega) (fun q hq => by have := (r1lt q hq).1; omega)
    have V' : Hid _ := V1.out.grownIs G7 (fun e => by have := (r1lt _ e.symm).1; omega)
    have R9 : Hid (RowI (w.heap.size + 1) w7 v7 (is ++ [ix])) := RowI.snoc (n := 0) R8 rfl
    have g1 : w7.cell? ⟨b0, off + j * 3 + 1, none⟩ = some (.int .i64 n) := (B'.out.cell (World.block_lt_of_cell? _ _ G1.out)).trans G1.out
    have g2 : w7.cell? ⟨b0, off + j * 3 + 1 + 1, none⟩ = some (.slice a' ts.length c') := (B'.out.cell (World.block_lt_of_cell? _ _ G2.out)).trans G2.out
    clear R1 R2 V1 B1 R8 G7 NW nz r1lt g0'
    go_wp2_with fail
    refine (specShapeBox n a' _ ts _ (SP0.out.below B'.out)).mono ?_
    rintro e w8 ⟨rfl, hb⟩
    rw [HS.out.1, HS.out.2.1, HS.out.2.2.1, HS.out.2.2.2]
    have R1 : Hid (RowI (w.heap.size + 1) w8 v7 (is ++ [ix])) := owns_below R9.out hb
    have R2 : RowBx (w.heap.size + 1) w8 u4 bs := owns_below R2'.out hb
    have V := V'.out.below hb
    have B := B'.out.trans (hb.mono B'.out.size)
    clear hb R9 R2' V' B' g1 g2
    have hb := below1 w8 (.cells #[.int .i64 A1, .int .i64 A2, .int .i64 A3, .int .i64 A4] 27)
    have NW := box_new w8 27 A1 A2 A3 A4
    have nz : w.heap.size + 1 ≤ (w8.alloc (.cells #[.int .i64 A1, .int .i64 A2, .int .i64 A3, .int .i64 A4] 27)).heap.size := Nat.le_trans V.lt hb.size
    have R1' : Hid (RowI (w.heap.size + 1) _ v7 (is ++ [ix])) := owns_below R1.out hb
    replace R2 : RowBx (w.heap.size + 1) _ _ _ := owns_below R2 hb
    have VX : Hid _ := V.below hb
    have BX : Hid _ := B.trans (hb.mono B.size)
    clear hb R1 V B
    go_wp2_with (at_builtin; refine wpList_append_own _ rfl (.tmp 28) (.tmp 35) 28 rfl (w.heap.size + 1) 27 iX (.agg #[.int .i64 0, .int .i64 0, .int .i64 0, .int .i64 0]) 4 32 Tryz.underlying28 hiX hX0 hX1 hX2 rfl (by decide) u4 bs.length (boxC bs) rfl R2 ⟨w8.heap.size, 0, none⟩ 1 _ (boxC [(A1, A2, A3, A4)]) rfl rfl NW (boxC_ones _) (by unfold maxLen; omega) (by omega) nz ?_; intro v9 w9 R8 G9 nil9; clear nil9)
    have r2lt := World.ownsRow.lt R2
    have HR1 : Hid (RowI (w.heap.size + 1) w9 v7 (ixI (es.take (j + 1)))) := by show RowI _ _ _ _; rw [HT2.out.1]; exact rowI_apXs R1'.out R2 G9
    have HR2 : Hid (RowBx (w.heap.size + 1) w9 v9 (ixX (es.take (j + 1)))) := by show RowBx _ _ _ _; rw [HT2.out.2]; exact RowBx.snoc R8
    have HB2 : Hid (Below w.heap.size w w9) := BX.out.grown G9 (by omega) (fun q hq => by have := (r2lt q hq).1; omega)
    have HV2 : Hid (Bx7 w9 w.heap.size (.int .i64 0) (.int .i64 0) (.int .i64 0) (.int .i64 0) (.slice none 0 0) (.slice none 0 0) (.slice none 0 0)) := VX.out.grownIs G9 (fun e => by have := (r2lt _ e.symm).1; omega)
    clear R1' R2 VX BX R8 G9 NW nz r2lt
    go_roundw
    case rel => exact ⟨j + 1, by omega, by go_num, HR1, HR2, HV2, HB2⟩
    case measure => simp [intOf]; omega
   ·obtain rfl : j = es.length := by omega
    have hlt' : ¬ (es.length : Int) < (es.length : Int) := by omega
    have RI := RR1.out
    have RX := RR2.out
    rw [List.take_length] at RI RX
    obtain ⟨a1, c1, rfl, SI, _⟩ := rowI_seesK RI
    obtain ⟨a2, c2, rfl, SX⟩ := RowBx.sees RX
    have C1 := specTreeBuildP a1 a2 c1 c2 (ixI es) (ixX es) wr SI SX
    rw [HT.out.1, HT.out.2, ixI_len, ixX_len] at C1
    rw [ixI_len, ixX_len]
    clear RR1 RR2 RI RX SI SX
    have hwr : w.heap.size < wr.heap.size := VV.out.lt
    clear HTT
    obtain ⟨⟨x1, x2, x3, x4⟩, bs', is', ks'⟩ := t
    go_wp2_with fail
    refine C1.mono ?_
    rintro e w4 ⟨u1, u2, u3, rfl, N4, hb⟩
    obtain ⟨b1, d1, b2, d2, b3, d3, rfl, rfl, rfl, _⟩ := (NdP.toIn _ N4).open
    dsimp only [Nd.bs, Nd.is, Nd.ks] at N4 ⊢
    unfold ndV
    dsimp only [Nd.b]
    have V4 := VV.out.below hb
    have B4 := BB.out.trans (hb.mono BB.out.size)
    clear hb C1 VV BB HT
    have hb := below1 w4 (.cells #[.int .i64 x1, .int .i64 x2, .int .i64 x3, .int .i64 x4, .slice b1 bs'.length d1, .slice b2 is'.length d2, .slice b3 ks'.length d3] 32)
    have VN := Bx7.new w4 (.int .i64 x1) (.int .i64 x2) (.int .i64 x3) (.int .i64 x4) (.slice b1 bs'.length d1) (.slice b2 is'.length d2) (.slice b3 ks'.length d3) 32
    replace V4 := V4.below hb
    replace N4 := N4.lt
    replace N4 := N4.keep hb
    replace B4 := B4.trans (hb.mono B4.size)
    clear hb
    go_upto_region 11 with fail
    generalize w4.alloc (.cells #[.int .i64 x1, .int .i64 x2, .int .i64 x3, .int .i64 x4, .slice b1 bs'.length d1, .slice b2 is'.length d2, .slice b3 ks'.length d3] 32) = w5 at *
    obtain ⟨t0, t1, t2, t3, t4, t5, t6, _⟩ := id VN
    obtain ⟨r0, r1, r2, r3, r4, r5, r6, rf⟩ := id V4
    have R3 := ((((((((((((((V4).set0 (.int .i64 x1))).set1 (.int .i64 x2))).set2 (.int .i64 x3))).set3 (.int .i64 x4))).set4 (.slice b1 bs'.length d1))).set5 (.slice b2 is'.length d2))).set6 (.slice b3 ks'.length d3))
    have B3 : Hid _ := ((((((((((((((B4).setCell (p := ⟨w.heap.size, 0, none⟩) (Nat.le_refl _) (.int .i64 x1))).setCell (p := ⟨w.heap.size, 1, none⟩) (Nat.le_refl _) (.int .i64 x2))).setCell (p := ⟨w.heap.size, 2, none⟩) (Nat.le_refl _) (.int .i64 x3))).setCell (p := ⟨w.heap.size, 3, none⟩) (Nat.le_refl _) (.int .i64 x4))).setCell (p := ⟨w.heap.size, 4, none⟩) (Nat.le_refl _) (.slice b1 bs'.length d1))).setCell (p := ⟨w.heap.size, 5, none⟩) (Nat.le_refl _) (.slice b2 is'.length d2))).setCell (p := ⟨w.heap.size, 6, none⟩) (Nat.le_refl _) (.slice b3 ks'.length d3))
    have C3 : ChC (fun q => q = w.heap.size) w5 _ := fun b' k' z nb e => ((cell_other (o := 6) (.inl (fun e2 => nb e2.symm)) (.slice b3 ks'.length d3)).trans ((cell_other (o := 5) (.inl (fun e2 => nb e2.symm)) (.slice b2 is'.length d2)).trans ((cell_other (o := 4) (.inl (fun e2 => nb e2.symm)) (.slice b1 bs'.length d1)).trans ((cell_other (o := 3) (.inl (fun e2 => nb e2.symm)) (.int .i64 x4)).trans ((cell_other (o := 2) (.inl (fun e2 => nb e2.symm)) (.int .i64 x3)).trans ((cell_other (o := 1) (.inl (fun e2 => nb e2.symm)) (.int .i64 x2)).trans ((cell_other (o := 0) (.inl (fun e2 => nb e2.symm)) (.int .i64 x1)).trans e)))))))
    have N3 : Hid _ := NdP.mono (P' := fun _ => True) (fun _ _ => trivial) _ (NdP.chg C3 (fun q hq e => by have := hq.1; omega) _ N4)
    obtain ⟨q0, q1, q2, q3, q4, q5, q6, _⟩ := R3
    clear C3 N4 B4 V4 VN
    go_wp2
    exact bodyPost_ret (v := .agg #[.int .i64 x1, .int .i64 x2, .int .i64 x3, .int .i64 x4, .slice b1 bs'.length d1, .slice b2 is'.length d2, .slice b3 ks'.length d3]) (by simp [results, Tryz.results5, go_sem, q0, q1, q2, q3, q4, q5, q6]) rfl ⟨.slice b1 bs'.length d1, .slice b2 is'.length d2, .slice b3 ks'.length d3, rfl, N3.out, B3.out⟩
end Go.Proofs.YtinlomcaagdbiaaGreat
