/- The law on PutChanges: at every argument the program's PutChanges is the specification's, byte by byte; it writes into no argument and keeps nothing of one; its answer owns its memory. -/
import Derived.Test.YtlkhbbllkkdhaaaGreatDoorPcS2
import Derived.Test.YtlkhbbllkkdhaaaGreatDoorPcI2
import Derived.Test.YtlkhbbllkkdhaaaGreatDoorPutE
namespace Go.Proofs.YtlkhbbllkkdhaaaGreatDoor
open Go.RowKit

theorem RowB.putsC {base lo hi : Nat} {w w' : World} {v : Value} {es : List Int} (h : RowB base w v es) (P : Puts lo hi w w') (ne : ∀ k, v.ownBlock = some k → k < lo ∨ hi ≤ k) : RowB base w' v es :=
  P (fun W => RowB base W v es) (fun W b o u h1 h2 q => World.ownsRow.kept q (grownBy_setCell (grownBy_refl W (some b)) rfl u) (by
    cases e : v.ownBlock with
    | none => exact .inl rfl
    | some k => exact .inr (by have := ne k e; intro q; simp only [Option.some.injEq] at q; omega))) h

set_option maxRecDepth 20000 in
set_option maxHeartbeats 4000000 in
theorem lawPutChanges (a : Option Addr) (c : Nat) (es : List Cn) (w : World) (h : SeesCn w a c es) (HT0 : ∀ w', Below w.heap.size w w' → TabB w') :
    Calls Tryz.prog 3 #[.slice a es.length c] w fun e w' => e = .returned (.bool true) ∧ Below w.heap.size w w' := by
  have HT : Hid (∀ w', Below w.heap.size w w' → TabB w') := HT0
  clear HT0
  have ML := pcV_le es
  obtain ⟨ys, HE⟩ : ∃ u, Hid (pcV es = u) := ⟨_, rfl⟩
  rw [HE.out] at ML
  have B0 : Below w.heap.size w w := Below.refl _ _
  go_enter Tryz.func3, Tryz.ntmps3
  go_wp2_with fail
  refine (szChanges a c es 1048576 _ h (by omega)).mono ?_
  rintro e w1 ⟨z1, rfl, hz1, hb⟩
  replace B0 := B0.trans (hb.mono B0.size)
  clear hb
  rcases hz1 with rfl | ⟨z10, hz1⟩
  · go_wp2
    go_ret
    exact ⟨rfl, B0⟩
  · have L1 : Hid (uptoC es es.length ≤ 1048576) := by show _ ≤ _; omega
    have L3 : Hid (es.length ≤ maxLen) := by show _ ≤ _; have := uptoC_le es 0 es.length; simp only [uptoC, Nat.zero_add] at this; unfold maxLen; omega
    clear hz1
    go_wp2_with fail
    refine (toChanges a c es _ (h.below B0) L1.out).mono ?_
    rintro e w2 ⟨rfl, ⟨gb3, tp3, o3⟩, hb⟩
    have s3 := o3.sees L3.out
    replace B0 := B0.trans (hb.mono B0.size)
    clear hb o3
    go_wp2_with fail
    refine (specPutChanges _ _ es _ s3).mono ?_
    rintro e w3 ⟨v0, rfl, R0, hb⟩
    rw [HE.out] at R0
    replace B0 := B0.trans (hb.mono B0.size)
    clear hb s3
    obtain ⟨e0, f0, rfl, _, _⟩ := R0.shape'
    have Q0 : Hid (∀ k, (Value.slice e0 ys.length f0).ownBlock = some k → k < w3.heap.size) := fun k hk => (World.ownsRow.lt R0 k hk).2
    go_wp2_with fail
    refine (toChanges a c es _ (h.below B0) L1.out).mono ?_
    rintro e x4 ⟨rfl, ⟨gb, tp, o5⟩, hb⟩
    have M5 : Hid (MkCn x4 w3.heap.size es gb tp) := o5.marks
    have M6 : Hid (∀ i, i < es.length → tp i ≤ x4.heap.size) := fun i hi => (o5.o i hi).2.2
    have hgx : w3.heap.size < x4.heap.size := o5.lt
    have s5 := o5.sees L3.out
    have hw3 : w.heap.size ≤ w3.heap.size := B0.size
    replace B0 := B0.trans (hb.mono B0.size)
    replace R0 := R0.below hb
    have BX : Below x4.heap.size x4 x4 := Below.refl _ _
    clear hb o5
    go_wp2_with fail
    generalize hg4 : w3.heap.size = g4 at *
    refine (implPutChanges _ _ es _ s5 (fun w' q => HT.out w' (B0.trans (q.mono B0.size)))).mono ?_
    rintro e x6 ⟨v1, rfl, R1, hb⟩
    rw [HE.out] at R1
    obtain ⟨e1, f1, rfl, _, _⟩ := R1.shape'
    have Q1 : Hid (∀ k, (Value.slice e1 ys.length f1).ownBlock = some k → x4.heap.size ≤ k) := fun k hk => (World.ownsRow.lt R1 k hk).1
    replace BX := BX.trans (hb.mono BX.size)
    replace B0 := B0.trans (hb.mono B0.size)
    replace R0 := R0.below hb
    replace s5 := s5.below hb
    clear hb
    go_wp2_with fail
    generalize hq5 : x4.heap.size = q5 at *
    refine (eqB _ _ _ _ ys _ R1 R0).mono ?_
    rintro e x8 ⟨rfl, hb⟩
    replace BX := BX.trans (hb.mono (by have := BX.size; omega))
    replace B0 := B0.trans (hb.mono B0.size)
    replace R0 := R0.below hb
    replace R1 := R1.below hb
    replace s5 := s5.below hb
    clear hb
    go_wp2_with fail
    refine (toChanges a c es _ (h.below B0) L1.out).mono ?_
    rintro e y1 ⟨rfl, ⟨gb8, tp8, o8⟩, hb⟩
    have s8 := o8.sees L3.out
    replace BX := BX.trans (hb.mono (by have := BX.size; omega))
    replace B0 := B0.trans (hb.mono B0.size)
    replace R0 := R0.below hb
    replace R1 := R1.below hb
    replace s5 := s5.below hb
    clear hb o8
    go_wp2_with fail
    refine (eqChanges _ _ _ _ es _ s5 s8).mono ?_
    rintro e y2 ⟨rfl, hb⟩
    replace BX := BX.trans (hb.mono (by have := BX.size; omega))
    replace B0 := B0.trans (hb.mono B0.size)
    replace R0 := R0.below hb
    replace R1 := R1.below hb
    clear hb s5 s8
    have BX' : Below x4.heap.size x4 y2 := by rw [hq5]; exact BX
    go_wp2_with fail
    refine (markChanges g4 q5 es gb tp _ (M5.out.below BX') M6.out hgx L1.out).mono ?_
    rintro e y3 ⟨kk, rfl, kk0, PU⟩
    replace R0 := R0.putsC PU (fun k hk => .inl (Q0.out k hk))
    replace R1 := R1.putsC PU (fun k hk => .inr (Q1.out k hk))
    replace B0 := belowPuts B0 PU (by omega)
    have hkk : ¬ kk < 0 := by omega
    clear PU BX BX' M5 M6
    go_wp2_with fail
    refine (eqB _ _ _ _ ys _ R1 R0).mono ?_
    rintro e y4 ⟨rfl, hb⟩
    replace B0 := B0.trans (hb.mono B0.size)
    replace R0 := R0.below hb
    replace R1 := R1.below hb
    clear hb
    go_wp2_with fail
    refine (markB _ _ ys _ R1 ML).mono ?_
    rintro e y5 ⟨rfl, RM, G5⟩
    have nR : ∀ k, (Value.slice e0 ys.length f0).ownBlock = some k → (Value.slice e1 ys.length f1).ownBlock ≠ some k := fun k hk q => by
      have := Q0.out k hk
      have := Q1.out k q
      omega
    replace R0 : RowB _ y5 (.slice e0 ys.length f0) ys := World.ownsRow.kept R0 G5 (by
      cases e : (Value.slice e0 ys.length f0).ownBlock with
      | none => exact .inl rfl
      | some k => exact .inr (fun q => nR k e q.symm))
    replace B0 := B0.grown G5 B0.size (fun k hk => by have := Q1.out k hk; omega)
    clear R1 G5 nR
    go_wp2_with fail
    refine (heldB _ _ ys.length _ RM ML).mono ?_
    rintro e y6 ⟨rfl, rfl⟩
    go_wp2_with fail
    refine (toChanges a c es _ (h.below B0) L1.out).mono ?_
    rintro e y7 ⟨rfl, ⟨gb9, tp9, o9⟩, hb⟩
    have s9 := o9.sees L3.out
    replace B0 := B0.trans (hb.mono B0.size)
    replace R0 := R0.below hb
    replace RM := RM.below hb
    clear hb o9
    go_wp2_with fail
    refine (implPutChanges _ _ es _ s9 (fun w' q => HT.out w' (B0.trans (q.mono B0.size)))).mono ?_
    rintro e y8 ⟨v2, rfl, R2, hb⟩
    rw [HE.out] at R2
    obtain ⟨e2, f2, rfl, _, _⟩ := R2.shape'
    replace B0 := B0.trans (hb.mono B0.size)
    replace R0 := R0.below hb
    replace RM := RM.below hb
    clear hb s9
    go_wp2_with fail
    refine (eqB _ _ _ _ ys _ R2 R0).mono ?_
    rintro e y9 ⟨rfl, hb⟩
    replace B0 := B0.trans (hb.mono B0.size)
    replace RM := RM.below hb
    clear hb R0 R2
    go_wp2_with fail
    refine (heldB _ _ ys.length _ RM ML).mono ?_
    rintro e y10 ⟨rfl, rfl⟩
    go_wp2
    go_ret
    exact ⟨rfl, B0⟩
end Go.Proofs.YtlkhbbllkkdhaaaGreatDoor
