import Derived.Test.YtonbmeepfgejmaaGreatDoorLgC
import Derived.BigRegion
/- A number of four bytes, read. -/
namespace Go.Proofs.YtonbmeepfgejmaaGreatDoor
open Go.RowKit

/-- The number that stands in four bytes. -/
def lgGet (bs : List Int) (k : Nat) : Int := bs[k]?.getD 0 + bs[k + 1]?.getD 0 * 256 + bs[k + 2]?.getD 0 * 65536 + bs[k + 3]?.getD 0 * 16777216
theorem u8At {bs : List Int} (h8 : ∀ x ∈ bs, 0 ≤ x ∧ x < 256) (k : Nat) : 0 ≤ bs[k]?.getD 0 ∧ bs[k]?.getD 0 < 256 := by
  by_cases h : k < bs.length
  · rw [List.getElem?_eq_getElem h]
    exact h8 _ (List.getElem_mem h)
  · rw [List.getElem?_eq_none (by omega)]
    simp

end Go.Proofs.YtonbmeepfgejmaaGreatDoor

/- Whether it is a log of some disk, the specification's side. -/
namespace Go.Proofs.YtonbmeepfgejmaaGreatDoor
open Go.RowKit

/-- A log of some disk. -/
def LgFine (F L N E : Int) : Prop := 0 ≤ F ∧ F ≤ L ∧ L < 400 ∧ 0 ≤ N ∧ N ≤ L - F + 1 ∧ 1 ≤ E ∧ E ≤ 1000000
theorem in_yes {a x b : Int} (h : a ≤ x ∧ x ≤ b) : (decide (a ≤ x) && decide (x ≤ b)) = true := by rw [decide_eq_true h.1, decide_eq_true h.2]; rfl
theorem in_no {a x b : Int} (h : ¬(a ≤ x ∧ x ≤ b)) : (decide (a ≤ x) && decide (x ≤ b)) = false := by
  by_cases h1 : a ≤ x
  · rw [decide_eq_true h1, decide_eq_false (fun q => h ⟨h1, q⟩)]; rfl
  · rw [decide_eq_false h1]; rfl

set_option maxRecDepth 20000 in
set_option maxHeartbeats 2000000 in
theorem l12Fine_any (F L N E : Int) (w : World) :
    Calls Tryz.prog 31 #[.agg #[.int .i64 F, .int .i64 L, .int .i64 N, .int .i64 E]] w fun e w' => ∃ r : Bool, e = .returned (.bool r) ∧ (r = true ↔ LgFine F L N E) ∧ Below w.heap.size w w' := by
  have B := below1 w (.cells #[.int .i64 F, .int .i64 L, .int .i64 N, .int .i64 E] 32)
  by_cases h1 : 0 ≤ F ∧ F ≤ L
  · have d1 := in_yes h1
    by_cases h2 : L < 400
    · have wr : wrap64 (wrap64 (L - F) + 1) = L - F + 1 := by unfold wrap64; omega
      by_cases h3 : 0 ≤ N ∧ N ≤ L - F + 1
      · have d3 := in_yes h3
        by_cases h4 : 1 ≤ E ∧ E ≤ 1000000
        · have d4 := in_yes h4
          have YF : Hid (LgFine F L N E) := ⟨h1.1, h1.2, h2, h3.1, h3.2, h4.1, h4.2⟩
          clear h3 h4
          obtain ⟨f0, f1⟩ := h1
          go_enter Tryz.func31, Tryz.ntmps31
          go_wp2_with fail
          refine (l1InD _ _ _ _).mono ?_
          rintro e w1 ⟨rfl, rfl⟩
          rw [d1]
          go_wp2_with fail
          refine (l1InD _ _ _ _).mono ?_
          rintro e w1 ⟨rfl, rfl⟩
          rw [d3]
          go_wp2_with fail
          refine (l1InD _ _ _ _).mono ?_
          rintro e w1 ⟨rfl, rfl⟩
          rw [d4]
          go_wp2
          go_ret
          first | exact ⟨true, rfl, ⟨fun _ => YF.out, fun _ => rfl⟩, B⟩ | exact .inl ⟨rfl, NF.out, B⟩
        · have d4 := in_no h4
          have NF : Hid (¬LgFine F L N E) := fun q => h4 q.2.2.2.2.2
          clear h3 h4
          obtain ⟨f0, f1⟩ := h1
          go_enter Tryz.func31, Tryz.ntmps31
          go_wp2_with fail
          refine (l1InD _ _ _ _).mono ?_
          rintro e w1 ⟨rfl, rfl⟩
          rw [d1]
          go_wp2_with fail
          refine (l1InD _ _ _ _).mono ?_
          rintro e w1 ⟨rfl, rfl⟩
          rw [d3]
          go_wp2_with fail
          refine (l1InD _ _ _ _).mono ?_
          rintro e w1 ⟨rfl, rfl⟩
          rw [d4]
          go_wp2
          go_ret
          first | exact ⟨false, rfl, ⟨(fun q => by cases q), (fun q => absurd q NF.out)⟩, B⟩ | exact .inl ⟨rfl, NF.out, B⟩
      · have d3 := in_no h3
        have NF : Hid (¬LgFine F L N E) := fun q => h3 ⟨q.2.2.2.1, q.2.2.2.2.1⟩
        clear h3
        obtain ⟨f0, f1⟩ := h1
        go_enter Tryz.func31, Tryz.ntmps31
        go_wp2_with fail
        refine (l1InD _ _ _ _).mono ?_
        rintro e w1 ⟨rfl, rfl⟩
        rw [d1]
        go_wp2_with fail
        refine (l1InD _ _ _ _).mono ?_
        rintro e w1 ⟨rfl, rfl⟩
        rw [d3]
        go_wp2
        go_ret
        first | exact ⟨false, rfl, ⟨(fun q => by cases q), (fun q => absurd q NF.out)⟩, B⟩ | exact .inl ⟨rfl, NF.out, B⟩
    · have NF : Hid (¬LgFine F L N E) := fun q => h2 q.2.2.1
      clear h1
      go_enter Tryz.func31, Tryz.ntmps31
      go_wp2_with fail
      refine (l1InD _ _ _ _).mono ?_
      rintro e w1 ⟨rfl, rfl⟩
      rw [d1]
      go_wp2
      go_ret
      first | exact ⟨false, rfl, ⟨(fun q => by cases q), (fun q => absurd q NF.out)⟩, B⟩ | exact .inl ⟨rfl, NF.out, B⟩
  · have d1 := in_no h1
    have NF : Hid (¬LgFine F L N E) := fun q => h1 ⟨q.1, q.2.1⟩
    clear h1
    go_enter Tryz.func31, Tryz.ntmps31
    go_wp2_with fail
    refine (l1InD _ _ _ _).mono ?_
    rintro e w1 ⟨rfl, rfl⟩
    rw [d1]
    go_wp2
    go_ret
    first | exact ⟨false, rfl, ⟨(fun q => by cases q), (fun q => absurd q NF.out)⟩, B⟩ | exact .inl ⟨rfl, NF.out, B⟩
end Go.Proofs.YtonbmeepfgejmaaGreatDoor
