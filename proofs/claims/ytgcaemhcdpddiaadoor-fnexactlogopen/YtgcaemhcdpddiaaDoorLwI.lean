/- The writes of a record, the program's side. -/
import Derived.Test.YtgcaemhcdpddiaaDoorLrI
import Derived.Test.YtgcaemhcdpddiaaDoorPcS
import Derived.Test.YtgcaemhcdpddiaaDoorQuX
import Derived.Test.YtgcaemhcdpddiaaDoorLgW
namespace Go.Proofs.YtgcaemhcdpddiaaDoor
open Go.RowKit

/-- A log of a disk of so many sectors. -/
def LgIn (K F L X E : Int) : Prop := 0 ≤ F ∧ F ≤ L ∧ L < K ∧ 0 ≤ X ∧ X ≤ L - F + 1 ∧ 1 ≤ E ∧ E ≤ 1000000
theorem lgIn_fine {F L X E : Int} : LgIn 400 F L X E ↔ LgFine F L X E := Iff.rfl

def ArS (F L K : Int) : Prop := 0 ≤ F ∧ F ≤ L ∧ L < K
def IsE (E : Int) : Prop := 1 ≤ E ∧ E ≤ 1000000
theorem areSectors_any (F L K : Int) (w : World) :
    Calls Tryd.prog 35 #[.int .i64 F, .int .i64 L, .int .i64 K] w fun e w' => ∃ r : Bool, e = .returned (.bool r) ∧ (r = true ↔ ArS F L K) ∧ w' = w := by
  by_cases h1 : 0 ≤ F
  · by_cases h2 : F ≤ L
    · by_cases h3 : L < K
      · have Y : Hid (ArS F L K) := ⟨h1, h2, h3⟩
        go_enter Tryd.func35, Tryd.ntmps35
        go_wp2
        go_ret
        first | exact ⟨true, rfl, ⟨fun _ => Y.out, fun _ => rfl⟩, rfl⟩ | exact .inr ⟨rfl, Y.out, rfl⟩
      · have Y : Hid (¬ArS F L K) := fun q => h3 q.2.2
        go_enter Tryd.func35, Tryd.ntmps35
        go_wp2
        go_ret
        first | exact ⟨false, rfl, ⟨(fun q => by cases q), fun q => absurd q Y.out⟩, rfl⟩ | exact .inl ⟨rfl, Y.out, rfl⟩
    · have Y : Hid (¬ArS F L K) := fun q => h2 q.2.1
      go_enter Tryd.func35, Tryd.ntmps35
      go_wp2
      go_ret
      first | exact ⟨false, rfl, ⟨(fun q => by cases q), fun q => absurd q Y.out⟩, rfl⟩ | exact .inl ⟨rfl, Y.out, rfl⟩
  · have Y : Hid (¬ArS F L K) := fun q => h1 q.1
    go_enter Tryd.func35, Tryd.ntmps35
    go_wp2
    go_ret
    first | exact ⟨false, rfl, ⟨(fun q => by cases q), fun q => absurd q Y.out⟩, rfl⟩ | exact .inl ⟨rfl, Y.out, rfl⟩

theorem isEpoch_any (E : Int) (w : World) :
    Calls Tryd.prog 60 #[.int .i64 E] w fun e w' => ∃ r : Bool, e = .returned (.bool r) ∧ (r = true ↔ IsE E) ∧ w' = w := by
  by_cases h1 : 1 ≤ E
  · by_cases h2 : E ≤ 1000000
    · have Y : Hid (IsE E) := ⟨h1, h2⟩
      go_enter Tryd.func60, Tryd.ntmps60
      go_wp2
      go_ret
      first | exact ⟨true, rfl, ⟨fun _ => Y.out, fun _ => rfl⟩, rfl⟩ | exact .inr ⟨rfl, Y.out, rfl⟩
    · have Y : Hid (¬IsE E) := fun q => h2 q.2
      go_enter Tryd.func60, Tryd.ntmps60
      go_wp2
      go_ret
      first | exact ⟨false, rfl, ⟨(fun q => by cases q), fun q => absurd q Y.out⟩, rfl⟩ | exact .inl ⟨rfl, Y.out, rfl⟩
  · have Y : Hid (¬IsE E) := fun q => h1 q.1
    go_enter Tryd.func60, Tryd.ntmps60
    go_wp2
    go_ret
    first | exact ⟨false, rfl, ⟨(fun q => by cases q), fun q => absurd q Y.out⟩, rfl⟩ | exact .inl ⟨rfl, Y.out, rfl⟩

/-- The record may be taken. -/
def LgTk (F L X : Int) (n : Nat) : Prop := n ≤ 4000 ∧ (lgMany n : Int) ≤ L - F + 1 - X
end Go.Proofs.YtgcaemhcdpddiaaDoor
