/- A scan's state in memory; whether a piece goes on with it. -/
import Derived.Test.YtgcaemhcdpddiaaDoorPoI
import Derived.Test.YtgcaemhcdpddiaaDoorBoxV
import Derived.Deep.Cut
namespace Go.Proofs.YtgcaemhcdpddiaaDoor
open Go.RowKit

/-- A piece goes on with what has come. -/
def GoesOn (st nx : Nat) (le ep nu : Int) : Prop := st ≠ 2 ∧ nu = (nx : Int) ∧ le ≤ ep ∧ (st = 1 → ep = le)
set_option maxRecDepth 20000 in
set_option maxHeartbeats 2000000 in
theorem goesOn_any (lo p st nx : Nat) (le ep nu mk : Int) (x3 x4 x5 x6 : Value) (a : Option Addr) (n c : Nat) (w : World) (h : BoxL lo w p [.int .i64 (st : Int), .int .i64 (nx : Int), .int .i64 le, x3, x4, x5, x6]) (hst : st ≤ 2) :
    Calls Tryd.prog 45 #[.pointer (some ⟨p, 0, none⟩), .agg #[.int .i64 ep, .int .i64 nu, .int .u8 mk, .slice a n c]] w fun e w' => ∃ r : Bool, e = .returned (.bool r) ∧ (r = true ↔ GoesOn st nx le ep nu) ∧ Below w.heap.size w w' := by
  have B := below1 w (.cells #[.int .i64 ep, .int .i64 nu, .int .u8 mk, .slice a n c] 87)
  have V := h.below B
  have q0 := V.c 0 _ rfl
  have q1 := V.c 1 _ rfl
  have q2 := V.c 2 _ rfl
  have k0 := cell_new w #[.int .i64 ep, .int .i64 nu, .int .u8 mk, .slice a n c] 87 0 rfl
  have k1 := cell_new w #[.int .i64 ep, .int .i64 nu, .int .u8 mk, .slice a n c] 87 1 rfl
  clear h V
  rcases (by omega : st = 0 ∨ st = 1 ∨ st = 2) with rfl | rfl | rfl
  · by_cases e1 : nu = (nx : Int)
    · have HR : Hid (decide (le ≤ ep) = true ↔ GoesOn 0 nx le ep nu) := by
        show _ ↔ _
        rw [decide_eq_true_iff]
        exact ⟨fun q => ⟨by decide, e1, q, fun e => by cases e⟩, fun q => q.2.2.1⟩
      have hb1 : (nu == (nx : Int)) = true := by simpa using e1
      clear e1
      go_enter Tryd.func45, Tryd.ntmps45
      go_wp2_with fail
      generalize w.alloc (.cells #[.int .i64 ep, .int .i64 nu, .int .u8 mk, .slice a n c] 87) = W at *
      go_region
      go_wp2
      go_ret
      exact ⟨_, rfl, HR.out, B.drew⟩
    · have NO : Hid (¬GoesOn 0 nx le ep nu) := fun q => e1 q.2.1
      have hb1 : (nu == (nx : Int)) = false := by simpa using e1
      clear e1
      go_enter Tryd.func45, Tryd.ntmps45
      go_wp2_with fail
      generalize w.alloc (.cells #[.int .i64 ep, .int .i64 nu, .int .u8 mk, .slice a n c] 87) = W at *
      go_region
      go_wp2
      go_ret
      exact ⟨false, rfl, ⟨(fun q => by cases q), fun q => absurd q NO.out⟩, B.drew⟩
  · by_cases e1 : nu = (nx : Int)
    · have HR : Hid ((ep == le) = true ↔ GoesOn 1 nx le ep nu) := by
        show _ ↔ _
        rw [beq_iff_eq]
        exact ⟨fun q => ⟨by decide, e1, by omega, fun _ => q⟩, fun q => q.2.2.2 rfl⟩
      have hb1 : (nu == (nx : Int)) = true := by simpa using e1
      clear e1
      go_enter Tryd.func45, Tryd.ntmps45
      go_wp2_with fail
      generalize w.alloc (.cells #[.int .i64 ep, .int .i64 nu, .int .u8 mk, .slice a n c] 87) = W at *
      go_region
      go_wp2
      go_ret
      exact ⟨_, rfl, HR.out, B.drew⟩
    · have NO : Hid (¬GoesOn 1 nx le ep nu) := fun q => e1 q.2.1
      have hb1 : (nu == (nx : Int)) = false := by simpa using e1
      clear e1
      go_enter Tryd.func45, Tryd.ntmps45
      go_wp2_with fail
      generalize w.alloc (.cells #[.int .i64 ep, .int .i64 nu, .int .u8 mk, .slice a n c] 87) = W at *
      go_region
      go_wp2
      go_ret
      exact ⟨false, rfl, ⟨(fun q => by cases q), fun q => absurd q NO.out⟩, B.drew⟩
  · have NO : Hid (¬GoesOn 2 nx le ep nu) := fun q => q.1 rfl
    go_enter Tryd.func45, Tryd.ntmps45
    go_wp2
    go_ret
    exact ⟨false, rfl, ⟨(fun q => by cases q), fun q => absurd q NO.out⟩, B⟩
end Go.Proofs.YtgcaemhcdpddiaaDoor
