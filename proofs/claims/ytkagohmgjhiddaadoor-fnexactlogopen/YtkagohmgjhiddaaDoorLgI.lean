/- A scan's state in memory; whether a piece goes on with it. -/
import Derived.Test.YtkagohmgjhiddaaDoorPoI
import Derived.Deep.Cut
namespace Go.Proofs.YtkagohmgjhiddaaDoor
open Go.RowKit

/-- A variable of several cells. -/
structure BoxL (lo : Nat) (w : World) (p : Nat) (xs : List Value) : Prop where
  c : ∀ i v, xs[i]? = some v → w.cell? ⟨p, i, none⟩ = some v
  fr : ∀ o, w.frozen? ⟨p, o, none⟩ = false
  lo : lo ≤ p
  lt : p < w.heap.size
theorem BoxL.new (w : World) {lo : Nat} (h : lo ≤ w.heap.size) (xs : List Value) (t : TypeId) : BoxL lo (w.alloc (.cells xs.toArray t)) w.heap.size xs :=
  ⟨fun i v hv => cell_new w xs.toArray t i (by simpa using hv), fun o => frozen_new _ _ _ o, h, by simp⟩
theorem BoxL.below {lo p : Nat} {w w' : World} {xs : List Value} (h : BoxL lo w p xs) (hb : Below w.heap.size w w') : BoxL lo w' p xs :=
  ⟨fun i v hv => bat hb (h.c i v hv), fun o => (hb.frozen (p := ⟨p, o, none⟩) h.lt).trans (h.fr o), h.lo, Nat.lt_of_lt_of_le h.lt hb.size⟩
theorem BoxL.put {lo p : Nat} {w : World} {xs : List Value} (h : BoxL lo w p xs) (i : Nat) (u : Value) (hi : i < xs.length) : BoxL lo (w.setCell ⟨p, i, none⟩ u) p (xs.set i u) := by
  refine ⟨fun j v hv => ?_, fun o => (World.frozen?_setCell ..).trans (h.fr o), h.lo, by simpa using h.lt⟩
  by_cases e : i = j
  · subst e
    rw [List.getElem?_set_self hi] at hv
    injection hv with hv
    subst hv
    exact cell_same (h.c i _ (List.getElem?_eq_getElem hi)) _
  · rw [List.getElem?_set_ne e] at hv
    exact (cell_other (.inr e) _).trans (h.c j v hv)
theorem BoxL.grown {lo p : Nat} {w w' : World} {xs : List Value} {row : Option Nat} (h : BoxL lo w p xs) (g : w.grownBy w' row) (ne : row ≠ some p) : BoxL lo w' p xs := by
  obtain ⟨hc, hf⟩ := grown_at g h.lt (by intro e; exact ne e.symm)
  exact ⟨fun i v hv => (hc i).trans (h.c i v hv), fun o => (hf o).trans (h.fr o), h.lo, Nat.lt_of_lt_of_le h.lt g.size⟩
theorem BoxL.far {lo p q : Nat} {w : World} {xs : List Value} (h : BoxL lo w p xs) (ne : p ≠ q) (o : Nat) (u : Value) : BoxL lo (w.setCell ⟨q, o, none⟩ u) p xs :=
  ⟨fun i v hv => (cell_other (.inl (Ne.symm ne)) u).trans (h.c i v hv), fun i => (World.frozen?_setCell ..).trans (h.fr i), h.lo, by simpa using h.lt⟩

/-- A piece goes on with what has come. -/
def GoesOn (st nx : Nat) (le ep nu : Int) : Prop := st ≠ 2 ∧ nu = (nx : Int) ∧ le ≤ ep ∧ (st = 1 → ep = le)
set_option maxRecDepth 20000 in
set_option maxHeartbeats 2000000 in
theorem goesOn_any (lo p st nx : Nat) (le ep nu mk : Int) (x3 x4 x5 x6 : Value) (a : Option Addr) (n c : Nat) (w : World) (h : BoxL lo w p [.int .i64 (st : Int), .int .i64 (nx : Int), .int .i64 le, x3, x4, x5, x6]) (hst : st ≤ 2) :
    Calls Tryd.prog 56 #[.pointer (some ⟨p, 0, none⟩), .agg #[.int .i64 ep, .int .i64 nu, .int .u8 mk, .slice a n c]] w fun e w' => ∃ r : Bool, e = .returned (.bool r) ∧ (r = true ↔ GoesOn st nx le ep nu) ∧ Below w.heap.size w w' := by
  have B := below1 w (.cells #[.int .i64 ep, .int .i64 nu, .int .u8 mk, .slice a n c] 89)
  have V := h.below B
  have q0 := V.c 0 _ rfl
  have q1 := V.c 1 _ rfl
  have q2 := V.c 2 _ rfl
  have k0 := cell_new w #[.int .i64 ep, .int .i64 nu, .int .u8 mk, .slice a n c] 89 0 rfl
  have k1 := cell_new w #[.int .i64 ep, .int .i64 nu, .int .u8 mk, .slice a n c] 89 1 rfl
  clear h V
  rcases (by omega : st = 0 ∨ st = 1 ∨ st = 2) with rfl | rfl | rfl
  · by_cases e1 : nu = (nx : Int)
    · have HR : Hid (decide (le ≤ ep) = true ↔ GoesOn 0 nx le ep nu) := by
        show _ ↔ _
        rw [decide_eq_true_iff]
        exact ⟨fun q => ⟨by decide, e1, q, fun e => by cases e⟩, fun q => q.2.2.1⟩
      have hb1 : (nu == (nx : Int)) = true := by simpa using e1
      clear e1
      go_enter Tryd.func56, Tryd.ntmps56
      go_wp2_with fail
      generalize w.alloc (.cells #[.int .i64 ep, .int .i64 nu, .int .u8 mk, .slice a n c] 89) = W at *
      go_region
      go_wp2
      go_ret
      exact ⟨_, rfl, HR.out, B.drew⟩
    · have NO : Hid (¬GoesOn 0 nx le ep nu) := fun q => e1 q.2.1
      have hb1 : (nu == (nx : Int)) = false := by simpa using e1
      clear e1
      go_enter Tryd.func56, Tryd.ntmps56
      go_wp2_with fail
      generalize w.alloc (.cells #[.int .i64 ep, .int .i64 nu, .int .u8 mk, .slice a n c] 89) = W at *
      go_region
      go_wp2
      go_ret
      exact ⟨false, rfl, ⟨(fun q => by cases q), fun q => absurd q NO.out⟩, B.drew⟩
  · by_cases e1 : nu = (nx : Int)
    · have HR : Hid ((ep == le) = true ↔ GoesOn 1 nx le ep nu) := by
        show _ ↔ _
        rw [beq_iff_eq]
        exact ⟨fun q => ⟨by decide, e1, by omega, fun _ => q⟩, fun q => q.2.2.2 rfl⟩
      have hb1 : (nu == (nx : Int)) = true := by simpa using e1
      clear e1
      go_enter Tryd.func56, Tryd.ntmps56
      go_wp2_with fail
      generalize w.alloc (.cells #[.int .i64 ep, .int .i64 nu, .int .u8 mk, .slice a n c] 89) = W at *
      go_region
      go_wp2
      go_ret
      exact ⟨_, rfl, HR.out, B.drew⟩
    · have NO : Hid (¬GoesOn 1 nx le ep nu) := fun q => e1 q.2.1
      have hb1 : (nu == (nx : Int)) = false := by simpa using e1
      clear e1
      go_enter Tryd.func56, Tryd.ntmps56
      go_wp2_with fail
      generalize w.alloc (.cells #[.int .i64 ep, .int .i64 nu, .int .u8 mk, .slice a n c] 89) = W at *
      go_region
      go_wp2
      go_ret
      exact ⟨false, rfl, ⟨(fun q => by cases q), fun q => absurd q NO.out⟩, B.drew⟩
  · have NO : Hid (¬GoesOn 2 nx le ep nu) := fun q => q.1 rfl
    go_enter Tryd.func56, Tryd.ntmps56
    go_wp2
    go_ret
    exact ⟨false, rfl, ⟨(fun q => by cases q), fun q => absurd q NO.out⟩, B⟩
end Go.Proofs.YtkagohmgjhiddaaDoor
