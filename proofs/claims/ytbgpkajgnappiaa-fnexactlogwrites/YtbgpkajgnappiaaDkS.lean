/- Disks of the specification: a new one, whether one is good. -/
import Derived.Test.YtbgpkajgnappiaaQuL
import Derived.Test.YtbgpkajgnappiaaHeld
import Derived.Deep.Cut
namespace Go.Proofs.Ytbgpkajgnappiaa
open Go.RowKit

theorem l1InD (x a b : Int) (w : World) :
    Calls Try.prog 24 #[.int .i64 x, .int .i64 a, .int .i64 b] w fun e w' => e = .returned (.bool (decide (a ≤ x) && decide (x ≤ b))) ∧ w' = w := by
  by_cases h1 : a ≤ x
  · by_cases h2 : x ≤ b
    · go_enter Try.func24, Try.ntmps24
      go_wp2
      go_ret
      exact ⟨by simp [h1, h2], rfl⟩
    · go_enter Try.func24, Try.ntmps24
      go_wp2
      go_ret
      exact ⟨by simp [h2], rfl⟩
  · go_enter Try.func24, Try.ntmps24
    go_wp2
    go_ret
    exact ⟨by rw [decide_eq_false (show ¬ a ≤ x by omega)]; rfl, rfl⟩

theorem l1InB (x a b : Int) (w : World) :
    Calls Try.prog 24 #[.int .i64 x, .int .i64 a, .int .i64 b] w fun e w' => e = .returned (.bool (decide (a ≤ x) && decide (x ≤ b))) ∧ Below w.heap.size w w' :=
  (l1InD x a b w).mono fun _ _ q => ⟨q.1, q.2 ▸ Below.refl _ _⟩
theorem RowB.made {base g n : Nat} {w : World} (h : w.ownsRow base 5 1 (.slice (some ⟨g, 0, none⟩) n n) n (madeCells #[Value.int .u8 0] n).toList) : RowB base w (.slice (some ⟨g, 0, none⟩) n n) (List.replicate n 0) := by
  have ZE : (madeCells #[Value.int .u8 0] n).toList = (List.replicate n (0 : Int)).map (Value.int .u8) := by
    apply List.ext_getElem
    · simp [madeCells]
    · intro i h1 h2
      simp [madeCells, Nat.mod_one]
  unfold RowB
  rw [List.length_replicate, ← ZE]
  exact h
/-- The bytes of a new disk. -/
def dkN (s : Int) : List Int := if 1 ≤ s ∧ s ≤ 400 then List.replicate (s.toNat * 64) 0 else []
theorem dkN_some {s : Int} (h : 1 ≤ s ∧ s ≤ 400) : dkN s = List.replicate (s.toNat * 64) 0 := if_pos h
theorem dkN_none {s : Int} (h : ¬(1 ≤ s ∧ s ≤ 400)) : dkN s = [] := if_neg h
theorem dkN_len (s : Int) : (dkN s).length ≤ 25600 := by
  by_cases h : 1 ≤ s ∧ s ≤ 400
  · rw [dkN_some h, List.length_replicate]; omega
  · rw [dkN_none h]; simp

def WrOk (n : Nat) (q : Wr) : Prop := 0 ≤ q.1 ∧ q.1 < (n : Int) ∧ q.2.length = 64
/-- A good disk. -/
def DkOk (bs : List Int) (qs : List Wr) : Prop := bs.length % 64 = 0 ∧ 1 ≤ bs.length / 64 ∧ bs.length / 64 ≤ 400 ∧ ∀ i, i < qs.length → WrOk (bs.length / 64) (wrN qs i)

end Go.Proofs.Ytbgpkajgnappiaa
