/- The specification's sums, differences and comparing of limbs: l1AddMag, l1SubMag, l1CmpMag. -/
import Derived.Test.YtbgpkajgnappiaaBase
import Derived.Test.YtbgpkajgnappiaaEq
namespace Go.Proofs.Ytbgpkajgnappiaa
open Go.RowKit

theorem one_new (w : World) (e : TypeId) (y : Int) : ∀ j u, ([y].map (Value.int .u32))[j]? = some u → (w.alloc (.cells #[.int .u32 y] e)).cell? ((⟨w.heap.size, 0, none⟩ : Addr).add j) = some u := by
  intro j u hu
  cases j with
  | zero =>
    simp at hu
    subst hu
    exact cell_new w #[.int .u32 y] e 0 rfl
  | succ j => simp at hu

theorem ownsRow_snoc {w : World} {base e n : Nat} {v : Value} {ws : List Int} {y : Int} (h : w.ownsRow base e 1 v n (ws.map (Value.int .u32) ++ [y].map (Value.int .u32))) : w.ownsRow base e 1 v n ((ws ++ [y]).map (Value.int .u32)) := by
  rw [List.map_append]; exact h

theorem Own.of_owns {w : World} {base e n : Nat} {v : Value} {xs : List Int} (h : w.ownsRow base e 1 v n (xs.map (Value.int .u32))) (hl : Lim xs) :
    ∃ a cap, v = .slice a xs.length cap ∧ Own base w a cap xs := by
  rcases Nat.eq_zero_or_pos n with h0 | h0
  · have h1 : xs.length = 0 := by have := h.1; simp at this; omega
    obtain rfl : xs = [] := List.eq_nil_of_length_eq_zero h1
    rcases h.2 with ⟨rfl, _⟩ | ⟨g, cap, cur, rfl, _, _, _, hm, _⟩
    · exact ⟨none, 0, rfl, Own.nil _ _⟩
    · subst h0
      exact ⟨_, cap, rfl, ⟨⟨Lim.nil, by simp, hm, fun h => absurd rfl h⟩, .inr ⟨_, _, rfl⟩⟩, fun _ _ _ h => absurd rfl h⟩
  · obtain ⟨g, cap, hv, ho⟩ := Own.of_append h hl h0
    exact ⟨_, cap, hv, ho⟩

end Go.Proofs.Ytbgpkajgnappiaa
