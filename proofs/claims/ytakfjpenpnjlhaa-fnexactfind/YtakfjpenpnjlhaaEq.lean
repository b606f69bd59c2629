import Derived.Test.YtakfjpenpnjlhaaProg
import Derived.Test.YtakfjpenpnjlhaaBase
import Derived.WalkKit
import Derived.WalkSpells
import Derived.WalkLawsBesides
import Derived.BigQuiet
import Derived.Deep.QuietTactic
import Derived.Laws.AppendOwnNone
import Derived.Test.YtakfjpenpnjlhaaOwns
import Derived.Test.YtakfjpenpnjlhaaRowBy
import Derived.Laws.IdiomStrings
import Derived.Deep.LoopGhost
/- The laws' helpers on slices of limbs: two that read the same are told to be equal; marking a slice and asking for the marks. -/
namespace Go.Proofs.Ytakfjpenpnjlhaa
open Go.RowKit

end Go.Proofs.Ytakfjpenpnjlhaa

/- The laws' helpers on numbers: their copies, their sizes, whether two are equal, their marks. -/
namespace Go.Proofs.Ytakfjpenpnjlhaa
open Go.RowKit

theorem infoU : (Try.prog.info? 143).map (fun i => (i.zero, i.size, i.bytes)) = some (some (.int .u32 0), 1, 4) := by kernel_rfl

end Go.Proofs.Ytakfjpenpnjlhaa

/- The specification's l1Num: noughts on top are cut off, what is left is copied. -/
namespace Go.Proofs.Ytakfjpenpnjlhaa
open Go.RowKit

end Go.Proofs.Ytakfjpenpnjlhaa

/- The specification's sums, differences and comparing of limbs: l1AddMag, l1SubMag, l1CmpMag. -/
namespace Go.Proofs.Ytakfjpenpnjlhaa
open Go.RowKit

theorem one_new (w : World) (e : TypeId) (y : Int) : ∀ j u, ([y].map (Value.int .u32))[j]? = some u → (w.alloc (.cells #[.int .u32 y] e)).cell? ((⟨w.heap.size, 0, none⟩ : Addr).add j) = some u := by
  intro j u hu
  cases j with
  | zero =>
    simp at hu
    subst hu
    exact cell_new w #[.int .u32 y] e 0 rfl
  | succ j => simp at hu

theorem ownsRow_snoc {w : World} {base e n : Nat} {v : Value} {ws : List Int} {y : Int} (h : w.ownsRow base e 1 v n (ws.map (Value.int .u32) ++ [y].map (Value.int .u32))) : w.ownsRow base e 1 v n ((ws ++ [y]).map (Value.int .u32)) := by
  rw [List.map_append]; exact h

theorem Own.of_owns {w : World} {base e n : Nat} {v : Value} {xs : List Int} (h : w.ownsRow base e 1 v n (xs.map (Value.int .u32))) (hl : Lim xs) :
    ∃ a cap, v = .slice a xs.length cap ∧ Own base w a cap xs := by
  rcases Nat.eq_zero_or_pos n with h0 | h0
  · have h1 : xs.length = 0 := by have := h.1; simp at this; omega
    obtain rfl : xs = [] := List.eq_nil_of_length_eq_zero h1
    rcases h.2 with ⟨rfl, _⟩ | ⟨g, cap, cur, rfl, _, _, _, hm, _⟩
    · exact ⟨none, 0, rfl, Own.nil _ _⟩
    · subst h0
      exact ⟨_, cap, rfl, ⟨⟨Lim.nil, by simp, hm, fun h => absurd rfl h⟩, .inr ⟨_, _, rfl⟩⟩, fun _ _ _ h => absurd rfl h⟩
  · obtain ⟨g, cap, hv, ho⟩ := Own.of_append h hl h0
    exact ⟨_, cap, hv, ho⟩

end Go.Proofs.Ytakfjpenpnjlhaa

/- Which numbers are right: the program's NumOk and the specification's. -/
namespace Go.Proofs.Ytakfjpenpnjlhaa
open Go.RowKit

/-- Right, by a number's sign and its limbs. -/
def okB (g : Bool) (xs : List Int) : Bool := if xs.length = 0 then !g else decide (xs.length ≤ 24) && (xs[xs.length - 1]?.getD 0 != 0)

theorem Sees.last {w : World} {a : Option Addr} {c : Nat} {xs : List Int} (h : Sees w a c xs) (hn : ¬ xs.length = 0) :
    ∃ b off, a = some ⟨b, off, none⟩ ∧ b < w.heap.size ∧ w.cell? ⟨b, off + (xs.length - 1), none⟩ = some (.int .u32 (xs[xs.length - 1]?.getD 0)) := by
  have hne : xs ≠ [] := by intro e; simp [e] at hn
  obtain ⟨b, off, ha, hc⟩ := h.cells hne
  exact ⟨b, off, ha, h.lt ha hne, hc _ (by omega)⟩

end Go.Proofs.Ytakfjpenpnjlhaa

/- What a number is taken as: impl.taken, spec.l1Mag. -/
namespace Go.Proofs.Ytakfjpenpnjlhaa
open Go.RowKit

/-- The sign, and the limbs, that are taken. -/
def tkG (g : Bool) (xs : List Int) : Bool := okB g xs && g
def tkL (g : Bool) (xs : List Int) : List Int := if okB g xs = true then xs else []
/-- The number that is taken. -/
def tk (g : Bool) (xs : List Int) : Int := sg (tkG g xs) (val (tkL g xs))

theorem tk_facts (g : Bool) (xs : List Int) (hl : Lim xs) : Lim (tkL g xs) ∧ Nrm (tkL g xs) ∧ (tkL g xs).length ≤ 24 ∧ (tkL g xs = [] → tkG g xs = false) := by
  unfold tkL tkG
  by_cases hk : okB g xs = true
  · rw [if_pos hk, hk]
    unfold okB at hk
    by_cases h0 : xs.length = 0
    · rw [if_pos h0] at hk
      obtain rfl : xs = [] := List.eq_nil_of_length_eq_zero h0
      exact ⟨Lim.nil, trivial, by simp, fun _ => by simpa using hk⟩
    · rw [if_neg h0] at hk
      simp only [Bool.and_eq_true, decide_eq_true_eq, bne_iff_ne] at hk
      refine ⟨hl, ?_, hk.1, fun e => absurd (by simp [e]) h0⟩
      have := Nrm_take (xs := xs) (j := xs.length) (by omega) (Nat.le_refl _) hk.2
      rwa [List.take_length] at this
  · rw [if_neg hk]
    have : okB g xs = false := by simpa using hk
    rw [this]
    exact ⟨Lim.nil, trivial, by simp, fun _ => rfl⟩

end Go.Proofs.Ytakfjpenpnjlhaa

/- The specification's text of a number: spec.NumText. -/
namespace Go.Proofs.Ytakfjpenpnjlhaa
open Go.RowKit

theorem okB_of {g : Bool} {xs : List Int} (h : tkL g xs ≠ []) : tkG g xs = g ∧ tkL g xs = xs := by
  unfold tkL at h ⊢
  unfold tkG
  by_cases k : okB g xs = true
  · rw [if_pos k, k]; simp
  · rw [if_neg k] at h; exact absurd rfl h

theorem Sees.allNews {w : World} {b off c : Nat} {xs : List Int} (h : Sees w (some ⟨b, off, none⟩) c xs) : ∀ j u, (xs.map (Value.int .u32))[j]? = some u → w.cell? ((⟨b, off, none⟩ : Addr).add j) = some u := by
  have := h.toCame.news (Nat.le_refl xs.length)
  rwa [List.take_length] at this

theorem ret_str {a b : ByteArray} (h : a = b) : Ending.returned (.string a) = .returned (.string b) := by rw [h]
end Go.Proofs.Ytakfjpenpnjlhaa
