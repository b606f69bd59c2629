/- Parts of sums as they lie; a result that is put into its variable. No function of the program is walked here. -/
import Derived.Test.YtbgpkajgnappiaaSum
namespace Go.Proofs.Ytbgpkajgnappiaa
open Go.RowKit

theorem Parts.one {w : World} {pb c L : Nat} {g : Bool} {a : Option Addr} {xs : List Int} (h0 : w.cell? ⟨pb, 0, none⟩ = some (.bool g)) (h1 : w.cell? ⟨pb, 1, none⟩ = some (.slice a xs.length c)) (hs : Sees w a c xs) (hn : Nrm xs) (hl : xs.length ≤ L) :
    Parts w pb 1 L (fun _ => g) (fun _ => a) (fun _ => c) (fun _ => xs) := by
  refine ⟨fun j hj => ?_, fun j hj => ?_, fun _ _ => hs, fun _ _ => hn, fun _ _ => hl⟩
  · obtain rfl : j = 0 := by omega
    exact h0
  · obtain rfl : j = 0 := by omega
    exact h1
theorem Parts.two {w : World} {pb c c' L : Nat} {g g' : Bool} {a a' : Option Addr} {xs ys : List Int} (h0 : w.cell? ⟨pb, 0, none⟩ = some (.bool g)) (h1 : w.cell? ⟨pb, 1, none⟩ = some (.slice a xs.length c))
    (h2 : w.cell? ⟨pb, 2, none⟩ = some (.bool g')) (h3 : w.cell? ⟨pb, 3, none⟩ = some (.slice a' ys.length c')) (hs : Sees w a c xs) (ks : Sees w a' c' ys) (hn : Nrm xs) (kn : Nrm ys) (hl : xs.length ≤ L) (kl : ys.length ≤ L) :
    Parts w pb 2 L (fun j => if j = 0 then g else g') (fun j => if j = 0 then a else a') (fun j => if j = 0 then c else c') (fun j => if j = 0 then xs else ys) := by
  refine ⟨fun j hj => ?_, fun j hj => ?_, fun j hj => ?_, fun j hj => ?_, fun j hj => ?_⟩
  all_goals
    have : j = 0 ∨ j = 1 := by omega
    rcases this with rfl | rfl
  · exact h0
  · exact h2
  · exact h1
  · exact h3
  · exact hs
  · exact ks
  · exact hn
  · exact kn
  · exact hl
  · exact kl

theorem psum_one (g : Bool) (xs : List Int) : psum (fun _ => g) (fun _ => xs) 1 = sg g (val xs) := by simp [psum]
theorem psum_two (g g' : Bool) (xs ys : List Int) : psum (fun j => if j = 0 then g else g') (fun j => if j = 0 then xs else ys) 2 = sg g (val xs) + sg g' (val ys) := by simp [psum]

theorem neg_flag {g : Bool} {xs : List Int} (h : xs = [] → g = false) : sg (!g && decide (0 < xs.length)) (val xs) = - sg g (val xs) := by
  by_cases e : xs = []
  · subst e; rw [h rfl]; simp [sg, val]
  · have : 0 < xs.length := List.length_pos_iff.2 e
    rw [decide_eq_true this, Bool.and_true]
    cases g <;> simp [sg]
end Go.Proofs.Ytbgpkajgnappiaa
