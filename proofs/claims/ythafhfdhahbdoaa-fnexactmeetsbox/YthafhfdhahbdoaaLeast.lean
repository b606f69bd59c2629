/- How many points a row of each kind must have, of the specification (l5Least). -/
import Derived.Test.YthafhfdhahbdoaaPtG
import Derived.Deep.DeepCutAuto
namespace Go.Proofs.Ythafhfdhahbdoaa
open Go.RowKit

/-- The least number of points in a row of a kind. -/
def leastN (k : Int) : Int := if k = 1 then 1 else if k = 2 then 1 else if k = 3 then 2 else if k = 4 then 2 else if k = 5 then 3 else 0
/-- .. the most: -1 for what is no kind. -/
def mostN (k : Int) : Int := if k = 1 then 1 else if k = 2 then 60 else if k = 3 then 60 else if k = 4 then 60 else if k = 5 then 60 else -1
/-- .. and whether there may be several rows. -/
def sevN (k : Int) : Bool := if k = 4 then true else if k = 5 then true else false

set_option maxRecDepth 20000 in
theorem l5Least_any (k : Int) (w : World) :
    Calls Try.prog 46 #[.int .i64 k] w fun e w' => e = .returned (.tuple #[.int .i64 (leastN k), .int .i64 (mostN k), .bool (sevN k)]) ∧ w' = w := by
  by_cases h1 : k = 1
  · subst h1
    go_enter Try.func46, Try.ntmps46
    go_wp2
    exact bodyPost_ret (v := .tuple #[.int .i64 _, .int .i64 _, .bool _]) (by simp [results, Try.results46, go_sem]; exact ⟨rfl, rfl, rfl⟩) rfl ⟨rfl, rfl⟩
  by_cases h2 : k = 2
  · subst h2
    go_enter Try.func46, Try.ntmps46
    go_wp2
    exact bodyPost_ret (v := .tuple #[.int .i64 _, .int .i64 _, .bool _]) (by simp [results, Try.results46, go_sem]; exact ⟨rfl, rfl, rfl⟩) rfl ⟨rfl, rfl⟩
  by_cases h3 : k = 3
  · subst h3
    go_enter Try.func46, Try.ntmps46
    go_wp2
    exact bodyPost_ret (v := .tuple #[.int .i64 _, .int .i64 _, .bool _]) (by simp [results, Try.results46, go_sem]; exact ⟨rfl, rfl, rfl⟩) rfl ⟨rfl, rfl⟩
  by_cases h4 : k = 4
  · subst h4
    go_enter Try.func46, Try.ntmps46
    go_wp2
    exact bodyPost_ret (v := .tuple #[.int .i64 _, .int .i64 _, .bool _]) (by simp [results, Try.results46, go_sem]; exact ⟨rfl, rfl, rfl⟩) rfl ⟨rfl, rfl⟩
  by_cases h5 : k = 5
  · subst h5
    go_enter Try.func46, Try.ntmps46
    go_wp2
    exact bodyPost_ret (v := .tuple #[.int .i64 _, .int .i64 _, .bool _]) (by simp [results, Try.results46, go_sem]; exact ⟨rfl, rfl, rfl⟩) rfl ⟨rfl, rfl⟩
  have e1 : leastN k = 0 := by unfold leastN; simp [h1, h2, h3, h4, h5]
  have e2 : mostN k = -1 := by unfold mostN; simp [h1, h2, h3, h4, h5]
  have e3 : sevN k = false := by unfold sevN; simp [h4, h5]
  rw [e1, e2, e3]
  go_enter Try.func46, Try.ntmps46
  go_wp2
  exact bodyPost_ret (v := .tuple #[.int .i64 _, .int .i64 _, .bool _]) (by simp [results, Try.results46, go_sem]) rfl ⟨rfl, rfl⟩
end Go.Proofs.Ythafhfdhahbdoaa
