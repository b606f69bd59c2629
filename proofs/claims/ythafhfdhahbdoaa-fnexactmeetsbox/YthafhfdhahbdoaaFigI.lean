/- A shape within the program: its figure (an interface with a type for each kind) and its limits. -/
import Derived.Test.YthafhfdhahbdoaaLeast
import Derived.Test.YthafhfdhahbdoaaPtG
import Derived.Handy
import Derived.Deep.DeepCutAuto
namespace Go.Proofs.Ythafhfdhahbdoaa
open Go.RowKit

/-- The type of a kind's figure. -/
def figT (k : Int) : Nat := if k = 1 then 102 else if k = 2 then 103 else if k = 3 then 104 else if k = 4 then 105 else 96
/-- How many rows a kind has at most. -/
def limR (k : Int) : Int := if sevN k then 12 else 1
def figV (k : Int) (v : Value) : Value := if 1 ≤ k ∧ k ≤ 5 then .iface (figT k) (.agg #[v]) else .nilIface

set_option maxRecDepth 20000 in
set_option maxHeartbeats 1000000 in
theorem figureOf_any (k : Int) (a : Option Addr) (n c : Nat) (w : World) :
    Calls Try.prog 52 #[.agg #[.int .i64 k, .slice a n c]] w fun e w' => e = .returned (figV k (.slice a n c)) ∧ Below w.heap.size w w' := by
  have B0 := below1 w (.cells #[.int .i64 k, .slice a n c] 33)
  have V0 := Box2.new w (lo := w.heap.size) (Nat.le_refl _) (.int .i64 k) (.slice a n c) 33
  obtain ⟨k0, k1, _, _⟩ := id V0
  clear V0
  by_cases h1 : k = 1
  · subst h1
    go_enter Try.func52, Try.ntmps52
    go_wp2
    go_ret
    exact ⟨rfl, B0⟩
  by_cases h2 : k = 2
  · subst h2
    go_enter Try.func52, Try.ntmps52
    go_wp2
    go_ret
    exact ⟨rfl, B0⟩
  by_cases h3 : k = 3
  · subst h3
    go_enter Try.func52, Try.ntmps52
    go_wp2
    go_ret
    exact ⟨rfl, B0⟩
  by_cases h4 : k = 4
  · subst h4
    go_enter Try.func52, Try.ntmps52
    go_wp2
    go_ret
    exact ⟨rfl, B0⟩
  by_cases h5 : k = 5
  · subst h5
    go_enter Try.func52, Try.ntmps52
    go_wp2
    go_ret
    exact ⟨rfl, B0⟩
  have e1 : figV k (.slice a n c) = .nilIface := by unfold figV; exact if_neg (by omega)
  rw [e1]
  go_enter Try.func52, Try.ntmps52
  go_wp2
  go_ret
  exact ⟨rfl, B0⟩

/-- What an assertion to each kind's type answers. -/
theorem as11 (v : Value) (W : World) : (Instr.typeAssert (.iface 102 (.agg #[v])) 91 102 true).run Try.prog W = .ok (.tuple #[.agg #[v], .bool true]) W := by kernel_rfl
theorem as12 (v : Value) (W : World) : (Instr.typeAssert (.iface 102 (.agg #[v])) 91 103 true).run Try.prog W = .ok (.tuple #[.agg #[.slice none 0 0], .bool false]) W := by kernel_rfl
theorem as13 (v : Value) (W : World) : (Instr.typeAssert (.iface 102 (.agg #[v])) 91 104 true).run Try.prog W = .ok (.tuple #[.agg #[.slice none 0 0], .bool false]) W := by kernel_rfl
theorem as14 (v : Value) (W : World) : (Instr.typeAssert (.iface 102 (.agg #[v])) 91 105 true).run Try.prog W = .ok (.tuple #[.agg #[.slice none 0 0], .bool false]) W := by kernel_rfl
theorem as15 (v : Value) (W : World) : (Instr.typeAssert (.iface 102 (.agg #[v])) 91 96 true).run Try.prog W = .ok (.tuple #[.agg #[.slice none 0 0], .bool false]) W := by kernel_rfl
theorem as21 (v : Value) (W : World) : (Instr.typeAssert (.iface 103 (.agg #[v])) 91 102 true).run Try.prog W = .ok (.tuple #[.agg #[.slice none 0 0], .bool false]) W := by kernel_rfl
theorem as22 (v : Value) (W : World) : (Instr.typeAssert (.iface 103 (.agg #[v])) 91 103 true).run Try.prog W = .ok (.tuple #[.agg #[v], .bool true]) W := by kernel_rfl
theorem as23 (v : Value) (W : World) : (Instr.typeAssert (.iface 103 (.agg #[v])) 91 104 true).run Try.prog W = .ok (.tuple #[.agg #[.slice none 0 0], .bool false]) W := by kernel_rfl
theorem as24 (v : Value) (W : World) : (Instr.typeAssert (.iface 103 (.agg #[v])) 91 105 true).run Try.prog W = .ok (.tuple #[.agg #[.slice none 0 0], .bool false]) W := by kernel_rfl
theorem as25 (v : Value) (W : World) : (Instr.typeAssert (.iface 103 (.agg #[v])) 91 96 true).run Try.prog W = .ok (.tuple #[.agg #[.slice none 0 0], .bool false]) W := by kernel_rfl
theorem as31 (v : Value) (W : World) : (Instr.typeAssert (.iface 104 (.agg #[v])) 91 102 true).run Try.prog W = .ok (.tuple #[.agg #[.slice none 0 0], .bool false]) W := by kernel_rfl
theorem as32 (v : Value) (W : World) : (Instr.typeAssert (.iface 104 (.agg #[v])) 91 103 true).run Try.prog W = .ok (.tuple #[.agg #[.slice none 0 0], .bool false]) W := by kernel_rfl
theorem as33 (v : Value) (W : World) : (Instr.typeAssert (.iface 104 (.agg #[v])) 91 104 true).run Try.prog W = .ok (.tuple #[.agg #[v], .bool true]) W := by kernel_rfl
theorem as34 (v : Value) (W : World) : (Instr.typeAssert (.iface 104 (.agg #[v])) 91 105 true).run Try.prog W = .ok (.tuple #[.agg #[.slice none 0 0], .bool false]) W := by kernel_rfl
theorem as35 (v : Value) (W : World) : (Instr.typeAssert (.iface 104 (.agg #[v])) 91 96 true).run Try.prog W = .ok (.tuple #[.agg #[.slice none 0 0], .bool false]) W := by kernel_rfl
theorem as41 (v : Value) (W : World) : (Instr.typeAssert (.iface 105 (.agg #[v])) 91 102 true).run Try.prog W = .ok (.tuple #[.agg #[.slice none 0 0], .bool false]) W := by kernel_rfl
theorem as42 (v : Value) (W : World) : (Instr.typeAssert (.iface 105 (.agg #[v])) 91 103 true).run Try.prog W = .ok (.tuple #[.agg #[.slice none 0 0], .bool false]) W := by kernel_rfl
theorem as43 (v : Value) (W : World) : (Instr.typeAssert (.iface 105 (.agg #[v])) 91 104 true).run Try.prog W = .ok (.tuple #[.agg #[.slice none 0 0], .bool false]) W := by kernel_rfl
theorem as44 (v : Value) (W : World) : (Instr.typeAssert (.iface 105 (.agg #[v])) 91 105 true).run Try.prog W = .ok (.tuple #[.agg #[v], .bool true]) W := by kernel_rfl
theorem as45 (v : Value) (W : World) : (Instr.typeAssert (.iface 105 (.agg #[v])) 91 96 true).run Try.prog W = .ok (.tuple #[.agg #[.slice none 0 0], .bool false]) W := by kernel_rfl
theorem as51 (v : Value) (W : World) : (Instr.typeAssert (.iface 96 (.agg #[v])) 91 102 true).run Try.prog W = .ok (.tuple #[.agg #[.slice none 0 0], .bool false]) W := by kernel_rfl
theorem as52 (v : Value) (W : World) : (Instr.typeAssert (.iface 96 (.agg #[v])) 91 103 true).run Try.prog W = .ok (.tuple #[.agg #[.slice none 0 0], .bool false]) W := by kernel_rfl
theorem as53 (v : Value) (W : World) : (Instr.typeAssert (.iface 96 (.agg #[v])) 91 104 true).run Try.prog W = .ok (.tuple #[.agg #[.slice none 0 0], .bool false]) W := by kernel_rfl
theorem as54 (v : Value) (W : World) : (Instr.typeAssert (.iface 96 (.agg #[v])) 91 105 true).run Try.prog W = .ok (.tuple #[.agg #[.slice none 0 0], .bool false]) W := by kernel_rfl
theorem as55 (v : Value) (W : World) : (Instr.typeAssert (.iface 96 (.agg #[v])) 91 96 true).run Try.prog W = .ok (.tuple #[.agg #[v], .bool true]) W := by kernel_rfl
/-- A kind, one by one. -/
theorem kinds {k : Int} (h : 1 ≤ k ∧ k ≤ 5) : k = 1 ∨ k = 2 ∨ k = 3 ∨ k = 4 ∨ k = 5 := by omega

set_option maxRecDepth 20000 in
set_option maxHeartbeats 1000000 in
theorem limitsOf_any (k : Int) (hk : 1 ≤ k ∧ k ≤ 5) (v : Value) (w : World) :
    Calls Try.prog 62 #[.iface (figT k) (.agg #[v])] w fun e w' => e = .returned (.agg #[.int .i64 (limR k), .int .i64 (leastN k), .int .i64 (mostN k)]) ∧ Below w.heap.size w w' := by
  rcases kinds hk with rfl | rfl | rfl | rfl | rfl
  · have q1 := as11 v
    rw [show figT 1 = 102 from rfl, show limR 1 = 1 from rfl, show leastN 1 = 1 from rfl, show mostN 1 = 1 from rfl]
    go_enter Try.func62, Try.ntmps62
    go_wp2
    go_returns
    exact ⟨rfl, below1 _ _⟩
  · have q1 := as21 v; have q2 := as22 v
    rw [show figT 2 = 103 from rfl, show limR 2 = 1 from rfl, show leastN 2 = 1 from rfl, show mostN 2 = 60 from rfl]
    go_enter Try.func62, Try.ntmps62
    go_wp2
    go_returns
    exact ⟨rfl, below1 _ _⟩
  · have q1 := as31 v; have q2 := as32 v; have q3 := as33 v
    rw [show figT 3 = 104 from rfl, show limR 3 = 1 from rfl, show leastN 3 = 2 from rfl, show mostN 3 = 60 from rfl]
    go_enter Try.func62, Try.ntmps62
    go_wp2
    go_returns
    exact ⟨rfl, below1 _ _⟩
  · have q1 := as41 v; have q2 := as42 v; have q3 := as43 v; have q4 := as44 v
    rw [show figT 4 = 105 from rfl, show limR 4 = 12 from rfl, show leastN 4 = 2 from rfl, show mostN 4 = 60 from rfl]
    go_enter Try.func62, Try.ntmps62
    go_wp2
    go_returns
    exact ⟨rfl, below1 _ _⟩
  · have q1 := as51 v; have q2 := as52 v; have q3 := as53 v; have q4 := as54 v; have q5 := as55 v
    rw [show figT 5 = 96 from rfl, show limR 5 = 12 from rfl, show leastN 5 = 3 from rfl, show mostN 5 = 60 from rfl]
    go_enter Try.func62, Try.ntmps62
    go_wp2
    go_returns
    exact ⟨rfl, below1 _ _⟩
end Go.Proofs.Ythafhfdhahbdoaa
