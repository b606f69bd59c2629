/- errors.Is of the program's own error: nothing, or one that wraps the error which is asked for. -/
import Derived.Test.YtgcaemhcdpddiaaDoorBase
import Derived.Test.YtgcaemhcdpddiaaDoorChecked
import Derived.WalkKit
import Derived.LaidEql
import Derived.Stop.Asserts
import Derived.RowKitTokens
namespace Go.Proofs.YtgcaemhcdpddiaaDoor
open Go.RowKit Go.Extern.Stop Go.Stop Go.Extern

theorem isTypeOf (v : Value) (w : World) : (Extern.ReflectliteType.typeOf #[.iface 131 v]).run Tryd.prog w = .ok (.iface 120 (.agg #[.pointer (some ⟨1, 131, none⟩)])) w := by kernel_rfl
/-- What the library's Comparable runs. -/
def cmpX : Array Value → Sem Value := Extern.ReflectliteType.method fun t => do Go.Extern.Rtype.noPackHeld "Comparable" t; pure (.bool (← typeInfo t).comparable)
theorem isComparable (w : World) : (cmpX #[.agg #[.pointer (some ⟨1, 131, none⟩)]]).run Tryd.prog w = .ok (.bool true) w := by kernel_rfl
theorem isMethodComparable (v : Value) (w : World) : (Go.method 268 120 v "Comparable").run Tryd.prog w = .ok (88, v) w := by kernel_rfl
theorem isComp : (Tryd.prog.info? 131).map (·.comparable) = some true := by kernel_rfl
theorem isSize : (Tryd.prog.info? 156).map (·.size) = some 1 := by kernel_rfl
theorem noIsN (v : Value) (xT : TypeId) (w : World) : (Instr.typeAssert (.iface 97 v) xT 122 true).run Tryd.prog w = .ok (.tuple #[.nilIface, .bool false]) w := run_typeAssert_lacksB Tryd.underlying122 (by kernel_rfl) (by kernel_rfl) v xT w
theorem hasUnwrapN (v : Value) (xT : TypeId) (w : World) : (Instr.typeAssert (.iface 97 v) xT 125 true).run Tryd.prog w = .ok (.tuple #[.iface 97 v, .bool true]) w := run_typeAssert_hasB Tryd.underlying125 (by kernel_rfl) v xT w
theorem methodUnwrapN (v : Value) (w : World) : (Go.method 268 97 v "Unwrap").run Tryd.prog w = .ok (82, v) w := by kernel_rfl

/-- The error that wraps it. -/
def noSec (k : Int) (b : Addr) : Value := .iface 97 (.agg #[.int .i64 k, .iface 131 (.pointer (some b))])

theorem is_nil (b : Addr) (w : World) :
    Calls Tryd.prog 49 #[.nilIface, .iface 131 (.pointer (some b))] w fun e w' => e = .returned (.bool false) ∧ Below w.heap.size w w' := by
  have hn := run_eql_iface_nil_left (P := Tryd.prog) w 131 (.pointer (some b)) Tryd.underlying83
  go_enter Tryd.func49, Tryd.ntmps49
  go_wp2
  go_ret
  exact ⟨rfl, Below.refl _ _⟩

theorem unwrapN (k : Int) (v : Value) (w : World) :
    Calls Tryd.prog 82 #[.agg #[.int .i64 k, v]] w fun e w' => e = .returned v ∧ Below w.heap.size w w' := by
  have B := below1 w (.cells #[.int .i64 k, v] 97)
  go_enter Tryd.func82, Tryd.ntmps82
  go_wp2
  go_ret
  exact ⟨rfl, B⟩

set_option maxRecDepth 20000 in
set_option maxHeartbeats 2000000 in
theorem is_wrap (k : Int) (b : Addr) (w : World) :
    Calls Tryd.prog 49 #[noSec k b, .iface 131 (.pointer (some b))] w fun e w' => e = .returned (.bool true) ∧ Below w.heap.size w w' := by
  obtain ⟨i, hi, hcmp⟩ := Option.map_eq_some_iff.1 isComp
  obtain ⟨j, hj, hjs⟩ := Option.map_eq_some_iff.1 isSize
  have h8 := @run_callFunc_extern Tryd.prog 57 _ Extern.ReflectliteType.typeOf Tryd.func57 (by kernel_rfl) (by kernel_rfl) (by kernel_rfl) (by kernel_rfl)
  have h32 := @run_callFunc_extern Tryd.prog 88 _ cmpX Tryd.func88 (by kernel_rfl) (by kernel_rfl) (by kernel_rfl) (by kernel_rfl)
  have tT := isTypeOf
  have cT := isComparable
  have mR := isMethodComparable
  have nW := noIsN
  have uW := hasUnwrapN
  have mU := methodUnwrapN
  have B := below1 w (.cells #[.int .i64 k, .iface 131 (.pointer (some b))] 97)
  have hty := run_eql_iface_types (P := Tryd.prog) 97 131 (.agg #[.int .i64 k, .iface 131 (.pointer (some b))]) (.pointer (some b)) Tryd.underlying83 (by decide) w
  have heq := run_eql_iface_ptr_same (P := Tryd.prog) (w.alloc (.cells #[.int .i64 k, .iface 131 (.pointer (some b))] 97)) b Tryd.underlying83 Tryd.underlying131 hi hcmp hj
  unfold noSec
  go_enter Tryd.func49, Tryd.ntmps49
  go_wp2
  refine wp_loop_rounds 2 ?_
  rw [rounds_succ]
  go_wp2
  rw [rounds_succ]
  go_wp2
  go_ret
  exact ⟨rfl, B⟩
end Go.Proofs.YtgcaemhcdpddiaaDoor
