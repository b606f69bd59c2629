/- errors.Is of the program's own error: nothing, or one that wraps the error which is asked for. -/
import Derived.Test.YtonbmeepfgejmaaGreatDoorBase
import Derived.Test.YtonbmeepfgejmaaGreatDoorChecked
import Derived.WalkKit
import Derived.LaidEql
import Derived.Stop.Asserts
import Derived.RowKitTokens
namespace Go.Proofs.YtonbmeepfgejmaaGreatDoor
open Go.RowKit Go.Extern.Stop Go.Stop Go.Extern

theorem isTypeOf (v : Value) (w : World) : (Extern.ReflectliteType.typeOf #[.iface 133 v]).run Tryz.prog w = .ok (.iface 118 (.agg #[.pointer (some ⟨1, 133, none⟩)])) w := by kernel_rfl
/-- What the library's Comparable runs. -/
def cmpX : Array Value → Sem Value := Extern.ReflectliteType.method fun t => do Go.Extern.Rtype.noPackHeld "Comparable" t; pure (.bool (← typeInfo t).comparable)
theorem isComparable (w : World) : (cmpX #[.agg #[.pointer (some ⟨1, 133, none⟩)]]).run Tryz.prog w = .ok (.bool true) w := by kernel_rfl
theorem isMethodComparable (v : Value) (w : World) : (Go.method 269 118 v "Comparable").run Tryz.prog w = .ok (109, v) w := by kernel_rfl
theorem isComp : (Tryz.prog.info? 133).map (·.comparable) = some true := by kernel_rfl
theorem isSize : (Tryz.prog.info? 157).map (·.size) = some 1 := by kernel_rfl
theorem noIsN (v : Value) (xT : TypeId) (w : World) : (Instr.typeAssert (.iface 105 v) xT 120 true).run Tryz.prog w = .ok (.tuple #[.nilIface, .bool false]) w := run_typeAssert_lacksB Tryz.underlying120 (by kernel_rfl) (by kernel_rfl) v xT w
theorem hasUnwrapN (v : Value) (xT : TypeId) (w : World) : (Instr.typeAssert (.iface 105 v) xT 123 true).run Tryz.prog w = .ok (.tuple #[.iface 105 v, .bool true]) w := run_typeAssert_hasB Tryz.underlying123 (by kernel_rfl) v xT w
theorem methodUnwrapN (v : Value) (w : World) : (Go.method 269 105 v "Unwrap").run Tryz.prog w = .ok (105, v) w := by kernel_rfl

/-- The error that wraps it. -/
def noSec (k : Int) (b : Addr) : Value := .iface 105 (.agg #[.int .i64 k, .iface 133 (.pointer (some b))])

theorem is_nil (b : Addr) (w : World) :
    Calls Tryz.prog 64 #[.nilIface, .iface 133 (.pointer (some b))] w fun e w' => e = .returned (.bool false) ∧ Below w.heap.size w w' := by
  have hn := run_eql_iface_nil_left (P := Tryz.prog) w 133 (.pointer (some b)) Tryz.underlying88
  go_enter Tryz.func64, Tryz.ntmps64
  go_wp2
  go_ret
  exact ⟨rfl, Below.refl _ _⟩

theorem unwrapN (k : Int) (v : Value) (w : World) :
    Calls Tryz.prog 105 #[.agg #[.int .i64 k, v]] w fun e w' => e = .returned v ∧ Below w.heap.size w w' := by
  have B := below1 w (.cells #[.int .i64 k, v] 105)
  go_enter Tryz.func105, Tryz.ntmps105
  go_wp2
  go_ret
  exact ⟨rfl, B⟩

set_option maxRecDepth 20000 in
set_option maxHeartbeats 2000000 in
theorem is_wrap (k : Int) (b : Addr) (w : World) :
    Calls Tryz.prog 64 #[noSec k b, .iface 133 (.pointer (some b))] w fun e w' => e = .returned (.bool true) ∧ Below w.heap.size w w' := by
  obtain ⟨i, hi, hcmp⟩ := Option.map_eq_some_iff.1 isComp
  obtain ⟨j, hj, hjs⟩ := Option.map_eq_some_iff.1 isSize
  have h8 := @run_callFunc_extern Tryz.prog 72 _ Extern.ReflectliteType.typeOf Tryz.func72 (by kernel_rfl) (by kernel_rfl) (by kernel_rfl) (by kernel_rfl)
  have h32 := @run_callFunc_extern Tryz.prog 109 _ cmpX Tryz.func109 (by kernel_rfl) (by kernel_rfl) (by kernel_rfl) (by kernel_rfl)
  have tT := isTypeOf
  have cT := isComparable
  have mR := isMethodComparable
  have nW := noIsN
  have uW := hasUnwrapN
  have mU := methodUnwrapN
  have B := below1 w (.cells #[.int .i64 k, .iface 133 (.pointer (some b))] 105)
  have hty := run_eql_iface_types (P := Tryz.prog) 105 133 (.agg #[.int .i64 k, .iface 133 (.pointer (some b))]) (.pointer (some b)) Tryz.underlying88 (by decide) w
  have heq := run_eql_iface_ptr_same (P := Tryz.prog) (w.alloc (.cells #[.int .i64 k, .iface 133 (.pointer (some b))] 105)) b Tryz.underlying88 Tryz.underlying133 hi hcmp hj
  unfold noSec
  go_enter Tryz.func64, Tryz.ntmps64
  go_wp2
  refine wp_loop_rounds 2 ?_
  rw [rounds_succ]
  go_wp2
  rw [rounds_succ]
  go_wp2
  go_ret
  exact ⟨rfl, B⟩
end Go.Proofs.YtonbmeepfgejmaaGreatDoor
