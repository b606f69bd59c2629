/-
  NARROWER THAN 'FOR EVERY INPUT', by the rows' own cells (each row's printed sentence says how): FnExactDiskOk: ifaces, laid · FnExactReadSector: ifaces, laid · FnExactSync: ifaces, laid · FnExactWriteSector: ifaces, laid · FnExactCrash: ifaces, laid.
  DERIVED. THE GIVEN ROWS OF THIS SEAT. 5 by the template 'for every input the law returns true; each argument reads behind the call as it read before'; 0 by the template 'total and deterministic' (their statements: YtjpnkmhmipendaaDoorTotals.lean).
  GIVEN WITH THE SEED: the statements are not yours to turn. If you find one false, say at which input.
  Laid BY PROGRAM, IN A SANDBOX (cutbox-rows.mjs): the forced cells as the released guide's own fill.sh prints them over the translation 6b4c7d35722e9930… (all of the seat's roots in one cut). By AI agents, Wed Nov 11 2026. No macro, syntax, notation, axiom, sorry.
-/
import Derived.Test.YtjpnkmhmipendaaDoorChecked
import GoSem.Claim
import GoSem.ClaimJoined
import GoSem.ClaimMapViews
import Derived.JoinedTies
import Derived.KernelRfl
namespace Go.Proofs.YtjpnkmhmipendaaDoor
/- THE CELL 'sum', in the pinned program and in every row, IS THE sha256 OF THE DUMP (.gsa) THAT YtjpnkmhmipendaaDoorProg.lean LOADS. Nothing in Lean hashes anything: it is a label: what it is worth is what the hold of that sum in a sandbox is worth. -/
noncomputable def Tryd.pinned : Pinned := { name := "ytjpnkmhmipendaadoor", sum := "6b4c7d35722e99306c937ba47745a084c2c474e51369af114a8a5f12b51a1307", checked := Tryd.checked }
namespace Rows
def none {H : Type} : Left H := { results := [], args := [] }

/- WHAT THE LISTED PACKAGE-LEVEL VARIABLES READ AS WHEN THE CALL BEGINS. Each datum BY PROGRAM (the guide's laid-datum.mjs) off the statement by which the dump's own 'gosem.cut.vars' lays the variable. In a bare row this is a premise. The card (YtjpnkmhmipendaaDoorCards.lean) ties it to the program's text. -/
def laid_loop_example_g00108_impl_errNotThere {H : Type} : DataW H := .iface "*errors.errorString" (.ptr (.agg [.lit (.string [110, 111, 116, 32, 116, 104, 101, 114, 101])]))

/-- 'laws.FnExactDiskOk': WHATEVER THE INPUT: true; the input reads as it did. -/
def fnExactDiskOkSpec : ChangeSpec := { name := "fnExactDiskOk", vars := ["loop.example/g00108/impl.errNotThere"], fn := fun _ => fun
  | [d, g1] => { results := [.lit (.bool true)], args := [d], vars := [g1] }
  | _ => none }
def fnExactDiskOkRow : OpenClaim := { program := "ytjpnkmhmipendaadoor", sum := "6b4c7d35722e99306c937ba47745a084c2c474e51369af114a8a5f12b51a1307", func := "loop.example/g00108/laws.FnExactDiskOk", spec := "fnExactDiskOk", inPlace := ["internal/reflectlite.TypeOf"], unfollowed := true, recurses := true, named := ["loop.example/g00108/impl.errNotThere"], ifaces := true, apart := false, laid := [("loop.example/g00108/impl.errNotThere", laid_loop_example_g00108_impl_errNotThere)] }
def FnExactDiskOkSaid : Prop := fnExactDiskOkRow.holds Tryd.pinned (OpenSpec.ofChange fnExactDiskOkSpec)

/-- ITS FALSE NEIGHBOUR: 'it returns false'. Refute it at one input. -/
def fnExactDiskOkWrong : ChangeSpec := { name := "fnExactDiskOk", vars := ["loop.example/g00108/impl.errNotThere"], fn := fun _ => fun
  | [d, g1] => { results := [.lit (.bool false)], args := [d], vars := [g1] }
  | _ => none }
def FnExactDiskOkWrongFalsely : Prop := fnExactDiskOkRow.holds Tryd.pinned (OpenSpec.ofChange fnExactDiskOkWrong)

/-- 'laws.FnExactReadSector': WHATEVER THE INPUT: true; the input reads as it did. -/
def fnExactReadSectorSpec : ChangeSpec := { name := "fnExactReadSector", vars := ["loop.example/g00108/impl.errNotThere"], fn := fun _ => fun
  | [d1, d2, g1] => { results := [.lit (.bool true)], args := [d1, d2], vars := [g1] }
  | _ => none }
def fnExactReadSectorRow : OpenClaim := { program := "ytjpnkmhmipendaadoor", sum := "6b4c7d35722e99306c937ba47745a084c2c474e51369af114a8a5f12b51a1307", func := "loop.example/g00108/laws.FnExactReadSector", spec := "fnExactReadSector", inPlace := ["internal/reflectlite.TypeOf"], unfollowed := true, recurses := true, named := ["loop.example/g00108/impl.errNotThere"], ifaces := true, apart := false, laid := [("loop.example/g00108/impl.errNotThere", laid_loop_example_g00108_impl_errNotThere)] }
def FnExactReadSectorSaid : Prop := fnExactReadSectorRow.holds Tryd.pinned (OpenSpec.ofChange fnExactReadSectorSpec)

/-- ITS FALSE NEIGHBOUR: 'it returns false'. Refute it at one input. -/
def fnExactReadSectorWrong : ChangeSpec := { name := "fnExactReadSector", vars := ["loop.example/g00108/impl.errNotThere"], fn := fun _ => fun
  | [d1, d2, g1] => { results := [.lit (.bool false)], args := [d1, d2], vars := [g1] }
  | _ => none }
def FnExactReadSectorWrongFalsely : Prop := fnExactReadSectorRow.holds Tryd.pinned (OpenSpec.ofChange fnExactReadSectorWrong)

/-- 'laws.FnExactSync': WHATEVER THE INPUT: true; the input reads as it did. -/
def fnExactSyncSpec : ChangeSpec := { name := "fnExactSync", vars := ["loop.example/g00108/impl.errNotThere"], fn := fun _ => fun
  | [d, g1] => { results := [.lit (.bool true)], args := [d], vars := [g1] }
  | _ => none }
def fnExactSyncRow : OpenClaim := { program := "ytjpnkmhmipendaadoor", sum := "6b4c7d35722e99306c937ba47745a084c2c474e51369af114a8a5f12b51a1307", func := "loop.example/g00108/laws.FnExactSync", spec := "fnExactSync", inPlace := ["internal/reflectlite.TypeOf"], unfollowed := true, recurses := true, named := ["loop.example/g00108/impl.errNotThere"], ifaces := true, apart := false, laid := [("loop.example/g00108/impl.errNotThere", laid_loop_example_g00108_impl_errNotThere)] }
def FnExactSyncSaid : Prop := fnExactSyncRow.holds Tryd.pinned (OpenSpec.ofChange fnExactSyncSpec)

/-- ITS FALSE NEIGHBOUR: 'it returns false'. Refute it at one input. -/
def fnExactSyncWrong : ChangeSpec := { name := "fnExactSync", vars := ["loop.example/g00108/impl.errNotThere"], fn := fun _ => fun
  | [d, g1] => { results := [.lit (.bool false)], args := [d], vars := [g1] }
  | _ => none }
def FnExactSyncWrongFalsely : Prop := fnExactSyncRow.holds Tryd.pinned (OpenSpec.ofChange fnExactSyncWrong)

/-- 'laws.FnExactWriteSector': WHATEVER THE INPUT: true; the input reads as it did. -/
def fnExactWriteSectorSpec : ChangeSpec := { name := "fnExactWriteSector", vars := ["loop.example/g00108/impl.errNotThere"], fn := fun _ => fun
  | [d1, d2, d3, g1] => { results := [.lit (.bool true)], args := [d1, d2, d3], vars := [g1] }
  | _ => none }
def fnExactWriteSectorRow : OpenClaim := { program := "ytjpnkmhmipendaadoor", sum := "6b4c7d35722e99306c937ba47745a084c2c474e51369af114a8a5f12b51a1307", func := "loop.example/g00108/laws.FnExactWriteSector", spec := "fnExactWriteSector", inPlace := ["internal/reflectlite.TypeOf"], unfollowed := true, recurses := true, named := ["loop.example/g00108/impl.errNotThere"], ifaces := true, apart := false, laid := [("loop.example/g00108/impl.errNotThere", laid_loop_example_g00108_impl_errNotThere)] }
def FnExactWriteSectorSaid : Prop := fnExactWriteSectorRow.holds Tryd.pinned (OpenSpec.ofChange fnExactWriteSectorSpec)

/-- ITS FALSE NEIGHBOUR: 'it returns false'. Refute it at one input. -/
def fnExactWriteSectorWrong : ChangeSpec := { name := "fnExactWriteSector", vars := ["loop.example/g00108/impl.errNotThere"], fn := fun _ => fun
  | [d1, d2, d3, g1] => { results := [.lit (.bool false)], args := [d1, d2, d3], vars := [g1] }
  | _ => none }
def FnExactWriteSectorWrongFalsely : Prop := fnExactWriteSectorRow.holds Tryd.pinned (OpenSpec.ofChange fnExactWriteSectorWrong)

/-- 'laws.FnExactCrash': WHATEVER THE INPUT: true; the input reads as it did. -/
def fnExactCrashSpec : ChangeSpec := { name := "fnExactCrash", vars := ["loop.example/g00108/impl.errNotThere"], fn := fun _ => fun
  | [d1, d2, g1] => { results := [.lit (.bool true)], args := [d1, d2], vars := [g1] }
  | _ => none }
def fnExactCrashRow : OpenClaim := { program := "ytjpnkmhmipendaadoor", sum := "6b4c7d35722e99306c937ba47745a084c2c474e51369af114a8a5f12b51a1307", func := "loop.example/g00108/laws.FnExactCrash", spec := "fnExactCrash", inPlace := ["internal/reflectlite.TypeOf"], unfollowed := true, recurses := true, named := ["loop.example/g00108/impl.errNotThere"], ifaces := true, apart := false, laid := [("loop.example/g00108/impl.errNotThere", laid_loop_example_g00108_impl_errNotThere)] }
def FnExactCrashSaid : Prop := fnExactCrashRow.holds Tryd.pinned (OpenSpec.ofChange fnExactCrashSpec)

/-- ITS FALSE NEIGHBOUR: 'it returns false'. Refute it at one input. -/
def fnExactCrashWrong : ChangeSpec := { name := "fnExactCrash", vars := ["loop.example/g00108/impl.errNotThere"], fn := fun _ => fun
  | [d1, d2, g1] => { results := [.lit (.bool false)], args := [d1, d2], vars := [g1] }
  | _ => none }
def FnExactCrashWrongFalsely : Prop := fnExactCrashRow.holds Tryd.pinned (OpenSpec.ofChange fnExactCrashWrong)

/- THE SECOND FORM. 'bulk': how many values and letters a reading holds, each counted each time it is reached (what is shared counts as often as it is met; a slice's spare places count too). A statement '..UptoSaid' is the law's where the arguments, and the package variables that the reading takes, are together of bulk at most 1048576: NARROWER than '..Said'. Prove '..Said' where nothing that the law and all that it calls make is longer than what came in: it says more and counts as full. Else prove '..UptoSaid'. A law counts once. -/
mutual
def uptoBulk {H : Type} : DataW H → Nat
  | .lit (.string bytes) => bytes.length + 1
  | .lit _ => 1
  | .nil => 1
  | .ptr d => uptoBulk d + 1
  | .slice elems spare => uptoBulkAll elems + uptoBulkAll spare + 1
  | .agg parts => uptoBulkAll parts + 1
  | .iface _ d => uptoBulk d + 1
  | .map entries => uptoBulkEntries entries + 1
  | .held _ => 1
def uptoBulkAll {H : Type} : List (DataW H) → Nat
  | [] => 0
  | d :: r => uptoBulk d + uptoBulkAll r
def uptoBulkEntries {H : Type} : List (Lit × DataW H) → Nat
  | [] => 0
  | x :: r => uptoBulkEntry x + uptoBulkEntries r
def uptoBulkEntry {H : Type} : Lit × DataW H → Nat
  | (.string bytes, d) => bytes.length + uptoBulk d + 1
  | (_, d) => uptoBulk d + 1
 end
def uptoSmall : (H : Type) → List (DataW H) → Bool := fun _ ds => decide (uptoBulkAll ds ≤ 1048576)
def OpenSpec.upto (s : _root_.Go.ChangeSpec) : _root_.Go.OpenSpec := { _root_.Go.OpenSpec.ofChange s with cond := some uptoSmall }

/-- 'laws.FnExactDiskOk', WHERE WHAT IT READS IS OF BULK AT MOST 1048576: true; the input reads as it did. -/
def fnExactDiskOkUptoRow : OpenClaim := { program := "ytjpnkmhmipendaadoor", sum := "6b4c7d35722e99306c937ba47745a084c2c474e51369af114a8a5f12b51a1307", func := "loop.example/g00108/laws.FnExactDiskOk", spec := "fnExactDiskOk", inPlace := ["internal/reflectlite.TypeOf"], unfollowed := true, recurses := true, named := ["loop.example/g00108/impl.errNotThere"], ifaces := true, apart := false, laid := [("loop.example/g00108/impl.errNotThere", laid_loop_example_g00108_impl_errNotThere)], narrowed := true }
def FnExactDiskOkUptoSaid : Prop := fnExactDiskOkUptoRow.holds Tryd.pinned (OpenSpec.upto fnExactDiskOkSpec)

/-- 'laws.FnExactReadSector', WHERE WHAT IT READS IS OF BULK AT MOST 1048576: true; the input reads as it did. -/
def fnExactReadSectorUptoRow : OpenClaim := { program := "ytjpnkmhmipendaadoor", sum := "6b4c7d35722e99306c937ba47745a084c2c474e51369af114a8a5f12b51a1307", func := "loop.example/g00108/laws.FnExactReadSector", spec := "fnExactReadSector", inPlace := ["internal/reflectlite.TypeOf"], unfollowed := true, recurses := true, named := ["loop.example/g00108/impl.errNotThere"], ifaces := true, apart := false, laid := [("loop.example/g00108/impl.errNotThere", laid_loop_example_g00108_impl_errNotThere)], narrowed := true }
def FnExactReadSectorUptoSaid : Prop := fnExactReadSectorUptoRow.holds Tryd.pinned (OpenSpec.upto fnExactReadSectorSpec)

/-- 'laws.FnExactSync', WHERE WHAT IT READS IS OF BULK AT MOST 1048576: true; the input reads as it did. -/
def fnExactSyncUptoRow : OpenClaim := { program := "ytjpnkmhmipendaadoor", sum := "6b4c7d35722e99306c937ba47745a084c2c474e51369af114a8a5f12b51a1307", func := "loop.example/g00108/laws.FnExactSync", spec := "fnExactSync", inPlace := ["internal/reflectlite.TypeOf"], unfollowed := true, recurses := true, named := ["loop.example/g00108/impl.errNotThere"], ifaces := true, apart := false, laid := [("loop.example/g00108/impl.errNotThere", laid_loop_example_g00108_impl_errNotThere)], narrowed := true }
def FnExactSyncUptoSaid : Prop := fnExactSyncUptoRow.holds Tryd.pinned (OpenSpec.upto fnExactSyncSpec)

/-- 'laws.FnExactWriteSector', WHERE WHAT IT READS IS OF BULK AT MOST 1048576: true; the input reads as it did. -/
def fnExactWriteSectorUptoRow : OpenClaim := { program := "ytjpnkmhmipendaadoor", sum := "6b4c7d35722e99306c937ba47745a084c2c474e51369af114a8a5f12b51a1307", func := "loop.example/g00108/laws.FnExactWriteSector", spec := "fnExactWriteSector", inPlace := ["internal/reflectlite.TypeOf"], unfollowed := true, recurses := true, named := ["loop.example/g00108/impl.errNotThere"], ifaces := true, apart := false, laid := [("loop.example/g00108/impl.errNotThere", laid_loop_example_g00108_impl_errNotThere)], narrowed := true }
def FnExactWriteSectorUptoSaid : Prop := fnExactWriteSectorUptoRow.holds Tryd.pinned (OpenSpec.upto fnExactWriteSectorSpec)

/-- 'laws.FnExactCrash', WHERE WHAT IT READS IS OF BULK AT MOST 1048576: true; the input reads as it did. -/
def fnExactCrashUptoRow : OpenClaim := { program := "ytjpnkmhmipendaadoor", sum := "6b4c7d35722e99306c937ba47745a084c2c474e51369af114a8a5f12b51a1307", func := "loop.example/g00108/laws.FnExactCrash", spec := "fnExactCrash", inPlace := ["internal/reflectlite.TypeOf"], unfollowed := true, recurses := true, named := ["loop.example/g00108/impl.errNotThere"], ifaces := true, apart := false, laid := [("loop.example/g00108/impl.errNotThere", laid_loop_example_g00108_impl_errNotThere)], narrowed := true }
def FnExactCrashUptoSaid : Prop := fnExactCrashUptoRow.holds Tryd.pinned (OpenSpec.upto fnExactCrashSpec)

end Rows
end Go.Proofs.YtjpnkmhmipendaaDoor
