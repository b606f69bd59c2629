/-
  No cell of these rows narrows 'for every input' (looked for: loops, veiled, ifaces, maps, wideKeys, modest, calm, conditions, laid).
  DERIVED. THE GIVEN ROWS OF THIS SEAT. 4 by the template 'for every input the law returns true; each argument reads behind the call as it read before'; 0 by the template 'total and deterministic' (their statements: YthfgeihgmknkcaaTotals.lean).
  GIVEN WITH THE SEED: the statements are not yours to turn. If you find one false, say at which input.
  Laid BY PROGRAM, IN A SANDBOX (cutbox-rows.mjs): the forced cells as the released guide's own fill.sh prints them over the translation 9eb1ac2a3ea10f18… (all of the seat's roots in one cut). By AI agents, Wed Nov 11 2026. No macro, syntax, notation, axiom, sorry.
-/
import Derived.Test.YthfgeihgmknkcaaChecked
import GoSem.Claim
import GoSem.ClaimJoined
import GoSem.ClaimMapViews
import Derived.JoinedTies
import Derived.KernelRfl
namespace Go.Proofs.Ythfgeihgmknkcaa
/- THE CELL 'sum', in the pinned program and in every row, IS THE sha256 OF THE DUMP (.gsa) THAT YthfgeihgmknkcaaProg.lean LOADS. Nothing in Lean hashes anything: it is a label: what it is worth is what the hold of that sum in a sandbox is worth. -/
noncomputable def Try.pinned : Pinned := { name := "ythfgeihgmknkcaa", sum := "9eb1ac2a3ea10f18eaa64d4fc950f3f1abd0f24ae047de6a61c1f6d04e9bb0f2", checked := Try.checked }
namespace Rows
def none {H : Type} : Left H := { results := [], args := [] }

/-- 'laws.FnExactCross': WHATEVER THE INPUT: true; the input reads as it did. -/
def fnExactCrossSpec : ChangeSpec := { name := "fnExactCross", fn := fun _ => fun
  | [d1, d2, d3, d4] => { results := [.lit (.bool true)], args := [d1, d2, d3, d4] }
  | _ => none }
def fnExactCrossRow : OpenClaim := { program := "ythfgeihgmknkcaa", sum := "9eb1ac2a3ea10f18eaa64d4fc950f3f1abd0f24ae047de6a61c1f6d04e9bb0f2", func := "loop.example/g00108/laws.FnExactCross", spec := "fnExactCross", plainKeys := false, apart := false }
def FnExactCrossSaid : Prop := fnExactCrossRow.holds Try.pinned (OpenSpec.ofChange fnExactCrossSpec)

/-- ITS FALSE NEIGHBOUR: 'it returns false'. Refute it at one input. -/
def fnExactCrossWrong : ChangeSpec := { name := "fnExactCross", fn := fun _ => fun
  | [d1, d2, d3, d4] => { results := [.lit (.bool false)], args := [d1, d2, d3, d4] }
  | _ => none }
def FnExactCrossWrongFalsely : Prop := fnExactCrossRow.holds Try.pinned (OpenSpec.ofChange fnExactCrossWrong)

/-- 'laws.FnExactShapeBox': WHATEVER THE INPUT: true; the input reads as it did. -/
def fnExactShapeBoxSpec : ChangeSpec := { name := "fnExactShapeBox", fn := fun _ => fun
  | [d] => { results := [.lit (.bool true)], args := [d] }
  | _ => none }
def fnExactShapeBoxRow : OpenClaim := { program := "ythfgeihgmknkcaa", sum := "9eb1ac2a3ea10f18eaa64d4fc950f3f1abd0f24ae047de6a61c1f6d04e9bb0f2", func := "loop.example/g00108/laws.FnExactShapeBox", spec := "fnExactShapeBox", unfollowed := true, recurses := true, plainKeys := false, apart := false }
def FnExactShapeBoxSaid : Prop := fnExactShapeBoxRow.holds Try.pinned (OpenSpec.ofChange fnExactShapeBoxSpec)

/-- ITS FALSE NEIGHBOUR: 'it returns false'. Refute it at one input. -/
def fnExactShapeBoxWrong : ChangeSpec := { name := "fnExactShapeBox", fn := fun _ => fun
  | [d] => { results := [.lit (.bool false)], args := [d] }
  | _ => none }
def FnExactShapeBoxWrongFalsely : Prop := fnExactShapeBoxRow.holds Try.pinned (OpenSpec.ofChange fnExactShapeBoxWrong)

/-- 'laws.FnExactSegments': WHATEVER THE INPUT: true; the input reads as it did. -/
def fnExactSegmentsSpec : ChangeSpec := { name := "fnExactSegments", fn := fun _ => fun
  | [d] => { results := [.lit (.bool true)], args := [d] }
  | _ => none }
def fnExactSegmentsRow : OpenClaim := { program := "ythfgeihgmknkcaa", sum := "9eb1ac2a3ea10f18eaa64d4fc950f3f1abd0f24ae047de6a61c1f6d04e9bb0f2", func := "loop.example/g00108/laws.FnExactSegments", spec := "fnExactSegments", unfollowed := true, recurses := true, plainKeys := false, apart := false }
def FnExactSegmentsSaid : Prop := fnExactSegmentsRow.holds Try.pinned (OpenSpec.ofChange fnExactSegmentsSpec)

/-- ITS FALSE NEIGHBOUR: 'it returns false'. Refute it at one input. -/
def fnExactSegmentsWrong : ChangeSpec := { name := "fnExactSegments", fn := fun _ => fun
  | [d] => { results := [.lit (.bool false)], args := [d] }
  | _ => none }
def FnExactSegmentsWrongFalsely : Prop := fnExactSegmentsRow.holds Try.pinned (OpenSpec.ofChange fnExactSegmentsWrong)

/-- 'laws.FnExactLocate': WHATEVER THE INPUT: true; the input reads as it did. -/
def fnExactLocateSpec : ChangeSpec := { name := "fnExactLocate", fn := fun _ => fun
  | [d1, d2] => { results := [.lit (.bool true)], args := [d1, d2] }
  | _ => none }
def fnExactLocateRow : OpenClaim := { program := "ythfgeihgmknkcaa", sum := "9eb1ac2a3ea10f18eaa64d4fc950f3f1abd0f24ae047de6a61c1f6d04e9bb0f2", func := "loop.example/g00108/laws.FnExactLocate", spec := "fnExactLocate", unfollowed := true, recurses := true, plainKeys := false, apart := false }
def FnExactLocateSaid : Prop := fnExactLocateRow.holds Try.pinned (OpenSpec.ofChange fnExactLocateSpec)

/-- ITS FALSE NEIGHBOUR: 'it returns false'. Refute it at one input. -/
def fnExactLocateWrong : ChangeSpec := { name := "fnExactLocate", fn := fun _ => fun
  | [d1, d2] => { results := [.lit (.bool false)], args := [d1, d2] }
  | _ => none }
def FnExactLocateWrongFalsely : Prop := fnExactLocateRow.holds Try.pinned (OpenSpec.ofChange fnExactLocateWrong)

/- THE SECOND FORM. 'bulk': how many values and letters a reading holds, each counted each time it is reached (what is shared counts as often as it is met; a slice's spare places count too). A statement '..UptoSaid' is the law's where the arguments, and the package variables that the reading takes, are together of bulk at most 1048576: NARROWER than '..Said'. Prove '..Said' where nothing that the law and all that it calls make is longer than what came in: it says more and counts as full. Else prove '..UptoSaid'. A law counts once. -/
mutual
def uptoBulk {H : Type} : DataW H → Nat
  | .lit (.string bytes) => bytes.length + 1
  | .lit _ => 1
  | .nil => 1
  | .ptr d => uptoBulk d + 1
  | .slice elems spare => uptoBulkAll elems + uptoBulkAll spare + 1
  | .agg parts => uptoBulkAll parts + 1
  | .iface _ d => uptoBulk d + 1
  | .map entries => uptoBulkEntries entries + 1
  | .held _ => 1
def uptoBulkAll {H : Type} : List (DataW H) → Nat
  | [] => 0
  | d :: r => uptoBulk d + uptoBulkAll r
def uptoBulkEntries {H : Type} : List (Lit × DataW H) → Nat
  | [] => 0
  | x :: r => uptoBulkEntry x + uptoBulkEntries r
def uptoBulkEntry {H : Type} : Lit × DataW H → Nat
  | (.string bytes, d) => bytes.length + uptoBulk d + 1
  | (_, d) => uptoBulk d + 1
 end
def uptoSmall : (H : Type) → List (DataW H) → Bool := fun _ ds => decide (uptoBulkAll ds ≤ 1048576)
def OpenSpec.upto (s : _root_.Go.ChangeSpec) : _root_.Go.OpenSpec := { _root_.Go.OpenSpec.ofChange s with cond := some uptoSmall }

/-- 'laws.FnExactCross', WHERE WHAT IT READS IS OF BULK AT MOST 1048576: true; the input reads as it did. -/
def fnExactCrossUptoRow : OpenClaim := { program := "ythfgeihgmknkcaa", sum := "9eb1ac2a3ea10f18eaa64d4fc950f3f1abd0f24ae047de6a61c1f6d04e9bb0f2", func := "loop.example/g00108/laws.FnExactCross", spec := "fnExactCross", plainKeys := false, apart := false, narrowed := true }
def FnExactCrossUptoSaid : Prop := fnExactCrossUptoRow.holds Try.pinned (OpenSpec.upto fnExactCrossSpec)

/-- 'laws.FnExactShapeBox', WHERE WHAT IT READS IS OF BULK AT MOST 1048576: true; the input reads as it did. -/
def fnExactShapeBoxUptoRow : OpenClaim := { program := "ythfgeihgmknkcaa", sum := "9eb1ac2a3ea10f18eaa64d4fc950f3f1abd0f24ae047de6a61c1f6d04e9bb0f2", func := "loop.example/g00108/laws.FnExactShapeBox", spec := "fnExactShapeBox", unfollowed := true, recurses := true, plainKeys := false, apart := false, narrowed := true }
def FnExactShapeBoxUptoSaid : Prop := fnExactShapeBoxUptoRow.holds Try.pinned (OpenSpec.upto fnExactShapeBoxSpec)

/-- 'laws.FnExactSegments', WHERE WHAT IT READS IS OF BULK AT MOST 1048576: true; the input reads as it did. -/
def fnExactSegmentsUptoRow : OpenClaim := { program := "ythfgeihgmknkcaa", sum := "9eb1ac2a3ea10f18eaa64d4fc950f3f1abd0f24ae047de6a61c1f6d04e9bb0f2", func := "loop.example/g00108/laws.FnExactSegments", spec := "fnExactSegments", unfollowed := true, recurses := true, plainKeys := false, apart := false, narrowed := true }
def FnExactSegmentsUptoSaid : Prop := fnExactSegmentsUptoRow.holds Try.pinned (OpenSpec.upto fnExactSegmentsSpec)

/-- 'laws.FnExactLocate', WHERE WHAT IT READS IS OF BULK AT MOST 1048576: true; the input reads as it did. -/
def fnExactLocateUptoRow : OpenClaim := { program := "ythfgeihgmknkcaa", sum := "9eb1ac2a3ea10f18eaa64d4fc950f3f1abd0f24ae047de6a61c1f6d04e9bb0f2", func := "loop.example/g00108/laws.FnExactLocate", spec := "fnExactLocate", unfollowed := true, recurses := true, plainKeys := false, apart := false, narrowed := true }
def FnExactLocateUptoSaid : Prop := fnExactLocateUptoRow.holds Try.pinned (OpenSpec.upto fnExactLocateSpec)

end Rows
end Go.Proofs.Ythfgeihgmknkcaa
