/-
  No cell of these rows narrows 'for every input' (looked for: loops, veiled, ifaces, maps, wideKeys, modest, calm, conditions, laid).
  DERIVED. THE GIVEN ROWS OF THIS SEAT. 6 by the template 'for every input the law returns true; each argument reads behind the call as it read before'; 0 by the template 'total and deterministic' (their statements: YtfddiojcahbkfanTotals.lean).
  GIVEN WITH THE SEED: the statements are not yours to turn. If you find one false, say at which input.
  Laid BY PROGRAM, IN A SANDBOX (cutbox-rows.mjs): the forced cells as the released guide's own fill.sh prints them over the translation 0ed0e045aa2a66f3… (all of the seat's roots in one cut). By AI agents, Wed Nov 11 2026. No macro, syntax, notation, axiom, sorry.
-/
import Derived.Test.YtfddiojcahbkfanChecked
import GoSem.Claim
import GoSem.ClaimJoined
import GoSem.ClaimMapViews
import Derived.JoinedTies
import Derived.KernelRfl
namespace Go.Proofs.Ytfddiojcahbkfan
/- THE CELL 'sum', in the pinned program and in every row, IS THE sha256 OF THE DUMP (.gsa) THAT YtfddiojcahbkfanProg.lean LOADS. Nothing in Lean hashes anything: it is a label: what it is worth is what the hold of that sum in a sandbox is worth. -/
noncomputable def Try.pinned : Pinned := { name := "ytfddiojcahbkfan", sum := "0ed0e045aa2a66f3abceb3ef2d512c71e000ab13f94cce48d7300cd83093e194", checked := Try.checked }
namespace Rows
def none {H : Type} : Left H := { results := [], args := [] }

/-- 'laws.FnExactGrown': WHATEVER THE INPUT: true; the input reads as it did. -/
def fnExactGrownSpec : ChangeSpec := { name := "fnExactGrown", fn := fun _ => fun
  | [d1, d2] => { results := [.lit (.bool true)], args := [d1, d2] }
  | _ => none }
def fnExactGrownRow : OpenClaim := { program := "ytfddiojcahbkfan", sum := "0ed0e045aa2a66f3abceb3ef2d512c71e000ab13f94cce48d7300cd83093e194", func := "loop.example/g00108/laws.FnExactGrown", spec := "fnExactGrown", apart := false }
def FnExactGrownSaid : Prop := fnExactGrownRow.holds Try.pinned (OpenSpec.ofChange fnExactGrownSpec)

/-- ITS FALSE NEIGHBOUR: 'it returns false'. Refute it at one input. -/
def fnExactGrownWrong : ChangeSpec := { name := "fnExactGrown", fn := fun _ => fun
  | [d1, d2] => { results := [.lit (.bool false)], args := [d1, d2] }
  | _ => none }
def FnExactGrownWrongFalsely : Prop := fnExactGrownRow.holds Try.pinned (OpenSpec.ofChange fnExactGrownWrong)

/-- 'laws.FnExactBoxGap': WHATEVER THE INPUT: true; the input reads as it did. -/
def fnExactBoxGapSpec : ChangeSpec := { name := "fnExactBoxGap", fn := fun _ => fun
  | [d1, d2] => { results := [.lit (.bool true)], args := [d1, d2] }
  | _ => none }
def fnExactBoxGapRow : OpenClaim := { program := "ytfddiojcahbkfan", sum := "0ed0e045aa2a66f3abceb3ef2d512c71e000ab13f94cce48d7300cd83093e194", func := "loop.example/g00108/laws.FnExactBoxGap", spec := "fnExactBoxGap", apart := false }
def FnExactBoxGapSaid : Prop := fnExactBoxGapRow.holds Try.pinned (OpenSpec.ofChange fnExactBoxGapSpec)

/-- ITS FALSE NEIGHBOUR: 'it returns false'. Refute it at one input. -/
def fnExactBoxGapWrong : ChangeSpec := { name := "fnExactBoxGap", fn := fun _ => fun
  | [d1, d2] => { results := [.lit (.bool false)], args := [d1, d2] }
  | _ => none }
def FnExactBoxGapWrongFalsely : Prop := fnExactBoxGapRow.holds Try.pinned (OpenSpec.ofChange fnExactBoxGapWrong)

/-- 'laws.FnExactCheck': WHATEVER THE INPUT: true; the input reads as it did. -/
def fnExactCheckSpec : ChangeSpec := { name := "fnExactCheck", fn := fun _ => fun
  | [d] => { results := [.lit (.bool true)], args := [d] }
  | _ => none }
def fnExactCheckRow : OpenClaim := { program := "ytfddiojcahbkfan", sum := "0ed0e045aa2a66f3abceb3ef2d512c71e000ab13f94cce48d7300cd83093e194", func := "loop.example/g00108/laws.FnExactCheck", spec := "fnExactCheck", unfollowed := true, recurses := true, apart := false }
def FnExactCheckSaid : Prop := fnExactCheckRow.holds Try.pinned (OpenSpec.ofChange fnExactCheckSpec)

/-- ITS FALSE NEIGHBOUR: 'it returns false'. Refute it at one input. -/
def fnExactCheckWrong : ChangeSpec := { name := "fnExactCheck", fn := fun _ => fun
  | [d] => { results := [.lit (.bool false)], args := [d] }
  | _ => none }
def FnExactCheckWrongFalsely : Prop := fnExactCheckRow.holds Try.pinned (OpenSpec.ofChange fnExactCheckWrong)

/-- 'laws.FnExactTwiceArea': WHATEVER THE INPUT: true; the input reads as it did. -/
def fnExactTwiceAreaSpec : ChangeSpec := { name := "fnExactTwiceArea", fn := fun _ => fun
  | [d] => { results := [.lit (.bool true)], args := [d] }
  | _ => none }
def fnExactTwiceAreaRow : OpenClaim := { program := "ytfddiojcahbkfan", sum := "0ed0e045aa2a66f3abceb3ef2d512c71e000ab13f94cce48d7300cd83093e194", func := "loop.example/g00108/laws.FnExactTwiceArea", spec := "fnExactTwiceArea", unfollowed := true, recurses := true, apart := false }
def FnExactTwiceAreaSaid : Prop := fnExactTwiceAreaRow.holds Try.pinned (OpenSpec.ofChange fnExactTwiceAreaSpec)

/-- ITS FALSE NEIGHBOUR: 'it returns false'. Refute it at one input. -/
def fnExactTwiceAreaWrong : ChangeSpec := { name := "fnExactTwiceArea", fn := fun _ => fun
  | [d] => { results := [.lit (.bool false)], args := [d] }
  | _ => none }
def FnExactTwiceAreaWrongFalsely : Prop := fnExactTwiceAreaRow.holds Try.pinned (OpenSpec.ofChange fnExactTwiceAreaWrong)

/-- 'laws.FnExactShapeBox': WHATEVER THE INPUT: true; the input reads as it did. -/
def fnExactShapeBoxSpec : ChangeSpec := { name := "fnExactShapeBox", fn := fun _ => fun
  | [d] => { results := [.lit (.bool true)], args := [d] }
  | _ => none }
def fnExactShapeBoxRow : OpenClaim := { program := "ytfddiojcahbkfan", sum := "0ed0e045aa2a66f3abceb3ef2d512c71e000ab13f94cce48d7300cd83093e194", func := "loop.example/g00108/laws.FnExactShapeBox", spec := "fnExactShapeBox", unfollowed := true, recurses := true, apart := false }
def FnExactShapeBoxSaid : Prop := fnExactShapeBoxRow.holds Try.pinned (OpenSpec.ofChange fnExactShapeBoxSpec)

/-- ITS FALSE NEIGHBOUR: 'it returns false'. Refute it at one input. -/
def fnExactShapeBoxWrong : ChangeSpec := { name := "fnExactShapeBox", fn := fun _ => fun
  | [d] => { results := [.lit (.bool false)], args := [d] }
  | _ => none }
def FnExactShapeBoxWrongFalsely : Prop := fnExactShapeBoxRow.holds Try.pinned (OpenSpec.ofChange fnExactShapeBoxWrong)

/-- 'laws.FnExactSameShape': WHATEVER THE INPUT: true; the input reads as it did. -/
def fnExactSameShapeSpec : ChangeSpec := { name := "fnExactSameShape", fn := fun _ => fun
  | [d1, d2] => { results := [.lit (.bool true)], args := [d1, d2] }
  | _ => none }
def fnExactSameShapeRow : OpenClaim := { program := "ytfddiojcahbkfan", sum := "0ed0e045aa2a66f3abceb3ef2d512c71e000ab13f94cce48d7300cd83093e194", func := "loop.example/g00108/laws.FnExactSameShape", spec := "fnExactSameShape", unfollowed := true, recurses := true, apart := false }
def FnExactSameShapeSaid : Prop := fnExactSameShapeRow.holds Try.pinned (OpenSpec.ofChange fnExactSameShapeSpec)

/-- ITS FALSE NEIGHBOUR: 'it returns false'. Refute it at one input. -/
def fnExactSameShapeWrong : ChangeSpec := { name := "fnExactSameShape", fn := fun _ => fun
  | [d1, d2] => { results := [.lit (.bool false)], args := [d1, d2] }
  | _ => none }
def FnExactSameShapeWrongFalsely : Prop := fnExactSameShapeRow.holds Try.pinned (OpenSpec.ofChange fnExactSameShapeWrong)

/- THE SECOND FORM. 'bulk': how many values and letters a reading holds, each counted each time it is reached (what is shared counts as often as it is met; a slice's spare places count too). A statement '..UptoSaid' is the law's where the arguments, and the package variables that the reading takes, are together of bulk at most 1048576: NARROWER than '..Said'. Prove '..Said' where nothing that the law and all that it calls make is longer than what came in: it says more and counts as full. Else prove '..UptoSaid'. A law counts once. -/
mutual
def uptoBulk {H : Type} : DataW H → Nat
  | .lit (.string bytes) => bytes.length + 1
  | .lit _ => 1
  | .nil => 1
  | .ptr d => uptoBulk d + 1
  | .slice elems spare => uptoBulkAll elems + uptoBulkAll spare + 1
  | .agg parts => uptoBulkAll parts + 1
  | .iface _ d => uptoBulk d + 1
  | .map entries => uptoBulkEntries entries + 1
  | .held _ => 1
def uptoBulkAll {H : Type} : List (DataW H) → Nat
  | [] => 0
  | d :: r => uptoBulk d + uptoBulkAll r
def uptoBulkEntries {H : Type} : List (Lit × DataW H) → Nat
  | [] => 0
  | x :: r => uptoBulkEntry x + uptoBulkEntries r
def uptoBulkEntry {H : Type} : Lit × DataW H → Nat
  | (.string bytes, d) => bytes.length + uptoBulk d + 1
  | (_, d) => uptoBulk d + 1
 end
def uptoSmall : (H : Type) → List (DataW H) → Bool := fun _ ds => decide (uptoBulkAll ds ≤ 1048576)
def OpenSpec.upto (s : _root_.Go.ChangeSpec) : _root_.Go.OpenSpec := { _root_.Go.OpenSpec.ofChange s with cond := some uptoSmall }

/-- 'laws.FnExactGrown', WHERE WHAT IT READS IS OF BULK AT MOST 1048576: true; the input reads as it did. -/
def fnExactGrownUptoRow : OpenClaim := { program := "ytfddiojcahbkfan", sum := "0ed0e045aa2a66f3abceb3ef2d512c71e000ab13f94cce48d7300cd83093e194", func := "loop.example/g00108/laws.FnExactGrown", spec := "fnExactGrown", apart := false, narrowed := true }
def FnExactGrownUptoSaid : Prop := fnExactGrownUptoRow.holds Try.pinned (OpenSpec.upto fnExactGrownSpec)

/-- 'laws.FnExactBoxGap', WHERE WHAT IT READS IS OF BULK AT MOST 1048576: true; the input reads as it did. -/
def fnExactBoxGapUptoRow : OpenClaim := { program := "ytfddiojcahbkfan", sum := "0ed0e045aa2a66f3abceb3ef2d512c71e000ab13f94cce48d7300cd83093e194", func := "loop.example/g00108/laws.FnExactBoxGap", spec := "fnExactBoxGap", apart := false, narrowed := true }
def FnExactBoxGapUptoSaid : Prop := fnExactBoxGapUptoRow.holds Try.pinned (OpenSpec.upto fnExactBoxGapSpec)

/-- 'laws.FnExactCheck', WHERE WHAT IT READS IS OF BULK AT MOST 1048576: true; the input reads as it did. -/
def fnExactCheckUptoRow : OpenClaim := { program := "ytfddiojcahbkfan", sum := "0ed0e045aa2a66f3abceb3ef2d512c71e000ab13f94cce48d7300cd83093e194", func := "loop.example/g00108/laws.FnExactCheck", spec := "fnExactCheck", unfollowed := true, recurses := true, apart := false, narrowed := true }
def FnExactCheckUptoSaid : Prop := fnExactCheckUptoRow.holds Try.pinned (OpenSpec.upto fnExactCheckSpec)

/-- 'laws.FnExactTwiceArea', WHERE WHAT IT READS IS OF BULK AT MOST 1048576: true; the input reads as it did. -/
def fnExactTwiceAreaUptoRow : OpenClaim := { program := "ytfddiojcahbkfan", sum := "0ed0e045aa2a66f3abceb3ef2d512c71e000ab13f94cce48d7300cd83093e194", func := "loop.example/g00108/laws.FnExactTwiceArea", spec := "fnExactTwiceArea", unfollowed := true, recurses := true, apart := false, narrowed := true }
def FnExactTwiceAreaUptoSaid : Prop := fnExactTwiceAreaUptoRow.holds Try.pinned (OpenSpec.upto fnExactTwiceAreaSpec)

/-- 'laws.FnExactShapeBox', WHERE WHAT IT READS IS OF BULK AT MOST 1048576: true; the input reads as it did. -/
def fnExactShapeBoxUptoRow : OpenClaim := { program := "ytfddiojcahbkfan", sum := "0ed0e045aa2a66f3abceb3ef2d512c71e000ab13f94cce48d7300cd83093e194", func := "loop.example/g00108/laws.FnExactShapeBox", spec := "fnExactShapeBox", unfollowed := true, recurses := true, apart := false, narrowed := true }
def FnExactShapeBoxUptoSaid : Prop := fnExactShapeBoxUptoRow.holds Try.pinned (OpenSpec.upto fnExactShapeBoxSpec)

/-- 'laws.FnExactSameShape', WHERE WHAT IT READS IS OF BULK AT MOST 1048576: true; the input reads as it did. -/
def fnExactSameShapeUptoRow : OpenClaim := { program := "ytfddiojcahbkfan", sum := "0ed0e045aa2a66f3abceb3ef2d512c71e000ab13f94cce48d7300cd83093e194", func := "loop.example/g00108/laws.FnExactSameShape", spec := "fnExactSameShape", unfollowed := true, recurses := true, apart := false, narrowed := true }
def FnExactSameShapeUptoSaid : Prop := fnExactSameShapeUptoRow.holds Try.pinned (OpenSpec.upto fnExactSameShapeSpec)

end Rows
end Go.Proofs.Ytfddiojcahbkfan
