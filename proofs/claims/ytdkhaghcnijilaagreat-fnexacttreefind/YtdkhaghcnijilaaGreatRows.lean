/-
  NARROWER THAN 'FOR EVERY INPUT', by the rows' own cells (each row's printed sentence says how): FnExactTreeFind: loops · FnExactTreeAdd: loops · FnExactTreeTake: loops.
  DERIVED. THE GIVEN ROWS OF THIS SEAT. 4 by the template 'for every input the law returns true; each argument reads behind the call as it read before'; 0 by the template 'total and deterministic' (their statements: YtdkhaghcnijilaaGreatTotals.lean).
  GIVEN WITH THE SEED: the statements are not yours to turn. If you find one false, say at which input.
  Laid BY PROGRAM, IN A SANDBOX (cutbox-rows.mjs): the forced cells as the released guide's own fill.sh prints them over the translation 9f7bca8564957264… (all of the seat's roots in one cut). By AI agents, Wed Nov 11 2026. No macro, syntax, notation, axiom, sorry.
-/
import Derived.Test.YtdkhaghcnijilaaGreatChecked
import GoSem.Claim
import GoSem.ClaimJoined
import GoSem.ClaimMapViews
import Derived.JoinedTies
import Derived.KernelRfl
namespace Go.Proofs.YtdkhaghcnijilaaGreat
/- THE CELL 'sum', in the pinned program and in every row, IS THE sha256 OF THE DUMP (.gsa) THAT YtdkhaghcnijilaaGreatProg.lean LOADS. Nothing in Lean hashes anything: it is a label: what it is worth is what the hold of that sum in a sandbox is worth. -/
noncomputable def Tryz.pinned : Pinned := { name := "ytdkhaghcnijilaagreat", sum := "9f7bca85649572646fc5fb2b1af5d344884b5594f622d216badd083e8c81fd8c", checked := Tryz.checked }
namespace Rows
def none {H : Type} : Left H := { results := [], args := [] }

/-- 'laws.FnExactTreeFind': WHATEVER THE INPUT: true; the input reads as it did. -/
def fnExactTreeFindSpec : ChangeSpec := { name := "fnExactTreeFind", fn := fun _ => fun
  | [d1, d2] => { results := [.lit (.bool true)], args := [d1, d2] }
  | _ => none }
def fnExactTreeFindRow : OpenClaim := { program := "ytdkhaghcnijilaagreat", sum := "9f7bca85649572646fc5fb2b1af5d344884b5594f622d216badd083e8c81fd8c", func := "loop.example/g00108/laws.FnExactTreeFind", spec := "fnExactTreeFind", unfollowed := true, recurses := true, loops := true, plainKeys := false, apart := false }
def FnExactTreeFindSaid : Prop := fnExactTreeFindRow.holds Tryz.pinned (OpenSpec.ofChange fnExactTreeFindSpec)

/-- ITS FALSE NEIGHBOUR: 'it returns false'. Refute it at one input. -/
def fnExactTreeFindWrong : ChangeSpec := { name := "fnExactTreeFind", fn := fun _ => fun
  | [d1, d2] => { results := [.lit (.bool false)], args := [d1, d2] }
  | _ => none }
def FnExactTreeFindWrongFalsely : Prop := fnExactTreeFindRow.holds Tryz.pinned (OpenSpec.ofChange fnExactTreeFindWrong)

/-- 'laws.FnExactTreeBuild': WHATEVER THE INPUT: true; the input reads as it did. -/
def fnExactTreeBuildSpec : ChangeSpec := { name := "fnExactTreeBuild", fn := fun _ => fun
  | [d1, d2] => { results := [.lit (.bool true)], args := [d1, d2] }
  | _ => none }
def fnExactTreeBuildRow : OpenClaim := { program := "ytdkhaghcnijilaagreat", sum := "9f7bca85649572646fc5fb2b1af5d344884b5594f622d216badd083e8c81fd8c", func := "loop.example/g00108/laws.FnExactTreeBuild", spec := "fnExactTreeBuild", unfollowed := true, recurses := true, plainKeys := false, apart := false }
def FnExactTreeBuildSaid : Prop := fnExactTreeBuildRow.holds Tryz.pinned (OpenSpec.ofChange fnExactTreeBuildSpec)

/-- ITS FALSE NEIGHBOUR: 'it returns false'. Refute it at one input. -/
def fnExactTreeBuildWrong : ChangeSpec := { name := "fnExactTreeBuild", fn := fun _ => fun
  | [d1, d2] => { results := [.lit (.bool false)], args := [d1, d2] }
  | _ => none }
def FnExactTreeBuildWrongFalsely : Prop := fnExactTreeBuildRow.holds Tryz.pinned (OpenSpec.ofChange fnExactTreeBuildWrong)

/-- 'laws.FnExactTreeAdd': WHATEVER THE INPUT: true; the input reads as it did. -/
def fnExactTreeAddSpec : ChangeSpec := { name := "fnExactTreeAdd", fn := fun _ => fun
  | [d1, d2, d3] => { results := [.lit (.bool true)], args := [d1, d2, d3] }
  | _ => none }
def fnExactTreeAddRow : OpenClaim := { program := "ytdkhaghcnijilaagreat", sum := "9f7bca85649572646fc5fb2b1af5d344884b5594f622d216badd083e8c81fd8c", func := "loop.example/g00108/laws.FnExactTreeAdd", spec := "fnExactTreeAdd", inPlace := ["slices.overlaps[*loop.example/g00108/impl.node[int]]"], unfollowed := true, recurses := true, loops := true, plainKeys := false, apart := false }
def FnExactTreeAddSaid : Prop := fnExactTreeAddRow.holds Tryz.pinned (OpenSpec.ofChange fnExactTreeAddSpec)

/-- ITS FALSE NEIGHBOUR: 'it returns false'. Refute it at one input. -/
def fnExactTreeAddWrong : ChangeSpec := { name := "fnExactTreeAdd", fn := fun _ => fun
  | [d1, d2, d3] => { results := [.lit (.bool false)], args := [d1, d2, d3] }
  | _ => none }
def FnExactTreeAddWrongFalsely : Prop := fnExactTreeAddRow.holds Tryz.pinned (OpenSpec.ofChange fnExactTreeAddWrong)

/-- 'laws.FnExactTreeTake': WHATEVER THE INPUT: true; the input reads as it did. -/
def fnExactTreeTakeSpec : ChangeSpec := { name := "fnExactTreeTake", fn := fun _ => fun
  | [d1, d2] => { results := [.lit (.bool true)], args := [d1, d2] }
  | _ => none }
def fnExactTreeTakeRow : OpenClaim := { program := "ytdkhaghcnijilaagreat", sum := "9f7bca85649572646fc5fb2b1af5d344884b5594f622d216badd083e8c81fd8c", func := "loop.example/g00108/laws.FnExactTreeTake", spec := "fnExactTreeTake", unfollowed := true, recurses := true, loops := true, plainKeys := false, apart := false }
def FnExactTreeTakeSaid : Prop := fnExactTreeTakeRow.holds Tryz.pinned (OpenSpec.ofChange fnExactTreeTakeSpec)

/-- ITS FALSE NEIGHBOUR: 'it returns false'. Refute it at one input. -/
def fnExactTreeTakeWrong : ChangeSpec := { name := "fnExactTreeTake", fn := fun _ => fun
  | [d1, d2] => { results := [.lit (.bool false)], args := [d1, d2] }
  | _ => none }
def FnExactTreeTakeWrongFalsely : Prop := fnExactTreeTakeRow.holds Tryz.pinned (OpenSpec.ofChange fnExactTreeTakeWrong)

/- THE SECOND FORM. 'bulk': how many values and letters a reading holds, each counted each time it is reached (what is shared counts as often as it is met; a slice's spare places count too). A statement '..UptoSaid' is the law's where the arguments, and the package variables that the reading takes, are together of bulk at most 1048576: NARROWER than '..Said'. Prove '..Said' where nothing that the law and all that it calls make is longer than what came in: it says more and counts as full. Else prove '..UptoSaid'. A law counts once. -/
mutual
def uptoBulk {H : Type} : DataW H → Nat
  | .lit (.string bytes) => bytes.length + 1
  | .lit _ => 1
  | .nil => 1
  | .ptr d => uptoBulk d + 1
  | .slice elems spare => uptoBulkAll elems + uptoBulkAll spare + 1
  | .agg parts => uptoBulkAll parts + 1
  | .iface _ d => uptoBulk d + 1
  | .map entries => uptoBulkEntries entries + 1
  | .held _ => 1
def uptoBulkAll {H : Type} : List (DataW H) → Nat
  | [] => 0
  | d :: r => uptoBulk d + uptoBulkAll r
def uptoBulkEntries {H : Type} : List (Lit × DataW H) → Nat
  | [] => 0
  | x :: r => uptoBulkEntry x + uptoBulkEntries r
def uptoBulkEntry {H : Type} : Lit × DataW H → Nat
  | (.string bytes, d) => bytes.length + uptoBulk d + 1
  | (_, d) => uptoBulk d + 1
 end
def uptoSmall : (H : Type) → List (DataW H) → Bool := fun _ ds => decide (uptoBulkAll ds ≤ 1048576)
def OpenSpec.upto (s : _root_.Go.ChangeSpec) : _root_.Go.OpenSpec := { _root_.Go.OpenSpec.ofChange s with cond := some uptoSmall }

/-- 'laws.FnExactTreeFind', WHERE WHAT IT READS IS OF BULK AT MOST 1048576: true; the input reads as it did. -/
def fnExactTreeFindUptoRow : OpenClaim := { program := "ytdkhaghcnijilaagreat", sum := "9f7bca85649572646fc5fb2b1af5d344884b5594f622d216badd083e8c81fd8c", func := "loop.example/g00108/laws.FnExactTreeFind", spec := "fnExactTreeFind", unfollowed := true, recurses := true, loops := true, plainKeys := false, apart := false, narrowed := true }
def FnExactTreeFindUptoSaid : Prop := fnExactTreeFindUptoRow.holds Tryz.pinned (OpenSpec.upto fnExactTreeFindSpec)

/-- 'laws.FnExactTreeBuild', WHERE WHAT IT READS IS OF BULK AT MOST 1048576: true; the input reads as it did. -/
def fnExactTreeBuildUptoRow : OpenClaim := { program := "ytdkhaghcnijilaagreat", sum := "9f7bca85649572646fc5fb2b1af5d344884b5594f622d216badd083e8c81fd8c", func := "loop.example/g00108/laws.FnExactTreeBuild", spec := "fnExactTreeBuild", unfollowed := true, recurses := true, plainKeys := false, apart := false, narrowed := true }
def FnExactTreeBuildUptoSaid : Prop := fnExactTreeBuildUptoRow.holds Tryz.pinned (OpenSpec.upto fnExactTreeBuildSpec)

/-- 'laws.FnExactTreeAdd', WHERE WHAT IT READS IS OF BULK AT MOST 1048576: true; the input reads as it did. -/
def fnExactTreeAddUptoRow : OpenClaim := { program := "ytdkhaghcnijilaagreat", sum := "9f7bca85649572646fc5fb2b1af5d344884b5594f622d216badd083e8c81fd8c", func := "loop.example/g00108/laws.FnExactTreeAdd", spec := "fnExactTreeAdd", inPlace := ["slices.overlaps[*loop.example/g00108/impl.node[int]]"], unfollowed := true, recurses := true, loops := true, plainKeys := false, apart := false, narrowed := true }
def FnExactTreeAddUptoSaid : Prop := fnExactTreeAddUptoRow.holds Tryz.pinned (OpenSpec.upto fnExactTreeAddSpec)

/-- 'laws.FnExactTreeTake', WHERE WHAT IT READS IS OF BULK AT MOST 1048576: true; the input reads as it did. -/
def fnExactTreeTakeUptoRow : OpenClaim := { program := "ytdkhaghcnijilaagreat", sum := "9f7bca85649572646fc5fb2b1af5d344884b5594f622d216badd083e8c81fd8c", func := "loop.example/g00108/laws.FnExactTreeTake", spec := "fnExactTreeTake", unfollowed := true, recurses := true, loops := true, plainKeys := false, apart := false, narrowed := true }
def FnExactTreeTakeUptoSaid : Prop := fnExactTreeTakeUptoRow.holds Tryz.pinned (OpenSpec.upto fnExactTreeTakeSpec)

end Rows
end Go.Proofs.YtdkhaghcnijilaaGreat
