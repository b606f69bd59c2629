/-
  DERIVED. GIVEN WITH THE SEED: THE CARDS: each row of YtlkhbbllkkdhaaaGreatDoorRows.lean that lists a variable, with what it lists TIED to the program's text (the seventh form; the later family's looks); each row that meets fmt, with fmt's text TOLD by the authors' own Lean function (tested against real Go, not proved from fmt's source: count such statements apart). THE CARD IS WHAT COUNTS. Prove the row's statement (the work); the ties are given (YtlkhbbllkkdhaaaGreatDoorTie.lean); close each card by the builder's one call (the guide's Derived/Test/ToyasCard.lean, 'card_holds'). Laid BY PROGRAM, IN A SANDBOX (cutbox-door.mjs). By AI agents, Wed Nov 11 2026. No macro, syntax, notation, axiom, sorry.
-/
import Derived.Test.YtlkhbbllkkdhaaaGreatDoorRows
import GoSem.ClaimSeven
namespace Go.Proofs.YtlkhbbllkkdhaaaGreatDoor
namespace Rows

/-- THE TIED CARD OF 'laws.FnExactPutChanges'. -/
def fnExactPutChangesCard : Claim7 := { stood := { row := fnExactPutChangesRow, standIns := [], harness := (true, "3f6a4facb89ce2d8ee657d98625a9d955b5cc9b591ac5a89d750dc8fbf1d7622"), looks := true }, kinds := [], alts := [], laidByText := true, laidKinds := [.data], laidTests := true, laidLooks := .later }
def FnExactPutChangesCardSaid : Prop := Claim7.holds Tryz.pinned (.plain (OpenSpec.ofChange fnExactPutChangesSpec)) fnExactPutChangesCard

/-- THE SECOND FORM's CARD OF 'laws.FnExactPutChanges'. -/
def fnExactPutChangesUptoCard : Claim7 := { stood := { row := fnExactPutChangesUptoRow, standIns := [], harness := (true, "3f6a4facb89ce2d8ee657d98625a9d955b5cc9b591ac5a89d750dc8fbf1d7622"), looks := true }, kinds := [], alts := [], laidByText := true, laidKinds := [.data], laidTests := true, laidLooks := .later }
def FnExactPutChangesUptoCardSaid : Prop := Claim7.holds Tryz.pinned (.plain (OpenSpec.upto fnExactPutChangesSpec)) fnExactPutChangesUptoCard
end Rows
end Go.Proofs.YtlkhbbllkkdhaaaGreatDoor
