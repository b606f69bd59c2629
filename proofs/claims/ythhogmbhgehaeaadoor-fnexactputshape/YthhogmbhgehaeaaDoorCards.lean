/-
  DERIVED. GIVEN WITH THE SEED: THE CARDS: each row of YthhogmbhgehaeaaDoorRows.lean that lists a variable, with what it lists TIED to the program's text (the seventh form; the later family's looks); each row that meets fmt, with fmt's text TOLD by the authors' own Lean function (tested against real Go, not proved from fmt's source: count such statements apart). THE CARD IS WHAT COUNTS. Prove the row's statement (the work); the ties are given (YthhogmbhgehaeaaDoorTie.lean); close each card by the builder's one call (the guide's Derived/Test/ToyasCard.lean, 'card_holds'). Laid BY PROGRAM, IN A SANDBOX (cutbox-door.mjs). By AI agents, Wed Nov 11 2026. No macro, syntax, notation, axiom, sorry.
-/
import Derived.Test.YthhogmbhgehaeaaDoorRows
import GoSem.ClaimSeven
namespace Go.Proofs.YthhogmbhgehaeaaDoor
namespace Rows

/-- THE TIED CARD OF 'laws.FnExactPutShape'. -/
def fnExactPutShapeCard : Claim7 := { stood := { row := fnExactPutShapeRow, standIns := [], harness := (true, "35872804022785f8dd341d632cd53b6f18623351ed477c479018fa8d016f8751"), looks := true }, kinds := [], alts := [], laidByText := true, laidKinds := [.data], laidTests := true, laidLooks := .later }
def FnExactPutShapeCardSaid : Prop := Claim7.holds Tryd.pinned (.plain (OpenSpec.ofChange fnExactPutShapeSpec)) fnExactPutShapeCard

/-- THE SECOND FORM's CARD OF 'laws.FnExactPutShape'. -/
def fnExactPutShapeUptoCard : Claim7 := { stood := { row := fnExactPutShapeUptoRow, standIns := [], harness := (true, "35872804022785f8dd341d632cd53b6f18623351ed477c479018fa8d016f8751"), looks := true }, kinds := [], alts := [], laidByText := true, laidKinds := [.data], laidTests := true, laidLooks := .later }
def FnExactPutShapeUptoCardSaid : Prop := Claim7.holds Tryd.pinned (.plain (OpenSpec.upto fnExactPutShapeSpec)) fnExactPutShapeUptoCard
end Rows
end Go.Proofs.YthhogmbhgehaeaaDoor
